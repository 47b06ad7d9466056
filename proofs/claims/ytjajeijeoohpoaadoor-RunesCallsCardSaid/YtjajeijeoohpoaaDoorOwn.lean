/- The contract of copyistkit.Own at a slice of at most 65,536 ints. Conditions: none but that the slice's cells hold the ints. -/
import Derived.Test.YtjajeijeoohpoaaDoorRefText
import Derived.Laws.AppendOwnNone
namespace Go.Proofs.YtjajeijeoohpoaaDoor
open Go.RowKit Go.Lib
theorem addp (b off j : Nat) : (⟨b, off, none⟩ : Addr).add j = ⟨b, off + j, none⟩ := by
  unfold Addr.add
  by_cases h : j = 0
  · subst h; simp
  · simp [h]
theorem empty_own (w : World) : (w.alloc (.cells #[] 3)).ownsRow w.heap.size 3 1 (.slice (some ⟨w.heap.size, 0, none⟩) 0 0) 0 [] :=
  ⟨rfl, .inr ⟨w.heap.size, 0, #[], rfl, Nat.le_refl _, heap_alloc_new w _, Nat.le_refl _, by unfold maxLen; omega, rfl, rfl⟩⟩
set_option maxHeartbeats 400000 in
theorem own_nil (w : World) : Calls Tryd.prog 25 #[.slice none 0 0] w fun e w' => ∃ v, e = .returned v ∧ Ints w.heap.size v [] w' ∧ Below w.heap.size w w' := by
  obtain ⟨i0, hi, hz0, hz1, hz2⟩ := info_parts info3
  have HE : Hid _ := Lib.hid (empty_own w)
  go_enter Tryd.func25, Tryd.ntmps25
  go_wp2_with (at_builtin; refine wpList_append_own_none rfl _ _ 27 rfl w.heap.size 3 i0 1 Tryd.underlying27 hi _ 0 [] rfl HE.out rfl ?_)
  go_ret
  exact ⟨_, rfl, HE.out, (Below.refl _ _).alloc (Nat.le_refl _) _⟩
set_option maxHeartbeats 400000 in
theorem own_some (ad : Addr) (n cap : Nat) (l : List Int) (w : World) (hn : l.length = n) (hn2 : n ≤ 65536)
    (hc : ∀ i x, l[i]? = some x → ∃ b off, ad = ⟨b, off, none⟩ ∧ b < w.heap.size ∧ w.cell? ⟨b, off + i, none⟩ = some (.int .i64 x)) :
    Calls Tryd.prog 25 #[.slice (some ad) n cap] w fun e w' => ∃ v, e = .returned v ∧ Ints w.heap.size v l w' ∧ Below w.heap.size w w' := by
  obtain ⟨i0, hi, hz0, hz1, hz2⟩ := info_parts info3
  have hnews : ∀ j u, (l.map (Value.int .i64))[j]? = some u → (w.alloc (.cells #[] 3)).cell? (ad.add j) = some u := by
    intro j u hj
    rw [List.getElem?_map] at hj
    cases hx : l[j]? with
    | none => rw [hx] at hj; cases hj
    | some x =>
      rw [hx] at hj
      simp only [Option.map_some, Option.some.injEq] at hj
      subst hj
      obtain ⟨b, off, rfl, hb, hcell⟩ := hc j x hx
      rw [addp, World.cell?_alloc_past _ _ _ hb]
      exact hcell
  have HE : Hid _ := Lib.hid (And.intro (empty_own w) (And.intro hnews hn))
  clear hnews hc hn
  go_enter Tryd.func25, Tryd.ntmps25
  go_wp2_with (at_builtin; refine wpList_append_own _ rfl _ _ 27 rfl w.heap.size 3 i0 (.int .i64 0) 1 8 Tryd.underlying27 hi hz0 hz1 hz2 rfl (by decide) _ 0 [] rfl HE.out.1 ad n cap (l.map (Value.int .i64)) rfl (by rw [List.length_map, HE.out.2.2]; simp) HE.out.2.1 (ints_one l) ?c3 ?c4 ?c5 ?_)
  case c3 => unfold maxLen; omega
  case c4 => omega
  case c5 => simp
  intro v' w3 hown hgr _
  have hb : Below w.heap.size w w3 := ((Below.refl _ _).alloc (Nat.le_refl _) _).grown hgr (by simp) (fun k hk => by simp [Value.ownBlock] at hk; omega)
  have HZ : Hid (Ints w.heap.size v' l w3 ∧ Below w.heap.size w w3) := Lib.hid ⟨by unfold Ints; rw [HE.out.2.2]; simpa using hown, hb⟩
  clear hown hgr hb HE
  go_wp2
  go_ret
  exact ⟨_, rfl, HZ.out.1, HZ.out.2⟩
theorem own_any (v : Value) (l : List Int) (w : World) (h : Sl v l w) (hf : v = .slice none 0 0 ∨ ∃ ad n cap, v = .slice (some ad) n cap) (hn : l.length ≤ 65536) :
    Calls Tryd.prog 25 #[v] w fun e w' => ∃ v', e = .returned v' ∧ Ints w.heap.size v' l w' ∧ Below w.heap.size w w' := by
  obtain ⟨a, cap, hv, hc⟩ := h
  rcases hf with hf | ⟨ad, n, cap2, hf⟩
  · rw [hf] at hv
    simp only [Value.slice.injEq] at hv
    have : l = [] := List.length_eq_zero_iff.1 hv.2.1.symm
    subst this
    rw [hf]
    exact own_nil w
  · rw [hf] at hv
    simp only [Value.slice.injEq] at hv
    rw [hf]
    refine own_some ad n cap2 l w hv.2.1.symm (by omega) (fun i x hx => ?_)
    obtain ⟨b, off, ha, hb, hcell⟩ := hc i x hx
    exact ⟨b, off, Option.some.inj (hv.1.trans ha), hb, hcell⟩
end Go.Proofs.YtjajeijeoohpoaaDoor
