/- The contract of place where no number is free: the row of objects grows by one. -/
import Derived.Test.YtleppjdmcjocmaaDoorHpFind
import Derived.Test.YtleppjdmcjocmaaDoorHpRow
namespace Go.Proofs.YtleppjdmcjocmaaDoor
open Go.RowKit Go.Lib
theorem info_ob : (Tryd.prog.info? 80).map (fun i => (i.zero, i.size, i.bytes)) = some (some .nilIface, 1, 16) := by kernel_rfl
set_option maxHeartbeats 1000000 in
theorem place_new (hb n cf : Nat) (lim st : Int) (vo x : Value) (af : Option Addr) (xs : List Value) (G : Nat → Nat) (T : TypeId) (p : Value) (w : World)
    (hh : w.heap[hb]? = some (.cells #[.int .i64 lim, vo, .slice af 0 cf, .int .i64 st] 67 (0, 0))) (hr : Row w G 2 80 1 vo n xs) (hG : G hb = 1) (hn : n < 65536) (hx : x = .iface T p) :
    Calls Tryd.prog 51 #[hptr hb, x] w fun e w' => e = .returned (.int .i64 n) ∧ ∃ vo', w'.heap[hb]? = some (.cells #[.int .i64 lim, vo', .slice af 0 cf, .int .i64 st] 67 (0, 0)) ∧
      Row w' (fun k => if k < w.heap.size then G k else 2) 2 80 1 vo' (n + 1) (xs ++ [x]) ∧ w'.os = w.os ∧ w'.tape = w.tape ∧ w'.output = w.output ∧ w.heap.size ≤ w'.heap.size ∧
      ∀ k, k < w.heap.size → G k ≠ 1 → G k ≠ 2 → w'.heap[k]? = w.heap[k]? := by
  subst hx
  obtain ⟨i0, hi, hz0, hz1, hz2⟩ := info_parts info_ob
  have hbl := lt_at hh
  have hr2 : Row (w.alloc (.cells #[.iface T p] 80)) G 2 80 1 vo n xs := hr.keep (fun k hk _ => Below.heap_alloc _ _ _ hk) (fun _ _ e => e)
  have hlab : ∀ k, vo.ownBlock = some k → k ≠ hb ∧ G k = 2 := fun k hk => ⟨(fun e => by have := hr.lab k hk; rw [e, hG] at this; omega), hr.lab k hk⟩
  obtain ⟨ao, co, rfl⟩ := hr.slice
  have c1 : w.cell? ⟨hb, 1, none⟩ = some (.slice ao n co) := cell_at hh
  have c2 : w.cell? ⟨hb, 2, none⟩ = some (.slice af 0 cf) := cell_at hh
  have f1 : w.frozen? ⟨hb, 1, none⟩ = false := frozen_at hh
  have HH := Lib.hid hh
  have HL := Lib.hid hlab
  clear hh hr hlab
  go_enter Tryd.func51, Tryd.ntmps51
  go_wp2_with (at_builtin; refine wpList_append_row _ rfl _ _ 64 rfl 80 i0 .nilIface 1 16 Tryd.underlying64 hi hz0 hz1 hz2 rfl (by decide) _ _ _ rfl G 2 hr2 ⟨w.heap.size, 0, none⟩ 1 1 [.iface T p] rfl rfl ?c1 ?c2 ?c3 ?c4 ?_)
  case c1 =>
    intro j u hj
    match j, hj with
    | 0, hj => simp at hj; subst hj; simp [Addr.add]
    | (j + 1), hj => simp at hj
  case c2 => intro u hu; simp at hu; subst hu; rfl
  case c3 => unfold maxLen; omega
  case c4 => omega
  intro v' w1 hrow hgr _
  obtain ⟨g, cap', _, rfl, hg2, _⟩ := hrow.at (by omega)
  have hb1 : w1.heap[hb]? = w.heap[hb]? := by
    rw [hgr.block hb (by simp; omega) (fun e => (HL.out hb e.symm).1 rfl), Below.heap_alloc _ _ _ hbl]
  have hh1 := hb1.trans HH.out
  have d1 : w1.cell? ⟨hb, 1, none⟩ = some (.slice ao n co) := cell_at hh1
  have d2 : w1.cell? ⟨hb, 2, none⟩ = some (.slice af 0 cf) := cell_at hh1
  have e1 : w1.frozen? ⟨hb, 1, none⟩ = false := frozen_at hh1
  have hs1 := hgr.size
  have hK : Keeps (fun k => if G k = 1 then 1 else if G k = 2 then 2 else 0) w w1 := ((Keeps.refl _ _).alloc _).grown hgr (fun k hk _ => by rw [(HL.out k hk).2]; simp)
  have HZ := Lib.hid (And.intro hh1 (And.intro hrow (And.intro hK hg2)))
  clear hb1 hh1 hrow hgr hK hg2 hr2 c1 c2 f1
  go_wp2
  go_ret
  obtain ⟨hh1, hrow, hK, hg2⟩ := HZ.out
  have hne : g ≠ hb := by
    intro e
    subst e
    have hg3 : (if g < w.heap.size + 1 then G g else 2) = 2 := by simpa using hg2
    rw [if_pos (by omega)] at hg3
    omega
  refine ⟨rfl, _, setCell_at hh1 _, ?_, hK.os, hK.tape, hK.output, by simpa [World.setCell] using hK.size, fun k hk n1 n2 => ?_⟩
  · refine hrow.keep (fun k hk e => setCell_off _ ?_) (fun k hk e => ?_)
    · intro e2
      simp only at e2
      subst e2
      have e3 : (if k < w.heap.size + 1 then G k else 2) = 2 := by simpa using e
      rw [if_pos (by omega)] at e3
      omega
    · by_cases h3 : k < w.heap.size
      · have e3 : (if k < w.heap.size + 1 then G k else 2) = 2 := by simpa using e
        rw [if_pos (by omega)] at e3
        simp only [if_pos h3]
        exact e3
      · simp only [if_neg h3]
  · rw [setCell_off _ (by intro e; subst e; exact n1 hG)]
    exact hK.block k hk (by simp [n1, n2])
end Go.Proofs.YtleppjdmcjocmaaDoor
