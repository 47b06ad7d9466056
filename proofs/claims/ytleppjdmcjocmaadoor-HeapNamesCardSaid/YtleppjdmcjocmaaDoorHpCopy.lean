/- The contract of Copy: a second heap with the same objects (its walk: begun). -/
import Derived.Test.YtleppjdmcjocmaaDoorHpSame
import Derived.Test.YtleppjdmcjocmaaDoorHpClone
import Derived.Test.YtleppjdmcjocmaaDoorHpReach
namespace Go.Proofs.YtleppjdmcjocmaaDoor
open Go.RowKit Go.Lib
theorem make_objs (n : Nat) (hn : n ≤ 65536) (w : World) : (Instr.makeSlice 64 (.int .i64 n) (.int .i64 n)).run Tryd.prog w = .ok (.slice (some ⟨w.heap.size, 0, none⟩) n n) (w.alloc (.cells (madeCells #[.nilIface] n) 80)) := by
  obtain ⟨i0, hi0, hz0, hz1, hz2⟩ := info_parts info_ob
  have h := run_make (P := Tryd.prog) w 64 80 i0 .nilIface Tryd.underlying64 hi0 hz0 .i64 .i64 n n (by omega) (Int.le_refl _) (by rw [hz2]; omega) (by omega)
  simpa [hz1, Value.cells] using h
/-- Copy's loop: the first k objects are copied into the row at g, the blocks of the copy labelled; what stood before w's end stands. -/
structure CopyAt (w W : World) (g : Nat) (G2 : Nat → Nat) (obs : List (Option Ob)) (k : Nat) : Prop where
  below : Below w.heap.size w W
  new : ∀ j, W.heap.size ≤ j → G2 j = 0
  old : ∀ j, j < w.heap.size → G2 j = 0
  lab : G2 g = 2
  row : ∃ xs : List Value, xs.length = obs.length ∧ W.heap[g]? = some (.cells xs.toArray 80 (0, 0)) ∧ ∀ i o, obs[i]? = some o → ∃ v, xs[i]? = some v ∧ (i < k → OpAt W G2 (4 + i) v o) ∧ (k ≤ i → v = .nilIface)
theorem CopyAt.start (w : World) (obs : List (Option Ob)) : CopyAt w (w.alloc (.cells (madeCells #[.nilIface] obs.length) 80)) w.heap.size (fun j => if j = w.heap.size then 2 else 0) obs 0 := by
  refine ⟨(Below.refl _ _).alloc (Nat.le_refl _) _, fun j hj => if_neg (by simp at hj; omega), fun j hj => if_neg (by omega), if_pos rfl, List.replicate obs.length .nilIface, by simp, ?_, fun i o ho => ?_⟩
  · rw [alloc_at]
    congr 2
    apply Array.ext'
    simp [madeCells]
    apply List.ext_getElem?
    intro i
    by_cases hi : i < obs.length
    · simp [hi, Nat.mod_one]
    · simp [hi]
  · have hi : i < obs.length := by
      rcases Nat.lt_or_ge i obs.length with h | h
      · exact h
      · rw [List.getElem?_eq_none h] at ho; cases ho
    exact ⟨.nilIface, by simp [hi], fun h => absurd h (Nat.not_lt_zero _), fun _ => rfl⟩
/-- A number without an object: nothing is to do. -/
theorem CopyAt.skip {w W : World} {g : Nat} {G2 : Nat → Nat} {obs : List (Option Ob)} {k : Nat} (h : CopyAt w W g G2 obs k) (hk : obs[k]? = some none) : CopyAt w W g G2 obs (k + 1) := by
  obtain ⟨h1, h2, h3, h4, xs, hx, hh, hr⟩ := h
  refine ⟨h1, h2, h3, h4, xs, hx, hh, fun i o ho => ?_⟩
  obtain ⟨v, hv, ha, hb⟩ := hr i o ho
  refine ⟨v, hv, fun hi => ?_, fun hi => hb (by omega)⟩
  by_cases hik : i < k
  · exact ha hik
  · have : i = k := by omega
    subst this
    rw [hk] at ho
    cases ho
    exact hb (Nat.le_refl _)
theorem CopyAt.step {w W W1 w' : World} {g : Nat} {G2 Gn : Nat → Nat} {obs : List (Option Ob)} {k : Nat} {o : Ob} {v' : Value} (h : CopyAt w W g G2 obs k) (hk : obs[k]? = some (some o)) (hW : Below W.heap.size W W1)
    (hG : ∀ j, Gn j ≠ 0 → W.heap.size ≤ j ∧ j < W1.heap.size) (ho : ObAt W1 Gn (4 + k) v' o) (hw : w' = W1.setCell ⟨g, k, none⟩ v') : CopyAt w w' g (fun j => if W.heap.size ≤ j then Gn j else G2 j) obs (k + 1) := by
  obtain ⟨h1, h2, h3, h4, xs, hx, hh, hr⟩ := h
  have hg := lt_at hh
  have hgw : w.heap.size ≤ g := by
    rcases Nat.lt_or_ge g w.heap.size with h | h
    · have := h3 g h; omega
    · exact h
  have hsz : w'.heap.size = W1.heap.size := by rw [hw]; simp [World.setCell]
  have hle := hW.size
  have hkl : k < obs.length := by
    rcases Nat.lt_or_ge k obs.length with h | h
    · exact h
    · rw [List.getElem?_eq_none h] at hk; cases hk
  have hoff : ∀ j, j ≠ g → w'.heap[j]? = W1.heap[j]? := fun j hj => by rw [hw]; exact setCell_off _ hj
  refine ⟨?_, fun j hj => ?_, fun j hj => ?_, ?_, xs.set k v', by simpa using hx, ?_, fun i o2 ho2 => ?_⟩
  · rw [hw]; exact (h1.trans (hW.mono h1.size)).setCell hgw _
  · rw [if_pos (by omega)]
    rcases Nat.eq_zero_or_pos (Gn j) with h | h
    · exact h
    · have := (hG j (by omega)).2; omega
  · rw [if_neg (by have := h1.size; omega)]; exact h3 j hj
  · rw [if_neg (by omega)]; exact h4
  · rw [hw, setCell_at (i := k) ((hW.block g hg).trans hh) v']
    simp
  · obtain ⟨v, hv, ha, hb⟩ := hr i o2 ho2
    by_cases hik : i = k
    · subst hik
      rw [hk] at ho2
      cases ho2
      refine ⟨v', by simp [hx, hkl], fun _ => ?_, fun h => by omega⟩
      refine ObAt.keep (by omega) ho (fun j hj e => hoff j ?_) (fun j hj e => ?_)
      · have := (hG j (by omega)).1; omega
      · have := (hG j (by omega)).1
        rw [if_pos this]; exact e
    · refine ⟨v, by rw [List.getElem?_set_ne (Ne.symm hik)]; exact hv, fun h => ?_, fun h => hb (by omega)⟩
      refine (ha (by omega)).keep (by omega) (fun j hj e => (hoff j ?_).trans (hW.block j hj)) (fun j hj e => ?_)
      · intro e2; rw [e2, h4] at e; omega
      · rw [if_neg (by omega)]; exact e
end Go.Proofs.YtleppjdmcjocmaaDoor
