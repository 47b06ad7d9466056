/- The contracts of the small functions that the laws call. -/
import Derived.Test.YtleppjdmcjocmaaDoorHpOps2
namespace Go.Proofs.YtleppjdmcjocmaaDoor
open Go.RowKit Go.Lib
theorem alloc_two (w : World) (a b : Value) (u v : Value) (T : TypeId) : (((w.alloc (.cells #[a, b] T)).setCell ⟨w.heap.size, 0, none⟩ u).setCell ⟨w.heap.size, 1, none⟩ v).heap[w.heap.size]? = some (.cells #[u, v] T (0, 0)) := by
  have := setCell_at (i := 1) (setCell_at (i := 0) (alloc_at w (.cells #[a, b] T)) u) v
  simpa using this
set_option maxHeartbeats 400000 in
theorem word_any (k n : Int) (w : World) : Calls Tryd.prog 16 #[.int .i64 k, .int .i64 n] w fun e w' => e = .returned (wv (k, n)) ∧ Below w.heap.size w w' := by
  go_enter Tryd.func16, Tryd.ntmps16
  go_wp2
  exact bodyPost_ret (v := wv (k, n)) (by simp [results, Tryd.results16, go_sem]) rfl ⟨rfl, (Below.refl _ _).alloc (Nat.le_refl _) _⟩
set_option maxHeartbeats 400000 in
theorem int_any (n : Int) (w : World) : Calls Tryd.prog 12 #[.int .i64 n] w fun e w' => e = .returned (wv (0, n)) ∧ Below w.heap.size w w' := by
  go_enter Tryd.func12, Tryd.ntmps12
  go_wp2
  exact bodyPost_ret (v := wv (0, n)) (by simp [results, Tryd.results12, go_sem]) rfl ⟨rfl, (Below.refl _ _).alloc (Nat.le_refl _) _⟩
set_option maxHeartbeats 400000 in
theorem sym_any (n : Int) (w : World) : Calls Tryd.prog 38 #[.int .i64 n] w fun e w' => e = .returned (wv (1, n)) ∧ Below w.heap.size w w' := by
  go_enter Tryd.func38, Tryd.ntmps38
  go_wp2
  exact bodyPost_ret (v := wv (1, n)) (by simp [results, Tryd.results38, go_sem]) rfl ⟨rfl, (Below.refl _ _).alloc (Nat.le_refl _) _⟩
set_option maxHeartbeats 400000 in
theorem nil_any (w : World) : Calls Tryd.prog 13 #[] w fun e w' => e = .returned (wv (1, 0)) ∧ Below w.heap.size w w' := by
  go_enter Tryd.func13, Tryd.ntmps13
  go_wp2_with fail
  refine (sym_any 0 _).mono ?_
  rintro e W ⟨rfl, hb1⟩
  have k0 : W.heap[w.heap.size]? = some (.cells #[.int .i64 0, .int .i64 0] 28 (0, 0)) := (hb1.block _ (by simp)).trans (alloc_at w _)
  have hbw : Below w.heap.size w W := ((Below.refl _ _).alloc (Nat.le_refl _) _).trans (hb1.mono (by simp))
  have d0 : W.cell? ⟨w.heap.size, 0, none⟩ = some (.int .i64 0) := cell_at k0
  have d1 : W.cell? ⟨w.heap.size, 1, none⟩ = some (.int .i64 0) := cell_at k0
  have e0 : W.frozen? ⟨w.heap.size, 0, none⟩ = false := frozen_at k0
  have e1 : W.frozen? ⟨w.heap.size, 1, none⟩ = false := frozen_at k0
  have HP := Lib.hid hbw
  clear hb1 k0 hbw
  go_wp2
  refine bodyPost_ret (v := wv (1, 0)) ?_ rfl ⟨rfl, (HP.out.setCell (Nat.le_refl _) _).setCell (Nat.le_refl _) _⟩
  simp [results, Tryd.results13, go_sem, d0, d1]
/-- Pick's own arithmetic. -/
def pickZ (n m : Int) : Int := if m ≤ 0 then 0 else if n.tmod m < 0 then n.tmod m + m else n.tmod m
theorem tmod_lo (n m : Int) (h : 0 < m) : -m < n.tmod m := by
  by_cases hn : 0 ≤ n
  · have := Int.tmod_nonneg m hn
    omega
  · have h1 := Int.tmod_lt_of_pos (-n) h
    rw [Int.neg_tmod] at h1
    omega
theorem pickZ_in (n : Int) (m : Int) (h : 0 < m) : 0 ≤ pickZ n m ∧ pickZ n m < m := by
  unfold pickZ
  have h1 := Int.tmod_lt_of_pos n h
  have h2 := tmod_lo n m h
  rw [if_neg (by omega)]
  by_cases h3 : n.tmod m < 0
  · rw [if_pos h3]; omega
  · rw [if_neg h3]; omega
set_option maxHeartbeats 400000 in
theorem pick_any (n m : Int) (w : World) (h0 : 0 < m) (h1 : m ≤ 1000000) :
    Calls Tryd.prog 24 #[.int .i64 n, .int .i64 m] w fun e w' => e = .returned (.int .i64 (pickZ n m)) ∧ w' = w := by
  have hp : ¬ m ≤ 0 := by omega
  have hm1 : m ≠ -1 := by omega
  have hm0 : m ≠ 0 := by omega
  have ht1 := Int.tmod_lt_of_pos n h0
  have ht2 := tmod_lo n m h0
  unfold pickZ
  rw [if_neg hp]
  by_cases h3 : n.tmod m < 0
  · rw [if_pos h3]
    go_enter Tryd.func24, Tryd.ntmps24
    go_wp2
    go_ret
    exact ⟨rfl, rfl⟩
  · rw [if_neg h3]
    go_enter Tryd.func24, Tryd.ntmps24
    go_wp2
    go_ret
    exact ⟨rfl, rfl⟩
end Go.Proofs.YtleppjdmcjocmaaDoor
