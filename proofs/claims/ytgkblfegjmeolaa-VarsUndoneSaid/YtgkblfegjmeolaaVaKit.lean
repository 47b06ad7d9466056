/- What the laws of vars need besides: Pick, Int, Bind at its limit, Unbind's refusals. -/
import Derived.Test.YtgkblfegjmeolaaVaBind
namespace Go.Proofs.Ytgkblfegjmeolaa
open Go.RowKit Go.Lib Go.Shelf
/-- Pick's own arithmetic. -/
def pickZ (n m : Int) : Int := if m ≤ 0 then 0 else if n.tmod m < 0 then n.tmod m + m else n.tmod m
theorem tmod_lo (n m : Int) (h : 0 < m) : -m < n.tmod m := by
  by_cases hn : 0 ≤ n
  · have := Int.tmod_nonneg m hn
    omega
  · have h1 := Int.tmod_lt_of_pos (-n) h
    rw [Int.neg_tmod] at h1
    omega
theorem pickZ_in (n : Int) (m : Int) (h : 0 < m) : 0 ≤ pickZ n m ∧ pickZ n m < m := by
  unfold pickZ
  have h1 := Int.tmod_lt_of_pos n h
  have h2 := tmod_lo n m h
  rw [if_neg (by omega)]
  by_cases h3 : n.tmod m < 0
  · rw [if_pos h3]; omega
  · rw [if_neg h3]; omega
set_option maxHeartbeats 400000 in
theorem pick_any (n m : Int) (w : World) (h0 : 0 < m) (h1 : m ≤ 1000000) :
    Calls Try.prog 27 #[.int .i64 n, .int .i64 m] w fun e w' => e = .returned (.int .i64 (pickZ n m)) ∧ w' = w := by
  have hp : ¬ m ≤ 0 := by omega
  have hm1 : m ≠ -1 := by omega
  have hm0 : m ≠ 0 := by omega
  have ht1 := Int.tmod_lt_of_pos n h0
  have ht2 := tmod_lo n m h0
  unfold pickZ
  rw [if_neg hp]
  by_cases h3 : n.tmod m < 0
  · rw [if_pos h3]
    go_enter Try.func27, Try.ntmps27
    go_wp2
    go_ret
    exact ⟨rfl, rfl⟩
  · rw [if_neg h3]
    go_enter Try.func27, Try.ntmps27
    go_wp2
    go_ret
    exact ⟨rfl, rfl⟩
set_option maxHeartbeats 400000 in
theorem int_any (n : Int) (w : World) : Calls Try.prog 39 #[.int .i64 n] w fun e w' => e = .returned (wv (0, n)) ∧ Below w.heap.size w w' := by
  go_enter Try.func39, Try.ntmps39
  go_wp2
  exact bodyPost_ret (v := wv (0, n)) (by simp [results, Try.results39, go_sem]) rfl ⟨rfl, (Below.refl _ _).alloc (Nat.le_refl _) _⟩
set_option maxHeartbeats 400000 in
theorem int1_any (n : Int) (w : World) : Calls Try.prog 11 #[.int .i64 n] w fun e w' => e = .returned (wv (0, n)) ∧ Below w.heap.size w w' := by
  go_enter Try.func11, Try.ntmps11
  go_wp2_with fail
  refine (int_any n _).mono ?_
  rintro e w1 ⟨rfl, hb⟩
  have a0 := alloc_at w (.cells #[.int .i64 0, .int .i64 0] 28)
  have h1 := (hb.block w.heap.size (lt_at a0)).trans a0
  have d0 : w1.cell? ⟨w.heap.size, 0, none⟩ = some (.int .i64 0) := cell_at h1
  have d1 : w1.cell? ⟨w.heap.size, 1, none⟩ = some (.int .i64 0) := cell_at h1
  have f0 : w1.frozen? ⟨w.heap.size, 0, none⟩ = false := frozen_at h1
  have f1 : w1.frozen? ⟨w.heap.size, 1, none⟩ = false := frozen_at h1
  have HB := Lib.hid (((Below.refl w.heap.size w).alloc (Nat.le_refl _) (.cells #[.int .i64 0, .int .i64 0] 28)).trans (hb.mono (by simp)))
  clear hb h1 a0
  go_wp2
  refine bodyPost_ret (v := wv (0, n)) ?_ rfl ⟨rfl, (HB.out.setCell (Nat.le_refl _) _).setCell (Nat.le_refl _) _⟩
  simp [results, Try.results11, go_sem, d0, d1]
set_option maxRecDepth 100000 in
set_option maxHeartbeats 800000 in
theorem bind_full {w : World} {vb : Nat} {G : Nat → Nat} {m : Vs} (h : VarsAt w vb G m) (n : Nat) (hn : n < 16384) (hC : hasC (m.marks n) = false) (x : Wd) (hl : m.binds.length = 2000) :
    Calls Try.prog 17 #[hptr vb, .int .i64 n, wv x] w fun e w' => e = .returned (.int .i64 12) ∧ Below w.heap.size w w' := by
  have hb : Below w.heap.size w (w.alloc (.cells #[.int .i64 x.1, .int .i64 x.2] 28)) := (Below.refl _ _).alloc (Nat.le_refl _) _
  have hv := h.below hb
  obtain ⟨cm, mm, a, l, c, bs, hR⟩ := hv.bready
  have cK := change_any hv n hn
  rw [hC] at cK
  obtain ⟨c0, c3, f3⟩ := hR.cells _ (Below.refl _ _)
  have e9 := hR.len.trans hl
  subst e9
  clear h hn hC hl hv hR
  go_enter Try.func17, Try.ntmps17
  go_wp2_with fail
  refine cK.mono ?_
  rintro e w1 ⟨rfl, rfl⟩
  go_wp2
  go_ret
  exact ⟨rfl, (Below.refl _ _).alloc (Nat.le_refl _) _⟩
end Go.Proofs.Ytgkblfegjmeolaa
