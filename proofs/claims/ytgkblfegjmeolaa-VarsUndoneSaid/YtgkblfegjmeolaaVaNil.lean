/- Calls on no variables; T; MakeLocal without a scope; SetLocal at no scope. -/
import Derived.Test.YtgkblfegjmeolaaVaKill
import Derived.Test.YtgkblfegjmeolaaVaKit
namespace Go.Proofs.Ytgkblfegjmeolaa
open Go.RowKit Go.Lib
theorem set_nil (n : Int) (x : Wd) (w : World) :
    Calls Try.prog 14 #[.pointer none, .int .i64 n, wv x] w fun e w' => e = .returned (.int .i64 1) ∧ Below w.heap.size w w' := by
  have cK : Calls Try.prog 38 #[.pointer none, .int .i64 n] (w.alloc (.cells #[.int .i64 x.1, .int .i64 x.2] 28)) fun e w' => e = .returned (.int .i64 1) ∧ w' = w.alloc (.cells #[.int .i64 x.1, .int .i64 x.2] 28) := by
    have cC := check_nil n (w.alloc (.cells #[.int .i64 x.1, .int .i64 x.2] 28))
    go_enter Try.func38, Try.ntmps38
    go_wp2_with fail
    refine cC.mono ?_
    rintro e w1 ⟨rfl, rfl⟩
    go_wp2
    go_ret
    exact ⟨rfl, rfl⟩
  go_enter Try.func14, Try.ntmps14
  go_wp2_with fail
  refine cK.mono ?_
  rintro e w1 ⟨rfl, rfl⟩
  go_wp2
  go_ret
  exact ⟨rfl, (Below.refl _ _).alloc (Nat.le_refl _) _⟩
theorem depth_nil (w : World) : Calls Try.prog 22 #[.pointer none] w fun e w' => e = .returned (.int .i64 0) ∧ w' = w := by
  go_enter Try.func22, Try.ntmps22
  go_wp2_with fail
  refine (valid_nil _).mono ?_
  rintro e w1 ⟨rfl, rfl⟩
  go_wp2
  go_ret
  exact ⟨rfl, rfl⟩
theorem copy_nil (w : World) : Calls Try.prog 23 #[.pointer none] w fun e w' => e = .returned (.pointer none) ∧ w' = w := by
  go_enter Try.func23, Try.ntmps23
  go_wp2_with fail
  refine (valid_nil _).mono ?_
  rintro e w1 ⟨rfl, rfl⟩
  go_wp2
  go_ret
  exact ⟨rfl, rfl⟩
theorem sym_any (n : Int) (w : World) : Calls Try.prog 51 #[.int .i64 n] w fun e w' => e = .returned (wv (1, n)) ∧ Below w.heap.size w w' := by
  go_enter Try.func51, Try.ntmps51
  go_wp2
  exact bodyPost_ret (v := wv (1, n)) (by simp [results, Try.results51, go_sem]) rfl ⟨rfl, (Below.refl _ _).alloc (Nat.le_refl _) _⟩
theorem T_any (w : World) : Calls Try.prog 20 #[] w fun e w' => e = .returned (wv (1, 1)) ∧ Below w.heap.size w w' := by
  go_enter Try.func20, Try.ntmps20
  go_wp2_with fail
  refine (sym_any 1 _).mono ?_
  rintro e w1 ⟨rfl, hb⟩
  have a0 := alloc_at w (.cells #[.int .i64 0, .int .i64 0] 28)
  have h1 := (hb.block w.heap.size (lt_at a0)).trans a0
  have d0 : w1.cell? ⟨w.heap.size, 0, none⟩ = some (.int .i64 0) := cell_at h1
  have d1 : w1.cell? ⟨w.heap.size, 1, none⟩ = some (.int .i64 0) := cell_at h1
  have f0 : w1.frozen? ⟨w.heap.size, 0, none⟩ = false := frozen_at h1
  have f1 : w1.frozen? ⟨w.heap.size, 1, none⟩ = false := frozen_at h1
  have HB := Lib.hid (((Below.refl w.heap.size w).alloc (Nat.le_refl _) (.cells #[.int .i64 0, .int .i64 0] 28)).trans (hb.mono (by simp)))
  clear hb h1 a0
  go_wp2
  refine bodyPost_ret (v := wv (1, 1)) ?_ rfl ⟨rfl, (HB.out.setCell (Nat.le_refl _) _).setCell (Nat.le_refl _) _⟩
  simp [results, Try.results20, go_sem, d0, d1]
set_option maxRecDepth 100000 in
theorem makelocal_state {w : World} {vb : Nat} {G : Nat → Nat} {m : Vs} (h : VarsAt w vb G m) (n : Nat) (hn : n < 16384) (hC : hasC (m.marks n) = false) (hs : m.scope = 0) :
    Calls Try.prog 13 #[hptr vb, .int .i64 n] w fun e w' => e = .returned (.int .i64 9) ∧ Below w.heap.size w w' := by
  have cK := change_any h n hn
  rw [hC] at cK
  have c1 := h.scopeCell.1
  rw [hs] at c1
  clear h hn hC hs
  go_enter Try.func13, Try.ntmps13
  go_wp2_with fail
  refine cK.mono ?_
  rintro e w1 ⟨rfl, rfl⟩
  go_wp2
  go_ret
  exact ⟨rfl, Below.refl _ _⟩
set_option maxRecDepth 100000 in
theorem setlocal_range {w : World} {vb : Nat} {G : Nat → Nat} {m : Vs} (h : VarsAt w vb G m) (n : Nat) (hn : n < 16384) (k : Int) (hk : (decide (1 ≤ k) && decide (k ≤ 65536)) = false) (x : Wd) :
    Calls Try.prog 21 #[hptr vb, .int .i64 n, .int .i64 k, wv x] w fun e w' => e = .returned (.int .i64 3) ∧ Below w.heap.size w w' := by
  have hb : Below w.heap.size w (w.alloc (.cells #[.int .i64 x.1, .int .i64 x.2] 28)) := (Below.refl _ _).alloc (Nat.le_refl _) _
  have hv := h.below hb
  obtain ⟨cm, mm, bv, sc, cb, e1, _, _, _, _⟩ := hv.celled
  have cK := check_ok vb cm n _ hn (cell_at e1)
  have cS := isScope_any k (w.alloc (.cells #[.int .i64 x.1, .int .i64 x.2] 28)) false hk
  have CK := Lib.hid cK
  have CS := Lib.hid cS
  clear h hn hb hv cK cS e1 hk
  go_enter Try.func21, Try.ntmps21
  go_wp2_with fail
  refine CK.out.mono ?_
  rintro e w1 ⟨rfl, rfl⟩
  go_wp2_with fail
  refine CS.out.mono ?_
  rintro e w1 ⟨rfl, rfl⟩
  go_wp2
  go_ret
  exact ⟨rfl, (Below.refl _ _).alloc (Nat.le_refl _) _⟩
end Go.Proofs.Ytgkblfegjmeolaa
