/- What each call answers where its check refuses: er, and nothing turns. -/
import Derived.Test.YtgkblfegjmeolaaVaNil
namespace Go.Proofs.Ytgkblfegjmeolaa
open Go.RowKit Go.Lib
set_option maxRecDepth 100000 in
theorem clear_err (v : Value) (n : Int) (er : Int) (w : World) (he : (er != 0) = true) (cK : Calls Try.prog 38 #[v, .int .i64 n] w fun e w' => e = .returned (.int .i64 er) ∧ w' = w) :
    Calls Try.prog 35 #[v, .int .i64 n] w fun e w' => e = .returned (.int .i64 er) ∧ Below w.heap.size w w' := by
  go_enter Try.func35, Try.ntmps35
  go_wp2_with fail
  refine cK.mono ?_
  rintro e w1 ⟨rfl, rfl⟩
  go_wp2
  go_ret
  exact ⟨rfl, Below.refl _ _⟩
set_option maxRecDepth 100000 in
theorem makelocal_err (v : Value) (n : Int) (er : Int) (w : World) (he : (er != 0) = true) (cK : Calls Try.prog 38 #[v, .int .i64 n] w fun e w' => e = .returned (.int .i64 er) ∧ w' = w) :
    Calls Try.prog 13 #[v, .int .i64 n] w fun e w' => e = .returned (.int .i64 er) ∧ Below w.heap.size w w' := by
  go_enter Try.func13, Try.ntmps13
  go_wp2_with fail
  refine cK.mono ?_
  rintro e w1 ⟨rfl, rfl⟩
  go_wp2
  go_ret
  exact ⟨rfl, Below.refl _ _⟩
set_option maxRecDepth 100000 in
theorem killlocal_err (v : Value) (n : Int) (er : Int) (w : World) (he : (er != 0) = true) (cK : Calls Try.prog 45 #[v, .int .i64 n] w fun e w' => e = .returned (.int .i64 er) ∧ w' = w) :
    Calls Try.prog 18 #[v, .int .i64 n] w fun e w' => e = .returned (.int .i64 er) ∧ Below w.heap.size w w' := by
  go_enter Try.func18, Try.ntmps18
  go_wp2_with fail
  refine cK.mono ?_
  rintro e w1 ⟨rfl, rfl⟩
  go_wp2
  go_ret
  exact ⟨rfl, Below.refl _ _⟩
set_option maxRecDepth 100000 in
theorem set_err (v : Value) (n : Int) (x : Wd) (er : Int) (w : World) (he : (er != 0) = true) (cK : ∀ W, Below w.heap.size w W → Calls Try.prog 38 #[v, .int .i64 n] W fun e w' => e = .returned (.int .i64 er) ∧ w' = W) :
    Calls Try.prog 14 #[v, .int .i64 n, wv x] w fun e w' => e = .returned (.int .i64 er) ∧ Below w.heap.size w w' := by
  have cK2 := cK _ ((Below.refl _ _).alloc (Nat.le_refl _) (.cells #[.int .i64 x.1, .int .i64 x.2] 28))
  clear cK
  go_enter Try.func14, Try.ntmps14
  go_wp2_with fail
  refine cK2.mono ?_
  rintro e w1 ⟨rfl, rfl⟩
  go_wp2
  go_ret
  exact ⟨rfl, (Below.refl _ _).alloc (Nat.le_refl _) _⟩
set_option maxRecDepth 100000 in
theorem setdef_err (v : Value) (n : Int) (x : Wd) (er : Int) (w : World) (he : (er != 0) = true) (cK : ∀ W, Below w.heap.size w W → Calls Try.prog 38 #[v, .int .i64 n] W fun e w' => e = .returned (.int .i64 er) ∧ w' = W) :
    Calls Try.prog 10 #[v, .int .i64 n, wv x] w fun e w' => e = .returned (.int .i64 er) ∧ Below w.heap.size w w' := by
  have cK2 := cK _ ((Below.refl _ _).alloc (Nat.le_refl _) (.cells #[.int .i64 x.1, .int .i64 x.2] 28))
  clear cK
  go_enter Try.func10, Try.ntmps10
  go_wp2_with fail
  refine cK2.mono ?_
  rintro e w1 ⟨rfl, rfl⟩
  go_wp2
  go_ret
  exact ⟨rfl, (Below.refl _ _).alloc (Nat.le_refl _) _⟩
set_option maxRecDepth 100000 in
theorem bind_err (v : Value) (n : Int) (x : Wd) (er : Int) (w : World) (he : (er != 0) = true) (cK : ∀ W, Below w.heap.size w W → Calls Try.prog 38 #[v, .int .i64 n] W fun e w' => e = .returned (.int .i64 er) ∧ w' = W) :
    Calls Try.prog 17 #[v, .int .i64 n, wv x] w fun e w' => e = .returned (.int .i64 er) ∧ Below w.heap.size w w' := by
  have cK2 := cK _ ((Below.refl _ _).alloc (Nat.le_refl _) (.cells #[.int .i64 x.1, .int .i64 x.2] 28))
  clear cK
  go_enter Try.func17, Try.ntmps17
  go_wp2_with fail
  refine cK2.mono ?_
  rintro e w1 ⟨rfl, rfl⟩
  go_wp2
  go_ret
  exact ⟨rfl, (Below.refl _ _).alloc (Nat.le_refl _) _⟩
set_option maxRecDepth 100000 in
theorem setlocal_err (v : Value) (n : Int) (k : Int) (x : Wd) (er : Int) (w : World) (he : (er != 0) = true) (cK : ∀ W, Below w.heap.size w W → Calls Try.prog 45 #[v, .int .i64 n] W fun e w' => e = .returned (.int .i64 er) ∧ w' = W) :
    Calls Try.prog 21 #[v, .int .i64 n, .int .i64 k, wv x] w fun e w' => e = .returned (.int .i64 er) ∧ Below w.heap.size w w' := by
  have cK2 := cK _ ((Below.refl _ _).alloc (Nat.le_refl _) (.cells #[.int .i64 x.1, .int .i64 x.2] 28))
  clear cK
  go_enter Try.func21, Try.ntmps21
  go_wp2_with fail
  refine cK2.mono ?_
  rintro e w1 ⟨rfl, rfl⟩
  go_wp2
  go_ret
  exact ⟨rfl, (Below.refl _ _).alloc (Nat.le_refl _) _⟩
set_option maxRecDepth 100000 in
theorem addmarks_err (v : Value) (n : Int) (mk : Int) (er : Int) (w : World) (he : (er != 0) = true) (cK : Calls Try.prog 45 #[v, .int .i64 n] w fun e w' => e = .returned (.int .i64 er) ∧ w' = w) :
    Calls Try.prog 61 #[v, .int .i64 n, .int .u8 mk] w fun e w' => e = .returned (.int .i64 er) ∧ Below w.heap.size w w' := by
  go_enter Try.func61, Try.ntmps61
  go_wp2_with fail
  refine cK.mono ?_
  rintro e w1 ⟨rfl, rfl⟩
  go_wp2
  go_ret
  exact ⟨rfl, Below.refl _ _⟩
set_option maxRecDepth 100000 in
theorem markconst_err (v : Value) (n : Int) (er : Int) (w : World) (he : (er != 0) = true) (cK : Calls Try.prog 45 #[v, .int .i64 n] w fun e w' => e = .returned (.int .i64 er) ∧ w' = w) :
    Calls Try.prog 34 #[v, .int .i64 n] w fun e w' => e = .returned (.int .i64 er) ∧ Below w.heap.size w w' := by
  have cA := addmarks_err v n 3 er w he cK
  go_enter Try.func34, Try.ntmps34
  go_wp2_with fail
  refine cA.mono ?_
  rintro e w1 ⟨rfl, hb⟩
  have HB := Lib.hid hb
  clear hb
  go_wp2
  go_ret
  exact ⟨rfl, HB.out⟩
set_option maxRecDepth 100000 in
theorem markspecial_err (v : Value) (n : Int) (er : Int) (w : World) (he : (er != 0) = true) (cK : Calls Try.prog 45 #[v, .int .i64 n] w fun e w' => e = .returned (.int .i64 er) ∧ w' = w) :
    Calls Try.prog 56 #[v, .int .i64 n] w fun e w' => e = .returned (.int .i64 er) ∧ Below w.heap.size w w' := by
  have cA := addmarks_err v n 1 er w he cK
  go_enter Try.func56, Try.ntmps56
  go_wp2_with fail
  refine cA.mono ?_
  rintro e w1 ⟨rfl, hb⟩
  have HB := Lib.hid hb
  clear hb
  go_wp2
  go_ret
  exact ⟨rfl, HB.out⟩
theorem isScope_no (k : Int) (w : World) (h : (decide (1 ≤ k) && decide (k ≤ 65536)) = false) : Calls Try.prog 41 #[.int .i64 k] w fun e w' => e = .returned (.bool false) ∧ w' = w := isScope_any k w false h
set_option maxRecDepth 100000 in
theorem setscope_bad {w : World} {vb : Nat} {G : Nat → Nat} {m : Vs} (h : VarsAt w vb G m) (k : Int) (h0 : k ≠ 0) (hk : (decide (1 ≤ k) && decide (k ≤ 65536)) = false) :
    Calls Try.prog 12 #[hptr vb, .int .i64 k] w fun e w' => e = .returned (.int .i64 3) ∧ Below w.heap.size w w' := by
  have cV := h.valid
  have cS := isScope_no k w hk
  have hd : (k != 0) = true := by rw [bne_iff_ne]; exact h0
  clear h hk h0
  go_enter Try.func12, Try.ntmps12
  go_wp2_with fail
  refine cV.mono ?_
  rintro e w1 ⟨rfl, rfl⟩
  go_wp2_with fail
  refine cS.mono ?_
  rintro e w1 ⟨rfl, rfl⟩
  go_wp2
  go_ret
  exact ⟨rfl, Below.refl _ _⟩
set_option maxRecDepth 100000 in
theorem drop_bad {w : World} {vb : Nat} {G : Nat → Nat} {m : Vs} (h : VarsAt w vb G m) (k : Int) (hk : (decide (1 ≤ k) && decide (k ≤ 65536)) = false) :
    Calls Try.prog 31 #[hptr vb, .int .i64 k] w fun e w' => e = .returned (.int .i64 3) ∧ Below w.heap.size w w' := by
  have cV := h.valid
  have cS := isScope_no k w hk
  clear h hk
  go_enter Try.func31, Try.ntmps31
  go_wp2_with fail
  refine cV.mono ?_
  rintro e w1 ⟨rfl, rfl⟩
  go_wp2_with fail
  refine cS.mono ?_
  rintro e w1 ⟨rfl, rfl⟩
  go_wp2
  go_ret
  exact ⟨rfl, Below.refl _ _⟩
set_option maxRecDepth 100000 in
theorem killlocal_state {w : World} {vb : Nat} {G : Nat → Nat} {m : Vs} (h : VarsAt w vb G m) (n : Nat) (hn : n < 16384) (hs : m.scope = 0) :
    Calls Try.prog 18 #[hptr vb, .int .i64 n] w fun e w' => e = .returned (.int .i64 9) ∧ Below w.heap.size w w' := by
  obtain ⟨cm, mm, bv, sc, cb, e1, _, _, _, _⟩ := h.celled
  have cK := check_ok vb cm n w hn (cell_at e1)
  have c1 := h.scopeCell.1
  rw [hs] at c1
  clear h hn hs e1
  go_enter Try.func18, Try.ntmps18
  go_wp2_with fail
  refine cK.mono ?_
  rintro e w1 ⟨rfl, rfl⟩
  go_wp2
  go_ret
  exact ⟨rfl, Below.refl _ _⟩
/-- check at any number. -/
theorem check_at {w : World} {vb : Nat} {G : Nat → Nat} {m : Vs} (h : VarsAt w vb G m) (n : Int) (hn : n < 0 ∨ 16384 ≤ n) :
    Calls Try.prog 45 #[hptr vb, .int .i64 n] w fun e w' => e = .returned (.int .i64 8) ∧ w' = w := by
  obtain ⟨cm, mm, bv, sc, cb, e1, _, _, _, _⟩ := h.celled
  exact check_bad vb cm n w hn (cell_at e1)
set_option maxHeartbeats 2000000 in
set_option maxRecDepth 100000 in
theorem clear_ok {w : World} {vb : Nat} {G : Nat → Nat} {m : Vs} (h : VarsAt w vb G m) (n : Nat) (hn : n < 16384) (hc : m.cnt ≤ 1000000) (hC : hasC (m.marks n) = false) :
    Calls Try.prog 35 #[hptr vb, .int .i64 n] w fun e w' => e = .returned (.int .i64 0) ∧ VWent w w' vb G (m.put (m.home n) n noC) := by
  obtain ⟨cm, hR⟩ := h.stor hc
  have cK := change_any h n hn
  rw [hC] at cK
  have HN := Lib.hid (And.intro hn (h.home_le n))
  have HR := Lib.hid hR
  have HV := Lib.hid h
  clear h hn hc hC hR
  go_enter Try.func35, Try.ntmps35
  go_wp2_with fail
  refine cK.mono ?_
  rintro e w1 ⟨rfl, rfl⟩
  go_wp2_with fail
  have HK := Lib.hid (show Below w1.heap.size w1 w1.drew from (Below.refl _ _).drew)
  go_region_held3 (fun X => X.cell? ⟨vb, 0, none⟩ = some (.map (some cm)))
    (first | with_reducible exact HR.out.cell _ HK.out | with_reducible exact HZ.out)
    (first
      | (go_at_call 44; (with_reducible refine (home_any (HV.out.below HK.out) n HN.out.1).mono ?_); rintro e wq ⟨rfl, q, rfl⟩; have HK2 := Lib.hid (below_drewN w1 (1 + q)); clear HK; have HK := HK2; clear HK2)
      | (go_at_call 36; (refine (HR.out.store _ _ _ _ _ noC HK.out rfl rfl HN.out.2 HN.out.1).mono ?_); rintro e wq ⟨rfl, hV, hz⟩; have HW := Lib.hid hV; have HZ := Lib.hid hz; clear hV hz))
  all_goals (go_wp2; go_ret; exact ⟨rfl, HW.out⟩)
def Vs.markS (m : Vs) (n : Nat) : Vs := { m with marks := fun j => if j = n then (if m.marks n = 0 then 1 else if m.marks n = 2 then 3 else m.marks n) else m.marks j, cnt := m.cnt + 2 }
end Go.Proofs.Ytgkblfegjmeolaa
