/- What the calls on a constant answer; a variable that there is not. -/
import Derived.Test.YtgkblfegjmeolaaVaMark
namespace Go.Proofs.Ytgkblfegjmeolaa
open Go.RowKit Go.Lib
set_option maxRecDepth 100000 in
theorem set_const {w : World} {vb : Nat} {G : Nat → Nat} {m : Vs} (h : VarsAt w vb G m) (n : Nat) (hn : n < 16384) (hC : hasC (m.marks n) = true) (x : Wd) :
    Calls Try.prog 14 #[hptr vb, .int .i64 n, wv x] w fun e w' => e = .returned (.int .i64 10) ∧ Below w.heap.size w w' := by
  have hb : Below w.heap.size w (w.alloc (.cells #[.int .i64 x.1, .int .i64 x.2] 28)) := (Below.refl _ _).alloc (Nat.le_refl _) _
  have cK := change_any (h.below hb) n hn
  rw [hC, if_pos rfl] at cK
  clear h hn hC hb
  go_enter Try.func14, Try.ntmps14
  go_wp2_with fail
  refine cK.mono ?_
  rintro e w1 ⟨rfl, rfl⟩
  go_wp2
  go_ret
  exact ⟨rfl, (Below.refl _ _).alloc (Nat.le_refl _) _⟩
set_option maxRecDepth 100000 in
theorem setdef_const {w : World} {vb : Nat} {G : Nat → Nat} {m : Vs} (h : VarsAt w vb G m) (n : Nat) (hn : n < 16384) (hC : hasC (m.marks n) = true) (x : Wd) :
    Calls Try.prog 10 #[hptr vb, .int .i64 n, wv x] w fun e w' => e = .returned (.int .i64 10) ∧ Below w.heap.size w w' := by
  have hb : Below w.heap.size w (w.alloc (.cells #[.int .i64 x.1, .int .i64 x.2] 28)) := (Below.refl _ _).alloc (Nat.le_refl _) _
  have cK := change_any (h.below hb) n hn
  rw [hC, if_pos rfl] at cK
  clear h hn hC hb
  go_enter Try.func10, Try.ntmps10
  go_wp2_with fail
  refine cK.mono ?_
  rintro e w1 ⟨rfl, rfl⟩
  go_wp2
  go_ret
  exact ⟨rfl, (Below.refl _ _).alloc (Nat.le_refl _) _⟩
set_option maxRecDepth 100000 in
theorem clear_const {w : World} {vb : Nat} {G : Nat → Nat} {m : Vs} (h : VarsAt w vb G m) (n : Nat) (hn : n < 16384) (hC : hasC (m.marks n) = true) :
    Calls Try.prog 35 #[hptr vb, .int .i64 n] w fun e w' => e = .returned (.int .i64 10) ∧ Below w.heap.size w w' := by
  have cK := change_any h n hn
  rw [hC, if_pos rfl] at cK
  clear h hn hC
  go_enter Try.func35, Try.ntmps35
  go_wp2_with fail
  refine cK.mono ?_
  rintro e w1 ⟨rfl, rfl⟩
  go_wp2
  go_ret
  exact ⟨rfl, Below.refl _ _⟩
set_option maxRecDepth 100000 in
theorem bind_const {w : World} {vb : Nat} {G : Nat → Nat} {m : Vs} (h : VarsAt w vb G m) (n : Nat) (hn : n < 16384) (hC : hasC (m.marks n) = true) (x : Wd) :
    Calls Try.prog 17 #[hptr vb, .int .i64 n, wv x] w fun e w' => e = .returned (.int .i64 10) ∧ Below w.heap.size w w' := by
  have hb : Below w.heap.size w (w.alloc (.cells #[.int .i64 x.1, .int .i64 x.2] 28)) := (Below.refl _ _).alloc (Nat.le_refl _) _
  have cK := change_any (h.below hb) n hn
  rw [hC, if_pos rfl] at cK
  clear h hn hC hb
  go_enter Try.func17, Try.ntmps17
  go_wp2_with fail
  refine cK.mono ?_
  rintro e w1 ⟨rfl, rfl⟩
  go_wp2
  go_ret
  exact ⟨rfl, (Below.refl _ _).alloc (Nat.le_refl _) _⟩
set_option maxRecDepth 100000 in
theorem makelocal_const {w : World} {vb : Nat} {G : Nat → Nat} {m : Vs} (h : VarsAt w vb G m) (n : Nat) (hn : n < 16384) (hC : hasC (m.marks n) = true) :
    Calls Try.prog 13 #[hptr vb, .int .i64 n] w fun e w' => e = .returned (.int .i64 10) ∧ Below w.heap.size w w' := by
  have cK := change_any h n hn
  rw [hC, if_pos rfl] at cK
  clear h hn hC
  go_enter Try.func13, Try.ntmps13
  go_wp2_with fail
  refine cK.mono ?_
  rintro e w1 ⟨rfl, rfl⟩
  go_wp2
  go_ret
  exact ⟨rfl, Below.refl _ _⟩
set_option maxRecDepth 100000 in
theorem set_bad {w : World} {vb : Nat} {G : Nat → Nat} {m : Vs} (h : VarsAt w vb G m) (n : Int) (hn : n < 0 ∨ 16384 ≤ n) (x : Wd) :
    Calls Try.prog 14 #[hptr vb, .int .i64 n, wv x] w fun e w' => e = .returned (.int .i64 8) ∧ Below w.heap.size w w' := by
  have hb : Below w.heap.size w (w.alloc (.cells #[.int .i64 x.1, .int .i64 x.2] 28)) := (Below.refl _ _).alloc (Nat.le_refl _) _
  have cK := change_bad (h.below hb) n hn
  clear h hn hb
  go_enter Try.func14, Try.ntmps14
  go_wp2_with fail
  refine cK.mono ?_
  rintro e w1 ⟨rfl, rfl⟩
  go_wp2
  go_ret
  exact ⟨rfl, (Below.refl _ _).alloc (Nat.le_refl _) _⟩
set_option maxRecDepth 100000 in
theorem setlocal_const {w : World} {vb : Nat} {G : Nat → Nat} {m : Vs} (h : VarsAt w vb G m) (n : Nat) (hn : n < 16384) (hC : hasC (m.marks n) = true) (k : Nat) (h1 : 1 ≤ k) (h2 : k ≤ 65536) (x : Wd) :
    Calls Try.prog 21 #[hptr vb, .int .i64 n, .int .i64 k, wv x] w fun e w' => e = .returned (.int .i64 10) ∧ Below w.heap.size w w' := by
  have hb : Below w.heap.size w (w.alloc (.cells #[.int .i64 x.1, .int .i64 x.2] 28)) := (Below.refl _ _).alloc (Nat.le_refl _) _
  have hv := h.below hb
  have cC := const_ok hv n hn
  rw [hC] at cC
  obtain ⟨cm, mm, bv, sc, cb, e1, _, _, _, _⟩ := hv.celled
  have cK := check_ok vb cm n _ hn (cell_at e1)
  have cS := isScope_yes k (w.alloc (.cells #[.int .i64 x.1, .int .i64 x.2] 28)) h1 h2
  have CC := Lib.hid cC
  have CK := Lib.hid cK
  have CS := Lib.hid cS
  clear h hn hC hb hv cC cK cS e1 h1 h2
  go_enter Try.func21, Try.ntmps21
  go_wp2_with fail
  refine CK.out.mono ?_
  rintro e w1 ⟨rfl, rfl⟩
  go_wp2_with fail
  refine CS.out.mono ?_
  rintro e w1 ⟨rfl, rfl⟩
  go_wp2_with fail
  refine CC.out.mono ?_
  rintro e w1 ⟨rfl, rfl⟩
  go_wp2
  go_ret
  exact ⟨rfl, (Below.refl _ _).alloc (Nat.le_refl _) _⟩
theorem VarsAt.bindCell {w : World} {vb : Nat} {G : Nat → Nat} {m : Vs} (h : VarsAt w vb G m) : ∃ a c, w.cell? ⟨vb, 3, none⟩ = some (.slice a m.binds.length c) := by
  obtain ⟨new, lab, sco, mrk, cm, mm, bv, sc, cb, bs, h1, h2, h3, h4, hF, h5, h6, h7⟩ := h
  have hl : bs.length = m.binds.length := by rw [← h5]; simp
  rw [← hl]
  rcases h6.own.2 with ⟨e1, e2⟩ | ⟨g, cap, cur, hv, _⟩
  · exact ⟨none, 0, by rw [cell_at h1, e1, e2]; rfl⟩
  · exact ⟨_, cap, by rw [cell_at h1, hv]; rfl⟩
theorem depth_ok {w : World} {vb : Nat} {G : Nat → Nat} {m : Vs} (h : VarsAt w vb G m) :
    Calls Try.prog 22 #[hptr vb] w fun e w' => e = .returned (.int .i64 m.binds.length) ∧ w' = w := by
  obtain ⟨a, c, hc⟩ := h.bindCell
  have cV := h.valid
  generalize m.binds.length = n at *
  clear h
  go_enter Try.func22, Try.ntmps22
  go_wp2_with fail
  refine cV.mono ?_
  rintro e w1 ⟨rfl, rfl⟩
  go_wp2
  go_ret
  exact ⟨rfl, rfl⟩
theorem scope_ok {w : World} {vb : Nat} {G : Nat → Nat} {m : Vs} (h : VarsAt w vb G m) :
    Calls Try.prog 28 #[hptr vb] w fun e w' => e = .returned (.int .i64 m.scope) ∧ w' = w := by
  have hc := h.scopeCell.1
  have cV := h.valid
  generalize m.scope = n at *
  clear h
  go_enter Try.func28, Try.ntmps28
  go_wp2_with fail
  refine cV.mono ?_
  rintro e w1 ⟨rfl, rfl⟩
  go_wp2
  go_ret
  exact ⟨rfl, rfl⟩
end Go.Proofs.Ytgkblfegjmeolaa
