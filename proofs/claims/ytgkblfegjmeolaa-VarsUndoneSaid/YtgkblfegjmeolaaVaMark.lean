/- SetScope, MarkConst, Depth, Scope, IsLocal; the errors of a constant. -/
import Derived.Test.YtgkblfegjmeolaaVaGet
namespace Go.Proofs.Ytgkblfegjmeolaa
open Go.RowKit Go.Lib
theorem VarsAt.valid {w : World} {vb : Nat} {G : Nat → Nat} {m : Vs} (h : VarsAt w vb G m) : Calls Try.prog 40 #[hptr vb] w fun e w' => e = .returned (.bool true) ∧ w' = w := by
  obtain ⟨cm, mm, bv, sc, cb, h1, _⟩ := h.celled
  exact valid_core vb cm w (cell_at h1)
theorem VarsAt.scopeCell {w : World} {vb : Nat} {G : Nat → Nat} {m : Vs} (h : VarsAt w vb G m) : w.cell? ⟨vb, 1, none⟩ = some (.int .i64 m.scope) ∧ w.frozen? ⟨vb, 1, none⟩ = false ∧ ∀ k : Nat, k ≤ 65536 → VWent w (w.setCell ⟨vb, 1, none⟩ (.int .i64 k)) vb G { m with scope := k } := by
  obtain ⟨new, lab, sco, mrk, cm, mm, bv, sc, cb, bs, h1, h2, h3, h4, hF, h5, h6, h7⟩ := h
  refine ⟨cell_at h1, frozen_at h1, fun k hk => ?_⟩
  have hoff : ∀ j, G j ≠ 1 → (w.setCell ⟨vb, 1, none⟩ (.int .i64 k)).heap[j]? = w.heap[j]? := fun j hj => setCell_off _ (fun e => hj (by rw [show j = vb from e]; exact lab))
  have hsz : (w.setCell ⟨vb, 1, none⟩ (.int .i64 k)).heap.size = w.heap.size := by simp [World.setCell]
  refine ⟨(Keeps.refl G w).setCell (fun _ => by show G vb ≠ 0; omega) _, G, ⟨fun j hj => new j (by omega), lab, hk, mrk, cm, mm, bv, sc, cb, bs, (setCell_at h1 _).trans rfl, h2, h3.keep (fun j hj e => hoff j (by omega)) (fun _ _ _ => rfl), h4.move (hoff mm (by omega)), hF, h5, h6.keep (fun j hj e => hoff j (by omega)) (fun _ _ e => e), fun b hb => ?_⟩, fun _ _ => Iff.rfl⟩
  obtain ⟨a1, a2, a3, a4, a5, a6⟩ := h7 b hb
  exact ⟨a1, a2, (hoff _ (by omega)).trans a3, (hoff _ (by omega)).trans a4, a5, a6⟩
set_option maxRecDepth 100000 in
theorem setscope_ok {w : World} {vb : Nat} {G : Nat → Nat} {m : Vs} (h : VarsAt w vb G m) (k : Nat) (h1 : 1 ≤ k) (hk : k ≤ 65536) :
    Calls Try.prog 12 #[hptr vb, .int .i64 k] w fun e w' => e = .returned (.int .i64 0) ∧ VWent w w' vb G { m with scope := k } := by
  obtain ⟨c1, f1, hfin⟩ := h.scopeCell
  have cV := h.valid
  have cS := isScope_yes k w h1 hk
  have hd : ((k : Int) != 0) = true := by rw [bne_iff_ne]; omega
  have HF := Lib.hid (hfin k hk)
  clear h hfin h1 hk
  go_enter Try.func12, Try.ntmps12
  go_wp2_with fail
  refine cV.mono ?_
  rintro e w1 ⟨rfl, rfl⟩
  go_wp2_with fail
  refine cS.mono ?_
  rintro e w1 ⟨rfl, rfl⟩
  go_wp2
  go_ret
  exact ⟨rfl, HF.out⟩
set_option maxRecDepth 100000 in
theorem setscope_0 {w : World} {vb : Nat} {G : Nat → Nat} {m : Vs} (h : VarsAt w vb G m) :
    Calls Try.prog 12 #[hptr vb, .int .i64 0] w fun e w' => e = .returned (.int .i64 0) ∧ VWent w w' vb G { m with scope := 0 } := by
  obtain ⟨c1, f1, hfin⟩ := h.scopeCell
  have cV := h.valid
  have HF := Lib.hid (show VWent w (w.setCell ⟨vb, 1, none⟩ (.int .i64 0)) vb G { m with scope := 0 } from hfin 0 (by decide))
  clear h hfin
  go_enter Try.func12, Try.ntmps12
  go_wp2_with fail
  refine cV.mono ?_
  rintro e w1 ⟨rfl, rfl⟩
  go_wp2
  go_ret
  exact ⟨rfl, HF.out⟩
def Vs.mark (m : Vs) (n : Nat) : Vs := { m with marks := fun j => if j = n then 3 else m.marks j, cnt := m.cnt + 2 }
theorem VarsAt.markPut {w : World} {vb : Nat} {G : Nat → Nat} {m : Vs} (h : VarsAt w vb G m) (n : Nat) (hn : n < 16384) (hc : m.cnt ≤ 1000000) : ∃ cm mm w', w.cell? ⟨vb, 0, none⟩ = some (.map (some cm)) ∧ w.cell? ⟨vb, 2, none⟩ = some (.map (some mm)) ∧
    (Instr.lookup 55 (.map (some mm)) (.int .i64 (n : Int)) false).run Try.prog w = .ok (.int .u8 (m.marks n)) w ∧
    (Instr.mapUpdate 55 (.map (some mm)) (.int .i64 (n : Int)) (.int .u8 3)).run Try.prog w = .ok () w' ∧ VWent w w' vb G (m.mark n) := by
  obtain ⟨new, lab, sco, mrk, cm, mm, bv, sc, cb, bs, h1, h2, h3, h4, hF, h5, h6, h7⟩ := h
  obtain ⟨w', hrun, hput, hgr, hsz⟩ := h4.put Try.underlying55 (v := .int .u8 3) (d := .lit (.int .i64 3)) (p := []) (by omega) n (by omega) rfl
  refine ⟨cm, mm, w', cell_at h1, cell_at h1, mark_look h4 hn, hrun, ?_⟩
  have hoff : ∀ j, j < w.heap.size → G j ≠ 3 → w'.heap[j]? = w.heap[j]? := fun j hj e => hgr.block j hj (fun e2 => e (by cases e2; exact h2))
  have hput2 : MapF w' markE mm (m.cnt + 2) (markF (m.mark n).marks) := (hput.mono (by omega)).ext fun j => by
    unfold markF Vs.mark
    by_cases e : j = n
    · simp [e]
    · simp [e]
  refine ⟨⟨hgr.os, hgr.tape, hgr.output, hgr.size, fun j hj e => hoff j hj (by omega)⟩, G, ⟨fun j hj => new j (by omega), lab, sco, fun j => ?_, cm, mm, bv, sc, cb, bs, (hoff _ (lt_at h1) (by omega)).trans h1, h2, (h3.keep (fun j hj e => hoff j hj (by omega)) (fun _ _ _ => rfl)).mono (Nat.le_add_right _ 2), hput2, hF, h5, h6.keep (fun j hj e => hoff j hj (by omega)) (fun _ _ e => e), fun b hb => ?_⟩, fun _ _ => Iff.rfl⟩
  · show (if j = n then 3 else m.marks j) ≤ 3
    have := mrk j
    split <;> omega
  · obtain ⟨a1, a2, a3, a4, a5, a6⟩ := h7 b hb
    exact ⟨a1, a2, (hoff _ (lt_at a3) (by omega)).trans a3, (hoff _ (lt_at a4) (by omega)).trans a4, a5, a6⟩
set_option maxHeartbeats 1000000 in
set_option maxRecDepth 100000 in
theorem markconst_ok {w : World} {vb : Nat} {G : Nat → Nat} {m : Vs} (h : VarsAt w vb G m) (n : Nat) (hn : n < 16384) (hc : m.cnt ≤ 1000000) :
    Calls Try.prog 34 #[hptr vb, .int .i64 n] w fun e w' => e = .returned (.int .i64 0) ∧ VWent w w' vb G (m.mark n) := by
  obtain ⟨cm, mm, w', c0, c2, hl, hrun, hV⟩ := h.markPut n hn hc
  have cK := check_ok vb cm n w hn c0
  have HV := Lib.hid hV
  have hm := h.marks n
  have hx : m.marks n = 0 ∨ m.marks n = 1 ∨ m.marks n = 2 ∨ m.marks n = 3 := by omega
  have cA : Calls Try.prog 61 #[hptr vb, .int .i64 n, .int .u8 3] w fun e w' => e = .returned (.int .i64 0) ∧ VWent w w' vb G (m.mark n) := by
    clear h hn hc c0 hV hm
    have b0 : bits BinOp.or IntKind.u8 0 3 = 3 := by decide +kernel
    have b1 : bits BinOp.or IntKind.u8 1 3 = 3 := by decide +kernel
    have b2 : bits BinOp.or IntKind.u8 2 3 = 3 := by decide +kernel
    have b3 : bits BinOp.or IntKind.u8 3 3 = 3 := by decide +kernel
    generalize m.marks n = v at hl hx
    rcases hx with rfl | rfl | rfl | rfl
    all_goals
      go_enter Try.func61, Try.ntmps61
      go_wp2_with fail
      refine cK.mono ?_
      rintro e w1 ⟨rfl, rfl⟩
      go_wp2
      go_ret
      exact ⟨rfl, HV.out⟩
  have CA := Lib.hid cA
  clear h hn hc c0 c2 hV hm hx cA cK hl hrun
  go_enter Try.func34, Try.ntmps34
  go_wp2_with fail
  refine CA.out.mono ?_
  rintro e w1 ⟨rfl, hv⟩
  have HW := Lib.hid hv
  clear hv
  go_wp2
  go_ret
  exact ⟨rfl, HW.out⟩
end Go.Proofs.Ytgkblfegjmeolaa
