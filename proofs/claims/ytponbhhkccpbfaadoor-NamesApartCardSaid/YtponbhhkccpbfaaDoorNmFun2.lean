/- The contracts of SetFunc, ClearFunc and Func at a symbol that exists. -/
import Derived.Test.YtponbhhkccpbfaaDoorNmFun
import Derived.Deep.RegionHeld3
namespace Go.Proofs.YtponbhhkccpbfaaDoor
open Go.RowKit Go.Lib Go.Shelf
theorem checkf_ok {w : World} {tb : Nat} {G : Nat → Nat} {m : Tb} (h : TableAt w tb G m) (i : Nat) (hi : i < m.syms.length) (h2 : 2 ≤ i) :
    Calls Tryd.prog 44 #[hptr tb, .int .i64 i] w fun e w' => e = .returned (.int .i64 0) ∧ w' = w := by
  obtain ⟨g, c, c0, _, r1, r2⟩ := h.sym (List.getElem?_eq_getElem hi)
  have cV := h.valid (by omega)
  have cA := at_yes tb m.syms.length c g i w hi c0
  have n0 : ((i : Int) == 0) = false := by rw [beq_eq_false_iff_ne]; omega
  have n1 : ((i : Int) == 1) = false := by rw [beq_eq_false_iff_ne]; omega
  clear r1 r2 hi h h2
  generalize m.syms.length = n at *
  go_enter Tryd.func44, Tryd.ntmps44
  go_wp2_with (first
    | (go_at_call 37; ((with_reducible refine cV.mono ?_); rintro e w' ⟨rfl, rfl⟩))
    | (go_at_call 38; ((with_reducible refine cA.mono ?_); rintro e w' ⟨rfl, rfl⟩)))
  go_ret
  exact ⟨rfl, rfl⟩
theorem farW {w : World} {g o b : Nat} {x y v : Value} (h : w.cell? ⟨g, o, none⟩ = some v) (hne : g ≠ b) : ((w.setCell ⟨b, 0, none⟩ x).setCell ⟨b, 1, none⟩ y).drew.cell? ⟨g, o, none⟩ = some v := by
  show ((w.setCell ⟨b, 0, none⟩ x).setCell ⟨b, 1, none⟩ y).cell? ⟨g, o, none⟩ = some v
  unfold World.cell? at h ⊢
  rw [setCell_off _ hne, setCell_off _ hne]
  exact h
set_option maxHeartbeats 1000000 in
theorem func_ok {w : World} {tb : Nat} {G : Nat → Nat} {m : Tb} (h : TableAt w tb G m) {i : Nat} {y : Sy} (hy : m.syms[i]? = some y) :
    Calls Tryd.prog 32 #[hptr tb, .int .i64 i] w fun e w' => e = .returned (.tuple #[wv y.f, .bool y.has]) ∧ Below w.heap.size w w' := by
  have hbw := (Below.refl w.heap.size w).alloc (Nat.le_refl _) (.cells #[.int .i64 0, .int .i64 0] 37)
  have hh := h.below hbw
  obtain ⟨g, c, c0', hi, hg, hG, q0', q1', q2', fz', _⟩ := h.symRow hy
  have c0 := (hbw.cell (p := ⟨tb, 0, none⟩) h.lt).trans c0'
  have q0 := (hbw.cell (p := ⟨g, i * 6, none⟩) hg).trans q0'
  have q1 := (hbw.cell (p := ⟨g, i * 6 + 1, none⟩) hg).trans q1'
  have q2 := (hbw.cell (p := ⟨g, i * 6 + 2, none⟩) hg).trans q2'
  have hne : g ≠ w.heap.size := by omega
  have hnt : tb ≠ w.heap.size := by have := h.lt; omega
  have cV := hh.valid (by omega)
  have CV := Lib.hid cV
  have HB := Lib.hid (And.intro hbw (And.intro hne hnt))
  have k0 : (w.alloc (.cells #[.int .i64 0, .int .i64 0] 37)).heap[w.heap.size]? = some (.cells #[.int .i64 0, .int .i64 0] 37 (0, 0)) := alloc_at w _
  have v0 : (w.alloc (.cells #[.int .i64 0, .int .i64 0] 37)).cell? ⟨w.heap.size, 0, none⟩ = some (.int .i64 0) := cell_at k0
  have v1 : (w.alloc (.cells #[.int .i64 0, .int .i64 0] 37)).cell? ⟨w.heap.size, 1, none⟩ = some (.int .i64 0) := cell_at k0
  have f0 : (w.alloc (.cells #[.int .i64 0, .int .i64 0] 37)).frozen? ⟨w.heap.size, 0, none⟩ = false := frozen_at k0
  have f1 : (w.alloc (.cells #[.int .i64 0, .int .i64 0] 37)).frozen? ⟨w.heap.size, 1, none⟩ = false := frozen_at k0
  have CA := Lib.hid (fun (W : World) (hW : W.cell? ⟨tb, 0, none⟩ = some (.slice (some ⟨g, 0, none⟩) m.syms.length c)) => at_yes tb m.syms.length c g i W hi hW)
  have K0 := Lib.hid (fun (W : World) (h : W.heap[w.heap.size]? = some (.cells #[.int .i64 0, .int .i64 0] 37 (0, 0))) => setCell_at (i := 1) (setCell_at (i := 0) h (.int .i64 y.f.1)) (.int .i64 y.f.2))
  have K1 := Lib.hid k0
  clear h hh hy hi fz' hG cV c0' q0' q1' q2' hg k0 hbw hne hnt
  generalize m.syms.length = n at *
  go_enter Tryd.func32, Tryd.ntmps32
  go_wp2_with fail
  generalize w.alloc (.cells #[.int .i64 0, .int .i64 0] 37) = W at *
  refine CV.out.mono ?_
  rintro e w' ⟨rfl, rfl⟩
  go_wp2_with fail
  refine (CA.out _ c0).mono ?_
  rintro e w' ⟨rfl, rfl⟩
  go_wp2_with fail
  have hne := HB.out.2.1
  have hnt := HB.out.2.2
  have c0d : w'.drew.cell? ⟨tb, 0, none⟩ = some (.slice (some ⟨g, 0, none⟩) n c) := c0
  have q0d : w'.drew.cell? ⟨g, i * 6, none⟩ = some (.int .i64 y.f.1) := q0
  have q1d : w'.drew.cell? ⟨g, i * 6 + 1, none⟩ = some (.int .i64 y.f.2) := q1
  have q2d : w'.drew.cell? ⟨g, i * 6 + 2, none⟩ = some (.bool y.has) := q2
  have v0d : w'.drew.cell? ⟨w.heap.size, 0, none⟩ = some (.int .i64 0) := v0
  have v1d : w'.drew.cell? ⟨w.heap.size, 1, none⟩ = some (.int .i64 0) := v1
  have f0d : w'.drew.frozen? ⟨w.heap.size, 0, none⟩ = false := f0
  have f1d : w'.drew.frozen? ⟨w.heap.size, 1, none⟩ = false := f1
  go_region_held3 (fun w' => w'.cell? ⟨tb, 0, none⟩ = some (.slice (some ⟨g, 0, none⟩) n c) ∧ w'.cell? ⟨g, i * 6, none⟩ = some (.int .i64 y.f.1) ∧ w'.cell? ⟨g, i * 6 + 1, none⟩ = some (.int .i64 y.f.2) ∧ w'.cell? ⟨g, i * 6 + 2, none⟩ = some (.bool y.has))
    (first | with_reducible exact ⟨c0d, q0d, q1d, q2d⟩ | with_reducible exact ⟨farW c0 hnt, farW q0 hne, farW q1 hne, farW q2 hne⟩)
    ((go_at_call 38; first | (refine (CA.out _ c0d).mono ?_; rintro e wq ⟨rfl, rfl⟩) | (refine (CA.out _ (farW c0 hnt)).mono ?_; rintro e wq ⟨rfl, rfl⟩)))
  have k2 := K0.out _ K1.out
  have d0 : ((w'.setCell ⟨w.heap.size, 0, none⟩ (.int .i64 y.f.1)).setCell ⟨w.heap.size, 1, none⟩ (.int .i64 y.f.2)).drew.cell? ⟨w.heap.size, 0, none⟩ = some (.int .i64 y.f.1) := (cell_at k2).trans (by simp)
  have d1 : ((w'.setCell ⟨w.heap.size, 0, none⟩ (.int .i64 y.f.1)).setCell ⟨w.heap.size, 1, none⟩ (.int .i64 y.f.2)).drew.cell? ⟨w.heap.size, 1, none⟩ = some (.int .i64 y.f.2) := (cell_at k2).trans (by simp)
  have HB2 := Lib.hid (show Below w.heap.size w ((w'.setCell ⟨w.heap.size, 0, none⟩ (.int .i64 y.f.1)).setCell ⟨w.heap.size, 1, none⟩ (.int .i64 y.f.2)).drew from ((HB.out.1.setCell (Nat.le_refl _) _).setCell (Nat.le_refl _) _).drew)
  clear k2
  go_wp2
  refine bodyPost_ret (v := .tuple #[wv y.f, .bool y.has]) ?_ rfl ⟨rfl, HB2.out⟩
  simp [results, Tryd.results32, go_sem, d0, d1]
set_option maxHeartbeats 1000000 in
theorem setf_ok {w : World} {tb : Nat} {G : Nat → Nat} {m : Tb} (h : TableAt w tb G m) {i : Nat} {y : Sy} (hy : m.syms[i]? = some y) (hi2 : 2 ≤ i) (x : Wd) :
    Calls Tryd.prog 18 #[hptr tb, .int .i64 i, wv x] w fun e w' => e = .returned (.int .i64 0) ∧ WentT w w' tb G (m.setSy i ⟨x, true, y.ps, y.name, y.intd⟩) := by
  have hbw := (Below.refl w.heap.size w).alloc (Nat.le_refl _) (.cells #[.int .i64 x.1, .int .i64 x.2] 37)
  have k0 := alloc_at w (.cells #[.int .i64 x.1, .int .i64 x.2] 37)
  have hh := h.below hbw
  obtain ⟨g, c, c0, hi, hg, hG, q0, q1, q2, fz, hput⟩ := hh.symRow hy
  have cK := checkf_ok hh i hi hi2
  have cA := at_yes tb m.syms.length c g i _ hi c0
  have hfin : ∀ W, Below w.heap.size w W → TableAt (fput W g (i * 6) x true) tb G (m.setSy i ⟨x, true, y.ps, y.name, y.intd⟩) → WentT w (fput W g (i * 6) x true) tb G (m.setSy i ⟨x, true, y.ps, y.name, y.intd⟩) := fun W hW ht =>
    ⟨(Keeps.of_below hW).trans (fput_keeps (G := G) (by omega)) (fun _ _ e => e), G, ht, fun _ _ => Iff.rfl⟩
  have HF := Lib.hid (And.intro hfin (And.intro hbw hput))
  have u0 : (w.alloc (.cells #[.int .i64 x.1, .int .i64 x.2] 37)).cell? ⟨w.heap.size, 0, none⟩ = some (.int .i64 x.1) := cell_at k0
  have u1 : (w.alloc (.cells #[.int .i64 x.1, .int .i64 x.2] 37)).cell? ⟨w.heap.size, 1, none⟩ = some (.int .i64 x.2) := cell_at k0
  have CK := Lib.hid cK
  have CA := Lib.hid cA
  have g0 := fz (i * 6)
  have g1 := fz (i * 6 + 1)
  have g2 := fz (i * 6 + 2)
  clear h hh hy hi fz hG hi2 hfin hput cK cA hbw k0
  generalize m.syms.length = n at *
  go_enter Tryd.func18, Tryd.ntmps18
  go_wp2_with fail
  refine CK.out.mono ?_
  rintro e w' ⟨rfl, rfl⟩
  go_wp2_with fail
  refine CA.out.mono ?_
  rintro e w' ⟨rfl, rfl⟩
  generalize w.alloc (.cells #[.int .i64 x.1, .int .i64 x.2] 37) = W at *
  go_wp2_with fail
  go_ret
  exact ⟨rfl, HF.out.1 W HF.out.2.1 (HF.out.2.2 x true)⟩
set_option maxHeartbeats 1000000 in
theorem clearf_ok {w : World} {tb : Nat} {G : Nat → Nat} {m : Tb} (h : TableAt w tb G m) {i : Nat} {y : Sy} (hy : m.syms[i]? = some y) (hi2 : 2 ≤ i) :
    Calls Tryd.prog 30 #[hptr tb, .int .i64 i] w fun e w' => e = .returned (.int .i64 0) ∧ WentT w w' tb G (m.setSy i ⟨(0, 0), false, y.ps, y.name, y.intd⟩) := by
  obtain ⟨g, c, c0, hi, hg, hG, q0, q1, q2, fz, hput⟩ := h.symRow hy
  have cK := checkf_ok h i hi hi2
  have cA := at_yes tb m.syms.length c g i _ hi c0
  have hfin : WentT w (fput w g (i * 6) (0, 0) false) tb G (m.setSy i ⟨(0, 0), false, y.ps, y.name, y.intd⟩) := ⟨fput_keeps (G := G) (by omega), G, hput _ _, fun _ _ => Iff.rfl⟩
  have HF := Lib.hid hfin
  have CK := Lib.hid cK
  have CA := Lib.hid cA
  have g0 := fz (i * 6)
  have g1 := fz (i * 6 + 1)
  have g2 := fz (i * 6 + 2)
  clear h hy hi fz hG hi2 hfin hput cK cA
  generalize m.syms.length = n at *
  go_enter Tryd.func30, Tryd.ntmps30
  go_wp2_with fail
  refine CK.out.mono ?_
  rintro e w' ⟨rfl, rfl⟩
  go_wp2_with fail
  refine CA.out.mono ?_
  rintro e w' ⟨rfl, rfl⟩
  go_wp2_with fail
  go_ret
  exact ⟨rfl, HF.out⟩
end Go.Proofs.YtponbhhkccpbfaaDoor
