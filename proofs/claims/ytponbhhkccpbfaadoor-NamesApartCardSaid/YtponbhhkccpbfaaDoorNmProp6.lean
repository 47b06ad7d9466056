/- SetProp and Prop of a table. -/
import Derived.Test.YtponbhhkccpbfaaDoorNmProp5
import Derived.Deep.RegionHeld3
namespace Go.Proofs.YtponbhhkccpbfaaDoor
open Go.RowKit Go.Lib Go.Shelf
set_option maxHeartbeats 4000000 in
theorem setprop_new {w : World} {tb : Nat} {G : Nat → Nat} {m : Tb} (h : TableAt w tb G m) {i : Nat} {y : Sy} (hy : m.syms[i]? = some y) (key : Nat) (hkey : key < m.syms.length) (v : Wd) (hn : y.ps.length ≤ 16384) (hs : Asc y.ps) (hk : ∀ p ∈ y.ps, p.1 < (key : Int)) :
    Calls Tryd.prog 31 #[hptr tb, .int .i64 i, .int .i64 key, wv v] w fun e w' => e = .returned (.int .i64 0) ∧ WentT w w' tb G (m.setSy i ⟨y.f, y.has, y.ps ++ [((key : Int), v)], y.name, y.intd⟩) := by
  have hbw0 := (Below.refl w.heap.size w).alloc (Nat.le_refl _) (.cells #[.int .i64 v.1, .int .i64 v.2] 37)
  have hbw := hbw0.drew
  have k0 := alloc_at w (.cells #[.int .i64 v.1, .int .i64 v.2] 37)
  have hh := h.below hbw
  have hh0 := h.below hbw0
  obtain ⟨g, c, a, cs, c0, hi, hg, hG, c3, f3, hrow, hfin⟩ := hh.symProps hy
  have hwent : ∀ w', WentT (w.alloc (.cells #[.int .i64 v.1, .int .i64 v.2] 37)).drew w' tb G (m.setSy i ⟨y.f, y.has, y.ps ++ [((key : Int), v)], y.name, y.intd⟩) → WentT w w' tb G (m.setSy i ⟨y.f, y.has, y.ps ++ [((key : Int), v)], y.name, y.intd⟩) := fun w' h2 => h2.after hbw
  have cV := hh0.valid (by omega)
  have c00 : (w.alloc (.cells #[.int .i64 v.1, .int .i64 v.2] 37)).cell? ⟨tb, 0, none⟩ = some (.slice (some ⟨g, 0, none⟩) m.syms.length c) := c0
  have cA := at_yes tb m.syms.length c g i _ hi c00
  have cA2 := at_yes tb m.syms.length c g i _ hi c0
  have cB := at_yes tb m.syms.length c g key _ hkey c00
  have cS := csetprop_new (key : Int) v hrow hn hs hk c3 f3 hg (by omega)
  have CV := Lib.hid cV
  have CA := Lib.hid cA
  have CA2 := Lib.hid cA2
  have CB := Lib.hid cB
  have CS := Lib.hid cS
  have HF := Lib.hid (And.intro hfin hwent)
  have HZ := Lib.hid (And.intro (show w.heap.size < (w.alloc (.cells #[.int .i64 v.1, .int .i64 v.2] 37)).drew.heap.size from lt_at k0) (h.new w.heap.size (Nat.le_refl _)))
  have u0 : (w.alloc (.cells #[.int .i64 v.1, .int .i64 v.2] 37)).drew.cell? ⟨w.heap.size, 0, none⟩ = some (.int .i64 v.1) := cell_at k0
  have u1 : (w.alloc (.cells #[.int .i64 v.1, .int .i64 v.2] 37)).drew.cell? ⟨w.heap.size, 1, none⟩ = some (.int .i64 v.2) := cell_at k0
  clear h hh hh0 hy hkey hn hs hk hbw hbw0 k0 hi hG f3 hrow hfin hwent cV cA cA2 cB cS c3 hg c0 c00
  go_enter Tryd.func31, Tryd.ntmps31
  go_wp2_with fail
  refine CV.out.mono ?_
  rintro e w1 ⟨rfl, rfl⟩
  go_wp2_with fail
  refine CA.out.mono ?_
  rintro e w1 ⟨rfl, rfl⟩
  go_wp2_with fail
  refine CB.out.mono ?_
  rintro e w1 ⟨rfl, rfl⟩
  go_wp2_with fail
  go_region_held3 (fun w' => w'.cell? ⟨w.heap.size, 0, none⟩ = some (.int .i64 v.1) ∧ w'.cell? ⟨w.heap.size, 1, none⟩ = some (.int .i64 v.2)) (first | with_reducible exact ⟨u0, u1⟩ | with_reducible exact ⟨z0, z1⟩)
    (first
      | (go_at_call 38; refine CA2.out.mono ?_; rintro e wq ⟨rfl, rfl⟩)
      | (go_at_call 60; refine CS.out.mono ?_; rintro e w9 ⟨W, w1, b', cap, rfl, hb1, hb2, hb3, hb4, rfl⟩; have hw0 := HF.out.1 (key : Int) v W w1 b' cap hb1 hb2 hb3 hb4; have HW := Lib.hid (HF.out.2 _ hw0); have z0 := (World.cell?_of_block (a := ⟨w.heap.size, 0, none⟩) (hw0.keeps.block _ HZ.out.1 HZ.out.2)).trans u0; have z1 := (World.cell?_of_block (a := ⟨w.heap.size, 1, none⟩) (hw0.keeps.block _ HZ.out.1 HZ.out.2)).trans u1; clear hw0 hb1 hb2 hb3 hb4))
  go_wp2
  go_ret
  exact ⟨rfl, HW.out⟩
set_option maxHeartbeats 1000000 in
theorem prop_gen {w : World} {tb : Nat} {G : Nat → Nat} {m : Tb} (h : TableAt w tb G m) {i : Nat} {y : Sy} (hy : m.syms[i]? = some y) (key : Int) (r : Value) (hc : ∀ W g a cs, Below w.heap.size w W → g < W.heap.size → W.cell? ⟨g, i * 6 + 3, none⟩ = some (.slice a y.ps.length cs) → (0 < y.ps.length → ∃ b, a = some ⟨b, 0, none⟩ ∧ b < W.heap.size ∧ PAt W b y.ps) →
      Calls Tryd.prog 61 #[.pointer (some ⟨g, i * 6, none⟩), .int .i64 key] W fun e w' => ∃ v b, r = .tuple #[wv v, .bool b] ∧ e = .returned (.tuple #[wv v, .bool b]) ∧ Below W.heap.size W w') :
    Calls Tryd.prog 33 #[hptr tb, .int .i64 i, .int .i64 key] w fun e w' => e = .returned r ∧ Below w.heap.size w w' := by
  have hbw := (Below.refl w.heap.size w).alloc (Nat.le_refl _) (.cells #[.int .i64 0, .int .i64 0] 37)
  have k0 := alloc_at w (.cells #[.int .i64 0, .int .i64 0] 37)
  have hh := h.below hbw
  obtain ⟨g, c, a, cs, c0, hi, hg, hG, c3, f3, hrow, hfin⟩ := hh.symProps hy
  have cV := hh.valid (by omega)
  have cA := at_yes tb m.syms.length c g i _ hi c0
  have cP := hc _ g a cs hbw hg c3 (fun h0 => hrow.pat h0)
  have CV := Lib.hid cV
  have CA := Lib.hid cA
  have CP := Lib.hid cP
  have HB := Lib.hid (And.intro hbw k0)
  clear h hh hy hi hG f3 hrow hfin cV cA cP c3 hg hc hbw k0
  go_enter Tryd.func33, Tryd.ntmps33
  go_wp2_with fail
  refine CV.out.mono ?_
  rintro e w1 ⟨rfl, rfl⟩
  go_wp2_with fail
  refine CA.out.mono ?_
  rintro e w1 ⟨rfl, rfl⟩
  go_wp2_with fail
  refine CA.out.mono ?_
  rintro e w1 ⟨rfl, rfl⟩
  go_wp2_with fail
  refine CP.out.mono ?_
  rintro e w9 ⟨v, b, rfl, rfl, hb⟩
  have k9 := (hb.block _ (by simp)).trans HB.out.2
  have d0 : w9.cell? ⟨w.heap.size, 0, none⟩ = some (.int .i64 0) := cell_at k9
  have d1 : w9.cell? ⟨w.heap.size, 1, none⟩ = some (.int .i64 0) := cell_at k9
  have e0 : w9.frozen? ⟨w.heap.size, 0, none⟩ = false := frozen_at k9
  have e1 : w9.frozen? ⟨w.heap.size, 1, none⟩ = false := frozen_at k9
  have k2 := setCell_at (i := 1) (setCell_at (i := 0) k9 (.int .i64 v.1)) (.int .i64 v.2)
  have HB2 := Lib.hid (And.intro (HB.out.1.trans (hb.mono HB.out.1.size)) k2)
  clear hb k9 k2 CP CA CV HB
  go_wp2_with fail
  have q0 := (cell_at (i := 0) HB2.out.2)
  have q1 := (cell_at (i := 1) HB2.out.2)
  simp at q0 q1
  refine bodyPost_ret (v := .tuple #[wv v, .bool b]) ?_ rfl ⟨rfl, ?_⟩
  · simp [results, Tryd.results33, go_sem, q0, q1]
  · exact (HB2.out.1.setCell (Nat.le_refl _) _).setCell (Nat.le_refl _) _
end Go.Proofs.YtponbhhkccpbfaaDoor
