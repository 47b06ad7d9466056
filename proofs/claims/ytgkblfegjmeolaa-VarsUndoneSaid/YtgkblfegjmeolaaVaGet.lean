/- value, Get, Depth, Scope, SetScope, MarkConst. -/
import Derived.Test.YtgkblfegjmeolaaVaSet
namespace Go.Proofs.Ytgkblfegjmeolaa
open Go.RowKit Go.Lib
abbrev noC : Cl := ((0, 0), false)
set_option maxHeartbeats 1000000 in
set_option maxRecDepth 100000 in
theorem value_any {w : World} {G : Nat → Nat} {C : Nat → Nat → Option Cl} {c cm : Nat} {sc : Nat → Option Nat} {cb : Nat → Nat → Option Nat} (h : CellsAt w G C c cm sc cb) (k n : Nat) (hk : k ≤ 65536) (hn : n < 16384) :
    Calls Try.prog 46 #[.map (some cm), .int .i64 k, .int .i64 n] w fun e w' => e = .returned (.tuple #[wv ((C k n).getD noC).1, .bool ((C k n).getD noC).2]) ∧ Below w.heap.size w w' := by
  have hbw : Below w.heap.size w (w.alloc (.cells #[.int .i64 0, .int .i64 0] 28)) := (Below.refl _ _).alloc (Nat.le_refl _) _
  have a0 := alloc_at w (.cells #[.int .i64 0, .int .i64 0] 28)
  have cC := content_any (h.below hbw) k n hk hn
  generalize (C k n).getD noC = x at *
  have CC := Lib.hid cC
  have HB := Lib.hid (And.intro hbw a0)
  clear h hbw a0 cC hk hn
  go_enter Try.func46, Try.ntmps46
  go_wp2_with fail
  refine CC.out.mono ?_
  rintro e w1 ⟨rfl, hb⟩
  have k1 := (hb.block _ (lt_at HB.out.2)).trans HB.out.2
  have hb1 := HB.out.1.trans (hb.mono HB.out.1.size)
  have hz : w.heap.size < w1.heap.size := lt_at k1
  have k2 : (w1.alloc (cobj x)).heap[w.heap.size]? = some (.cells #[.int .i64 0, .int .i64 0] 28) := (((Below.refl _ _).alloc (Nat.le_refl _) (cobj x)).block _ hz).trans k1
  have k3 := alloc_at w1 (cobj x)
  have hb2 : Below w.heap.size w (w1.alloc (cobj x)) := hb1.alloc (by omega) _
  clear hb CC HB k1 hb1
  go_wp2_with fail
  generalize hW : w1.alloc (cobj x) = W at *
  have u0 : W.cell? ⟨w1.heap.size, 0, none⟩ = some (.int .i64 x.1.1) := cell_at k3
  have u1 : W.cell? ⟨w1.heap.size, 1, none⟩ = some (.int .i64 x.1.2) := cell_at k3
  have u2 : W.cell? ⟨w1.heap.size, 2, none⟩ = some (.bool x.2) := cell_at k3
  have v0 : W.cell? ⟨w.heap.size, 0, none⟩ = some (.int .i64 0) := cell_at k2
  have v1 : W.cell? ⟨w.heap.size, 1, none⟩ = some (.int .i64 0) := cell_at k2
  have f0 : W.frozen? ⟨w.heap.size, 0, none⟩ = false := frozen_at k2
  have f1 : W.frozen? ⟨w.heap.size, 1, none⟩ = false := frozen_at k2
  have q2 := setCell_at (i := 1) (setCell_at (i := 0) k2 (.int .i64 x.1.1)) (.int .i64 x.1.2)
  have HQ := Lib.hid (And.intro q2 hb2)
  clear k2 k3 hb2 q2 hW
  go_region
  have d0 : ((W.setCell ⟨w.heap.size, 0, none⟩ (.int .i64 x.1.1)).setCell ⟨w.heap.size, 1, none⟩ (.int .i64 x.1.2)).drew.cell? ⟨w.heap.size, 0, none⟩ = some (.int .i64 x.1.1) := (cell_at HQ.out.1).trans (by simp)
  have d1 : ((W.setCell ⟨w.heap.size, 0, none⟩ (.int .i64 x.1.1)).setCell ⟨w.heap.size, 1, none⟩ (.int .i64 x.1.2)).drew.cell? ⟨w.heap.size, 1, none⟩ = some (.int .i64 x.1.2) := (cell_at HQ.out.1).trans (by simp)
  have HF := Lib.hid (show Below w.heap.size w ((W.setCell ⟨w.heap.size, 0, none⟩ (.int .i64 x.1.1)).setCell ⟨w.heap.size, 1, none⟩ (.int .i64 x.1.2)).drew from ((HQ.out.2.setCell (Nat.le_refl _) _).setCell (Nat.le_refl _) _).drew)
  clear u0 u1 u2 v0 v1 f0 f1
  go_wp2
  refine bodyPost_ret (v := .tuple #[wv x.1, .bool x.2]) ?_ rfl ⟨rfl, HF.out⟩
  simp [results, Try.results46, go_sem, d0, d1]
/-- What a variable's cell in a scope contains. -/
def Vs.at (m : Vs) (k n : Nat) : Cl := (m.cells k n).getD noC
theorem setset_off {X : World} {a vb : Nat} {x y v : Value} {o : Nat} (hne : vb ≠ a) (h : X.cell? ⟨vb, o, none⟩ = some v) : ((X.setCell ⟨a, 0, none⟩ x).setCell ⟨a, 1, none⟩ y).cell? ⟨vb, o, none⟩ = some v := by
  unfold World.cell? at h ⊢
  rw [setCell_off _ hne, setCell_off _ hne]
  exact h
/-- What a function that answers a word needs: the world in which its result is laid. -/
structure GReady (w wb : World) (vb : Nat) (G : Nat → Nat) (m : Vs) (cm : Nat) : Prop where
  below : Below w.heap.size w wb
  ne : vb ≠ w.heap.size
  vars : ∀ X, Below wb.heap.size wb X → VarsAt X vb G m
  cell : ∀ X, Below wb.heap.size wb X → X.cell? ⟨vb, 0, none⟩ = some (.map (some cm))
  res : ∀ X, Below wb.heap.size wb X → X.heap[w.heap.size]? = some (.cells #[.int .i64 0, .int .i64 0] 28)
  value : ∀ X k n, Below wb.heap.size wb X → k ≤ 65536 → n < 16384 → Calls Try.prog 46 #[.map (some cm), .int .i64 (k : Nat), .int .i64 (n : Nat)] X fun e w' => e = .returned (.tuple #[wv (m.at k n).1, .bool (m.at k n).2]) ∧ Below X.heap.size X w'
theorem VarsAt.gready {w : World} {vb : Nat} {G : Nat → Nat} {m : Vs} (h : VarsAt w vb G m) : ∃ cm, GReady w (w.alloc (.cells #[.int .i64 0, .int .i64 0] 28)) vb G m cm := by
  have hbw : Below w.heap.size w (w.alloc (.cells #[.int .i64 0, .int .i64 0] 28)) := (Below.refl _ _).alloc (Nat.le_refl _) _
  have a0 := alloc_at w (.cells #[.int .i64 0, .int .i64 0] 28)
  have hsz : w.heap.size < (w.alloc (.cells #[.int .i64 0, .int .i64 0] 28)).heap.size := lt_at a0
  have hv := h.below hbw
  have hvl := h.lt
  generalize w.alloc (.cells #[.int .i64 0, .int .i64 0] 28) = wb at *
  obtain ⟨cm, mm, bv, sc, cb, h1, h2, h3, _, hfin⟩ := hv.celled
  exact ⟨cm, hbw, by omega, fun X hX => hv.below hX, fun X hX => (cell_at ((hX.block _ (lt_at h1)).trans h1)).trans rfl, fun X hX => (hX.block _ hsz).trans a0, fun X k n hX hk hn => value_any (h2.below hX) k n hk hn⟩
/-- The result is stored. -/
theorem GReady.put {w wb X : World} {vb : Nat} {G : Nat → Nat} {m : Vs} {cm : Nat} (h : GReady w wb vb G m cm) (hX : Below wb.heap.size wb X) (x : Wd) :
    ((X.setCell ⟨w.heap.size, 0, none⟩ (.int .i64 x.1)).setCell ⟨w.heap.size, 1, none⟩ (.int .i64 x.2)).cell? ⟨w.heap.size, 0, none⟩ = some (.int .i64 x.1) ∧
    ((X.setCell ⟨w.heap.size, 0, none⟩ (.int .i64 x.1)).setCell ⟨w.heap.size, 1, none⟩ (.int .i64 x.2)).cell? ⟨w.heap.size, 1, none⟩ = some (.int .i64 x.2) ∧
    Below w.heap.size w ((X.setCell ⟨w.heap.size, 0, none⟩ (.int .i64 x.1)).setCell ⟨w.heap.size, 1, none⟩ (.int .i64 x.2)) ∧
    ((X.setCell ⟨w.heap.size, 0, none⟩ (.int .i64 x.1)).setCell ⟨w.heap.size, 1, none⟩ (.int .i64 x.2)).cell? ⟨vb, 0, none⟩ = some (.map (some cm)) := by
  have q2 := setCell_at (i := 1) (setCell_at (i := 0) (h.res X hX) (.int .i64 x.1)) (.int .i64 x.2)
  exact ⟨(cell_at q2).trans (by simp), (cell_at q2).trans (by simp), ((h.below.trans (hX.mono h.below.size)).setCell (Nat.le_refl _) _).setCell (Nat.le_refl _) _, setset_off h.ne (h.cell X hX)⟩
theorem GReady.old {w wb X : World} {vb : Nat} {G : Nat → Nat} {m : Vs} {cm : Nat} (h : GReady w wb vb G m cm) (hX : Below wb.heap.size wb X) :
    X.cell? ⟨w.heap.size, 0, none⟩ = some (.int .i64 0) ∧ X.cell? ⟨w.heap.size, 1, none⟩ = some (.int .i64 0) ∧ X.frozen? ⟨w.heap.size, 0, none⟩ = false ∧ X.frozen? ⟨w.heap.size, 1, none⟩ = false :=
  ⟨cell_at (h.res X hX), cell_at (h.res X hX), frozen_at (h.res X hX), frozen_at (h.res X hX)⟩
set_option maxHeartbeats 2000000 in
set_option maxRecDepth 100000 in
theorem get_ok {w : World} {vb : Nat} {G : Nat → Nat} {m : Vs} (h : VarsAt w vb G m) (n : Nat) (hn : n < 16384) :
    Calls Try.prog 15 #[hptr vb, .int .i64 n] w fun e w' => e = .returned (.tuple #[wv (m.at (m.home n) n).1, .bool (m.at (m.home n) n).2]) ∧ Below w.heap.size w w' := by
  obtain ⟨cm, hR⟩ := h.gready
  have cK := check_ok vb cm n _ hn (hR.cell _ (Below.refl _ _))
  have HN := Lib.hid (And.intro hn (h.home_le n))
  have HR := Lib.hid hR
  have CK := Lib.hid cK
  obtain ⟨x, hx⟩ : ∃ x, m.at (m.home n) n = x := ⟨_, rfl⟩
  have cV := fun X hX => hR.value X (m.home n) n hX (h.home_le n) hn
  rw [hx] at cV
  rw [hx]
  have CV := Lib.hid cV
  clear h hn cK hR hx cV
  go_enter Try.func15, Try.ntmps15
  go_wp2_with fail
  generalize w.alloc (.cells #[.int .i64 0, .int .i64 0] 28) = wb at *
  refine CK.out.mono ?_
  rintro e w1 ⟨rfl, rfl⟩
  go_wp2_with fail
  have HK := Lib.hid (show Below w1.heap.size w1 w1.drew from (Below.refl _ _).drew)
  go_region_held3 (fun X => X.cell? ⟨vb, 0, none⟩ = some (.map (some cm)))
    (first | with_reducible exact HR.out.cell _ HK.out | with_reducible exact (HR.out.put HK.out x.1).2.2.2)
    (first
      | (go_at_call 44; (with_reducible refine (home_any (HR.out.vars w1.drew HK.out) n HN.out.1).mono ?_); rintro e wq ⟨rfl, q, rfl⟩; have HK2 := Lib.hid (below_drewN w1 (1 + q)); clear HK; have HK := HK2; clear HK2)
      | (go_at_call 44; (with_reducible refine (home_any (HR.out.vars _ HK.out) n HN.out.1).mono ?_); rintro e wq ⟨rfl, q, rfl⟩; have HK2 := Lib.hid (below_drw HK.out q); clear HK; have HK := HK2; clear HK2)
      | (go_at_call 46; (with_reducible refine (CV.out _ HK.out).mono ?_); rintro e wq ⟨rfl, hb⟩; have HK2 := Lib.hid (HK.out.trans (hb.mono HK.out.size)); clear HK hb; have HK := HK2; clear HK2; obtain ⟨z0, z1, f0, f1⟩ := HR.out.old HK.out))
  obtain ⟨d0, d1, d2, _⟩ := HR.out.put HK.out x.1
  have HF := Lib.hid d2
  clear d2
  go_wp2
  refine bodyPost_ret (v := .tuple #[wv x.1, .bool x.2]) ?_ rfl ⟨rfl, HF.out⟩
  simp [results, Try.results15, go_sem, d0, d1]
end Go.Proofs.Ytgkblfegjmeolaa
