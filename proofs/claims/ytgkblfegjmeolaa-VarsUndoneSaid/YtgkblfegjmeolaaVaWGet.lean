/- Get and Scope of variables as Copy leaves them. -/
import Derived.Test.YtgkblfegjmeolaaVaValues
namespace Go.Proofs.Ytgkblfegjmeolaa
open Go.RowKit Go.Lib Go.Shelf
theorem VarsW.celled {w : World} {vb : Nat} {G : Nat → Nat} {m : Vs} (h : VarsW w vb G m) : ∃ cm mm bv sc cb, w.heap[vb]? = some (.cells #[.map (some cm), .int .i64 m.scope, .map (some mm), bv] 58 (0, 0)) ∧ CellsAt w G m.cells m.cnt cm sc cb ∧ True := by
  obtain ⟨new, lab, sco, mrk, cm, mm, bv, sc, cb, bs, h1, h2, h3, _⟩ := h
  exact ⟨cm, mm, bv, sc, cb, h1, h3, trivial⟩
theorem VarsW.scopeCell {w : World} {vb : Nat} {G : Nat → Nat} {m : Vs} (h : VarsW w vb G m) : w.cell? ⟨vb, 1, none⟩ = some (.int .i64 m.scope) ∧ True := by
  obtain ⟨cm, mm, bv, sc, cb, h1, _⟩ := h.celled
  exact ⟨cell_at h1, trivial⟩
theorem VarsW.home_le {w : World} {vb : Nat} {G : Nat → Nat} {m : Vs} (h : VarsW w vb G m) (n : Nat) : m.home n ≤ 65536 := by
  have := h.scope
  unfold Vs.home
  split <;> omega
set_option maxRecDepth 100000 in
theorem whome_any {w : World} {vb : Nat} {G : Nat → Nat} {m : Vs} (h : VarsW w vb G m) (n : Nat) (hn : n < 16384) :
    Calls Try.prog 44 #[hptr vb, .int .i64 n] w fun e w' => e = .returned (.int .i64 (m.home n)) ∧ ∃ q, w' = w.drewN q := by
  obtain ⟨cm, mm, bv, sc, cb, h1, h2, _⟩ := h.celled
  have cH := fun q => has_any (w := w.drewN q) (h2.below (below_drewN w q)) m.scope n h.scope hn
  rw [h2.some_iff] at cH
  have c0 : w.cell? ⟨vb, 0, none⟩ = some (.map (some cm)) := cell_at h1
  have c1 : w.cell? ⟨vb, 1, none⟩ = some (.int .i64 m.scope) := cell_at h1
  unfold Vs.home
  have CH := Lib.hid cH
  clear h h1 h2 hn cH
  generalize m.scope = s at *
  generalize (m.cells s n).isSome = b at *
  cases b
  all_goals
    go_enter Try.func44, Try.ntmps44
    go_wp2_with fail
    go_quiet ((go_at_call 42; exact Calls.quiet_of_same (CH.out _)))
    go_wp2
    go_ret
    exact ⟨rfl, _, rfl⟩
/-- What a function that answers a word needs: the world in which its result is laid. -/
structure WReady (w wb : World) (vb : Nat) (G : Nat → Nat) (m : Vs) (cm : Nat) : Prop where
  below : Below w.heap.size w wb
  ne : vb ≠ w.heap.size
  vars : ∀ X, Below wb.heap.size wb X → VarsW X vb G m
  cell : ∀ X, Below wb.heap.size wb X → X.cell? ⟨vb, 0, none⟩ = some (.map (some cm))
  res : ∀ X, Below wb.heap.size wb X → X.heap[w.heap.size]? = some (.cells #[.int .i64 0, .int .i64 0] 28)
  value : ∀ X k n, Below wb.heap.size wb X → k ≤ 65536 → n < 16384 → Calls Try.prog 46 #[.map (some cm), .int .i64 (k : Nat), .int .i64 (n : Nat)] X fun e w' => e = .returned (.tuple #[wv (m.at k n).1, .bool (m.at k n).2]) ∧ Below X.heap.size X w'
theorem VarsW.gready {w : World} {vb : Nat} {G : Nat → Nat} {m : Vs} (h : VarsW w vb G m) : ∃ cm, WReady w (w.alloc (.cells #[.int .i64 0, .int .i64 0] 28)) vb G m cm := by
  have hbw : Below w.heap.size w (w.alloc (.cells #[.int .i64 0, .int .i64 0] 28)) := (Below.refl _ _).alloc (Nat.le_refl _) _
  have a0 := alloc_at w (.cells #[.int .i64 0, .int .i64 0] 28)
  have hsz : w.heap.size < (w.alloc (.cells #[.int .i64 0, .int .i64 0] 28)).heap.size := lt_at a0
  have hv := h.below hbw
  have hvl := h.lt
  generalize w.alloc (.cells #[.int .i64 0, .int .i64 0] 28) = wb at *
  obtain ⟨cm, mm, bv, sc, cb, h1, h2, _⟩ := hv.celled
  exact ⟨cm, hbw, by omega, fun X hX => hv.below hX, fun X hX => (cell_at ((hX.block _ (lt_at h1)).trans h1)).trans rfl, fun X hX => (hX.block _ hsz).trans a0, fun X k n hX hk hn => value_any (h2.below hX) k n hk hn⟩
/-- The result is stored. -/
theorem WReady.put {w wb X : World} {vb : Nat} {G : Nat → Nat} {m : Vs} {cm : Nat} (h : WReady w wb vb G m cm) (hX : Below wb.heap.size wb X) (x : Wd) :
    ((X.setCell ⟨w.heap.size, 0, none⟩ (.int .i64 x.1)).setCell ⟨w.heap.size, 1, none⟩ (.int .i64 x.2)).cell? ⟨w.heap.size, 0, none⟩ = some (.int .i64 x.1) ∧
    ((X.setCell ⟨w.heap.size, 0, none⟩ (.int .i64 x.1)).setCell ⟨w.heap.size, 1, none⟩ (.int .i64 x.2)).cell? ⟨w.heap.size, 1, none⟩ = some (.int .i64 x.2) ∧
    Below w.heap.size w ((X.setCell ⟨w.heap.size, 0, none⟩ (.int .i64 x.1)).setCell ⟨w.heap.size, 1, none⟩ (.int .i64 x.2)) ∧
    ((X.setCell ⟨w.heap.size, 0, none⟩ (.int .i64 x.1)).setCell ⟨w.heap.size, 1, none⟩ (.int .i64 x.2)).cell? ⟨vb, 0, none⟩ = some (.map (some cm)) := by
  have q2 := setCell_at (i := 1) (setCell_at (i := 0) (h.res X hX) (.int .i64 x.1)) (.int .i64 x.2)
  exact ⟨(cell_at q2).trans (by simp), (cell_at q2).trans (by simp), ((h.below.trans (hX.mono h.below.size)).setCell (Nat.le_refl _) _).setCell (Nat.le_refl _) _, setset_off h.ne (h.cell X hX)⟩
theorem WReady.old {w wb X : World} {vb : Nat} {G : Nat → Nat} {m : Vs} {cm : Nat} (h : WReady w wb vb G m cm) (hX : Below wb.heap.size wb X) :
    X.cell? ⟨w.heap.size, 0, none⟩ = some (.int .i64 0) ∧ X.cell? ⟨w.heap.size, 1, none⟩ = some (.int .i64 0) ∧ X.frozen? ⟨w.heap.size, 0, none⟩ = false ∧ X.frozen? ⟨w.heap.size, 1, none⟩ = false :=
  ⟨cell_at (h.res X hX), cell_at (h.res X hX), frozen_at (h.res X hX), frozen_at (h.res X hX)⟩
set_option maxHeartbeats 2000000 in
set_option maxRecDepth 100000 in
theorem wget_ok {w : World} {vb : Nat} {G : Nat → Nat} {m : Vs} (h : VarsW w vb G m) (n : Nat) (hn : n < 16384) :
    Calls Try.prog 15 #[hptr vb, .int .i64 n] w fun e w' => e = .returned (.tuple #[wv (m.at (m.home n) n).1, .bool (m.at (m.home n) n).2]) ∧ Below w.heap.size w w' := by
  obtain ⟨cm, hR⟩ := h.gready
  have cK := check_ok vb cm n _ hn (hR.cell _ (Below.refl _ _))
  have HN := Lib.hid (And.intro hn (h.home_le n))
  have HR := Lib.hid hR
  have CK := Lib.hid cK
  obtain ⟨x, hx⟩ : ∃ x, m.at (m.home n) n = x := ⟨_, rfl⟩
  have cV := fun X hX => hR.value X (m.home n) n hX (h.home_le n) hn
  rw [hx] at cV
  rw [hx]
  have CV := Lib.hid cV
  clear h hn cK hR hx cV
  go_enter Try.func15, Try.ntmps15
  go_wp2_with fail
  generalize w.alloc (.cells #[.int .i64 0, .int .i64 0] 28) = wb at *
  refine CK.out.mono ?_
  rintro e w1 ⟨rfl, rfl⟩
  go_wp2_with fail
  have HK := Lib.hid (show Below w1.heap.size w1 w1.drew from (Below.refl _ _).drew)
  go_region_held3 (fun X => X.cell? ⟨vb, 0, none⟩ = some (.map (some cm)))
    (first | with_reducible exact HR.out.cell _ HK.out | with_reducible exact (HR.out.put HK.out x.1).2.2.2)
    (first
      | (go_at_call 44; (with_reducible refine (whome_any (HR.out.vars w1.drew HK.out) n HN.out.1).mono ?_); rintro e wq ⟨rfl, q, rfl⟩; have HK2 := Lib.hid (below_drewN w1 (1 + q)); clear HK; have HK := HK2; clear HK2)
      | (go_at_call 44; (with_reducible refine (whome_any (HR.out.vars _ HK.out) n HN.out.1).mono ?_); rintro e wq ⟨rfl, q, rfl⟩; have HK2 := Lib.hid (below_drw HK.out q); clear HK; have HK := HK2; clear HK2)
      | (go_at_call 46; (with_reducible refine (CV.out _ HK.out).mono ?_); rintro e wq ⟨rfl, hb⟩; have HK2 := Lib.hid (HK.out.trans (hb.mono HK.out.size)); clear HK hb; have HK := HK2; clear HK2; obtain ⟨z0, z1, f0, f1⟩ := HR.out.old HK.out))
  obtain ⟨d0, d1, d2, _⟩ := HR.out.put HK.out x.1
  have HF := Lib.hid d2
  clear d2
  go_wp2
  refine bodyPost_ret (v := .tuple #[wv x.1, .bool x.2]) ?_ rfl ⟨rfl, HF.out⟩
  simp [results, Try.results15, go_sem, d0, d1]
theorem wscope_ok {w : World} {vb : Nat} {G : Nat → Nat} {m : Vs} (h : VarsW w vb G m) :
    Calls Try.prog 28 #[hptr vb] w fun e w' => e = .returned (.int .i64 m.scope) ∧ w' = w := by
  have hc := h.scopeCell.1
  have cV := h.valid
  generalize m.scope = n at *
  clear h
  go_enter Try.func28, Try.ntmps28
  go_wp2_with fail
  refine cV.mono ?_
  rintro e w1 ⟨rfl, rfl⟩
  go_wp2
  go_ret
  exact ⟨rfl, rfl⟩
end Go.Proofs.Ytgkblfegjmeolaa
