/- Set, SetDefault, SetLocal at variables that stand. -/
import Derived.Test.YtgkblfegjmeolaaVaLeaf
import Derived.Deep.RegionHeld3
namespace Go.Proofs.Ytgkblfegjmeolaa
open Go.RowKit Go.Lib
theorem below_drw {B : Nat} {a w : World} (h : Below B a w) (q : Nat) : Below B a (w.drewN q) := ⟨h.os, h.tape, h.output, h.size, h.block⟩
theorem full_any (x : Wd) (w : World) : Calls Try.prog 37 #[wv x] w fun e w' => e = .returned (cag (x, true)) ∧ Below w.heap.size w w' := by
  go_enter Try.func37, Try.ntmps37
  go_wp2
  refine bodyPost_ret (v := cag (x, true)) ?_ rfl ⟨rfl, ?_⟩
  · simp [results, Try.results37, go_sem]
  · exact ((Below.refl _ _).alloc (Nat.le_refl _) _).alloc (by simp) _
def Vs.put (m : Vs) (k n : Nat) (c : Cl) : Vs := { m with cells := upd m.cells k n (some c), cnt := m.cnt + 2 }
/-- What a function that stores needs: the world in which its word is boxed, and what it leaves. -/
structure Ready (w wb : World) (vb : Nat) (G : Nat → Nat) (m : Vs) (x : Wd) (cm : Nat) : Prop where
  below : Below w.heap.size w wb
  size : w.heap.size < wb.heap.size
  vars : ∀ X, Below wb.heap.size wb X → VarsAt X vb G m
  cells : ∀ X, Below wb.heap.size wb X → X.cell? ⟨vb, 0, none⟩ = some (.map (some cm)) ∧ X.cell? ⟨w.heap.size, 0, none⟩ = some (.int .i64 x.1) ∧ X.cell? ⟨w.heap.size, 1, none⟩ = some (.int .i64 x.2)
  store : ∀ X k n c, Below wb.heap.size wb X → k ≤ 65536 → n < 16384 → Calls Try.prog 36 #[.map (some cm), .int .i64 (k : Nat), .int .i64 (n : Nat), cag c] X fun e w' => e = .returned (.tuple #[]) ∧ VWent w w' vb G (m.put k n c) ∧
    w'.cell? ⟨vb, 0, none⟩ = some (.map (some cm)) ∧ w'.cell? ⟨w.heap.size, 0, none⟩ = some (.int .i64 x.1) ∧ w'.cell? ⟨w.heap.size, 1, none⟩ = some (.int .i64 x.2)
theorem Ready.store0 {w wb : World} {vb : Nat} {G : Nat → Nat} {m : Vs} {x : Wd} {cm : Nat} (h : Ready w wb vb G m x cm) (X : World) (n : Nat) (c : Cl) (hX : Below wb.heap.size wb X) (hn : n < 16384) : Calls Try.prog 36 #[.map (some cm), .int .i64 0, .int .i64 (n : Nat), cag c] X fun e w' => e = .returned (.tuple #[]) ∧ VWent w w' vb G (m.put 0 n c) ∧
    w'.cell? ⟨vb, 0, none⟩ = some (.map (some cm)) ∧ w'.cell? ⟨w.heap.size, 0, none⟩ = some (.int .i64 x.1) ∧ w'.cell? ⟨w.heap.size, 1, none⟩ = some (.int .i64 x.2) := h.store X 0 n c hX (by decide) hn
theorem VarsAt.ready {w : World} {vb : Nat} {G : Nat → Nat} {m : Vs} (h : VarsAt w vb G m) (hc : m.cnt ≤ 1000000) (x : Wd) : ∃ cm, Ready w (w.alloc (.cells #[.int .i64 x.1, .int .i64 x.2] 28)) vb G m x cm := by
  have hb : Below w.heap.size w (w.alloc (.cells #[.int .i64 x.1, .int .i64 x.2] 28)) := (Below.refl _ _).alloc (Nat.le_refl _) _
  have a0 := alloc_at w (.cells #[.int .i64 x.1, .int .i64 x.2] 28)
  have hs : w.heap.size < (w.alloc (.cells #[.int .i64 x.1, .int .i64 x.2] 28)).heap.size := lt_at a0
  have hv := h.below hb
  generalize w.alloc (.cells #[.int .i64 x.1, .int .i64 x.2] 28) = wb at *
  obtain ⟨cm, mm, bv, sc, cb, h1, h2, h3, hFu, hfin⟩ := hv.celled
  have hcell : ∀ X, Below wb.heap.size wb X → X.cell? ⟨vb, 0, none⟩ = some (.map (some cm)) ∧ X.cell? ⟨w.heap.size, 0, none⟩ = some (.int .i64 x.1) ∧ X.cell? ⟨w.heap.size, 1, none⟩ = some (.int .i64 x.2) := fun X hX =>
    ⟨(cell_at ((hX.block _ (lt_at h1)).trans h1)).trans rfl, (cell_at ((hX.block _ hs).trans a0)).trans rfl, (cell_at ((hX.block _ hs).trans a0)).trans rfl⟩
  refine ⟨cm, hb, hs, fun X hX => hv.below hX, hcell, fun X k n c hX hk hn => ?_⟩
  have hXs := hX.size
  refine (store_any (h2.below hX) (fun j hj => hv.new j (by omega)) k n hk hn hc c hFu).mono ?_
  rintro e w' ⟨he, G', sc', cb', hC, hw, hFu'⟩
  have hV := hfin X w' G' _ _ sc' cb' hX (Nat.le_add_right _ 2) hC hw hFu'
  have hst := (CWent.after hX hw hv.new).block
  have e1 := (hst vb (lt_at h1) (by rw [hv.lab]; decide) (by rw [hv.lab]; decide)).trans h1
  have hz := h.new w.heap.size (Nat.le_refl _)
  have e2 := (hst w.heap.size hs (by omega) (by omega)).trans a0
  exact ⟨he, VWent.after hb hV, cell_at e1, cell_at e2, cell_at e2⟩
set_option maxHeartbeats 2000000 in
set_option maxRecDepth 100000 in
theorem set_ok {w : World} {vb : Nat} {G : Nat → Nat} {m : Vs} (h : VarsAt w vb G m) (n : Nat) (hn : n < 16384) (hc : m.cnt ≤ 1000000) (hC : hasC (m.marks n) = false) (x : Wd) :
    Calls Try.prog 14 #[hptr vb, .int .i64 n, wv x] w fun e w' => e = .returned (.int .i64 0) ∧ VWent w w' vb G (m.put (m.home n) n (x, true)) := by
  obtain ⟨cm, hR⟩ := h.ready hc x
  have cK := change_any (hR.vars _ (Below.refl _ _)) n hn
  rw [hC] at cK
  have HN := Lib.hid (And.intro hn (h.home_le n))
  have HR := Lib.hid hR
  have CK := Lib.hid cK
  clear h hn hc hC hR cK
  go_enter Try.func14, Try.ntmps14
  go_wp2_with fail
  generalize w.alloc (.cells #[.int .i64 x.1, .int .i64 x.2] 28) = wb at *
  refine CK.out.mono ?_
  rintro e w1 ⟨rfl, rfl⟩
  go_wp2_with fail
  have HK := Lib.hid (show Below w1.heap.size w1 w1.drew from (Below.refl _ _).drew)
  go_region_held3 (fun X => X.cell? ⟨vb, 0, none⟩ = some (.map (some cm)) ∧ X.cell? ⟨w.heap.size, 0, none⟩ = some (.int .i64 x.1) ∧ X.cell? ⟨w.heap.size, 1, none⟩ = some (.int .i64 x.2))
    (first | with_reducible exact HR.out.cells _ HK.out | with_reducible exact HZ.out)
    (first
      | (go_at_call 44; (with_reducible refine (home_any (HR.out.vars w1.drew HK.out) n HN.out.1).mono ?_); rintro e wq ⟨rfl, q, rfl⟩; have HK2 := Lib.hid (below_drewN w1 (1 + q)); clear HK; have HK := HK2; clear HK2)
      | (go_at_call 44; (with_reducible refine (home_any (HR.out.vars _ HK.out) n HN.out.1).mono ?_); rintro e wq ⟨rfl, q, rfl⟩; have HK2 := Lib.hid (below_drw HK.out q); clear HK; have HK := HK2; clear HK2)
      | (go_at_call 37; (with_reducible refine (full_any x _).mono ?_); rintro e wq ⟨rfl, hb⟩; have HK2 := Lib.hid (HK.out.trans (hb.mono HK.out.size)); clear HK hb; have HK := HK2; clear HK2)
      | (go_at_call 36; (with_reducible refine (HR.out.store _ _ _ _ HK.out HN.out.2 HN.out.1).mono ?_); rintro e wq ⟨rfl, hV, hz⟩; have HV := Lib.hid hV; have HZ := Lib.hid hz; clear hV hz))
  all_goals (go_wp2; go_ret; exact ⟨rfl, HV.out⟩)
set_option maxHeartbeats 2000000 in
set_option maxRecDepth 100000 in
theorem setdef_ok {w : World} {vb : Nat} {G : Nat → Nat} {m : Vs} (h : VarsAt w vb G m) (n : Nat) (hn : n < 16384) (hc : m.cnt ≤ 1000000) (hC : hasC (m.marks n) = false) (x : Wd) :
    Calls Try.prog 10 #[hptr vb, .int .i64 n, wv x] w fun e w' => e = .returned (.int .i64 0) ∧ VWent w w' vb G (m.put 0 n (x, true)) := by
  obtain ⟨cm, hR⟩ := h.ready hc x
  have cK := change_any (hR.vars _ (Below.refl _ _)) n hn
  rw [hC] at cK
  have HN := Lib.hid hn
  have HR := Lib.hid hR
  have CK := Lib.hid cK
  clear h hn hc hC hR cK
  go_enter Try.func10, Try.ntmps10
  go_wp2_with fail
  generalize w.alloc (.cells #[.int .i64 x.1, .int .i64 x.2] 28) = wb at *
  refine CK.out.mono ?_
  rintro e w1 ⟨rfl, rfl⟩
  go_wp2_with fail
  have HK := Lib.hid (show Below w1.heap.size w1 w1.drew from (Below.refl _ _).drew)
  go_region_held3 (fun X => X.cell? ⟨vb, 0, none⟩ = some (.map (some cm)) ∧ X.cell? ⟨w.heap.size, 0, none⟩ = some (.int .i64 x.1) ∧ X.cell? ⟨w.heap.size, 1, none⟩ = some (.int .i64 x.2))
    (first | with_reducible exact HR.out.cells _ HK.out | with_reducible exact HZ.out)
    (first
      | (go_at_call 37; (with_reducible refine (full_any x _).mono ?_); rintro e wq ⟨rfl, hb⟩; have HK2 := Lib.hid (HK.out.trans (hb.mono HK.out.size)); clear HK hb; have HK := HK2; clear HK2)
      | (go_at_call 36; (with_reducible refine (HR.out.store0 _ _ _ HK.out HN.out).mono ?_); rintro e wq ⟨rfl, hV, hz⟩; have HV := Lib.hid hV; have HZ := Lib.hid hz; clear hV hz))
  all_goals (go_wp2; go_ret; exact ⟨rfl, HV.out⟩)
theorem isScope_any (k : Int) (w : World) (b : Bool) (hb : (decide (1 ≤ k) && decide (k ≤ 65536)) = b) :
    Calls Try.prog 41 #[.int .i64 k] w fun e w' => e = .returned (.bool b) ∧ w' = w := by
  by_cases h1 : 1 ≤ k
  · rw [decide_eq_true h1, Bool.true_and] at hb
    subst hb
    have hd : decide (1 ≤ k) = true := by simpa using h1
    clear h1
    go_enter Try.func41, Try.ntmps41
    go_wp2
    go_ret
    exact ⟨rfl, rfl⟩
  · rw [decide_eq_false h1, Bool.false_and] at hb
    subst hb
    have hd : decide (1 ≤ k) = false := by simpa using h1
    clear h1
    go_enter Try.func41, Try.ntmps41
    go_wp2
    go_ret
    exact ⟨rfl, rfl⟩
theorem isScope_yes (k : Nat) (w : World) (h1 : 1 ≤ k) (h2 : k ≤ 65536) : Calls Try.prog 41 #[.int .i64 k] w fun e w' => e = .returned (.bool true) ∧ w' = w :=
  isScope_any k w true (by rw [Bool.and_eq_true]; exact ⟨decide_eq_true (by omega), decide_eq_true (by omega)⟩)
end Go.Proofs.Ytgkblfegjmeolaa
