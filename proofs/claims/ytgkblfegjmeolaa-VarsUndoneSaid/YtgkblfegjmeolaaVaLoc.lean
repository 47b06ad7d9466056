/- SetLocal, MakeLocal, IsLocal, Local at variables that stand. -/
import Derived.Test.YtgkblfegjmeolaaVaNew
namespace Go.Proofs.Ytgkblfegjmeolaa
open Go.RowKit Go.Lib
set_option maxHeartbeats 2000000 in
set_option maxRecDepth 100000 in
theorem setlocal_ok {w : World} {vb : Nat} {G : Nat → Nat} {m : Vs} (h : VarsAt w vb G m) (n : Nat) (hn : n < 16384) (hc : m.cnt ≤ 1000000) (hC : hasC (m.marks n) = false) (k : Nat) (h1 : 1 ≤ k) (h2 : k ≤ 65536) (x : Wd) :
    Calls Try.prog 21 #[hptr vb, .int .i64 n, .int .i64 k, wv x] w fun e w' => e = .returned (.int .i64 0) ∧ VWent w w' vb G (m.put k n (x, true)) := by
  obtain ⟨cm, hR⟩ := h.ready hc x
  have hv := hR.vars _ (Below.refl _ _)
  have cC := const_ok hv n hn
  rw [hC] at cC
  have cK := check_ok vb cm n _ hn (hR.cells _ (Below.refl _ _)).1
  have cS := isScope_yes k (w.alloc (.cells #[.int .i64 x.1, .int .i64 x.2] 28)) h1 h2
  have HN := Lib.hid (And.intro hn h2)
  have HR := Lib.hid hR
  have CK := Lib.hid cK
  have CC := Lib.hid cC
  have CS := Lib.hid cS
  clear h hn hc hC hR cK cC cS hv h1 h2
  go_enter Try.func21, Try.ntmps21
  go_wp2_with fail
  generalize w.alloc (.cells #[.int .i64 x.1, .int .i64 x.2] 28) = wb at *
  refine CK.out.mono ?_
  rintro e w1 ⟨rfl, rfl⟩
  go_wp2_with fail
  refine CS.out.mono ?_
  rintro e w2 ⟨rfl, rfl⟩
  go_wp2_with fail
  refine CC.out.mono ?_
  rintro e w3 ⟨rfl, rfl⟩
  go_wp2_with fail
  have HK := Lib.hid (show Below w3.heap.size w3 w3.drew from (Below.refl _ _).drew)
  go_region_held3 (fun X => X.cell? ⟨vb, 0, none⟩ = some (.map (some cm)) ∧ X.cell? ⟨w.heap.size, 0, none⟩ = some (.int .i64 x.1) ∧ X.cell? ⟨w.heap.size, 1, none⟩ = some (.int .i64 x.2))
    (first | with_reducible exact HR.out.cells _ HK.out | with_reducible exact HZ.out)
    (first
      | (go_at_call 37; (with_reducible refine (full_any x _).mono ?_); rintro e wq ⟨rfl, hb⟩; have HK2 := Lib.hid (HK.out.trans (hb.mono HK.out.size)); clear HK hb; have HK := HK2; clear HK2)
      | (go_at_call 36; (with_reducible refine (HR.out.store _ _ _ _ HK.out HN.out.2 HN.out.1).mono ?_); rintro e wq ⟨rfl, hV, hz⟩; have HV := Lib.hid hV; have HZ := Lib.hid hz; clear hV hz))
  all_goals (go_wp2; go_ret; exact ⟨rfl, HV.out⟩)
def Vs.makeLocal (m : Vs) (n : Nat) : Vs := if (m.cells m.scope n).isSome then m else m.put m.scope n (m.at 0 n)
/-- What MakeLocal needs. -/
theorem VarsAt.mlready {w : World} {vb : Nat} {G : Nat → Nat} {m : Vs} (h : VarsAt w vb G m) (hc : m.cnt ≤ 1000000) (n : Nat) (hn : n < 16384) : ∃ cm,
    (∀ X, Below w.heap.size w X → X.cell? ⟨vb, 0, none⟩ = some (.map (some cm)) ∧ X.cell? ⟨vb, 1, none⟩ = some (.int .i64 m.scope)) ∧
    (∀ X, Below w.heap.size w X → Calls Try.prog 42 #[.map (some cm), .int .i64 m.scope, .int .i64 n] X fun e w' => e = .returned (.bool (m.cells m.scope n).isSome) ∧ w' = X) ∧
    (∀ X, Below w.heap.size w X → Calls Try.prog 43 #[.map (some cm), .int .i64 0, .int .i64 n] X fun e w' => e = .returned (cag (m.at 0 n)) ∧ Below X.heap.size X w') ∧
    (∀ X c, Below w.heap.size w X → Calls Try.prog 36 #[.map (some cm), .int .i64 m.scope, .int .i64 n, cag c] X fun e w' => e = .returned (.tuple #[]) ∧ VWent w w' vb G (m.put m.scope n c) ∧
      (w'.cell? ⟨vb, 0, none⟩ = some (.map (some cm)) ∧ w'.cell? ⟨vb, 1, none⟩ = some (.int .i64 m.scope))) := by
  obtain ⟨cm, mm, bv, sc, cb, h1, h2, h3, hFu, hfin⟩ := h.celled
  have hce : ∀ X, Below w.heap.size w X → X.cell? ⟨vb, 0, none⟩ = some (.map (some cm)) ∧ X.cell? ⟨vb, 1, none⟩ = some (.int .i64 m.scope) := fun X hX =>
    ⟨(cell_at ((hX.block _ (lt_at h1)).trans h1)).trans rfl, (cell_at ((hX.block _ (lt_at h1)).trans h1)).trans rfl⟩
  refine ⟨cm, hce, fun X hX => ?_, fun X hX => content_any (h2.below hX) 0 n (by decide) hn, fun X c hX => ?_⟩
  · have c := has_any (h2.below hX) m.scope n h.scope hn
    rwa [h2.some_iff] at c
  · have hXs := hX.size
    refine (store_any (h2.below hX) (fun j hj => h.new j (by omega)) m.scope n h.scope hn hc c hFu).mono ?_
    rintro e w' ⟨he, G', sc', cb', hC, hw, hFu'⟩
    have hV := hfin X w' G' _ _ sc' cb' hX (Nat.le_add_right _ 2) hC hw hFu'
    have hst := (CWent.after hX hw h.new).block
    have e1 := (hst vb (lt_at h1) (by rw [h.lab]; decide) (by rw [h.lab]; decide)).trans h1
    exact ⟨he, hV, cell_at e1, cell_at e1⟩
set_option maxHeartbeats 2000000 in
set_option maxRecDepth 100000 in
theorem makelocal_ok {w : World} {vb : Nat} {G : Nat → Nat} {m : Vs} (h : VarsAt w vb G m) (n : Nat) (hn : n < 16384) (hc : m.cnt ≤ 1000000) (hC : hasC (m.marks n) = false) (hs : 1 ≤ m.scope) :
    Calls Try.prog 13 #[hptr vb, .int .i64 n] w fun e w' => e = .returned (.int .i64 0) ∧ VWent w w' vb G (m.makeLocal n) := by
  obtain ⟨cm, hce, hha, hco, hst⟩ := h.mlready hc n hn
  have cK := change_any h n hn
  rw [hC] at cK
  have HV := Lib.hid h
  unfold Vs.makeLocal
  obtain ⟨d0, d1⟩ := hce w (Below.refl _ _)
  have hd : ((m.scope : Int) == 0) = false := by rw [beq_eq_false_iff_ne]; omega
  have cH := fun q => hha (w.drewN q) (below_drewN w q)
  generalize (m.cells m.scope n).isSome = b at *
  have CE := Lib.hid hce
  have CO := Lib.hid hco
  have CT := Lib.hid hst
  have CH := Lib.hid cH
  clear h hn hc hC hs hce hha hco hst cH
  cases b
  · go_enter Try.func13, Try.ntmps13
    go_wp2_with fail
    refine cK.mono ?_
    rintro e w1 ⟨rfl, rfl⟩
    go_wp2_with fail
    go_quiet ((go_at_call 42; exact Calls.quiet_of_same (CH.out _)))
    go_wp2_with fail
    have HK := Lib.hid (show Below w1.heap.size w1 (w1.drewN nq).drew from (below_drewN _ _).drew)
    go_region_held3 (fun X => X.cell? ⟨vb, 0, none⟩ = some (.map (some cm)) ∧ X.cell? ⟨vb, 1, none⟩ = some (.int .i64 m.scope))
      (first | with_reducible exact CE.out _ HK.out | with_reducible exact HZ.out)
      (first
        | (go_at_call 43; (with_reducible refine (CO.out _ (below_drewN w1 _)).mono ?_); rintro e wq ⟨rfl, hb⟩; have HK2 := Lib.hid ((below_drewN w1 _).trans (hb.mono (below_drewN w1 _).size)); clear HK hb; have HK := HK2; clear HK2)
        | (go_at_call 36; (with_reducible refine (CT.out _ _ HK.out).mono ?_); rintro e wq ⟨rfl, hV, hz⟩; have HW := Lib.hid hV; have HZ := Lib.hid hz; clear hV hz))
    all_goals (go_wp2; go_ret; exact ⟨rfl, HW.out⟩)
  · go_enter Try.func13, Try.ntmps13
    go_wp2_with fail
    refine cK.mono ?_
    rintro e w1 ⟨rfl, rfl⟩
    go_wp2_with fail
    go_quiet ((go_at_call 42; exact Calls.quiet_of_same (CH.out _)))
    go_wp2
    go_ret
    exact ⟨rfl, VWent.of_below HV.out (below_drewN _ _)⟩
/-- IsLocal. -/
theorem islocal_ok {w : World} {vb : Nat} {G : Nat → Nat} {m : Vs} (h : VarsAt w vb G m) (n : Nat) (hn : n < 16384) (k : Nat) (h1 : 1 ≤ k) (h2 : k ≤ 65536) :
    Calls Try.prog 32 #[hptr vb, .int .i64 n, .int .i64 k] w fun e w' => e = .returned (.bool (m.cells k n).isSome) ∧ Below w.heap.size w w' := by
  obtain ⟨cm, mm, bv, sc, cb, e1, e2, e3, hFu, hfin⟩ := h.celled
  have cV := h.valid
  have cH := has_any e2 k n h2 hn
  rw [e2.some_iff] at cH
  have c0 : w.cell? ⟨vb, 0, none⟩ = some (.map (some cm)) := cell_at e1
  have cS0 := isScope_yes k w h1 h2
  generalize (m.cells k n).isSome = b at *
  have CV := Lib.hid cV
  have CS := Lib.hid cS0
  have CH := Lib.hid cH
  clear h e1 e2 e3 hFu hfin cV cH cS0 h1 h2 hn
  go_enter Try.func32, Try.ntmps32
  go_wp2_with fail
  refine CV.out.mono ?_
  rintro e w1 ⟨rfl, rfl⟩
  go_wp2_with fail
  refine CS.out.mono ?_
  rintro e w2 ⟨rfl, rfl⟩
  go_wp2_with fail
  refine CH.out.mono ?_
  rintro e w3 ⟨rfl, rfl⟩
  go_wp2
  go_ret
  exact ⟨rfl, Below.refl _ _⟩
end Go.Proofs.Ytgkblfegjmeolaa
