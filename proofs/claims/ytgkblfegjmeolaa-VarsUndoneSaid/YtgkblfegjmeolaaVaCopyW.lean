/- Copy of variables: the walk. -/
import Derived.Test.YtgkblfegjmeolaaVaCopy
import Derived.Test.YtgkblfegjmeolaaVaShelf2
import Derived.Deep.RegionHeld3
namespace Go.Proofs.Ytgkblfegjmeolaa
open Go.RowKit Go.Lib Go.Shelf
/-- Variables as they lie, but for what their bindings' functions hold. -/
structure VarsW (w : World) (vb : Nat) (G : Nat → Nat) (m : Vs) : Prop where
  new : ∀ j, w.heap.size ≤ j → G j = 0
  lab : G vb = 1
  scope : m.scope ≤ 65536
  marks : ∀ n, m.marks n ≤ 3
  lies : ∃ cm mm bv sc cb bs, w.heap[vb]? = some (.cells #[.map (some cm), .int .i64 m.scope, .map (some mm), bv] 58 (0, 0)) ∧ G mm = 3 ∧ CellsAt w G m.cells m.cnt cm sc cb ∧ MapF w markE mm m.cnt (markF m.marks) ∧ Full sc cb ∧
    bs.map Bd.out = m.binds ∧ Row w G 4 68 4 bv bs.length (bcells bs)
theorem VarsAt.weak {w : World} {vb : Nat} {G : Nat → Nat} {m : Vs} (h : VarsAt w vb G m) : VarsW w vb G m := by
  obtain ⟨new, lab, sco, mrk, cm, mm, bv, sc, cb, bs, h1, h2, h3, h4, hF, h5, h6, h7⟩ := h
  exact ⟨new, lab, sco, mrk, cm, mm, bv, sc, cb, bs, h1, h2, h3, h4, hF, h5, h6⟩
theorem VarsW.keep {w w' : World} {vb : Nat} {G : Nat → Nat} {m : Vs} (h : VarsW w vb G m) (hb : ∀ k, k < w.heap.size → G k ≠ 0 → w'.heap[k]? = w.heap[k]?) : VarsW w' vb G m := by
  obtain ⟨new, lab, sco, mrk, cm, mm, bv, sc, cb, bs, h1, h2, h3, h4, hF, h5, h6⟩ := h
  exact ⟨new_keep new hb, lab, sco, mrk, cm, mm, bv, sc, cb, bs, (hb vb (lt_at h1) (by omega)).trans h1, h2, h3.keep (fun j hj e => hb j hj (by omega)) (fun _ _ _ => rfl), h4.move (hb mm h4.lt (by omega)), hF, h5, h6.keep (fun k hk e => hb k hk (by omega)) (fun _ _ e => e)⟩
theorem VarsW.below {w w' : World} {vb : Nat} {G : Nat → Nat} {m : Vs} (h : VarsW w vb G m) (hw : Below w.heap.size w w') : VarsW w' vb G m := h.keep fun k hk _ => hw.block k hk
theorem VarsW.made {w W1 W2 W3 W4 : World} {G2 : Nat → Nat} {m : Vs} {cy cmy mb2 vb2 c : Nat} {v2 : Value} {bs : List Bd} (hC : CopyC w W1 G2 m.cells cy cmy) (hcy : cy ≤ 400000) (b12 : Below W1.heap.size W1 W2) (hm : MapF W2 markE mb2 c (markF m.marks)) (hc : c ≤ 400000) (hmb : W1.heap.size ≤ mb2)
    (hb : BNew W2 W3 v2 bs) (b34 : Below W3.heap.size W3 W4) (hv : W4.heap[vb2]? = some (.cells #[.map (some cmy), .int .i64 m.scope, .map (some mb2), v2] 58 (0, 0))) (hvb : W3.heap.size ≤ vb2) (sco : m.scope ≤ 65536) (mrk : ∀ n, m.marks n ≤ 3) (hbs : bs.map Bd.out = m.binds) :
    ∃ F, VarsW W4 vb2 F { m with cnt := 400000 } ∧ (∀ j, j < w.heap.size → F j = 0) ∧ Below w.heap.size w W4 := by
  obtain ⟨b23, Gn, hGn, hrow⟩ := hb
  obtain ⟨h1, h2, h3, h4, sc, cb, h5, h6⟩ := hC
  have s01 := h1.size
  have s12 := b12.size
  have s23 := b23.size
  have s34 := b34.size
  have hmb2 := hm.lt
  have hvl := lt_at hv
  have b24 : Below W2.heap.size W2 W4 := b23.trans (b34.mono s23)
  have b14 : Below W1.heap.size W1 W4 := b12.trans (b24.mono s12)
  refine ⟨fun j => if j = vb2 then 1 else if j = mb2 then 3 else if W2.heap.size ≤ j then Gn j else G2 j, ⟨fun j hj => ?_, if_pos rfl, sco, mrk, cmy, mb2, v2, sc, cb, bs, hv, ?_, ?_, (hm.move (b24.block mb2 hmb2)).mono hc, h6, hbs, hrow.keep (fun k hk _ => b34.block k hk) (fun k hk e => ?_)⟩, fun j hj => ?_, h1.trans (b14.mono s01)⟩
  · show (if j = vb2 then 1 else if j = mb2 then 3 else if W2.heap.size ≤ j then Gn j else G2 j) = 0
    rw [if_neg (by omega), if_neg (by omega), if_pos (by omega)]
    rcases Nat.eq_zero_or_pos (Gn j) with h | h
    · exact h
    · have := (hGn j (by omega)).2; omega
  · show (if mb2 = vb2 then 1 else if mb2 = mb2 then 3 else _) = 3
    rw [if_neg (by omega), if_pos rfl]
  · refine (h5.keep (fun j hj _ => b14.block j hj) (fun j hj _ => ?_)).mono hcy
    show (if j = vb2 then 1 else if j = mb2 then 3 else if W2.heap.size ≤ j then Gn j else G2 j) = G2 j
    rw [if_neg (by omega), if_neg (by omega), if_neg (by omega)]
  · have := (hGn k (by omega)).1
    show (if k = vb2 then 1 else if k = mb2 then 3 else if W2.heap.size ≤ k then Gn k else G2 k) = 4
    rw [if_neg (by omega), if_neg (by omega), if_pos this]
    exact e
  · show (if j = vb2 then 1 else if j = mb2 then 3 else if W2.heap.size ≤ j then Gn j else G2 j) = 0
    rw [if_neg (by omega), if_neg (by omega), if_neg (by omega)]
    exact h3 j hj
theorem mmclone_any {w : World} {mm c : Nat} {f : Nat → Option Value} (h : MapF w markE mm c f) : Calls Try.prog 53 #[.map (some mm)] w fun e w' => e = .returned (.map (some w.heap.size)) ∧ MapF w' markE w.heap.size c f ∧ Below w.heap.size w w' := by
  obtain ⟨D, h1, h2⟩ := h
  refine (Go.Proofs.AnyW.maps_Clone_owns Try.mcloneA 3 markE mm c D w h1).mono ?_
  rintro e w' ⟨e1, e2, _, e4⟩
  exact ⟨e1, ⟨D, e2, h2⟩, e4⟩
set_option maxHeartbeats 4000000 in
set_option maxRecDepth 100000 in
theorem vcopy_any {w : World} {vb : Nat} {G : Nat → Nat} {m : Vs} (h : VarsAt w vb G m) (hk : ∀ k n, (m.cells k n).isSome = true → k ≤ 65536) (hc : m.cnt ≤ 400) (hl : m.binds.length ≤ 2000) :
    Calls Try.prog 23 #[hptr vb] w fun e w' => ∃ vb2 F, e = .returned (hptr vb2) ∧ VarsW w' vb2 F { m with cnt := 400000 } ∧ (∀ j, j < w.heap.size → F j = 0) ∧ Below w.heap.size w w' := by
  have cV := h.valid
  obtain ⟨new, lab, sco, mrk, cm, mm, bv, sc, cb, bs, h1, h2, h3, h4, hF, h5, h6, h7⟩ := h
  have hbl : bs.length = m.binds.length := by rw [← h5]; simp
  obtain ⟨a, cp, rfl⟩ := h6.slice
  have hE : ∀ X, Below w.heap.size w X → X.cell? ⟨vb, 0, none⟩ = some (.map (some cm)) ∧ X.cell? ⟨vb, 1, none⟩ = some (.int .i64 m.scope) ∧ X.cell? ⟨vb, 2, none⟩ = some (.map (some mm)) ∧ X.cell? ⟨vb, 3, none⟩ = some (.slice a bs.length cp) := fun X hX => by
    have e := (hX.block _ (lt_at h1)).trans h1
    exact ⟨(cell_at e).trans rfl, (cell_at e).trans rfl, (cell_at e).trans rfl, (cell_at e).trans rfl⟩
  have c1 : ∀ X, Below w.heap.size w X → Calls Try.prog 52 #[.map (some cm)] X fun e w' => ∃ cmy G2 cy, e = .returned (.map (some cmy)) ∧ CopyC X w' G2 m.cells cy cmy ∧ cy ≤ 400000 := fun X hX => cclone_any (h3.below hX) hF hk hc
  have c2 : ∀ X, Below w.heap.size w X → Calls Try.prog 53 #[.map (some mm)] X fun e w' => e = .returned (.map (some X.heap.size)) ∧ MapF w' markE X.heap.size m.cnt (markF m.marks) ∧ Below X.heap.size X w' := fun X hX => mmclone_any (h4.move (hX.block mm h4.lt))
  have c3 : ∀ X, Below w.heap.size w X → Calls Try.prog 54 #[.slice a bs.length cp] X fun e w' => ∃ v, e = .returned v ∧ BNew X w' v bs := fun X hX => slclone_any (h6.keep (fun k hk _ => hX.block k hk) (fun _ _ e => e)) (by omega)
  have HE := Lib.hid hE
  have H1 := Lib.hid c1
  have H2 := Lib.hid c2
  have H3 := Lib.hid c3
  have HM := Lib.hid (And.intro sco (And.intro mrk (And.intro h5 hc)))
  clear new lab sco mrk h1 h2 h3 h4 hF h5 h6 h7 hE c1 c2 c3 hk hc hl hbl
  go_enter Try.func23, Try.ntmps23
  go_wp2_with fail
  refine cV.mono ?_
  rintro e w1 ⟨rfl, rfl⟩
  go_wp2_with fail
  have HK := Lib.hid (show Below w1.heap.size w1 w1.drew from (Below.refl _ _).drew)
  go_region_held3 (fun X => X.cell? ⟨vb, 0, none⟩ = some (.map (some cm)) ∧ X.cell? ⟨vb, 1, none⟩ = some (.int .i64 m.scope) ∧ X.cell? ⟨vb, 2, none⟩ = some (.map (some mm)) ∧ X.cell? ⟨vb, 3, none⟩ = some (.slice a bs.length cp))
    (first | with_reducible exact HE.out _ HK.out | with_reducible exact HE.out _ (HK.out.alloc HK.out.size _))
    (first
      | (go_at_call 52; (with_reducible refine (H1.out _ HK.out).mono ?_); rintro e wq ⟨cmy, G2, cy, rfl, hq1, hq2⟩; have HA := Lib.hid (And.intro hq1 (And.intro hq2 HK.out)); have HK2 := Lib.hid (HK.out.trans (hq1.below.mono HK.out.size)); clear HK hq1 hq2; have HK := HK2; clear HK2)
      | (go_at_call 53; (with_reducible refine (H2.out _ HK.out).mono ?_); rintro e wr ⟨rfl, hq1, hq2⟩; have HB := Lib.hid (And.intro hq1 hq2); have HK2 := Lib.hid (HK.out.trans (hq2.mono HK.out.size)); clear HK hq1 hq2; have HK := HK2; clear HK2)
      | (go_at_call 54; (with_reducible refine (H3.out _ HK.out).mono ?_); rintro e ws ⟨v2, rfl, hq1⟩; obtain ⟨a2, cp2, rfl⟩ := hq1.slice; have HD := Lib.hid hq1; have HK2 := Lib.hid (HK.out.trans (hq1.1.mono HK.out.size)); clear HK hq1; have HK := HK2; clear HK2))
  have b34 : Below ws.heap.size ws (ws.alloc (.cells #[.map (some cmy), .int .i64 m.scope, .map (some wq.heap.size), .slice a2 bs.length cp2] 58)) := (Below.refl _ _).alloc (Nat.le_refl _) _
  obtain ⟨F, f1, f2, _⟩ := VarsW.made HA.out.1 HA.out.2.1 HB.out.2 HB.out.1 (by have := HM.out.2.2.2; omega) (Nat.le_refl _) HD.out b34 (alloc_at ws _) (Nat.le_refl _) HM.out.1 HM.out.2.1 HM.out.2.2.1
  have hb9 := HK.out.trans (b34.mono HK.out.size)
  have HF := Lib.hid (And.intro f1 (And.intro f2 hb9))
  clear b34 f1 f2 hb9
  go_wp2
  go_ret
  exact ⟨_, F, rfl, HF.out.1, HF.out.2.1, HF.out.2.2⟩
end Go.Proofs.Ytgkblfegjmeolaa
