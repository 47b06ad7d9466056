/- VarsConst: the walk. -/
import Derived.Test.YtgkblfegjmeolaaVaLives
import Derived.Test.YtgkblfegjmeolaaVaLocals
import Derived.Test.YtgkblfegjmeolaaVaDeepSpec
namespace Go.Proofs.Ytgkblfegjmeolaa
open Go.RowKit Go.Lib Go.Shelf
def cs1 (a : Nat) (x : Wd) : Vs := vsN.put 0 a (x, true)
def cs2 (a : Nat) (x : Wd) (k : Nat) : Vs := { cs1 a x with scope := k }
def cs3 (a : Nat) (x : Wd) (k : Nat) : Vs := (cs2 a x k).mark a
theorem cs_home1 (a : Nat) : vsN.home a = 0 := home_zero (m := vsN) rfl a
theorem vsN_marks (a : Nat) (ha : 2 ≤ a) : vsN.marks a = 0 := by
  show (if a = 1 then 3 else if a = 0 then 3 else 0) = 0
  rw [if_neg (by omega), if_neg (by omega)]
theorem vsN_none (k a : Nat) (hk : 1 ≤ k) : vsN.cells k a = none := by
  show upd (upd (fun _ _ => none) 0 0 (some (symC 0))) 0 1 (some (symC 1)) k a = none
  unfold upd
  rw [if_neg (by omega), if_neg (by omega)]
theorem cs3_none (a : Nat) (x : Wd) (k k' n : Nat) (hk : 1 ≤ k') : (cs3 a x k).cells k' n = none := by
  show upd vsN.cells 0 a (some (x, true)) k' n = none
  unfold upd
  rw [if_neg (by omega)]
  exact vsN_none k' n hk
theorem cs3_get (a : Nat) (x : Wd) (k : Nat) (hk : 1 ≤ k) : (cs3 a x k).at ((cs3 a x k).home a) a = (x, true) := by
  have h0 : (cs3 a x k).home a = 0 := by
    unfold Vs.home
    rw [show (cs3 a x k).scope = k from rfl, cs3_none a x k k a hk]
    rfl
  rw [h0]
  show (upd vsN.cells 0 a (some (x, true)) 0 a).getD noC = _
  unfold upd
  rw [if_pos ⟨rfl, rfl⟩]
  rfl
theorem cs3_markC (a : Nat) (x : Wd) (k : Nat) : hasC ((cs3 a x k).marks a) = true := by
  show hasC (if a = a then 3 else _) = true
  rw [if_pos rfl]; rfl
theorem cs3_markS (a : Nat) (x : Wd) (k : Nat) : hasS ((cs3 a x k).marks a) = true := by
  show hasS (if a = a then 3 else _) = true
  rw [if_pos rfl]; rfl
theorem cs3_other (a b : Nat) (x : Wd) (k : Nat) (hb : 2 ≤ b) (hne : b ≠ a) : hasC ((cs3 a x k).marks b) = false := by
  show hasC (if b = a then 3 else vsN.marks b) = false
  rw [if_neg hne, vsN_marks b hb]; rfl
theorem other_ne (a : Nat) : 2 + pickZ (a : Int) 16382 ≠ (a : Int) := by
  unfold pickZ
  rw [if_neg (by decide)]
  have e : (a : Int).tmod 16382 = ((a % 16382 : Nat) : Int) := by
    rw [show (16382 : Int) = ((16382 : Nat) : Int) from rfl]
    exact (Int.ofNat_tmod a 16382).symm
  rw [e, if_neg (by omega)]
  omega
set_option maxRecDepth 100000 in
set_option maxHeartbeats 1000000 in
theorem const_any' (n : Int) (x y : Wd) (kk : Int) (w : World) : Calls Try.prog 6 #[.int .i64 n, wv x, wv y, .int .i64 kk] w fun e w' => e = .returned (.bool true) ∧ Below w.heap.size w w' := by
  obtain ⟨q0, q1⟩ := pickZ_in n 16382 (by decide)
  obtain ⟨q2, q3⟩ := pickZ_in kk 65536 (by decide)
  obtain ⟨a, ha⟩ : ∃ a : Nat, 2 + pickZ n 16382 = (a : Int) := ⟨(2 + pickZ n 16382).toNat, by omega⟩
  obtain ⟨k, hk⟩ : ∃ k : Nat, 1 + pickZ kk 65536 = (k : Int) := ⟨(1 + pickZ kk 65536).toNat, by omega⟩
  have ha2 : 2 ≤ a := by omega
  have ha3 : a < 16384 := by omega
  have hk1 : 1 ≤ k := by omega
  have hk2 : k ≤ 65536 := by omega
  go_enter Try.func6, Try.ntmps6
  go_wp2_with fail
  have hb0 : Below w.heap.size w ((w.alloc (.cells #[.int .i64 x.1, .int .i64 x.2] 28)).alloc (.cells #[.int .i64 y.1, .int .i64 y.2] 28)) := ((Below.refl _ _).alloc (Nat.le_refl _) _).alloc (by simp) _
  have k0 : ((w.alloc (.cells #[.int .i64 x.1, .int .i64 x.2] 28)).alloc (.cells #[.int .i64 y.1, .int .i64 y.2] 28)).heap[w.heap.size]? = some (.cells #[.int .i64 x.1, .int .i64 x.2] 28) := (((Below.refl _ _).alloc (Nat.le_refl _) _).block _ (by simp)).trans (alloc_at w _)
  have k1 : ((w.alloc (.cells #[.int .i64 x.1, .int .i64 x.2] 28)).alloc (.cells #[.int .i64 y.1, .int .i64 y.2] 28)).heap[w.heap.size + 1]? = some (.cells #[.int .i64 y.1, .int .i64 y.2] 28) := by
    have := alloc_at (w.alloc (.cells #[.int .i64 x.1, .int .i64 x.2] 28)) (.cells #[.int .i64 y.1, .int .i64 y.2] 28)
    simpa using this
  generalize ((w.alloc (.cells #[.int .i64 x.1, .int .i64 x.2] 28)).alloc (.cells #[.int .i64 y.1, .int .i64 y.2] 28)) = W at *
  have hX0 : ∀ X, Below W.heap.size W X → X.cell? ⟨w.heap.size, 0, none⟩ = some (.int .i64 x.1) ∧ X.cell? ⟨w.heap.size, 1, none⟩ = some (.int .i64 x.2) ∧ X.cell? ⟨w.heap.size + 1, 0, none⟩ = some (.int .i64 y.1) ∧ X.cell? ⟨w.heap.size + 1, 1, none⟩ = some (.int .i64 y.2) := fun X hX =>
    ⟨(cell_at ((hX.block _ (lt_at k0)).trans k0)).trans rfl, (cell_at ((hX.block _ (lt_at k0)).trans k0)).trans rfl, (cell_at ((hX.block _ (lt_at k1)).trans k1)).trans rfl, (cell_at ((hX.block _ (lt_at k1)).trans k1)).trans rfl⟩
  have HX0 := Lib.hid hX0
  have HW := Lib.hid hb0
  clear hX0 hb0 k0 k1
  refine (lives_any W).mono ?_
  rintro e W0 ⟨rfl, hb⟩
  have HX1 := Lib.hid (fun X (hX : Below W0.heap.size W0 X) => HX0.out X (hb.trans (hX.mono hb.size)))
  have H0 := Lib.hid (HW.out.trans (hb.mono HW.out.size))
  clear hb HX0 HW
  go_wp2_with fail
  refine (pick_any n 16382 W0 (by decide) (by decide)).mono ?_
  rintro e W1 ⟨rfl, rfl⟩
  go_wp2_with fail
  refine (pick_any kk 65536 W1 (by decide) (by decide)).mono ?_
  rintro e W2 ⟨rfl, rfl⟩
  go_wp2_with fail
  refine (new_any W2).mono ?_
  rintro e W3 ⟨vb, G3, rfl, h3⟩
  have H3 := Lib.hid h3
  have HN := Lib.hid (And.intro ha2 (And.intro ha3 (And.intro hk1 hk2)))
  clear h3 q0 q1 q2 q3 ha2 ha3 hk1 hk2
  obtain ⟨z0, z1, z2, z3⟩ := HX1.out _ H3.out.below
  go_wp2_with fail
  have cS := set_ok H3.out.vars a HN.out.2.1 (by decide) (by rw [vsN_marks a HN.out.1]; rfl) x
  rw [cs_home1] at cS
  refine cS.mono ?_
  rintro e W4 ⟨rfl, hw⟩
  obtain ⟨G4, h4⟩ := H3.out.went hw
  have H4 := Lib.hid (show VK W2 W4 vb G4 (cs1 a x) [] from h4)
  clear hw h4 H3 cS z0 z1 z2 z3
  go_wp2_with fail
  refine (setscope_ok H4.out.vars k HN.out.2.2.1 HN.out.2.2.2).mono ?_
  rintro e W5 ⟨rfl, hw⟩
  obtain ⟨G5, h5⟩ := H4.out.went hw
  have H5 := Lib.hid (show VK W2 W5 vb G5 (cs2 a x k) [] from h5)
  clear hw h5 H4
  go_wp2_with fail
  refine (markconst_ok H5.out.vars a HN.out.2.1 (by show vsN.cnt + 2 ≤ 1000000; decide)).mono ?_
  rintro e W6 ⟨rfl, hw⟩
  obtain ⟨G6, h6⟩ := H5.out.went hw
  have H6 := Lib.hid (show VK W2 W6 vb G6 (cs3 a x k) [] from h6)
  clear hw h6 H5
  go_wp2_with fail
  have cP := special_ok H6.out.vars a HN.out.2.1
  rw [cs3_markS] at cP
  refine cP.mono ?_
  rintro e W7 ⟨rfl, rfl⟩
  clear cP
  go_wp2_with fail
  have cQ := const_ok H6.out.vars a HN.out.2.1
  rw [cs3_markC] at cQ
  refine cQ.mono ?_
  rintro e W8 ⟨rfl, rfl⟩
  clear cQ
  go_wp2_with fail
  have HS := Lib.hid (fun X (hX : Below W8.heap.size W8 X) => (HX1.out X (H6.out.junk hX).below).2.2)
  have HK := Lib.hid (show Below W8.heap.size W8 W8.drew from (Below.refl _ _).drew)
  go_region_held3 (fun X => X.cell? ⟨w.heap.size + 1, 0, none⟩ = some (.int .i64 y.1) ∧ X.cell? ⟨w.heap.size + 1, 1, none⟩ = some (.int .i64 y.2))
    (first | with_reducible exact HS.out _ HK.out | with_reducible exact HS.out _ (HK.out.alloc HK.out.size _))
    (first
      | (go_at_call 14; (with_reducible refine (set_const (H6.out.junk HK.out).vars a HN.out.2.1 (cs3_markC a x k) y).mono ?_); rintro e wq ⟨rfl, hb2⟩; have HK2 := Lib.hid (HK.out.trans (hb2.mono HK.out.size)); clear HK hb2; have HK := HK2; clear HK2)
      | (go_at_call 35; (with_reducible refine (clear_const (H6.out.junk HK.out).vars a HN.out.2.1 (cs3_markC a x k)).mono ?_); rintro e wq ⟨rfl, hb2⟩; have HK2 := Lib.hid (HK.out.trans (hb2.mono HK.out.size)); clear HK hb2; have HK := HK2; clear HK2)
      | (go_at_call 17; (with_reducible refine (bind_const (H6.out.junk HK.out).vars a HN.out.2.1 (cs3_markC a x k) y).mono ?_); rintro e wq ⟨rfl, hb2⟩; have HK2 := Lib.hid (HK.out.trans (hb2.mono HK.out.size)); clear HK hb2; have HK := HK2; clear HK2)
      | (go_at_call 13; (with_reducible refine (makelocal_const (H6.out.junk HK.out).vars a HN.out.2.1 (cs3_markC a x k)).mono ?_); rintro e wq ⟨rfl, hb2⟩; have HK2 := Lib.hid (HK.out.trans (hb2.mono HK.out.size)); clear HK hb2; have HK := HK2; clear HK2)
      | (go_at_call 21; (with_reducible refine (setlocal_const (H6.out.junk HK.out).vars a HN.out.2.1 (cs3_markC a x k) k HN.out.2.2.1 HN.out.2.2.2 y).mono ?_); rintro e wq ⟨rfl, hb2⟩; have HK2 := Lib.hid (HK.out.trans (hb2.mono HK.out.size)); clear HK hb2; have HK := HK2; clear HK2)
      | (go_at_call 10; (with_reducible refine (setdef_const (H6.out.junk HK.out).vars a HN.out.2.1 (cs3_markC a x k) y).mono ?_); rintro e wq ⟨rfl, hb2⟩; have HK2 := Lib.hid (HK.out.trans (hb2.mono HK.out.size)); clear HK hb2; have HK := HK2; clear HK2))
  have h9 := (H6.out.junk HK.out).add (b := wq.heap.size) ((Below.refl _ _).alloc (Nat.le_refl _) (.cells #[.int .i64 10, .int .i64 10, .int .i64 10, .int .i64 10, .int .i64 10, .int .i64 10] 25)) (Nat.le_refl _) (alloc_at wq _)
  generalize wq.alloc (.cells #[.int .i64 10, .int .i64 10, .int .i64 10, .int .i64 10, .int .i64 10, .int .i64 10] 25) = W9 at *
  generalize wq.heap.size = eb at *
  have H9 := Lib.hid h9
  clear h9 HK H6 HS
  have hcell : ∀ j : Nat, j < 6 → W9.cell? ⟨eb, j, none⟩ = some (.int .i64 10) := fun j hj => by
    rw [cell_at (H9.out.has _ (.head _)).1]
    have : j = 0 ∨ j = 1 ∨ j = 2 ∨ j = 3 ∨ j = 4 ∨ j = 5 := by omega
    rcases this with rfl | rfl | rfl | rfl | rfl | rfl <;> rfl
  have HC := Lib.hid hcell
  clear hcell
  go_wp2_with fail
  go_loopw [11] (fun i wr => ∃ j : Nat, i = .int .i64 j ∧ j ≤ 6 ∧ wr = W9) (fun i _ => 6 - (RowKit.intOf i).toNat)
  case atStart => exact ⟨0, rfl, by decide, rfl⟩
  case round =>
    obtain ⟨j, rfl, hj, rfl⟩ := hrel
    by_cases hlt : (j : Int) < 6
    · have hj6 : j < 6 := by omega
      have hc := HC.out j hj6
      go_wp2
      go_roundw
      case rel => exact ⟨j + 1, by go_num, by omega, trivial⟩
      case measure => simp [RowKit.intOf]; omega
    · obtain rfl : j = 6 := by omega
      clear hj
      go_wp2_with fail
      have cG := get_ok H9.out.vars a HN.out.2.1
      rw [cs3_get a x k HN.out.2.2.1] at cG
      refine cG.mono ?_
      rintro e W10 ⟨rfl, hb⟩
      have H10 := Lib.hid (H9.out.junk hb)
      clear hb cG H9 HC
      go_wp2_with fail
      have h11 := H10.out.add (b := W10.heap.size) ((Below.refl _ _).alloc (Nat.le_refl _) (.cells #[.int .i64 x.1, .int .i64 x.2] 28)) (Nat.le_refl _) (alloc_at W10 _)
      generalize W10.alloc (.cells #[.int .i64 x.1, .int .i64 x.2] 28) = W11 at *
      generalize W10.heap.size = bx at *
      have H11 := Lib.hid h11
      clear h11 H10
      obtain ⟨r0, r1⟩ := pickZ_in (a : Int) 16382 (by decide)
      obtain ⟨o, ho⟩ : ∃ o : Nat, 2 + pickZ (a : Int) 16382 = (o : Int) := ⟨(2 + pickZ (a : Int) 16382).toNat, by omega⟩
      have hne : o ≠ a := fun h => other_ne a (by rw [ho, h])
      have HO := Lib.hid (show 2 ≤ o ∧ o < 16384 ∧ o ≠ a from ⟨by omega, by omega, hne⟩)
      clear r0 r1 hne
      refine (pick_any (a : Int) 16382 W11 (by decide) (by decide)).mono ?_
      rintro e W12 ⟨rfl, rfl⟩
      have o1 : (o : Int) < 16384 := by have := HO.out; omega
      have o2 : ((o : Int) == (a : Int)) = false := by rw [beq_eq_false_iff_ne]; have := HO.out; omega
      have o3 : ¬ o = a := HO.out.2.2
      have o4 : ¬ (o : Int) = (a : Int) := by omega
      have e1 := (H11.out.has _ (.head _)).1
      have u0 : W12.cell? ⟨bx, 0, none⟩ = some (.int .i64 x.1) := (cell_at e1).trans rfl
      have u1 : W12.cell? ⟨bx, 1, none⟩ = some (.int .i64 x.2) := (cell_at e1).trans rfl
      obtain ⟨z0, z1, z2, z3⟩ := HX1.out _ H11.out.below
      clear e1
      go_wp2_with fail
      have cD := depth_ok H11.out.vars
      rw [show (cs3 a x k).binds.length = 0 from rfl] at cD
      refine cD.mono ?_
      rintro e W13 ⟨rfl, rfl⟩
      clear cD
      go_wp2_with fail
      refine (locals_none H11.out.vars k HN.out.2.2.1 HN.out.2.2.2 (fun n => cs3_none a x k k n HN.out.2.2.1)).mono ?_
      rintro e W14 ⟨rfl, hb⟩
      have H14 := Lib.hid (H11.out.junk hb)
      clear hb H11 z0 z1 z2 z3 u0 u1
      obtain ⟨z0, z1, z2, z3⟩ := HX1.out _ H14.out.below
      go_wp2_with fail
      have hc9 : (cs3 a x k).cnt ≤ 1000000 := by show vsN.cnt + 2 + 2 ≤ 1000000; decide
      refine (set_ok H14.out.vars o HO.out.2.1 hc9 (cs3_other a o x k HO.out.1 HO.out.2.2) y).mono ?_
      rintro e W15 ⟨rfl, hw⟩
      obtain ⟨G15, h15⟩ := H14.out.went hw
      have H15 := Lib.hid h15
      clear hw h15 H14 z0 z1 z2 z3
      go_wp2
      go_ret
      exact ⟨rfl, H0.out.trans (H15.out.below.mono H0.out.size)⟩
end Go.Proofs.Ytgkblfegjmeolaa
