/- The law NamesCells where its two symbols differ. Condition: unicode/utf8's two tables hold what the program's text lays. -/
import Derived.Test.YtoggbifjkhcckaaDoorNmCells0
import Derived.Deep.RegionHeld3
namespace Go.Proofs.YtoggbifjkhcckaaDoor
open Go.RowKit Go.Lib Go.Shelf
theorem below_drw {B : Nat} {a w : World} (h : Below B a w) (q : Nat) : Below B a (w.drewN q) := ⟨h.os, h.tape, h.output, h.size, h.block⟩
theorem props_at {w : World} {tb : Nat} {G : Nat → Nat} {m : Tb} (h : TableAt w tb G m) {i : Nat} {f : Wd} {has : Bool} {k : Int} {u : Wd} {nm : ByteArray} {it : Bool} (hy : m.syms[i]? = some ⟨f, has, [(k, u)], nm, it⟩) (I : Int) (hI : (i : Int) = I) :
    Calls Tryd.prog 35 #[hptr tb, .int .i64 I] w fun e w' => ∃ b' cap, e = .returned (.slice (some ⟨b', 0, none⟩) 1 cap) ∧ PAt w' b' [(k, u)] ∧ b' < w'.heap.size ∧ Below w.heap.size w w' := by
  subst hI
  exact props_any h hy (by simp) (by simp)
theorem same_two {X : World} {b' s c1 c2 : Nat} {k : Int} {u : Wd} (hA : PAt X b' [(k, u)]) (hS : X.heap[s]? = some (.cells #[.int .i64 k, .int .i64 u.1, .int .i64 u.2] 66)) :
    Calls Tryd.prog 34 #[.slice (some ⟨b', 0, none⟩) 1 c1, .slice (some ⟨s, 0, none⟩) 1 c2] X fun e w' => e = .returned (.bool true) ∧ ∃ q, w' = X.drewN q := by
  refine same_eq (some ⟨b', 0, none⟩) (some ⟨s, 0, none⟩) c1 c2 1 [(k, u)] X rfl (by decide) (fun i x hx => ?_) (fun i x hx => ?_)
  · obtain ⟨h1, h2, h3⟩ := hA i x hx
    refine ⟨b', 0, rfl, ?_, ?_, ?_⟩
    · simpa using h1
    · simpa using h2
    · simpa using h3
  · have hi : i = 0 := by
      have := (List.getElem?_eq_some_iff.1 hx).1
      simp at this
      omega
    subst hi
    simp at hx
    subst hx
    exact ⟨s, 0, rfl, cell_at hS, cell_at hS, cell_at hS⟩
theorem same_alloc {X : World} {b' c1 c2 : Nat} {k : Int} {u : Wd} (hA : PAt X b' [(k, u)]) (hb : b' < X.heap.size) :
    Calls Tryd.prog 34 #[.slice (some ⟨b', 0, none⟩) 1 c1, .slice (some ⟨X.heap.size, 0, none⟩) 1 c2] (X.alloc (.cells #[.int .i64 k, .int .i64 u.1, .int .i64 u.2] 66)) fun e w' => e = .returned (.bool true) ∧ ∃ q, w' = (X.alloc (.cells #[.int .i64 k, .int .i64 u.1, .int .i64 u.2] 66)).drewN q :=
  same_two (hA.below ((Below.refl _ _).alloc (Nat.le_refl _) _) hb) (alloc_at _ _)
set_option maxHeartbeats 60000000 in
set_option maxRecDepth 100000 in
theorem cells_ne (a b key : Int) (x y k : Nat) (v u : Wd) (w : World) (hT : Tabs w) (hpx : pickZ a 60 = (x : Int)) (hpy : pickZ b 60 = (y : Int)) (hpk : pickZ key 62 = (k : Int)) (hx : x < 60) (hy : y < 60) (hk : k < 62) (hne : x ≠ y) :
    Calls Tryd.prog 6 #[.int .i64 a, .int .i64 b, .int .i64 key, wv v, wv u] w fun e w' => e = .returned (.bool true) ∧ Below w.heap.size w w' := by
  obtain ⟨nx, ny, m1, m2, m3, m4, m5, hS⟩ := cells_spec (x + 2) (y + 2) k v u (by omega) (by omega) (by omega)
  have HT := Lib.hid hT
  have HS := Lib.hid hS
  have HX := Lib.hid (And.intro hx (And.intro hy (And.intro hk hne)))
  have p1 := fun W => pick_any a 60 W (by decide) (by decide)
  have p2 := fun W => pick_any b 60 W (by decide) (by decide)
  have p3 := fun W => pick_any key 62 W (by decide) (by decide)
  rw [hpx] at p1
  rw [hpy] at p2
  rw [hpk] at p3
  obtain ⟨k2, hk2, hk2l⟩ := pickZ_nat ((k : Int) + 1) 62 (by decide)
  have hkk : (k : Int) ≠ (k2 : Int) := by
    have h1 : pickZ ((k : Int) + 1) 62 = if k = 61 then 0 else (k : Int) + 1 := by
      unfold pickZ
      rw [if_neg (by decide), Int.tmod_eq_emod_of_nonneg (by omega)]
      split <;> split <;> omega
    rw [hk2] at h1
    split at h1 <;> omega
  have p4 := fun W => pick_any ((k : Int) + 1) 62 W (by decide) (by decide)
  rw [hk2] at p4
  have P4 := Lib.hid (And.intro p4 hkk)
  clear p4 hk2 hkk
  have P1 := Lib.hid p1
  have P2 := Lib.hid p2
  have P3 := Lib.hid p3
  have xl : (x : Int) < 60 := by omega
  have yl : (y : Int) < 60 := by omega
  have kl : (k : Int) < 62 := by omega
  have xyn : ((2 + (x : Int)) == (2 + (y : Int))) = false := by rw [beq_eq_false_iff_ne]; omega
  clear hT hS hx hy hk hne hpx hpy hpk p1 p2 p3
  go_enter Tryd.func6, Tryd.ntmps6
  go_wp2_with fail
  have hb : Below w.heap.size w ((w.alloc (wobj v)).alloc (wobj u)) := ((Below.refl _ _).alloc (Nat.le_refl _) _).alloc (by simp) _
  have kb0 : ((w.alloc (wobj v)).alloc (wobj u)).heap[w.heap.size]? = some (wobj v) := (((Below.refl _ _).alloc (Nat.le_refl _) (wobj u)).block w.heap.size (by simp)).trans (alloc_at w (wobj v))
  have kb1 : ((w.alloc (wobj v)).alloc (wobj u)).heap[w.heap.size + 1]? = some (wobj u) := by
    have := alloc_at (w.alloc (wobj v)) (wobj u)
    rw [show (w.alloc (wobj v)).heap.size = w.heap.size + 1 by simp] at this
    exact this
  have HB := Lib.hid (And.intro hb (And.intro kb0 kb1))
  clear hb kb0 kb1
  generalize (w.alloc (.cells #[.int .i64 v.1, .int .i64 v.2] 37)).alloc (.cells #[.int .i64 u.1, .int .i64 u.2] 37) = W at *
  refine (lives_any _ (HT.out.below HB.out.1 HT.out.size)).mono ?_
  rintro e W0 ⟨rfl, hb0⟩
  have H0 := Lib.hid (And.intro (HB.out.1.trans (hb0.mono HB.out.1.size)) (And.intro ((hb0.block _ (lt_at HB.out.2.1)).trans HB.out.2.1) ((hb0.block _ (lt_at HB.out.2.2)).trans HB.out.2.2)))
  clear hb0 HB
  go_wp2_with fail
  refine (new_any _).mono ?_
  rintro e W1 ⟨tb, G1, rfl, hb1, h1, hlow1⟩
  have ht : KTab w W1 tb G1 tbN [(w.heap.size, wobj v), (w.heap.size + 1, wobj u)] := ⟨TInv.of_new H0.out.1 hb1 h1 hlow1, fun p hp => by
    rcases List.mem_cons.1 hp with rfl | hp
    · exact ⟨(hb1.block _ (lt_at H0.out.2.1)).trans H0.out.2.1, hlow1 _ (lt_at H0.out.2.1)⟩
    · rcases List.mem_cons.1 hp with rfl | hp
      · exact ⟨(hb1.block _ (lt_at H0.out.2.2)).trans H0.out.2.2, hlow1 _ (lt_at H0.out.2.2)⟩
      · cases hp⟩
  have H1 := Lib.hid ht
  clear hb1 h1 hlow1 ht H0
  go_wp2_with fail
  refine (P1.out _).mono ?_
  rintro e W2 ⟨rfl, rfl⟩
  go_wp2_with fail
  refine (P2.out _).mono ?_
  rintro e W2 ⟨rfl, rfl⟩
  go_wp2_with fail
  refine (P3.out _).mono ?_
  rintro e W2 ⟨rfl, rfl⟩
  have c0 : W2.cell? ⟨w.heap.size, 0, none⟩ = some (.int .i64 v.1) := cell_at (H1.out.has _ (.head _)).1
  have c1 : W2.cell? ⟨w.heap.size, 1, none⟩ = some (.int .i64 v.2) := cell_at (H1.out.has _ (.head _)).1
  have c2 : W2.cell? ⟨w.heap.size + 1, 0, none⟩ = some (.int .i64 u.1) := cell_at (H1.out.has _ (.tail _ (.head _))).1
  have c3 : W2.cell? ⟨w.heap.size + 1, 1, none⟩ = some (.int .i64 u.2) := cell_at (H1.out.has _ (.tail _ (.head _))).1
  go_wp2_with fail
  refine (H1.out.setf HS.out.a0 (by omega) v _ (by omega) HS.out.e1).mono ?_
  rintro e W3 ⟨rfl, G3, h3⟩
  have H3 := Lib.hid h3
  clear h3 H1 c0 c1 c2 c3
  have c0 : W3.cell? ⟨w.heap.size, 0, none⟩ = some (.int .i64 v.1) := cell_at (H3.out.has _ (.head _)).1
  have c1 : W3.cell? ⟨w.heap.size, 1, none⟩ = some (.int .i64 v.2) := cell_at (H3.out.has _ (.head _)).1
  have c2 : W3.cell? ⟨w.heap.size + 1, 0, none⟩ = some (.int .i64 u.1) := cell_at (H3.out.has _ (.tail _ (.head _))).1
  have c3 : W3.cell? ⟨w.heap.size + 1, 1, none⟩ = some (.int .i64 u.2) := cell_at (H3.out.has _ (.tail _ (.head _))).1
  go_wp2_with fail
  refine (H3.out.setp HS.out.a1 k (by rw [HS.out.l1]; exact HX.out.2.2.1) u _ (by omega) HS.out.e2).mono ?_
  rintro e W4 ⟨rfl, G4, h4⟩
  have H4 := Lib.hid h4
  clear h4 H3 c0 c1 c2 c3
  have c0 : W4.cell? ⟨w.heap.size, 0, none⟩ = some (.int .i64 v.1) := cell_at (H4.out.has _ (.head _)).1
  have c1 : W4.cell? ⟨w.heap.size, 1, none⟩ = some (.int .i64 v.2) := cell_at (H4.out.has _ (.head _)).1
  have c2 : W4.cell? ⟨w.heap.size + 1, 0, none⟩ = some (.int .i64 u.1) := cell_at (H4.out.has _ (.tail _ (.head _))).1
  have c3 : W4.cell? ⟨w.heap.size + 1, 1, none⟩ = some (.int .i64 u.2) := cell_at (H4.out.has _ (.tail _ (.head _))).1
  go_wp2_with fail
  refine (H4.out.setf HS.out.a2 (by omega) u _ (by omega) HS.out.e3).mono ?_
  rintro e W5 ⟨rfl, G5, h5⟩
  have H5 := Lib.hid h5
  clear h5 H4 c0 c1 c2 c3
  have c0 : W5.cell? ⟨w.heap.size, 0, none⟩ = some (.int .i64 v.1) := cell_at (H5.out.has _ (.head _)).1
  have c1 : W5.cell? ⟨w.heap.size, 1, none⟩ = some (.int .i64 v.2) := cell_at (H5.out.has _ (.head _)).1
  have c2 : W5.cell? ⟨w.heap.size + 1, 0, none⟩ = some (.int .i64 u.1) := cell_at (H5.out.has _ (.tail _ (.head _))).1
  have c3 : W5.cell? ⟨w.heap.size + 1, 1, none⟩ = some (.int .i64 u.2) := cell_at (H5.out.has _ (.tail _ (.head _))).1
  go_wp2_with fail
  refine (H5.out.setp HS.out.a3 k (by rw [HS.out.l3]; exact HX.out.2.2.1) v _ (by omega) HS.out.e4).mono ?_
  rintro e W6 ⟨rfl, G6, h6⟩
  have H6 := Lib.hid h6
  clear h6 H5 c0 c1 c2 c3
  have c0 : W6.cell? ⟨w.heap.size, 0, none⟩ = some (.int .i64 v.1) := cell_at (H6.out.has _ (.head _)).1
  have c1 : W6.cell? ⟨w.heap.size, 1, none⟩ = some (.int .i64 v.2) := cell_at (H6.out.has _ (.head _)).1
  have c2 : W6.cell? ⟨w.heap.size + 1, 0, none⟩ = some (.int .i64 u.1) := cell_at (H6.out.has _ (.tail _ (.head _))).1
  have c3 : W6.cell? ⟨w.heap.size + 1, 1, none⟩ = some (.int .i64 u.2) := cell_at (H6.out.has _ (.tail _ (.head _))).1
  go_wp2_with fail
  clear c0 c1 c2 c3
  refine (H6.out.func HS.out.a4 _ (by omega)).mono ?_
  rintro e W7 ⟨rfl, hb7⟩
  have H7 := Lib.hid ((H6.out.junk hb7).add ((Below.refl _ _).alloc (Nat.le_refl _) (wobj v)) (Nat.le_refl _) (alloc_at W7 (wobj v)))
  clear hb7 H6
  go_wp2_with fail
  generalize W7.heap.size = b7 at *
  generalize W7.alloc (.cells #[.int .i64 v.1, .int .i64 v.2] 37) = Z7 at *
  refine (H7.out.propy HS.out.a4 _ (by omega)).mono ?_
  rintro e W8 ⟨rfl, hb8⟩
  have H8 := Lib.hid ((H7.out.junk hb8).add ((Below.refl _ _).alloc (Nat.le_refl _) (wobj u)) (Nat.le_refl _) (alloc_at W8 (wobj u)))
  clear hb8 H7
  go_wp2_with fail
  generalize W8.heap.size = b8 at *
  generalize W8.alloc (.cells #[.int .i64 u.1, .int .i64 u.2] 37) = Z8 at *
  refine (P4.out.1 _).mono ?_
  rintro e W9 ⟨rfl, rfl⟩
  go_wp2_with fail
  refine (H8.out.propn HS.out.a4 P4.out.2 _ (by omega)).mono ?_
  rintro e W10 ⟨rfl, hb10⟩
  have H10 := Lib.hid ((H8.out.junk hb10).add ((Below.refl _ _).alloc (Nat.le_refl _) (.cells #[.int .i64 0, .int .i64 0] 37)) (Nat.le_refl _) (alloc_at W10 (.cells #[.int .i64 0, .int .i64 0] 37)))
  clear hb10 H8
  go_wp2_with fail
  generalize W10.heap.size = b10 at *
  generalize W10.alloc (.cells #[.int .i64 0, .int .i64 0] 37) = Z10 at *
  refine (H10.out.clearf HS.out.a5 (by omega) _ (by omega) HS.out.e5).mono ?_
  rintro e W11 ⟨rfl, G11, h11⟩
  have H11 := Lib.hid h11
  clear h11 H10
  go_wp2_with fail
  refine (H11.out.func HS.out.a7 _ (by omega)).mono ?_
  rintro e W12 ⟨rfl, hb12⟩
  have H12 := Lib.hid ((H11.out.junk hb12).add ((Below.refl _ _).alloc (Nat.le_refl _) (.cells #[.int .i64 0, .int .i64 0] 37)) (Nat.le_refl _) (alloc_at W12 (.cells #[.int .i64 0, .int .i64 0] 37)))
  clear hb12 H11
  go_wp2_with fail
  generalize W12.heap.size = b12 at *
  generalize W12.alloc (.cells #[.int .i64 0, .int .i64 0] 37) = Z12 at *
  refine (H12.out.propy HS.out.a7 _ (by omega)).mono ?_
  rintro e W13 ⟨rfl, hb13⟩
  have H13 := Lib.hid ((H12.out.junk hb13).add ((Below.refl _ _).alloc (Nat.le_refl _) (wobj v)) (Nat.le_refl _) (alloc_at W13 (wobj v)))
  clear hb13 H12
  go_wp2_with fail
  generalize W13.heap.size = b13 at *
  generalize W13.alloc (.cells #[.int .i64 v.1, .int .i64 v.2] 37) = Z13 at *
  refine (H13.out.func HS.out.a6 _ (by omega)).mono ?_
  rintro e W14 ⟨rfl, hb14⟩
  have H14 := Lib.hid ((H13.out.junk hb14).add ((Below.refl _ _).alloc (Nat.le_refl _) (wobj v)) (Nat.le_refl _) (alloc_at W14 (wobj v)))
  clear hb14 H13
  go_wp2_with fail
  generalize W14.heap.size = b14 at *
  generalize W14.alloc (.cells #[.int .i64 v.1, .int .i64 v.2] 37) = Z14 at *
  have hka : ∀ X, Below Z14.heap.size Z14 X → X.cell? ⟨b14, 0, none⟩ = some (.int .i64 v.1) ∧ X.cell? ⟨b14, 1, none⟩ = some (.int .i64 v.2) ∧ X.cell? ⟨b13, 0, none⟩ = some (.int .i64 v.1) ∧ X.cell? ⟨b13, 1, none⟩ = some (.int .i64 v.2) ∧ X.cell? ⟨b8, 0, none⟩ = some (.int .i64 u.1) ∧ X.cell? ⟨b8, 1, none⟩ = some (.int .i64 u.2) ∧ X.cell? ⟨b7, 0, none⟩ = some (.int .i64 v.1) ∧ X.cell? ⟨b7, 1, none⟩ = some (.int .i64 v.2) ∧ X.cell? ⟨w.heap.size, 0, none⟩ = some (.int .i64 v.1) ∧ X.cell? ⟨w.heap.size, 1, none⟩ = some (.int .i64 v.2) ∧ X.cell? ⟨w.heap.size + 1, 0, none⟩ = some (.int .i64 u.1) ∧ X.cell? ⟨w.heap.size + 1, 1, none⟩ = some (.int .i64 u.2) := fun X hb => ⟨(cell_at ((hb.block _ (lt_at (H14.out.has _ (.head _)).1)).trans (H14.out.has _ (.head _)).1)).trans rfl, (cell_at ((hb.block _ (lt_at (H14.out.has _ (.head _)).1)).trans (H14.out.has _ (.head _)).1)).trans rfl, (cell_at ((hb.block _ (lt_at (H14.out.has _ (.tail _ (.head _))).1)).trans (H14.out.has _ (.tail _ (.head _))).1)).trans rfl, (cell_at ((hb.block _ (lt_at (H14.out.has _ (.tail _ (.head _))).1)).trans (H14.out.has _ (.tail _ (.head _))).1)).trans rfl, (cell_at ((hb.block _ (lt_at (H14.out.has _ (.tail _ (.tail _ (.tail _ (.tail _ (.head _)))))).1)).trans (H14.out.has _ (.tail _ (.tail _ (.tail _ (.tail _ (.head _)))))).1)).trans rfl, (cell_at ((hb.block _ (lt_at (H14.out.has _ (.tail _ (.tail _ (.tail _ (.tail _ (.head _)))))).1)).trans (H14.out.has _ (.tail _ (.tail _ (.tail _ (.tail _ (.head _)))))).1)).trans rfl, (cell_at ((hb.block _ (lt_at (H14.out.has _ (.tail _ (.tail _ (.tail _ (.tail _ (.tail _ (.head _))))))).1)).trans (H14.out.has _ (.tail _ (.tail _ (.tail _ (.tail _ (.tail _ (.head _))))))).1)).trans rfl, (cell_at ((hb.block _ (lt_at (H14.out.has _ (.tail _ (.tail _ (.tail _ (.tail _ (.tail _ (.head _))))))).1)).trans (H14.out.has _ (.tail _ (.tail _ (.tail _ (.tail _ (.tail _ (.head _))))))).1)).trans rfl, (cell_at ((hb.block _ (lt_at (H14.out.has _ (.tail _ (.tail _ (.tail _ (.tail _ (.tail _ (.tail _ (.head _)))))))).1)).trans (H14.out.has _ (.tail _ (.tail _ (.tail _ (.tail _ (.tail _ (.tail _ (.head _)))))))).1)).trans rfl, (cell_at ((hb.block _ (lt_at (H14.out.has _ (.tail _ (.tail _ (.tail _ (.tail _ (.tail _ (.tail _ (.head _)))))))).1)).trans (H14.out.has _ (.tail _ (.tail _ (.tail _ (.tail _ (.tail _ (.tail _ (.head _)))))))).1)).trans rfl, (cell_at ((hb.block _ (lt_at (H14.out.has _ (.tail _ (.tail _ (.tail _ (.tail _ (.tail _ (.tail _ (.tail _ (.head _))))))))).1)).trans (H14.out.has _ (.tail _ (.tail _ (.tail _ (.tail _ (.tail _ (.tail _ (.tail _ (.head _))))))))).1)).trans rfl, (cell_at ((hb.block _ (lt_at (H14.out.has _ (.tail _ (.tail _ (.tail _ (.tail _ (.tail _ (.tail _ (.tail _ (.head _))))))))).1)).trans (H14.out.has _ (.tail _ (.tail _ (.tail _ (.tail _ (.tail _ (.tail _ (.tail _ (.head _))))))))).1)).trans rfl⟩
  have HKA := Lib.hid hka
  have HTB := Lib.hid (fun X (hX : Below Z14.heap.size Z14 X) => H14.out.t.table.below hX)
  have HK := Lib.hid (show Below Z14.heap.size Z14 Z14.drew from (Below.refl _ _).drew)
  have HKB := Lib.hid (show Below Z14.heap.size Z14 (Z14.alloc (.cells #[.int .i64 (k : Int), .int .i64 u.1, .int .i64 u.2] 66)).drew from ((Below.refl _ _).alloc (Nat.le_refl _) _).drew)
  have HKO := Lib.hid (show (Z14.alloc (.cells #[.int .i64 (k : Int), .int .i64 u.1, .int .i64 u.2] 66)).drew.heap[Z14.heap.size]? = some (.cells #[.int .i64 (k : Int), .int .i64 u.1, .int .i64 u.2] 66) from alloc_at _ _)
  have q1 : (v.1 == v.1) = true := by simp
  have q2 : (v.2 == v.2) = true := by simp
  have q3 : (u.1 == u.1) = true := by simp
  have q4 : (u.2 == u.2) = true := by simp
  clear hka
  go_region_held3 (fun X => X.cell? ⟨b14, 0, none⟩ = some (.int .i64 v.1) ∧ X.cell? ⟨b14, 1, none⟩ = some (.int .i64 v.2) ∧ X.cell? ⟨b13, 0, none⟩ = some (.int .i64 v.1) ∧ X.cell? ⟨b13, 1, none⟩ = some (.int .i64 v.2) ∧ X.cell? ⟨b8, 0, none⟩ = some (.int .i64 u.1) ∧ X.cell? ⟨b8, 1, none⟩ = some (.int .i64 u.2) ∧ X.cell? ⟨b7, 0, none⟩ = some (.int .i64 v.1) ∧ X.cell? ⟨b7, 1, none⟩ = some (.int .i64 v.2) ∧ X.cell? ⟨w.heap.size, 0, none⟩ = some (.int .i64 v.1) ∧ X.cell? ⟨w.heap.size, 1, none⟩ = some (.int .i64 v.2) ∧ X.cell? ⟨w.heap.size + 1, 0, none⟩ = some (.int .i64 u.1) ∧ X.cell? ⟨w.heap.size + 1, 1, none⟩ = some (.int .i64 u.2))
    (first | with_reducible exact HKA.out _ HK.out | with_reducible exact HKA.out _ HKB.out | with_reducible exact HKA.out _ (HK.out.alloc HK.out.size _))
    (first
      | ((try go_simp); go_at_call 35; (with_reducible refine (props_at (HTB.out _ HK.out) HS.out.a6 _ (by omega)).mono ?_); rintro e wq ⟨b', cap, rfl, hp1, hp2, hbe⟩
         have HK2 := Lib.hid (HK.out.trans (hbe.mono HK.out.size)); clear HK hbe; have HK := HK2; clear HK2
         have HPA := Lib.hid (And.intro hp1 hp2); clear hp1 hp2)
      | ((try go_simp); go_at_call 35; (with_reducible refine (props_at (HTB.out _ HKB.out) HS.out.a6 _ (by omega)).mono ?_); rintro e wq ⟨b', cap, rfl, hp1, hp2, hbe⟩
         have HSL := Lib.hid ((hbe.block _ (lt_at HKO.out)).trans HKO.out)
         have HK2 := Lib.hid (HKB.out.trans (hbe.mono HKB.out.size)); clear HK hbe; have HK := HK2; clear HK2
         have HPA := Lib.hid (And.intro hp1 hp2); clear hp1 hp2)
      | ((try go_simp); go_at_call 34; (with_reducible refine (same_alloc HPA.out.1 HPA.out.2).mono ?_); rintro e wr ⟨rfl, q, rfl⟩
         have HK2 := Lib.hid (below_drw (HK.out.alloc HK.out.size (.cells #[.int .i64 (k : Int), .int .i64 u.1, .int .i64 u.2] 66)) q); clear HK; have HK := HK2; clear HK2)
      | ((try go_simp); go_at_call 34; (with_reducible refine (same_two HPA.out.1 HSL.out).mono ?_); rintro e wr ⟨rfl, q, rfl⟩
         have HK2 := Lib.hid (below_drw HK.out q); clear HK; have HK := HK2; clear HK2))
  all_goals
    have HF := Lib.hid (H14.out.t.below.trans (HK.out.mono H14.out.t.below.size))
    go_wp2
    go_ret
    exact ⟨rfl, HF.out⟩
theorem cells_any (a b key : Int) (v u : Wd) (w : World) (hT : Tabs w) :
    Calls Tryd.prog 6 #[.int .i64 a, .int .i64 b, .int .i64 key, wv v, wv u] w fun e w' => e = .returned (.bool true) ∧ Below w.heap.size w w' := by
  obtain ⟨x, hpx, hx⟩ := pickZ_nat a 60 (by decide)
  obtain ⟨y, hpy, hy⟩ := pickZ_nat b 60 (by decide)
  obtain ⟨k, hpk, hk⟩ := pickZ_nat key 62 (by decide)
  by_cases e : x = y
  · subst e
    exact cells_eq a b key x k v u w hT hpx hpy hpk (by omega) (by omega)
  · exact cells_ne a b key x y k v u w hT hpx hpy hpk (by omega) (by omega) (by omega) e
end Go.Proofs.YtoggbifjkhcckaaDoor
