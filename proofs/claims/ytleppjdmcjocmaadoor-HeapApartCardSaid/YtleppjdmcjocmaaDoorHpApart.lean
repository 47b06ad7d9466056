/- The walk of the law HeapApart, for one to sixty words. Condition: unicode/utf8's two tables hold what the program's text lays. -/
import Derived.Test.YtleppjdmcjocmaaDoorHpApartInv
import Derived.Test.YtleppjdmcjocmaaDoorHpCollect
import Derived.Test.YtleppjdmcjocmaaDoorHpColInv
import Derived.Deep.DeepCutAuto
import Derived.Deep.RegionHeld3
namespace Go.Proofs.YtleppjdmcjocmaaDoor
open Go.RowKit Go.Lib
set_option maxHeartbeats 60000000 in
set_option maxRecDepth 100000 in
theorem apart_some (v0 : Value) (L : List Wd) (i : Int) (x : Wd) (w : World) (hA : ArgW w v0 L) (hL0 : 0 < L.length) (hL : L.length ≤ 60) (hT : Tabs w) :
    Calls Tryd.prog 7 #[v0, .int .i64 i, wv x] w fun e w' => e = .returned (.bool true) ∧ Below w.heap.size w w' := by
  obtain ⟨b0, o0, c0, rfl, hb0w, hcells⟩ : ∃ b o c, v0 = .slice (some ⟨b, o, none⟩) L.length c ∧ b < w.heap.size ∧ ∀ j a, L[j]? = some a → w.cell? ⟨b, o + j * 2, none⟩ = some (.int .i64 a.1) ∧ w.cell? ⟨b, o + j * 2 + 1, none⟩ = some (.int .i64 a.2) := by
    rcases hA with ⟨_, e⟩ | ⟨_, _, _, e⟩ | ⟨_, h⟩
    · rw [e] at hL0; simp at hL0
    · rw [e] at hL0; simp at hL0
    · exact h
  obtain ⟨hp0, hp1⟩ := pickZ_in i L.length (by omega)
  obtain ⟨kz, hkz⟩ : ∃ kz : Nat, pickZ i L.length = (kz : Int) := ⟨(pickZ i L.length).toNat, by omega⟩
  have hkn : kz < L.length := by omega
  obtain ⟨⟨l0, l1⟩, hlk⟩ : ∃ a, L[kz]? = some a := ⟨L[kz], List.getElem?_eq_getElem hkn⟩
  obtain ⟨hl0, hl1⟩ := hcells kz _ hlk
  have hq0 : ((L.length : Int) == 0) = false := by rw [beq_eq_false_iff_ne]; omega
  have hq1 : decide ((60 : Int) < L.length) = false := by simp; omega
  have cP := fun V => pick_any i L.length V (by omega) (by omega)
  rw [hkz] at cP
  have hkI1 : (0 : Int) ≤ (kz : Int) := by omega
  have hkI2 : (kz : Int) < (L.length : Int) := by omega
  have HT := Lib.hid hT
  have HA := Lib.hid (And.intro hA (And.intro hb0w (And.intro hl1 (And.intro hlk (And.intro hkn hcells)))))
  have HL := Lib.hid (And.intro hL0 hL)
  clear hT hA hb0w hl0 hl1 hlk hcells hp0 hp1 hL0 hL hkz hkn
  go_enter Tryd.func7, Tryd.ntmps7
  go_wp2_with fail
  refine (lives_any _ (HT.out.below ((Below.refl _ _).alloc (Nat.le_refl _) _) HT.out.size)).mono ?_
  rintro e W0 ⟨rfl, hb0⟩
  have kx : W0.heap[w.heap.size]? = some (wobj x) := (hb0.block _ (by simp)).trans (alloc_at w _)
  have hw0 : Below w.heap.size w W0 := ((Below.refl _ _).alloc (Nat.le_refl _) _).trans (hb0.mono (by simp))
  have hz0 : w.heap.size < W0.heap.size := lt_at kx
  have H0 := Lib.hid (And.intro kx (And.intro hw0 hz0))
  clear hb0 kx hw0 hz0
  go_wp2_with fail
  refine (new_any 9 _ (by decide) (by decide)).mono ?_
  rintro e W1 ⟨rfl, hb1, hz1, h1⟩
  have ha1 : AInv w W1 W0.heap.size (fun k => if k = W0.heap.size then 1 else 0) (Hp.empty 9) [(w.heap.size, wobj x)] :=
    ⟨H0.out.2.1.trans (hb1.mono H0.out.2.1.size), h1, fun k hk => if_neg (by have := H0.out.2.2; omega), fun p hp => by
      rcases List.mem_singleton.1 hp with rfl
      exact ⟨(hb1.block _ H0.out.2.2).trans H0.out.1, if_neg (by have := H0.out.2.2; show w.heap.size ≠ _; omega), Nat.le_refl _⟩⟩
  have H1 := Lib.hid ha1
  clear hb1 hz1 h1 ha1 H0
  go_wp2_with fail
  generalize W0.heap.size = hb at *
  generalize (fun k : Nat => if k = hb then 1 else 0) = G1 at *
  refine (own_word _ L.length (wcells L) W1 (fun V hV => HA.out.1.src V (H1.out.below.trans (hV.mono H1.out.below.size))) (wcells_one _) (by have := HL.out; omega)).mono ?_
  rintro e W2 ⟨vi, rfl, hown, hb2⟩
  obtain ⟨gi, ci, cur, rfl, hgi1, hgi2, hgi3, hgi4, hgi5, hgi6⟩ : ∃ g cap cur, vi = .slice (some ⟨g, 0, none⟩) L.length cap ∧ W1.heap.size ≤ g ∧ W2.heap[g]? = some (.cells cur 28 (0, 0)) ∧ L.length ≤ cap ∧ cap ≤ maxLen ∧ cur.size = cap * 2 ∧ cur.toList.take (L.length * 2) = wcells L := by
    rcases hown.2 with ⟨_, e2⟩ | h
    · have := HL.out; omega
    · exact h
  have hwg : w.heap.size < gi := Nat.lt_of_lt_of_le (lt_at (H1.out.has _ (.head _)).1) hgi1
  have HG := Lib.hid hwg
  clear hwg
  have H2 := Lib.hid (And.intro (H1.out.add hb2 hgi1 hgi2) (And.intro (show L.length ≤ ci ∧ ci ≤ maxLen ∧ cur.size = ci * 2 ∧ cur.toList.take (L.length * 2) = wcells L from ⟨hgi3, hgi4, hgi5, hgi6⟩) hown))
  clear hown hb2 hgi1 hgi2 hgi3 hgi4 hgi5 hgi6 H1
  go_wp2_with fail
  have cV := vec_any (l := L) H2.out.1.heap (v := .slice (some ⟨gi, 0, none⟩) L.length ci) (Src.of_own H2.out.2.2) (fun k hk => by cases hk; exact lt_at (H2.out.1.has _ (List.mem_cons_self ..)).1) (by have := HL.out; omega) (am_adds1 L HL.out.2)
  refine cV.mono ?_
  clear cV
  rintro e W3 ⟨rfl, hw3⟩
  obtain ⟨G3, h3⟩ := H2.out.1.went hw3
  have hgv : gi < W3.heap.size := lt_at (h3.has _ (List.mem_cons_self ..)).1
  have H3 := Lib.hid (And.intro (h3.alloc (wobj (4, 0))) (And.intro hgv (And.intro H2.out.2.1 (show (W3.alloc (wobj (4, 0))).heap.size = W3.heap.size + 1 by simp))))
  clear hw3 h3 hgv H2
  go_wp2_with fail
  generalize W3.alloc (wobj (4, 0)) = W3a at *
  generalize W3.heap.size = vb at *
  have h3b := H3.out.1.alloc (.cells #[.int .u8 1, .int .u8 2] 5)
  have hz3 := H3.out.2.2.2
  have hby := news_two W3a (.int .u8 1) (.int .u8 2) 5
  rw [hz3] at hby
  have cC := code_any (le := 0) (mo := 0) (de := 0) (vb := .slice (some ⟨vb + 1, 0, none⟩) 2 2) (bs := [1, 2]) (vc := .slice (some ⟨gi, 0, none⟩) L.length ci) (cs := L) h3b.heap (.inr ⟨_, _, rfl, rfl, hby⟩) (fun k hk => by cases hk; simp; omega) (by decide)
    (Src.of_own (B := 0) (e := 28) ⟨wcells_length L, .inr ⟨gi, ci, cur, rfl, Nat.zero_le _, (h3b.has _ (.tail _ (.tail _ (.head _)))).1, H3.out.2.2.1⟩⟩) (fun k hk => by cases hk; exact lt_at (h3b.has _ (.tail _ (.tail _ (.head _)))).1) (by have := HL.out; omega) (am_adds2 L HL.out.2)
  refine cC.mono ?_
  clear cC hby
  rintro e W4 ⟨rfl, hw4⟩
  obtain ⟨G4, h4⟩ := h3b.went hw4
  have hvb4 : vb < W4.heap.size := lt_at (h4.has _ (.tail _ (.head _))).1
  have h4b := h4.alloc (wobj (6, 1))
  obtain ⟨e0, e1⟩ : cur[kz * 2]? = some (.int .i64 l0) ∧ cur[kz * 2 + 1]? = some (.int .i64 l1) := by
    obtain ⟨_, _, e, e2⟩ := H3.out.2.2.1
    have := HA.out.2.2.2.2.1
    have f0 := wcells_fst L kz _ HA.out.2.2.2.1
    have f1 := wcells_snd L kz _ HA.out.2.2.2.1
    rw [← e2, List.getElem?_take_of_lt (by omega)] at f0 f1
    exact ⟨by simpa using f0, by simpa using f1⟩
  have H4 := Lib.hid (And.intro h4b (And.intro hvb4 (And.intro H3.out.2.1 (And.intro e0 e1))))
  clear hw4 h4 h3b hvb4 h4b e0 e1 H3 hz3
  go_wp2_with fail
  generalize W4.alloc (wobj (6, 1)) = W4a at *
  generalize W4.heap.size = cb at *
  have hl1 : W4a.cell? ⟨b0, o0 + kz * 2 + 1, none⟩ = some (.int .i64 l1) := (H4.out.1.below.cell (p := ⟨b0, _, none⟩) HA.out.2.1).trans HA.out.2.2.1
  go_wp2_with (go_at_call 24; ((with_reducible refine (cP _).mono ?_); rintro e w' ⟨rfl, hw'⟩; obtain rfl : _ = w' := hw'.symm; clear hw'))
  refine (word_any 0 _ _).mono ?_
  rintro e W5 ⟨rfl, hb5⟩
  generalize wrap64 (wrap64 (l1.tdiv 2) + 7) = z at *
  have h5 := H4.out.1.junk hb5
  have kg := (h5.has _ (.tail _ (.tail _ (.tail _ (.head _))))).1
  have q0 : W5.cell? ⟨gi, kz * 2, none⟩ = some (.int .i64 l0) := (cell_at kg).trans H4.out.2.2.2.1
  have q1 : W5.cell? ⟨gi, kz * 2 + 1, none⟩ = some (.int .i64 l1) := (cell_at kg).trans H4.out.2.2.2.2
  have f0 : W5.frozen? ⟨gi, kz * 2, none⟩ = false := frozen_at kg
  have f1 : W5.frozen? ⟨gi, kz * 2 + 1, none⟩ = false := frozen_at kg
  have hgi0 : G4 gi = 0 ∧ w.heap.size ≤ gi := (h5.has _ (.tail _ (.tail _ (.tail _ (.head _))))).2
  have hks : ∀ p ∈ [(cb, wobj (6, 1)), (vb, wobj (4, 0)), (w.heap.size, wobj x)], p ∈ [(cb, wobj (6, 1)), (W3a.heap.size, Obj.cells #[.int .u8 1, .int .u8 2] 5 (0, 0)), (vb, wobj (4, 0)), (gi, Obj.cells cur 28 (0, 0)), (w.heap.size, wobj x)] ∧ p.1 ≠ gi := by
    have := H4.out.2.1; have := H4.out.2.2.1; have := HG.out
    exact mem3 ⟨.head _, by show cb ≠ gi; omega⟩ ⟨.tail _ (.tail _ (.head _)), by show vb ≠ gi; omega⟩ ⟨.tail _ (.tail _ (.tail _ (.tail _ (.head _)))), by show w.heap.size ≠ gi; omega⟩
  have h6 := (h5.poke hgi0 hks (kz * 2) (.int .i64 0)).poke hgi0 (fun p hp => ⟨hp, (hks p hp).2⟩) (kz * 2 + 1) (.int .i64 z)
  have H6 := Lib.hid (And.intro h6 H4.out.2.1)
  clear hb5 h5 kg hgi0 hks h6 H4 hl1
  go_wp2_with fail
  generalize (W5.setCell ⟨gi, kz * 2, none⟩ (.int .i64 0)).setCell ⟨gi, kz * 2 + 1, none⟩ (.int .i64 z) = W6 at *
  clear q0 q1 f0 f1
  refine (copy_any H6.out.1.heap (by show 2 ≤ 65536; decide) (am_total L HL.out.2)).mono ?_
  rintro e W7 ⟨hc, F7, rfl, hb7, h7, hz7⟩
  have B7 := H6.out.1.copy hb7 h7 hz7
  have p0 : W7.cell? ⟨vb, 0, none⟩ = some (.int .i64 4) := cell_at (B7.has _ (.tail _ (.head _))).1
  have p1 : W7.cell? ⟨vb, 1, none⟩ = some (.int .i64 0) := cell_at (B7.has _ (.tail _ (.head _))).1
  have p2 : W7.cell? ⟨w.heap.size, 0, none⟩ = some (.int .i64 x.1) := cell_at (B7.has _ (.tail _ (.tail _ (.head _)))).1
  have p3 : W7.cell? ⟨w.heap.size, 1, none⟩ = some (.int .i64 x.2) := cell_at (B7.has _ (.tail _ (.tail _ (.head _)))).1
  have H7 := Lib.hid (And.intro B7 H6.out.2)
  clear hb7 h7 hz7 B7 H6
  go_wp2_with fail
  refine (setat_ok H7.out.1.heap2 (4, 0) x kz L (am_vec L) HA.out.2.2.2.2.1).mono ?_
  rintro e W8 ⟨rfl, hw8⟩
  obtain ⟨F8, B8⟩ := H7.out.1.went2 hw8
  have r0 : W8.cell? ⟨vb, 0, none⟩ = some (.int .i64 4) := cell_at (B8.has _ (.tail _ (.head _))).1
  have r1 : W8.cell? ⟨vb, 1, none⟩ = some (.int .i64 0) := cell_at (B8.has _ (.tail _ (.head _))).1
  have H8 := Lib.hid B8
  clear hw8 B8 H7 p0 p1 p2 p3
  go_wp2_with fail
  refine (vecof_ok H8.out.heap (4, 0) L (by have := HL.out; omega) (am_vec L)).mono ?_
  rintro e W9 ⟨va, rfl, howna, hb9⟩
  obtain ⟨ga, ca, cua, rfl, hga1, hga2, _, _, _, hga6⟩ := own_some howna HL.out.1
  have B9 := H8.out.junk hb9
  have r2 : W9.cell? ⟨cb, 0, none⟩ = some (.int .i64 6) := cell_at (B9.has _ (.head _)).1
  have r3 : W9.cell? ⟨cb, 1, none⟩ = some (.int .i64 1) := cell_at (B9.has _ (.head _)).1
  have hga0 := lt_at hga2
  have H9 := Lib.hid (And.intro B9 (And.intro hb9 (And.intro hga1 (And.intro hga2 (And.intro hga6 hga0)))))
  clear B9 hb9 hga1 hga2 hga6 hga0 howna r0 r1
  go_wp2_with fail
  refine (codeof_ok H9.out.1.heap (6, 1) 0 0 0 [1, 2] L (by decide) (by have := HL.out; omega) (am_code L)).mono ?_
  rintro e Wc ⟨vb1, vc1, rfl, ho1, ho2, hbc⟩
  have ho1 : Wc.ownsRow W9.heap.size 5 1 vb1 2 (bcells [1, 2]) := ho1
  obtain ⟨gb, cbb, cub, rfl, hgb1, hgb2, _, _, _, hgb6⟩ := own_some ho1 (by decide)
  obtain ⟨gc, ccc, cuc, rfl, hgc1, hgc2, _, _, _, hgc6⟩ := own_some ho2 HL.out.1
  have hgbl := lt_at hgb2
  have hgcl := lt_at hgc2
  have hgal := Nat.lt_of_lt_of_le H9.out.2.2.2.2.2 hbc.size
  have hbl := (Below.refl Wc.heap.size Wc).alloc (Nat.le_refl _) (.cells #[.int .i64 0, .int .i64 0, .int .i64 0, .slice (some ⟨gb, 0, none⟩) 2 cbb, .slice (some ⟨gc, 0, none⟩) L.length ccc] 52)
  have hk10 : KInv W8 (Wc.alloc (.cells #[.int .i64 0, .int .i64 0, .int .i64 0, .slice (some ⟨gb, 0, none⟩) 2 cbb, .slice (some ⟨gc, 0, none⟩) L.length ccc] 52)) ga gb gc Wc.heap.size (.cells cua 28 (0, 0)) (.cells cub 5 (0, 0)) (.cells cuc 28 (0, 0)) (.cells #[.int .i64 0, .int .i64 0, .int .i64 0, .slice (some ⟨gb, 0, none⟩) 2 cbb, .slice (some ⟨gc, 0, none⟩) L.length ccc] 52 (0, 0)) :=
    ⟨(H9.out.2.1.trans (hbc.mono H9.out.2.1.size)).trans (hbl.mono (Nat.le_trans H9.out.2.1.size hbc.size)), (hbl.block _ hgal).trans ((hbc.block _ H9.out.2.2.2.2.2).trans H9.out.2.2.2.1), (hbl.block _ hgbl).trans hgb2, (hbl.block _ hgcl).trans hgc2, alloc_at Wc _⟩
  have hne : gb ≠ gc := fun e => by rw [e, hgc2] at hgb2; cases hgb2
  have HK := Lib.hid hk10
  have HN := Lib.hid (show W8.heap.size ≤ ga ∧ ga < gb ∧ ga < gc ∧ gb < Wc.heap.size ∧ gc < Wc.heap.size ∧ gb ≠ gc from ⟨H9.out.2.2.1, Nat.lt_of_lt_of_le H9.out.2.2.2.2.2 hgb1, Nat.lt_of_lt_of_le H9.out.2.2.2.2.2 hgc1, hgbl, hgcl, hne⟩)
  have HC := Lib.hid (And.intro H9.out.2.2.2.2.1 (And.intro hgb6 hgc6))
  clear hbc hgb1 hgb2 hgb6 hgc1 hgc2 hgc6 hgbl hgcl hgal hbl hk10 hne H9 ho1 ho2 r2 r3
  go_wp2_with fail
  generalize Wc.alloc (.cells #[.int .i64 0, .int .i64 0, .int .i64 0, .slice (some ⟨gb, 0, none⟩) 2 cbb, .slice (some ⟨gc, 0, none⟩) L.length ccc] 52) = Wd at *
  generalize Wc.heap.size = bb at *
  have hV : ∀ W, Below w.heap.size w W → SlW W (.slice (some ⟨b0, o0, none⟩) L.length c0) L := fun W hW => SlW.of_cells fun j a hj => ⟨(hW.cell (p := ⟨b0, _, none⟩) HA.out.2.1).trans (HA.out.2.2.2.2.2 j a hj).1, (hW.cell (p := ⟨b0, _, none⟩) HA.out.2.1).trans (HA.out.2.2.2.2.2 j a hj).2⟩
  have HV := Lib.hid hV
  clear hV
  refine (same_true (SlW.of_block HK.out.ka HC.out.1) (HV.out _ (H8.out.below.trans (HK.out.below.mono H8.out.below.size))) HL.out.2).mono ?_
  rintro e We ⟨rfl, hbe⟩
  have hk11 := HK.out.junk hbe
  have s4 : We.cell? ⟨bb, 4, none⟩ = some (.slice (some ⟨gc, 0, none⟩) L.length ccc) := cell_at hk11.kd
  clear HK
  have HK := Lib.hid hk11
  clear hbe hk11
  go_wp2_with fail
  refine (same_true (SlW.of_block HK.out.kc HC.out.2.2) (HV.out _ (H8.out.below.trans (HK.out.below.mono H8.out.below.size))) HL.out.2).mono ?_
  rintro e Wf ⟨rfl, hbf⟩
  have hk12 := HK.out.junk hbf
  have s3 : Wf.cell? ⟨bb, 3, none⟩ = some (.slice (some ⟨gb, 0, none⟩) 2 cbb) := cell_at hk12.kd
  clear HK s4
  have HK := Lib.hid hk12
  clear hbf hk12
  go_wp2_with fail
  have hk13 : KInv W8 Wf.drew ga gb gc bb (.cells cua 28 (0, 0)) (.cells cub 5 (0, 0)) (.cells cuc 28 (0, 0)) (.cells #[.int .i64 0, .int .i64 0, .int .i64 0, .slice (some ⟨gb, 0, none⟩) 2 cbb, .slice (some ⟨gc, 0, none⟩) L.length ccc] 52 (0, 0)) := HK.out.junk (Below.refl _ _).drew
  clear HK
  have HK := Lib.hid hk13
  clear hk13
  have hb0w8 : b0 < W8.heap.size := Nat.lt_of_lt_of_le HA.out.2.1 H8.out.below.size
  have n1 : ga ≠ b0 := by have := HN.out; omega
  have n2 : gb ≠ b0 := by have := HN.out; omega
  have n3 : gc ≠ b0 := by have := HN.out; omega
  have n4 : ga ≠ bb := by have := HN.out; omega
  have n5 : gb ≠ bb := by have := HN.out; omega
  have n6 : gc ≠ bb := by have := HN.out; omega
  have n7 : ga ≠ gb := by have := HN.out; omega
  have n8 : ga ≠ gc := by have := HN.out; omega
  have n9 : gb ≠ gc := by have := HN.out; omega
  have n10 : gc ≠ ga := n8.symm
  have n11 : gb ≠ ga := n7.symm
  have n12 : gc ≠ gb := n9.symm
  have m1 : Wf.drew.cell? ⟨b0, o0 + kz * 2 + 1, none⟩ = some (.int .i64 l1) := ((H8.out.below.trans (HK.out.below.mono H8.out.below.size)).cell (p := ⟨b0, _, none⟩) HA.out.2.1).trans HA.out.2.2.1
  have m2 : Wf.drew.cell? ⟨bb, 3, none⟩ = some (.slice (some ⟨gb, 0, none⟩) 2 cbb) := cell_at HK.out.kd
  have m3 : Wf.drew.cell? ⟨bb, 4, none⟩ = some (.slice (some ⟨gc, 0, none⟩) L.length ccc) := cell_at HK.out.kd
  have hcu : cua[kz * 2]? = some (.int .i64 l0) ∧ cua[kz * 2 + 1]? = some (.int .i64 l1) ∧ cuc[kz * 2]? = some (.int .i64 l0) ∧ cuc[kz * 2 + 1]? = some (.int .i64 l1) ∧ cub[0]? = some (.int .u8 1) :=
    ⟨own_cell HC.out.1 (wcells_fst L kz _ HA.out.2.2.2.1), own_cell HC.out.1 (wcells_snd L kz _ HA.out.2.2.2.1), own_cell HC.out.2.2 (wcells_fst L kz _ HA.out.2.2.2.1), own_cell HC.out.2.2 (wcells_snd L kz _ HA.out.2.2.2.1), own_cell HC.out.2.1 rfl⟩
  have HU := Lib.hid hcu
  clear s3 hcu
  go_cut [16] (fun s16 we => s16 = .slice (some ⟨ga, 0, none⟩) L.length ca ∧ Below W8.heap.size W8 we ∧ we.heap[bb]? = some (.cells #[.int .i64 0, .int .i64 0, .int .i64 0, .slice (some ⟨gb, 0, none⟩) 2 cbb, .slice (some ⟨gc, 0, none⟩) L.length ccc] 52 (0, 0)))
  case first =>
    go_region_held3 (fun w' => w'.cell? ⟨b0, o0 + kz * 2 + 1, none⟩ = some (.int .i64 l1) ∧ w'.cell? ⟨bb, 3, none⟩ = some (.slice (some ⟨gb, 0, none⟩) 2 cbb) ∧ w'.cell? ⟨bb, 4, none⟩ = some (.slice (some ⟨gc, 0, none⟩) L.length ccc))
      (first | with_reducible exact ⟨d1, d2, d3⟩ | with_reducible exact ⟨m1, m2, m3⟩ | with_reducible exact ⟨far2 d1 n1, far2 d2 n4, far2 d3 n4⟩ | with_reducible exact ⟨far2 (far2 d1 n1) n3, far2 (far2 d2 n4) n6, far2 (far2 d3 n4) n6⟩ | with_reducible exact ⟨far1 (far2 (far2 d1 n1) n3) n2, far1 (far2 (far2 d2 n4) n6) n5, far1 (far2 (far2 d3 n4) n6) n5⟩)
      ((go_at_call 16; refine (word_any _ _ _).mono ?_; rintro e wq ⟨rfl, hbe⟩
        have HK2 := Lib.hid (HK.out.junk hbe)
        clear HK
        have HK := HK2
        clear HK2 hbe
        have d1 : wq.cell? ⟨b0, o0 + kz * 2 + 1, none⟩ = some (.int .i64 l1) := ((H8.out.below.trans (HK.out.below.mono H8.out.below.size)).cell (p := ⟨b0, _, none⟩) HA.out.2.1).trans HA.out.2.2.1
        have d2 : wq.cell? ⟨bb, 3, none⟩ = some (.slice (some ⟨gb, 0, none⟩) 2 cbb) := cell_at HK.out.kd
        have d3 : wq.cell? ⟨bb, 4, none⟩ = some (.slice (some ⟨gc, 0, none⟩) L.length ccc) := cell_at HK.out.kd
        have q0 : wq.cell? ⟨ga, kz * 2, none⟩ = some (.int .i64 l0) := (cell_at HK.out.ka).trans HU.out.1
        have q1 : wq.cell? ⟨ga, kz * 2 + 1, none⟩ = some (.int .i64 l1) := (cell_at HK.out.ka).trans HU.out.2.1
        have q2 : wq.cell? ⟨gc, kz * 2, none⟩ = some (.int .i64 l0) := (cell_at HK.out.kc).trans HU.out.2.2.1
        have q3 : wq.cell? ⟨gc, kz * 2 + 1, none⟩ = some (.int .i64 l1) := (cell_at HK.out.kc).trans HU.out.2.2.2.1
        have q4 : wq.cell? ⟨gb, 0, none⟩ = some (.int .u8 1) := (cell_at HK.out.kb).trans HU.out.2.2.2.2
        have f0 : wq.frozen? ⟨ga, kz * 2, none⟩ = false := frozen_at HK.out.ka
        have f1 : wq.frozen? ⟨ga, kz * 2 + 1, none⟩ = false := frozen_at HK.out.ka
        have f2 : wq.frozen? ⟨gc, kz * 2, none⟩ = false := frozen_at HK.out.kc
        have f3 : wq.frozen? ⟨gc, kz * 2 + 1, none⟩ = false := frozen_at HK.out.kc
        have f4 : wq.frozen? ⟨gb, 0, none⟩ = false := frozen_at HK.out.kb))
    all_goals (go_wp2_with fail; go_meet)
    all_goals
      have hn := HN.out
      refine ⟨rfl, ?_, ?_⟩
      · (repeat with_reducible refine Below.setCell ?_ (by dsimp only; omega) _)
        exact HK.out.below
      · (repeat rw [setCell_off _ (by dsimp only; omega)])
        exact HK.out.kd
  case rest =>
    obtain ⟨rfl, hbl13, hbb13⟩ := hcut
    have hbb8 : W8.heap.size ≤ bb := by have := HN.out; omega
    have B13 := H8.out.add hbl13 hbb8 hbb13
    have hcb8 : cb < W8.heap.size := lt_at (H8.out.has _ (.head _)).1
    have hvb8 : vb < W8.heap.size := lt_at (H8.out.has _ (.tail _ (.head _))).1
    have hwx8 : w.heap.size < W8.heap.size := lt_at (H8.out.has _ (.tail _ (.tail _ (.head _)))).1
    have hbbl := lt_at hbb13
    have p0 : wc.cell? ⟨vb, 0, none⟩ = some (.int .i64 4) := cell_at (B13.has _ (.tail _ (.tail _ (.head _)))).1
    have p1 : wc.cell? ⟨vb, 1, none⟩ = some (.int .i64 0) := cell_at (B13.has _ (.tail _ (.tail _ (.head _)))).1
    have H13 := Lib.hid (And.intro B13 (show cb < bb ∧ vb < bb ∧ w.heap.size < bb ∧ bb < wc.heap.size from ⟨by omega, by omega, by omega, hbbl⟩))
    clear hbl13 hbb13 hbb8 B13 hcb8 hvb8 hwx8 hbbl HK HU HN HC H8 hb0w8 n1 n2 n3 n4 n5 n6 n7 n8 n9 n10 n11 n12 m1 m2 m3
    go_wp2_with fail
    refine (vecof_ok H13.out.1.heap (4, 0) L (by have := HL.out; omega) (am_vec L)).mono ?_
    rintro e Wg ⟨vg, rfl, howng, hbg⟩
    obtain ⟨gg, cgg, cug, rfl, hgg1, hgg2, _, _, _, hgg6⟩ := own_some howng HL.out.1
    have B14 := H13.out.1.add hbg hgg1 hgg2
    have r2 : Wg.cell? ⟨cb, 0, none⟩ = some (.int .i64 6) := cell_at (B14.has _ (.tail _ (.tail _ (.head _)))).1
    have r3 : Wg.cell? ⟨cb, 1, none⟩ = some (.int .i64 1) := cell_at (B14.has _ (.tail _ (.tail _ (.head _)))).1
    have hggl := lt_at hgg2
    have H14 := Lib.hid (And.intro B14 (And.intro H13.out.2 (And.intro hgg6 (show bb < gg ∧ gg < Wg.heap.size from ⟨by have := H13.out.2; omega, hggl⟩))))
    clear howng hbg hgg1 hgg2 hgg6 B14 hggl p0 p1 H13
    go_wp2_with fail
    refine (codeof_ok H14.out.1.heap (6, 1) 0 0 0 [1, 2] L (by decide) (by have := HL.out; omega) (am_code L)).mono ?_
    rintro e Wh ⟨vb2, vc2, rfl, ho1, ho2, hbh⟩
    have ho1 : Wh.ownsRow Wg.heap.size 5 1 vb2 2 (bcells [1, 2]) := ho1
    obtain ⟨gh, ch, cuh, rfl, hgh1, hgh2, _, _, _, hgh6⟩ := own_some ho1 (by decide)
    obtain ⟨gj, cj, cuj, rfl, hgj1, hgj2, _, _, _, hgj6⟩ := own_some ho2 HL.out.1
    have B15 := H14.out.1.adds (ns := [(gh, .cells cuh 5 (0, 0)), (gj, .cells cuj 28 (0, 0))]) hbh (fun p hp => by
      simp only [List.mem_cons, List.not_mem_nil, or_false] at hp
      rcases hp with rfl | rfl
      · exact ⟨hgh1, hgh2⟩
      · exact ⟨hgj1, hgj2⟩)
    have kbb := (B15.has _ (.tail _ (.tail _ (.tail _ (.head _))))).1
    have t0 : Wh.cell? ⟨bb, 0, none⟩ = some (.int .i64 0) := cell_at kbb
    have t1 : Wh.cell? ⟨bb, 1, none⟩ = some (.int .i64 0) := cell_at kbb
    have t2 : Wh.cell? ⟨bb, 2, none⟩ = some (.int .i64 0) := cell_at kbb
    have t3 : Wh.cell? ⟨bb, 3, none⟩ = some (.slice (some ⟨gb, 0, none⟩) 2 cbb) := cell_at kbb
    have t4 : Wh.cell? ⟨bb, 4, none⟩ = some (.slice (some ⟨gc, 0, none⟩) L.length ccc) := cell_at kbb
    have g0 : Wh.frozen? ⟨bb, 0, none⟩ = false := frozen_at kbb
    have g1 : Wh.frozen? ⟨bb, 1, none⟩ = false := frozen_at kbb
    have g2 : Wh.frozen? ⟨bb, 2, none⟩ = false := frozen_at kbb
    have g3 : Wh.frozen? ⟨bb, 3, none⟩ = false := frozen_at kbb
    have g4 : Wh.frozen? ⟨bb, 4, none⟩ = false := frozen_at kbb
    have hks : ∀ p ∈ [(gh, Obj.cells cuh 5 (0, 0)), (gj, .cells cuj 28 (0, 0)), (gg, .cells cug 28 (0, 0)), (cb, wobj (6, 1)), (vb, wobj (4, 0)), (w.heap.size, wobj x)], p ∈ [(gh, Obj.cells cuh 5 (0, 0)), (gj, .cells cuj 28 (0, 0)), (gg, .cells cug 28 (0, 0)), (bb, .cells #[.int .i64 0, .int .i64 0, .int .i64 0, .slice (some ⟨gb, 0, none⟩) 2 cbb, .slice (some ⟨gc, 0, none⟩) L.length ccc] 52 (0, 0)), (cb, wobj (6, 1)), (vb, wobj (4, 0)), (w.heap.size, wobj x)] ∧ p.1 ≠ bb := by
      have := H14.out.2
      intro p hp
      simp only [List.mem_cons, List.not_mem_nil, or_false] at hp
      rcases hp with rfl | rfl | rfl | rfl | rfl | rfl
      · exact ⟨.head _, by dsimp only; omega⟩
      · exact ⟨.tail _ (.head _), by dsimp only; omega⟩
      · exact ⟨.tail _ (.tail _ (.head _)), by dsimp only; omega⟩
      · exact ⟨.tail _ (.tail _ (.tail _ (.tail _ (.head _)))), by dsimp only; omega⟩
      · exact ⟨.tail _ (.tail _ (.tail _ (.tail _ (.tail _ (.head _))))), by dsimp only; omega⟩
      · exact ⟨.tail _ (.tail _ (.tail _ (.tail _ (.tail _ (.tail _ (.head _)))))), by dsimp only; omega⟩
    have B16 := B15.poke5 (.tail _ (.tail _ (.tail _ (.head _)))) hks (.int .i64 0) (.int .i64 0) (.int .i64 0) (.slice (some ⟨gh, 0, none⟩) 2 ch) (.slice (some ⟨gj, 0, none⟩) L.length cj)
    have H16 := Lib.hid B16
    have HR := Lib.hid (And.intro H14.out.2.2.1 (And.intro hgh6 hgj6))
    have p0 : (((((Wh.setCell ⟨bb, 0, none⟩ (.int .i64 0)).setCell ⟨bb, 1, none⟩ (.int .i64 0)).setCell ⟨bb, 2, none⟩ (.int .i64 0)).setCell ⟨bb, 3, none⟩ (.slice (some ⟨gh, 0, none⟩) 2 ch)).setCell ⟨bb, 4, none⟩ (.slice (some ⟨gj, 0, none⟩) L.length cj)).cell? ⟨vb, 0, none⟩ = some (.int .i64 4) := cell_at (H16.out.has _ (.tail _ (.tail _ (.tail _ (.tail _ (.tail _ (.head _))))))).1
    have p1 : (((((Wh.setCell ⟨bb, 0, none⟩ (.int .i64 0)).setCell ⟨bb, 1, none⟩ (.int .i64 0)).setCell ⟨bb, 2, none⟩ (.int .i64 0)).setCell ⟨bb, 3, none⟩ (.slice (some ⟨gh, 0, none⟩) 2 ch)).setCell ⟨bb, 4, none⟩ (.slice (some ⟨gj, 0, none⟩) L.length cj)).cell? ⟨vb, 1, none⟩ = some (.int .i64 0) := cell_at (H16.out.has _ (.tail _ (.tail _ (.tail _ (.tail _ (.tail _ (.head _))))))).1
    clear hbh ho1 ho2 hgh1 hgh2 hgh6 hgj1 hgj2 hgj6 B15 kbb hks B16 H14 r2 r3
    go_wp2_with fail
    generalize ((((Wh.setCell ⟨bb, 0, none⟩ (.int .i64 0)).setCell ⟨bb, 1, none⟩ (.int .i64 0)).setCell ⟨bb, 2, none⟩ (.int .i64 0)).setCell ⟨bb, 3, none⟩ (.slice (some ⟨gh, 0, none⟩) 2 ch)).setCell ⟨bb, 4, none⟩ (.slice (some ⟨gj, 0, none⟩) L.length cj) = W16 at *
    clear t0 t1 t2 t3 t4 g0 g1 g2 g3 g4
    have hatv : (L.set kz x)[kz]? = some x := List.getElem?_set_self HA.out.2.2.2.2.1
    refine (at_ok H16.out.heap2 (4, 0) x kz (L.set kz x) (an_vec L _) hatv).mono ?_
    rintro e Wi ⟨rfl, hbi⟩
    clear hatv p0 p1
    have B17 := (H16.out.junk hbi).alloc (wobj x)
    have H17 := Lib.hid B17
    clear hbi B17 H16
    go_wp2_with fail
    generalize Wi.alloc (wobj x) = W17 at *
    generalize Wi.heap.size = db at *
    refine (collect_any H17.out.heap2 (.slice none 0 0) [] (by decide) (.inl ⟨rfl, rfl⟩)).mono ?_
    rintro e Wj ⟨b, _, hbr, rfl, hwj⟩
    have hsw := sweep_two (.vec (L.set kz x)) (.code 0 0 0 [1, 2] L) b hbr
    have hwj2 : Went W17 Wj hc F8 ((⟨9, [some (.vec (L.set kz x)), some (.code 0 0 0 [1, 2] L)], []⟩ : Hp).sweep b 2) := hwj
    obtain ⟨F18, B18⟩ := H17.out.went2 hwj2
    have H18 := Lib.hid (And.intro B18 hsw)
    clear hbr hwj hwj2 B18 hsw H17
    go_wp2_with fail
    refine (same_true (SlW.of_block (H18.out.1.has _ (.tail _ (.tail _ (.tail _ (.tail _ (.head _)))))).1 HR.out.1) (HV.out _ H18.out.1.below) HL.out.2).mono ?_
    rintro e Wk ⟨rfl, hbk⟩
    have B19 := H18.out.1.junk hbk
    have s4 : Wk.cell? ⟨bb, 4, none⟩ = some (.slice (some ⟨gj, 0, none⟩) L.length cj) := cell_at (B19.has _ (.tail _ (.head _))).1
    have H19 := Lib.hid (And.intro B19 H18.out.2)
    clear hbk B19 H18
    go_wp2_with fail
    refine (same_true (SlW.of_block (H19.out.1.has _ (.tail _ (.tail _ (.tail _ (.head _))))).1 HR.out.2.2) (HV.out _ H19.out.1.below) HL.out.2).mono ?_
    rintro e Wl ⟨rfl, hbl⟩
    have B20 := H19.out.1.junk hbl
    have s3 : Wl.cell? ⟨bb, 3, none⟩ = some (.slice (some ⟨gh, 0, none⟩) 2 ch) := cell_at (B20.has _ (.tail _ (.head _))).1
    have s0 : Wl.cell? ⟨gh, 0, none⟩ = some (.int .u8 1) := (cell_at (B20.has _ (.tail _ (.tail _ (.head _)))).1).trans (own_cell HR.out.2.1 rfl)
    have d0 : Wl.cell? ⟨db, 0, none⟩ = some (.int .i64 x.1) := cell_at (B20.has _ (.head _)).1
    have d1 : Wl.cell? ⟨db, 1, none⟩ = some (.int .i64 x.2) := cell_at (B20.has _ (.head _)).1
    have d2 : Wl.cell? ⟨w.heap.size, 0, none⟩ = some (.int .i64 x.1) := cell_at (B20.has _ (.tail _ (.tail _ (.tail _ (.tail _ (.tail _ (.tail _ (.tail _ (.head _))))))))).1
    have d3 : Wl.cell? ⟨w.heap.size, 1, none⟩ = some (.int .i64 x.2) := cell_at (B20.has _ (.tail _ (.tail _ (.tail _ (.tail _ (.tail _ (.tail _ (.tail _ (.head _))))))))).1
    have hm1 := B20.heap.many
    have hm2 := B20.heap2.many
    rw [H19.out.2.1] at hm2
    have hm1 : Reads Wl 19 #[hptr hb] (.int .i64 2) := hm1
    obtain ⟨_, _, _, k0, _⟩ := B20.heap2.lies
    have hlim : Wl.cell? ⟨hc, 0, none⟩ = some (.int .i64 (9 : Nat)) := (cell_at k0).trans (by rw [H19.out.2.2]; rfl)
    have hcl := B20.heap2.lt
    have H20 := Lib.hid (And.intro B20.below (And.intro hm1 (And.intro hm2 (And.intro hlim hcl))))
    clear hbl B20 hm1 hm2 hlim hcl k0 H19 s4
    go_wp2_with fail
    refine (H20.out.2.1 _ (Old.refl _)).mono ?_
    rintro e w' ⟨rfl, d, rfl⟩
    go_wp2_with fail
    refine (H20.out.2.2.1 _ ((Old.refl _).drewN _)).mono ?_
    rintro e w' ⟨rfl, d', rfl⟩
    have hbq : Below Wl.heap.size Wl (Wl.drewN (d + d')) := (Below.refl _ _).drewN _
    have CL := Lib.hid (limit_any hc (9 : Nat) (Wl.drewN (d + d')) (by decide) ((hbq.cell (p := ⟨hc, 0, none⟩) H20.out.2.2.2.2).trans H20.out.2.2.2.1))
    have HB := Lib.hid hbq
    clear hbq
    go_wp2_with fail
    refine CL.out.mono ?_
    rintro e w' ⟨rfl, rfl⟩
    go_wp2
    go_ret
    exact ⟨rfl, H20.out.1.trans (HB.out.mono H20.out.1.size)⟩
end Go.Proofs.YtleppjdmcjocmaaDoor
