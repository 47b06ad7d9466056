/- The walk of the law HeapFull. Condition: unicode/utf8's two tables hold what the program's text lays. -/
import Derived.Test.YtleppjdmcjocmaaDoorHpFullSpec
import Derived.Deep.DeepCutAuto
import Derived.Deep.RegionHeld3
import Derived.Deep.RegionLaw
namespace Go.Proofs.YtleppjdmcjocmaaDoor
open Go.RowKit Go.Lib
set_option maxHeartbeats 60000000 in
set_option maxRecDepth 100000 in
theorem full_any (li wh : Int) (w : World) (hT : Tabs w) :
    Calls Tryd.prog 5 #[.int .i64 li, .int .i64 wh] w fun e w' => e = .returned (.bool true) ∧ Below w.heap.size w w' := by
  obtain ⟨hp0, hp1⟩ := pickZ_in li 60 (by decide)
  obtain ⟨n, hn⟩ : ∃ n : Nat, (1 : Int) + pickZ li 60 = (n : Int) := ⟨(1 + pickZ li 60).toNat, by omega⟩
  have hn1 : 1 ≤ n := by omega
  have hn60 : n ≤ 60 := by omega
  have HT := Lib.hid hT
  have cP0 := fun V => pick_any li 60 V (by decide) (by decide)
  clear hT
  go_enter Tryd.func5, Tryd.ntmps5
  go_wp2_with fail
  refine (lives_any _ HT.out).mono ?_
  rintro e W0 ⟨rfl, hb0⟩
  have H0 := Lib.hid hb0
  clear hb0
  go_wp2_with (go_at_call 24; ((with_reducible refine (cP0 _).mono ?_); rintro e w' ⟨rfl, hw'⟩; obtain rfl : _ = w' := hw'.symm; clear hw'))
  refine (new_any n _ hn1 (by omega)).mono ?_
  rintro e W1 ⟨rfl, hb1, hz1, h1⟩
  have hlh : LHeap w W1 W0.heap.size (fun k => if k = W0.heap.size then 1 else 0) (fm n 0) := ⟨H0.out.trans (hb1.mono H0.out.size), h1, fun k hk => if_neg (by have := H0.out.size; omega)⟩
  have H1 := Lib.hid hlh
  clear hb1 hz1 h1 hlh H0 cP0 hp0 hp1 hn
  go_wp2_with fail
  generalize W0.heap.size = hb at *
  go_loopg [8, 9] n (fun gk sv kv wr => ∃ (k : Nat) (G D : Nat → Nat), gk = n - k ∧ k ≤ n ∧ kv = .int .i64 k ∧ LHeap w wr hb G (fm n k) ∧ FRow w wr G D sv (fw k))
  case atStart => exact ⟨0, _, _, by omega, Nat.zero_le _, rfl, H1.out, FRow.nil⟩
  case round =>
    obtain ⟨k, G, D, hgk, hk, rfl, hin, hrw⟩ := hrel
    have HIN := Lib.hid (And.intro hin hrw)
    have HGK := Lib.hid hgk
    clear hin hgk hrw H1
    by_cases hlt : k < n
    · skip
      obtain ⟨sa, sc, e3⟩ := HIN.out.2.row.slice
      subst e3
      obtain ⟨i1, hj, hj0, hj1, hj2⟩ := info_parts info_word
      go_wp2_with fail
      refine (int_any _ _).mono ?_
      rintro e Wa ⟨rfl, hba⟩
      have HBA := Lib.hid hba
      clear hba
      go_wp2_with fail
      refine (nil_any _).mono ?_
      rintro e Wb ⟨rfl, hbb⟩
      have hbw : Below wr.heap.size wr Wb := HBA.out.trans (hbb.mono HBA.out.size)
      have h2 := HIN.out.1.junk hbw
      have hr2 := HIN.out.2.junk hbw
      have H2 := Lib.hid (And.intro h2 hr2)
      clear hbb hbw h2 hr2 HBA
      go_wp2_with fail
      refine (cons_any H2.out.1.heap (adds_fm hlt)).mono ?_
      rintro e Wc ⟨rfl, hwc⟩
      obtain ⟨G3, h3, g3⟩ := H2.out.1.went hwc
      have hr3 := H2.out.2.went hwc g3
      have hbl3 := (Below.refl Wc.heap.size Wc).alloc (Nat.le_refl _) (.cells #[.int .i64 2, .int .i64 k] 28)
      have h4 := h3.junk hbl3
      have hr4 := hr3.junk hbl3
      have k10 := alloc_at Wc (.cells #[.int .i64 2, .int .i64 k] 28)
      have H4 := Lib.hid (And.intro h4 (And.intro hr4 k10))
      clear hwc h3 g3 hr3 hbl3 h4 hr4 k10 H2
      go_wp2_with fail
      generalize Wc.alloc (.cells #[.int .i64 2, .int .i64 k] 28) = Wd at *
      generalize Wc.heap.size = n10 at *
      have q0 : Wd.cell? ⟨n10, 0, none⟩ = some (.int .i64 2) := cell_at H4.out.2.2
      have q1 : Wd.cell? ⟨n10, 1, none⟩ = some (.int .i64 k) := cell_at H4.out.2.2
      have z10 := lt_at H4.out.2.2
      go_cut [57] (fun s57 we => s57 = .bool false ∧ Below Wd.heap.size Wd we)
      case first =>
        go_region_held3 (fun w' => w'.cell? ⟨n10, 0, none⟩ = some (.int .i64 2) ∧ w'.cell? ⟨n10, 1, none⟩ = some (.int .i64 k)) (first | exact ⟨qa0, qa1⟩ | exact ⟨q0, q1⟩ | go_keep)
          ((go_at_call 16; refine (word_any _ _ _).mono ?_; rintro e we ⟨rfl, hbe⟩; have qa0 : we.cell? ⟨n10, 0, none⟩ = some (.int .i64 2) := (hbe.cell (p := ⟨n10, 0, none⟩) z10).trans q0; have qa1 : we.cell? ⟨n10, 1, none⟩ = some (.int .i64 k) := (hbe.cell (p := ⟨n10, 1, none⟩) z10).trans q1; have HE := Lib.hid hbe; clear hbe))
        all_goals (go_wp2_with fail; go_meet)
        all_goals exact ⟨rfl, (Below.refl _ _).drew.trans (HE.out.mono (Nat.le_refl _))⟩
      case rest =>
        obtain ⟨rfl, hbe⟩ := hcut
        have h5 := H4.out.1.junk hbe
        have hr5 := H4.out.2.1.junk hbe
        have k10 := (hbe.block n10 (lt_at H4.out.2.2)).trans H4.out.2.2
        have p0 : wc.cell? ⟨n10, 0, none⟩ = some (.int .i64 2) := cell_at k10
        have p1 : wc.cell? ⟨n10, 1, none⟩ = some (.int .i64 k) := cell_at k10
        have hrow0 : Row (wc.alloc (.cells #[.int .i64 2, .int .i64 k] 28)) _ 1 28 2 (.slice sa (fw k).length sc) (fw k).length (wcells (fw k)) := hr5.row.keep (fun j hj _ => Below.heap_alloc _ _ _ hj) (fun _ _ e => e)
        have hn0 := news_two wc (.int .i64 2) (.int .i64 k) 28
        have hnw : ∀ u ∈ [Value.int .i64 2, Value.int .i64 k], u.oneCell' = true := by intro u hu; simp at hu; rcases hu with rfl | rfl <;> rfl
        have h63 : (fw k).length + 1 ≤ maxLen := by rw [fw_length]; unfold maxLen; omega
        have h64 : ((fw k).length + 1) * 16 ≤ 140737488355328 := by rw [fw_length]; omega
        have H5 := Lib.hid (And.intro h5 (And.intro hr5 (And.intro hrow0 (And.intro hn0 (And.intro hnw (And.intro h63 h64))))))
        clear hbe h5 hr5 k10 hrow0 hn0 hnw h63 h64 H4 q0 q1 z10
        go_wp2_with (at_builtin; refine wpList_append_row _ rfl _ _ 36 rfl 28 i1 (.agg #[.int .i64 0, .int .i64 0]) 2 16 Tryd.underlying36 hj hj0 hj1 hj2 rfl (by decide) _ _ _ rfl _ 1 H5.out.2.2.1 ⟨wc.heap.size, 0, none⟩ 1 1 [.int .i64 2, .int .i64 k] rfl rfl H5.out.2.2.2.1 H5.out.2.2.2.2.1 H5.out.2.2.2.2.2.1 H5.out.2.2.2.2.2.2 ?_)
        intro v3' w3 hrow3 hgr3 _
        have hbl3 := (Below.refl wc.heap.size wc).alloc (Nat.le_refl _) (.cells #[.int .i64 2, .int .i64 k] 28)
        have e1 : (fw (k + 1)).length = (fw k).length + 1 := by rw [fw_length, fw_length]
        have e2 : wcells (fw (k + 1)) = wcells (fw k) ++ [.int .i64 2, .int .i64 k] := by rw [fw_snoc, wcells_append]; rfl
        have e4 : (wc.alloc (.cells #[.int .i64 2, .int .i64 k] 28)).heap.size = wc.heap.size + 1 := by simp
        rw [← e1, ← e2, ← e4] at hrow3
        have hr6 := H5.out.2.1.push H5.out.1.below.size H5.out.1.heap.new hbl3 hrow3
        have h6 := H5.out.1.grown hbl3 hgr3 (fun j hj => H5.out.2.1.sep j (by have h9 := H5.out.2.1.row.lab j hj; rw [h9]; decide) (H5.out.2.1.row.lt j hj))
        have H6 := Lib.hid (And.intro h6 hr6)
        clear hbl3 hrow3 hgr3 hr6 h6 H5 e1 e2 e4
        go_wp2_with fail
        go_roundg (n - (k + 1))
        case measure => have := HGK.out; omega
        case rel => exact ⟨k + 1, G3, _, rfl, hlt, by go_num, H6.out.1, H6.out.2⟩
    · have hk2 : n = k := by omega
      subst hk2
      obtain ⟨sa, sc, e3⟩ := HIN.out.2.row.slice
      subst e3
      clear hk hlt HGK
      go_wp2_with fail
      refine (nil_any _).mono ?_
      rintro e Wa ⟨rfl, hba⟩
      have HBA := Lib.hid hba
      clear hba
      go_wp2_with fail
      refine (nil_any _).mono ?_
      rintro e Wb ⟨rfl, hbb⟩
      have hbw : Below wr.heap.size wr Wb := HBA.out.trans (hbb.mono HBA.out.size)
      have h2 := HIN.out.1.junk hbw
      have hr2 := HIN.out.2.junk hbw
      have H2 := Lib.hid (And.intro h2 hr2)
      clear hbb hbw h2 hr2 HBA
      go_wp2_with fail
      refine (cons_any H2.out.1.heap (full_fm _)).mono ?_
      rintro e Wc ⟨rfl, hwc⟩
      obtain ⟨G3, h3, g3⟩ := H2.out.1.went hwc
      have hr3 := H2.out.2.went hwc g3
      have hbl3 := (Below.refl Wc.heap.size Wc).alloc (Nat.le_refl _) (.cells #[.int .i64 0, .int .i64 0] 28)
      have h4 := h3.junk hbl3
      have hr4 := hr3.junk hbl3
      have H4 := Lib.hid (And.intro h4 hr4)
      clear hwc h3 g3 hr3 hbl3 h4 hr4 H2 HIN
      go_wp2_with fail
      refine (text_any H4.out.1.heap (HT.out.below H4.out.1.below HT.out.size) (by decide) (by decide +kernel) (by decide +kernel) (full_fm _)).mono ?_
      rintro e Wd ⟨rfl, hwd⟩
      obtain ⟨G5, h5, g5⟩ := H4.out.1.went hwd
      have hr5 := H4.out.2.went hwd g5
      have hbl5 := (Below.refl Wd.heap.size Wd).alloc (Nat.le_refl _) (.cells #[.int .i64 0, .int .i64 0] 28)
      have h6 := h5.junk hbl5
      have hr6 := hr5.junk hbl5
      have H6 := Lib.hid (And.intro h6 hr6)
      clear hwd h5 g5 hr5 hbl5 h6 hr6 H4
      go_wp2_with fail
      refine (code_any (bs := []) (cs := []) H6.out.1.heap (.inl ⟨rfl, rfl, rfl⟩) (fun k hk => by cases hk) (by decide) (.inl ⟨rfl, rfl, rfl⟩) (fun k hk => by cases hk) (by decide) (full_fm _)).mono ?_
      rintro e We ⟨rfl, hwe⟩
      obtain ⟨G7, h7, g7⟩ := H6.out.1.went hwe
      have hr7 := H6.out.2.went hwe g7
      have hbl7 := (Below.refl We.heap.size We).alloc (Nat.le_refl _) (.cells #[.int .i64 0, .int .i64 0] 28)
      have h8 := h7.junk hbl7
      have hr8 := hr7.junk hbl7
      obtain ⟨kz, hkz⟩ : ∃ kz : Nat, pickZ wh n = (kz : Int) := ⟨(pickZ wh n).toNat, by have := pickZ_in wh n (by omega); omega⟩
      have hkn : kz < n := by have := pickZ_in wh n (by omega); omega
      have cP1 := fun V => pick_any wh n V (by omega) (by omega)
      rw [hkz] at cP1
      have H8 := Lib.hid (And.intro h8 hr8)
      clear hwe h7 g7 hr7 hbl7 h8 hr8 H6 hkz
      go_wp2_with (go_at_call 24; ((with_reducible refine (cP1 _).mono ?_); rintro e w' ⟨rfl, hw'⟩; obtain rfl : _ = w' := hw'.symm; clear hw'))
      generalize We.alloc (.cells #[.int .i64 0, .int .i64 0] 28) = Wf at *
      obtain ⟨g, cap, cur, e, _, kg, hcap, _⟩ := H8.out.2.row.at (by rw [fw_length]; omega)
      cases e
      rw [fw_length] at hcap
      have hfl := fw_length n
      obtain ⟨k1, hk1⟩ : ∃ k1, k1 = kz + 1 := ⟨_, rfl⟩
      obtain ⟨R, hR⟩ : ∃ R, R = (fw n).take kz ++ (fw n).drop k1 := ⟨_, rfl⟩
      obtain ⟨i1, hj, hj0, hj1, hj2⟩ := info_parts info_word
      have hkc : kz ≤ sc := by omega
      have hkc1 : k1 ≤ sc := by omega
      have hkn1 : k1 ≤ n := by omega
      have hwr : IntKind.i64.wrap ((kz : Int) + 1) = (k1 : Int) := by rw [IntKind.wrap_i64]; omega
      have hkI1 : (0 : Int) ≤ (k1 : Int) := by omega
      have hkI2 : (k1 : Int) ≤ (n : Int) := by omega
      have hkI3 : (0 : Int) ≤ (kz : Int) := by omega
      have hkI4 : (kz : Int) ≤ (n : Int) := by omega
      have hkI5 : (kz : Int) ≤ (sc : Int) := by omega
      obtain ⟨ad, had⟩ : ∃ ad : Addr, (if sc = k1 then (some ⟨g, 0, none⟩ : Option Addr) else some ⟨g, k1 * 2, none⟩) = some ad := by
        by_cases h : sc = k1
        · exact ⟨_, by rw [if_pos h]⟩
        · exact ⟨_, by rw [if_neg h]⟩
      have hsrc1 : ∀ W, Below Wf.heap.size Wf W → Src W 2 (.slice (some ⟨g, 0, none⟩) kz sc) kz (wcells ((fw n).take kz)) := fun W hW => src_take H8.out.2.row (by omega) hW
      have hsrc2 : ∀ W, Below Wf.heap.size Wf W → ∀ j u, (wcells ((fw n).drop k1))[j]? = some u → W.cell? (ad.add j) = some u := fun W hW j u hu => by
        by_cases h : sc = k1
        · rw [List.drop_eq_nil_of_le (by omega)] at hu
          simp [wcells] at hu
        · rw [if_neg h] at had
          cases had
          exact src_drop H8.out.2.row hW j u hu
      have cO := fun W (hW : Below Wf.heap.size Wf W) => own_word (.slice (some ⟨g, 0, none⟩) kz sc) kz (wcells ((fw n).take kz)) W (fun V hV => hsrc1 V (hW.trans (hV.mono hW.size))) (wcells_one _) (by omega)
      have CO := Lib.hid cO
      have hlen2 : (wcells ((fw n).drop k1)).length = (n - k1) * 2 := by rw [wcells_length, List.length_drop, hfl]
      have h63 : kz + (n - k1) ≤ maxLen := by unfold maxLen; omega
      have h64 : (kz + (n - k1)) * 16 ≤ 140737488355328 := by omega
      have hRl : R.length = kz + (n - k1) := by rw [hR]; simp [hfl]; omega
      have hRw : wcells R = wcells ((fw n).take kz) ++ wcells ((fw n).drop k1) := by rw [hR, wcells_append]
      have HS := Lib.hid (And.intro hsrc2 (And.intro hR (And.intro hlen2 (And.intro h63 (And.intro h64 (And.intro hRl hRw))))))
      have HK1 := Lib.hid hk1
      clear cO hsrc1 hsrc2 hR kg hlen2 h63 h64 hRl hRw hk1
      rw [hfl]
      go_cut [19] (fun s19 we => we.ownsRow Wf.heap.size 28 2 s19 R.length (wcells R) ∧ Below Wf.heap.size Wf we)
      case first =>
        go_region_law (first
          | (go_simp; go_at_call 31; refine (CO.out _ (Below.refl _ _).drew).mono ?_; rintro e w1 ⟨v1, rfl, ho1, hb1⟩; obtain ⟨a1, c1, rfl⟩ := own_slice ho1; have HO1 := Lib.hid (And.intro (own_row' ho1) (And.intro (HS.out.1 w1 ((Below.refl _ _).drew.trans (hb1.mono (Nat.le_refl _)))) (And.intro ho1 hb1))); clear ho1 hb1)
          | (refine step_append_row rfl _ _ 36 rfl 28 i1 (.agg #[.int .i64 0, .int .i64 0]) 2 16 Tryd.underlying36 hj hj0 hj1 hj2 rfl (by decide) _ _ _ rfl (fun k => if Wf.heap.size ≤ k then 1 else 0) 1 HO1.out.1 ad (n - k1) (sc - k1) (wcells ((fw n).drop k1)) rfl HS.out.2.2.1 HO1.out.2.1 (wcells_one _) HS.out.2.2.2.1 HS.out.2.2.2.2.1 ?_; intro v2 w2 hrow2 hgr2 _; have HQ := Lib.hid (And.intro hrow2 hgr2); clear hrow2 hgr2))
        all_goals
          have hfin : w2.ownsRow Wf.heap.size 28 2 v2 R.length (wcells R) ∧ Below Wf.heap.size Wf w2 := by
            obtain ⟨hrow2, hgr2⟩ := HQ.out
            have hz1 := HO1.out.2.2.2.size
            have hzd : Wf.drew.heap.size = Wf.heap.size := rfl
            refine ⟨?_, ((Below.refl Wf.heap.size Wf).drew.trans (HO1.out.2.2.2.mono (Nat.le_refl _))).trans ((Below.refl Wf.heap.size _).grown hgr2 (by omega) (fun j hj => (HO1.out.2.2.1.lt j hj).1))⟩
            rw [HS.out.2.2.2.2.2.1, HS.out.2.2.2.2.2.2]
            refine own_up hrow2 (fun j hj => ?_)
            by_cases h1 : j < w1.heap.size
            · rw [if_pos h1] at hj
              exact Classical.byContradiction fun h2 => by rw [if_neg h2] at hj; omega
            · omega
          have HF := Lib.hid hfin
          clear hfin HQ
          go_wp2_with fail
          go_meet
          exact ⟨HF.out.1, HF.out.2⟩
      case rest =>
        obtain ⟨hown, hbe⟩ := hcut
        have h9 := H8.out.1.junk hbe
        have hr9 := H8.out.2.junk hbe
        have hRl : R.length ≤ 1048576 := by rw [HS.out.2.2.2.2.2.1]; omega
        have hcC := collect_any h9.heap u19 R hRl (ArgW.of_own hown)
        have hreach : ∀ j : Nat, (fm n n).Reach R j ↔ j < n ∧ j ≠ kz := fun j => by rw [HS.out.2.1, HK1.out]; exact reach_fm n kz j hkn
        have CC := Lib.hid hcC
        have H9 := Lib.hid (And.intro h9 (And.intro hr9 hreach))
        clear hown hbe h9 hr9 hRl hcC hreach H8 CO HS had
        go_wp2_with fail
        refine CC.out.mono ?_
        rintro e Wg ⟨b, hbl, hbr, he, hwent⟩
        have hb2 : ∀ j : Nat, b[j]? = some true ↔ j < n ∧ j ≠ kz := fun j => (hbr j).trans (H9.out.2.2 j)
        obtain ⟨hs1, hs2⟩ := sweep_fm n kz b hkn hb2 n (Nat.le_refl _)
        rw [if_pos hkn] at hs1 hs2
        rw [fm_length, hs2] at he
        rw [fm_length, hs1] at hwent
        subst he
        obtain ⟨G10, h10, g10⟩ := H9.out.1.went hwent
        have hr10 := H9.out.2.1.went hwent g10
        have H10 := Lib.hid (And.intro h10 hr10)
        clear hbl hbr hb2 hs1 hs2 hwent h10 g10 hr10 H9 CC
        go_wp2_with fail
        refine (vec_any (l := []) H10.out.1.heap (.inl ⟨rfl, rfl, rfl⟩) (fun k hk => by cases hk) (by decide) (adds_fv hkn)).mono ?_
        rintro e Wh ⟨rfl, hwh⟩
        obtain ⟨G11, h11, g11⟩ := H10.out.1.went hwh
        have hr11 := H10.out.2.went hwh g11
        have hbl11 := (Below.refl Wh.heap.size Wh).alloc (Nat.le_refl _) (.cells #[.int .i64 4, .int .i64 kz] 28)
        have h12 := h11.junk hbl11
        have hr12 := hr11.junk hbl11
        have k21 := alloc_at Wh (.cells #[.int .i64 4, .int .i64 kz] 28)
        obtain ⟨j, hj1, hjn, hjk⟩ := pick_next n kz hkn hn60
        have hpk : pickZ (k1 : Int) n = (j : Int) := by rw [← hj1]; congr 1; have := HK1.out; omega
        have cP2 := fun V => pick_any (k1 : Int) n V (by omega) (by omega)
        rw [hpk] at cP2
        have hcr := hr12.row
        have hcj0 := hcr.cell (wcells_fst _ j _ (fw_at n j hjn))
        have hcj1 := hcr.cell (wcells_snd _ j _ (fw_at n j hjn))
        have hzg := hcr.lt g rfl
        have hcar := car_any h12.heap (2, (j : Int))
        rw [fv_car n kz j hkn hjn] at hcar
        have CCar := Lib.hid hcar
        have H12 := Lib.hid (And.intro h12 (And.intro k21 (And.intro hjk hr12)))
        have hjI : (j : Int) < (n : Int) := by omega
        clear hwh h11 g11 hr11 hbl11 h12 hr12 k21 hj1 hcr hcar H10 hpk
        go_wp2_with fail
        generalize Wh.alloc (.cells #[.int .i64 4, .int .i64 kz] 28) = Wi at *
        generalize Wh.heap.size = n21 at *
        obtain ⟨A, me, hAm⟩ : ∃ (A : Int × Int) (me : Int), (if j = kz then (((0 : Int), (0 : Int)), (6 : Int)) else ((0, (j : Int)), 0)) = (A, me) := ⟨_, _, rfl⟩
        rw [hAm] at CCar
        have HAm := Lib.hid hAm
        clear hAm
        go_wp2_with (first
          | (go_at_call 24; ((with_reducible refine (cP2 _).mono ?_); rintro e w' ⟨rfl, hw'⟩; obtain rfl : _ = w' := hw'.symm; clear hw')))
        refine CCar.out.mono ?_
        rintro e Wj ⟨rfl, hbj⟩
        have hbl14 := (Below.refl Wj.heap.size Wj).alloc (Nat.le_refl _) (.cells #[.int .i64 A.1, .int .i64 A.2] 28)
        have h14 := (H12.out.1.junk hbj).junk hbl14
        have k21 := (Below.heap_alloc Wj (.cells #[.int .i64 A.1, .int .i64 A.2] 28) _ (Nat.lt_of_lt_of_le (lt_at H12.out.2.1) hbj.size)).trans ((hbj.block n21 (lt_at H12.out.2.1)).trans H12.out.2.1)
        have k23 := alloc_at Wj (.cells #[.int .i64 A.1, .int .i64 A.2] 28)
        have hmany := h14.heap.many
        rw [fv_many] at hmany
        have CM := Lib.hid hmany
        have H14 := Lib.hid (And.intro h14 (And.intro k21 (And.intro k23 H12.out.2.2.1)))
        clear hbj hbl14 h14 k21 k23 hmany H12 CCar hcj0 hcj1 hzg
        go_wp2_with fail
        generalize Wj.alloc (.cells #[.int .i64 A.1, .int .i64 A.2] 28) = Wk at *
        generalize Wj.heap.size = n23 at *
        have q0 : Wk.cell? ⟨n21, 0, none⟩ = some (.int .i64 4) := cell_at H14.out.2.1
        have q1 : Wk.cell? ⟨n21, 1, none⟩ = some (.int .i64 kz) := cell_at H14.out.2.1
        have q2 : Wk.cell? ⟨n23, 0, none⟩ = some (.int .i64 A.1) := cell_at H14.out.2.2.1
        have q3 : Wk.cell? ⟨n23, 1, none⟩ = some (.int .i64 A.2) := cell_at H14.out.2.2.1
        have z21 := lt_at H14.out.2.1
        have z23 := lt_at H14.out.2.2.1
        go_cut [4] (fun s4 we => s4 = .bool true ∧ Below Wk.heap.size Wk we)
        case first =>
          by_cases h1n : n = 1
          · skip
            have hn1b : ((n : Int) == 1) = true := by rw [h1n]; rfl
            have HN1 := Lib.hid h1n
            clear h1n
            refine wp_region_held_drew (S := (fun w' => w'.cell? ⟨n21, 0, none⟩ = some (.int .i64 4) ∧ w'.cell? ⟨n21, 1, none⟩ = some (.int .i64 kz) ∧ w'.cell? ⟨n23, 0, none⟩ = some (.int .i64 A.1) ∧ w'.cell? ⟨n23, 1, none⟩ = some (.int .i64 A.2))) (by kernel_rfl) ⟨q0, q1, q2, q3⟩ (fun hHeld => ?_)
            refine wpAnyH_take (i := 0) (oi := { dst := some 112, op := Op.move (Operand.tmp 13), type := 24, pos := "law.go:257", after := #[], guard := none }) (v := .int .i64 7) rfl (by kernel_rfl) (by kernel_rfl) (by kernel_rfl) (fun _ _ _ h => h) (Or.inl ⟨by rfl, by (intro w hSw; (try dsimp only at hSw); go_simp)⟩) (by assumption) ?_
            try simp only [Act.put, List.setIfInBounds_toArray, List.set_cons_zero, List.set_cons_succ]
            refine wpAnyH_take (i := 1) (oi := { dst := some 113, op := Op.binOp BinOp.eql 24 (Operand.tmp 112) (Operand.const (Value.int IntKind.i64 7)) 24, type := 4, pos := "law.go:257", after := #[{ on := 0, ground := Ground.data }], guard := none }) (v := .bool true) rfl (by kernel_rfl) (by kernel_rfl) (by kernel_rfl) (fun _ _ _ h => h) (Or.inl ⟨by rfl, by (intro w hSw; (try dsimp only at hSw); go_simp)⟩) (by assumption) ?_
            try simp only [Act.put, List.setIfInBounds_toArray, List.set_cons_zero, List.set_cons_succ]
            refine wpAnyH_take (i := 2) (oi := { dst := some 114, op := Op.move (Operand.tmp 113), type := 4, pos := "law.go:257", after := #[{ on := 1, ground := Ground.data }], guard := none }) (v := .bool true) rfl (by kernel_rfl) (by kernel_rfl) (by kernel_rfl) (fun _ _ _ h => h) (Or.inl ⟨by rfl, by (intro w hSw; (try dsimp only at hSw); go_simp)⟩) (by assumption) ?_
            try simp only [Act.put, List.setIfInBounds_toArray, List.set_cons_zero, List.set_cons_succ]
            refine wpAnyH_take (i := 3) (oi := { dst := some 115, op := Op.move (Operand.tmp 15), type := 24, pos := "law.go:257", after := #[{ on := 2, ground := Ground.guard }], guard := some (2, true) }) (v := .int .i64 7) rfl (by kernel_rfl) (by kernel_rfl) (by kernel_rfl) (fun _ _ _ h => h) (Or.inl ⟨by rfl, by (intro w hSw; (try dsimp only at hSw); go_simp)⟩) (by assumption) ?_
            try simp only [Act.put, List.setIfInBounds_toArray, List.set_cons_zero, List.set_cons_succ]
            refine wpAnyH_take (i := 4) (oi := { dst := some 116, op := Op.binOp BinOp.eql 24 (Operand.tmp 115) (Operand.const (Value.int IntKind.i64 7)) 24, type := 4, pos := "law.go:257", after := #[{ on := 3, ground := Ground.data }, { on := 2, ground := Ground.guard }], guard := some (2, true) }) (v := .bool true) rfl (by kernel_rfl) (by kernel_rfl) (by kernel_rfl) (fun _ _ _ h => h) (Or.inl ⟨by rfl, by (intro w hSw; (try dsimp only at hSw); go_simp)⟩) (by assumption) ?_
            try simp only [Act.put, List.setIfInBounds_toArray, List.set_cons_zero, List.set_cons_succ]
            refine wpAnyH_take (i := 5) (oi := { dst := some 117, op := Op.pick (Operand.tmp 114) (Operand.tmp 116) (Operand.const (Value.bool false)), type := 4, pos := "law.go:257", after := #[{ on := 2, ground := Ground.data }, { on := 4, ground := Ground.data }], guard := none }) (v := .bool true) rfl (by kernel_rfl) (by kernel_rfl) (by kernel_rfl) (fun _ _ _ h => h) (Or.inl ⟨by rfl, by (intro w hSw; (try dsimp only at hSw); go_simp)⟩) (by assumption) ?_
            try simp only [Act.put, List.setIfInBounds_toArray, List.set_cons_zero, List.set_cons_succ]
            refine wpAnyH_take (i := 6) (oi := { dst := some 118, op := Op.move (Operand.tmp 117), type := 4, pos := "law.go:257", after := #[{ on := 5, ground := Ground.data }, { on := 2, ground := Ground.chain }], guard := none }) (v := .bool true) rfl (by kernel_rfl) (by kernel_rfl) (by kernel_rfl) (fun _ _ _ h => h) (Or.inl ⟨by rfl, by (intro w hSw; (try dsimp only at hSw); go_simp)⟩) (by assumption) ?_
            try simp only [Act.put, List.setIfInBounds_toArray, List.set_cons_zero, List.set_cons_succ]
            refine wpAnyH_take (i := 7) (oi := { dst := some 119, op := Op.move (Operand.tmp 17), type := 24, pos := "law.go:257", after := #[{ on := 6, ground := Ground.guard }], guard := some (6, true) }) (v := .int .i64 7) rfl (by kernel_rfl) (by kernel_rfl) (by kernel_rfl) (fun _ _ _ h => h) (Or.inl ⟨by rfl, by (intro w hSw; (try dsimp only at hSw); go_simp)⟩) (by assumption) ?_
            try simp only [Act.put, List.setIfInBounds_toArray, List.set_cons_zero, List.set_cons_succ]
            refine wpAnyH_take (i := 8) (oi := { dst := some 120, op := Op.binOp BinOp.eql 24 (Operand.tmp 119) (Operand.const (Value.int IntKind.i64 7)) 24, type := 4, pos := "law.go:257", after := #[{ on := 7, ground := Ground.data }, { on := 6, ground := Ground.guard }], guard := some (6, true) }) (v := .bool true) rfl (by kernel_rfl) (by kernel_rfl) (by kernel_rfl) (fun _ _ _ h => h) (Or.inl ⟨by rfl, by (intro w hSw; (try dsimp only at hSw); go_simp)⟩) (by assumption) ?_
            try simp only [Act.put, List.setIfInBounds_toArray, List.set_cons_zero, List.set_cons_succ]
            refine wpAnyH_take (i := 9) (oi := { dst := some 121, op := Op.pick (Operand.tmp 118) (Operand.tmp 120) (Operand.const (Value.bool false)), type := 4, pos := "law.go:257", after := #[{ on := 6, ground := Ground.data }, { on := 8, ground := Ground.data }], guard := none }) (v := .bool true) rfl (by kernel_rfl) (by kernel_rfl) (by kernel_rfl) (fun _ _ _ h => h) (Or.inl ⟨by rfl, by (intro w hSw; (try dsimp only at hSw); go_simp)⟩) (by assumption) ?_
            try simp only [Act.put, List.setIfInBounds_toArray, List.set_cons_zero, List.set_cons_succ]
            refine wpAnyH_take (i := 10) (oi := { dst := some 122, op := Op.move (Operand.tmp 121), type := 4, pos := "law.go:257", after := #[{ on := 9, ground := Ground.data }, { on := 6, ground := Ground.chain }], guard := none }) (v := .bool true) rfl (by kernel_rfl) (by kernel_rfl) (by kernel_rfl) (fun _ _ _ h => h) (Or.inl ⟨by rfl, by (intro w hSw; (try dsimp only at hSw); go_simp)⟩) (by assumption) ?_
            try simp only [Act.put, List.setIfInBounds_toArray, List.set_cons_zero, List.set_cons_succ]
            refine wpAnyH_take (i := 11) (oi := { dst := some 123, op := Op.move (Operand.tmp 20), type := 3, pos := "law.go:257", after := #[{ on := 10, ground := Ground.guard }], guard := some (10, true) }) (v := .int .i64 1) rfl (by kernel_rfl) (by kernel_rfl) (by kernel_rfl) (fun _ _ _ h => h) (Or.inl ⟨by rfl, by (intro w hSw; (try dsimp only at hSw); go_simp)⟩) (by assumption) ?_
            try simp only [Act.put, List.setIfInBounds_toArray, List.set_cons_zero, List.set_cons_succ]
            refine wpAnyH_take (i := 12) (oi := { dst := some 124, op := Op.binOp BinOp.eql 3 (Operand.tmp 123) (Operand.const (Value.int IntKind.i64 1)) 3, type := 4, pos := "law.go:257", after := #[{ on := 11, ground := Ground.data }, { on := 10, ground := Ground.guard }], guard := some (10, true) }) (v := .bool true) rfl (by kernel_rfl) (by kernel_rfl) (by kernel_rfl) (fun _ _ _ h => h) (Or.inl ⟨by rfl, by (intro w hSw; (try dsimp only at hSw); go_simp)⟩) (by assumption) ?_
            try simp only [Act.put, List.setIfInBounds_toArray, List.set_cons_zero, List.set_cons_succ]
            refine wpAnyH_take (i := 13) (oi := { dst := some 125, op := Op.pick (Operand.tmp 122) (Operand.tmp 124) (Operand.const (Value.bool false)), type := 4, pos := "law.go:257", after := #[{ on := 10, ground := Ground.data }, { on := 12, ground := Ground.data }], guard := none }) (v := .bool true) rfl (by kernel_rfl) (by kernel_rfl) (by kernel_rfl) (fun _ _ _ h => h) (Or.inl ⟨by rfl, by (intro w hSw; (try dsimp only at hSw); go_simp)⟩) (by assumption) ?_
            try simp only [Act.put, List.setIfInBounds_toArray, List.set_cons_zero, List.set_cons_succ]
            refine wpAnyH_take (i := 14) (oi := { dst := some 126, op := Op.move (Operand.tmp 125), type := 4, pos := "law.go:257", after := #[{ on := 13, ground := Ground.data }, { on := 10, ground := Ground.chain }], guard := none }) (v := .bool true) rfl (by kernel_rfl) (by kernel_rfl) (by kernel_rfl) (fun _ _ _ h => h) (Or.inl ⟨by rfl, by (intro w hSw; (try dsimp only at hSw); go_simp)⟩) (by assumption) ?_
            try simp only [Act.put, List.setIfInBounds_toArray, List.set_cons_zero, List.set_cons_succ]
            refine wpAnyH_take (i := 15) (oi := { dst := some 127, op := Op.move (Operand.tmp 22), type := 24, pos := "law.go:257", after := #[{ on := 14, ground := Ground.guard }], guard := some (14, true) }) (v := .int .i64 0) rfl (by kernel_rfl) (by kernel_rfl) (by kernel_rfl) (fun _ _ _ h => h) (Or.inl ⟨by rfl, by (intro w hSw; (try dsimp only at hSw); go_simp)⟩) (by assumption) ?_
            try simp only [Act.put, List.setIfInBounds_toArray, List.set_cons_zero, List.set_cons_succ]
            refine wpAnyH_take (i := 16) (oi := { dst := some 128, op := Op.binOp BinOp.eql 24 (Operand.tmp 127) (Operand.const (Value.int IntKind.i64 0)) 24, type := 4, pos := "law.go:257", after := #[{ on := 15, ground := Ground.data }, { on := 14, ground := Ground.guard }], guard := some (14, true) }) (v := .bool true) rfl (by kernel_rfl) (by kernel_rfl) (by kernel_rfl) (fun _ _ _ h => h) (Or.inl ⟨by rfl, by (intro w hSw; (try dsimp only at hSw); go_simp)⟩) (by assumption) ?_
            try simp only [Act.put, List.setIfInBounds_toArray, List.set_cons_zero, List.set_cons_succ]
            refine wpAnyH_take (i := 17) (oi := { dst := some 129, op := Op.pick (Operand.tmp 126) (Operand.tmp 128) (Operand.const (Value.bool false)), type := 4, pos := "law.go:257", after := #[{ on := 14, ground := Ground.data }, { on := 16, ground := Ground.data }], guard := none }) (v := .bool true) rfl (by kernel_rfl) (by kernel_rfl) (by kernel_rfl) (fun _ _ _ h => h) (Or.inl ⟨by rfl, by (intro w hSw; (try dsimp only at hSw); go_simp)⟩) (by assumption) ?_
            try simp only [Act.put, List.setIfInBounds_toArray, List.set_cons_zero, List.set_cons_succ]
            refine wpAnyH_take (i := 18) (oi := { dst := some 130, op := Op.move (Operand.tmp 129), type := 4, pos := "law.go:257", after := #[{ on := 17, ground := Ground.data }, { on := 14, ground := Ground.chain }], guard := none }) (v := .bool true) rfl (by kernel_rfl) (by kernel_rfl) (by kernel_rfl) (fun _ _ _ h => h) (Or.inl ⟨by rfl, by (intro w hSw; (try dsimp only at hSw); go_simp)⟩) (by assumption) ?_
            try simp only [Act.put, List.setIfInBounds_toArray, List.set_cons_zero, List.set_cons_succ]
            refine wpAnyH_take (i := 19) (oi := { dst := some 131, op := Op.load 28 (Operand.tmp 21), type := 28, pos := "law.go:257", after := #[{ on := 18, ground := Ground.guard }], guard := some (18, true) }) (v := .agg #[.int .i64 4, .int .i64 kz]) rfl (by kernel_rfl) (by kernel_rfl) (by kernel_rfl) (fun _ _ _ h => h) (Or.inl ⟨by rfl, by (intro w hSw; (try dsimp only at hSw); go_simp)⟩) (by assumption) ?_
            try simp only [Act.put, List.setIfInBounds_toArray, List.set_cons_zero, List.set_cons_succ]
            refine wpAnyH_take (i := 20) (oi := { dst := some 132, op := Op.move (Operand.tmp 18), type := 3, pos := "law.go:257", after := #[{ on := 18, ground := Ground.guard }], guard := some (18, true) }) (v := .int .i64 kz) rfl (by kernel_rfl) (by kernel_rfl) (by kernel_rfl) (fun _ _ _ h => h) (Or.inl ⟨by rfl, by (intro w hSw; (try dsimp only at hSw); go_simp)⟩) (by assumption) ?_
            try simp only [Act.put, List.setIfInBounds_toArray, List.set_cons_zero, List.set_cons_succ]
            refine wpAnyH_ready (rs := [21]) (by kernel_rfl) (by simp) (AllReadyH.cons (i := 21) (o := { dst := some 133, op := Op.call { callee := Callee.value (Operand.func 16), args := #[Operand.const (Value.int IntKind.i64 4), Operand.tmp 132], argTypes := #[3, 3] }, type := 28, pos := "law.go:257", after := #[{ on := 20, ground := Ground.data }, { on := 18, ground := Ground.chain }, { on := 18, ground := Ground.guard }], guard := some (18, true) }) rfl (fun K hK => ?_) AllReadyH.nil)
            rw [if_pos (by rfl)]
            go_simp
            refine (word_any _ _ _).mono ?_
            rintro e wa ⟨rfl, hba⟩
            obtain ⟨qa0, qa1, qa2, qa3, za21, za23⟩ := four_keep hba z21 z23 q0 q1 q2 q3
            have HBA := Lib.hid hba
            clear hba
            clear hHeld
            try go_wp2_with fail
            refine hK.out _ _ ⟨qa0, qa1, qa2, qa3⟩ (fun hHeld => ?_)
            clear hK K
            try simp only [Act.put, List.setIfInBounds_toArray, List.set_cons_zero, List.set_cons_succ]
            refine wpAnyH_take (i := 22) (oi := { dst := some 134, op := Op.binOp BinOp.eql 28 (Operand.tmp 131) (Operand.tmp 133) 28, type := 4, pos := "law.go:257", after := #[{ on := 19, ground := Ground.data }, { on := 21, ground := Ground.data }, { on := 18, ground := Ground.guard }], guard := some (18, true) }) (v := .bool true) rfl (by kernel_rfl) (by kernel_rfl) (by kernel_rfl) (fun _ _ _ h => h) (Or.inl ⟨by rfl, by (intro w hSw; (try dsimp only at hSw); go_simp)⟩) (by assumption) ?_
            try simp only [Act.put, List.setIfInBounds_toArray, List.set_cons_zero, List.set_cons_succ]
            refine wpAnyH_take (i := 23) (oi := { dst := some 135, op := Op.pick (Operand.tmp 130) (Operand.tmp 134) (Operand.const (Value.bool false)), type := 4, pos := "law.go:257", after := #[{ on := 18, ground := Ground.data }, { on := 22, ground := Ground.data }], guard := none }) (v := .bool true) rfl (by kernel_rfl) (by kernel_rfl) (by kernel_rfl) (fun _ _ _ h => h) (Or.inl ⟨by rfl, by (intro w hSw; (try dsimp only at hSw); go_simp)⟩) (by assumption) ?_
            try simp only [Act.put, List.setIfInBounds_toArray, List.set_cons_zero, List.set_cons_succ]
            refine wpAnyH_take (i := 24) (oi := { dst := some 136, op := Op.move (Operand.tmp 135), type := 4, pos := "law.go:257", after := #[{ on := 23, ground := Ground.data }, { on := 21, ground := Ground.chain }], guard := none }) (v := .bool true) rfl (by kernel_rfl) (by kernel_rfl) (by kernel_rfl) (fun _ _ _ h => h) (Or.inl ⟨by rfl, by (intro w hSw; (try dsimp only at hSw); go_simp)⟩) (by assumption) ?_
            try simp only [Act.put, List.setIfInBounds_toArray, List.set_cons_zero, List.set_cons_succ]
            refine wpAnyH_take (i := 25) (oi := { dst := some 137, op := Op.move (Operand.tmp 6), type := 23, pos := "law.go:257", after := #[{ on := 24, ground := Ground.guard }], guard := some (24, true) }) (v := hptr hb) rfl (by kernel_rfl) (by kernel_rfl) (by kernel_rfl) (fun _ _ _ h => h) (Or.inl ⟨by rfl, by (intro w hSw; (try dsimp only at hSw); go_simp)⟩) (by assumption) ?_
            try simp only [Act.put, List.setIfInBounds_toArray, List.set_cons_zero, List.set_cons_succ]
            refine wpAnyH_take (i := 27) (oi := { dst := some 139, op := Op.move (Operand.tmp 5), type := 3, pos := "law.go:257", after := #[{ on := 24, ground := Ground.guard }], guard := some (24, true) }) (v := .int .i64 n) rfl (by kernel_rfl) (by kernel_rfl) (by kernel_rfl) (fun _ _ _ h => h) (Or.inl ⟨by rfl, by (intro w hSw; (try dsimp only at hSw); go_simp)⟩) (by assumption) ?_
            try simp only [Act.put, List.setIfInBounds_toArray, List.set_cons_zero, List.set_cons_succ]
            refine wpAnyH_ready (rs := [26]) (by kernel_rfl) (by simp) (AllReadyH.cons (i := 26) (o := { dst := some 138, op := Op.call { callee := Callee.value (Operand.func 19), args := #[Operand.tmp 137], argTypes := #[23] }, type := 3, pos := "law.go:257", after := #[{ on := 25, ground := Ground.data }, { on := 24, ground := Ground.chain }, { on := 24, ground := Ground.guard }], guard := some (24, true) }) rfl (fun K hK => ?_) AllReadyH.nil)
            rw [if_pos (by rfl)]
            go_simp
            refine (CM.out wa (fun k hk => HBA.out.block k hk)).mono ?_
            rintro e w' ⟨rfl, d, rfl⟩
            clear hHeld
            try go_wp2_with fail
            refine hK.out _ _ ⟨qa0, qa1, qa2, qa3⟩ (fun hHeld => ?_)
            clear hK K
            try simp only [Act.put, List.setIfInBounds_toArray, List.set_cons_zero, List.set_cons_succ]
            refine wpAnyH_take (i := 28) (oi := { dst := some 140, op := Op.binOp BinOp.eql 3 (Operand.tmp 138) (Operand.tmp 139) 3, type := 4, pos := "law.go:257", after := #[{ on := 26, ground := Ground.data }, { on := 27, ground := Ground.data }, { on := 24, ground := Ground.guard }], guard := some (24, true) }) (v := .bool true) rfl (by kernel_rfl) (by kernel_rfl) (by kernel_rfl) (fun _ _ _ h => h) (Or.inl ⟨by rfl, by (intro w hSw; (try dsimp only at hSw); go_simp)⟩) (by assumption) ?_
            try simp only [Act.put, List.setIfInBounds_toArray, List.set_cons_zero, List.set_cons_succ]
            refine wpAnyH_take (i := 29) (oi := { dst := some 141, op := Op.pick (Operand.tmp 136) (Operand.tmp 140) (Operand.const (Value.bool false)), type := 4, pos := "law.go:257", after := #[{ on := 24, ground := Ground.data }, { on := 28, ground := Ground.data }], guard := none }) (v := .bool true) rfl (by kernel_rfl) (by kernel_rfl) (by kernel_rfl) (fun _ _ _ h => h) (Or.inl ⟨by rfl, by (intro w hSw; (try dsimp only at hSw); go_simp)⟩) (by assumption) ?_
            try simp only [Act.put, List.setIfInBounds_toArray, List.set_cons_zero, List.set_cons_succ]
            refine wpAnyH_take (i := 30) (oi := { dst := some 142, op := Op.move (Operand.tmp 141), type := 4, pos := "law.go:257", after := #[{ on := 29, ground := Ground.data }, { on := 26, ground := Ground.chain }], guard := none }) (v := .bool true) rfl (by kernel_rfl) (by kernel_rfl) (by kernel_rfl) (fun _ _ _ h => h) (Or.inl ⟨by rfl, by (intro w hSw; (try dsimp only at hSw); go_simp)⟩) (by assumption) ?_
            try simp only [Act.put, List.setIfInBounds_toArray, List.set_cons_zero, List.set_cons_succ]
            refine wpAnyH_take (i := 31) (oi := { dst := some 143, op := Op.move (Operand.tmp 5), type := 3, pos := "law.go:257", after := #[{ on := 30, ground := Ground.guard }], guard := some (30, true) }) (v := .int .i64 n) rfl (by kernel_rfl) (by kernel_rfl) (by kernel_rfl) (fun _ _ _ h => h) (Or.inl ⟨by rfl, by (intro w hSw; (try dsimp only at hSw); go_simp)⟩) (by assumption) ?_
            try simp only [Act.put, List.setIfInBounds_toArray, List.set_cons_zero, List.set_cons_succ]
            refine wpAnyH_take (i := 32) (oi := { dst := some 144, op := Op.binOp BinOp.eql 3 (Operand.tmp 143) (Operand.const (Value.int IntKind.i64 1)) 3, type := 4, pos := "law.go:257", after := #[{ on := 31, ground := Ground.data }, { on := 30, ground := Ground.guard }], guard := some (30, true) }) (v := .bool true) rfl (by kernel_rfl) (by kernel_rfl) (by kernel_rfl) (fun _ _ _ h => h) (Or.inl ⟨by rfl, by (intro w hSw; (try dsimp only at hSw); go_simp)⟩) (by assumption) ?_
            try simp only [Act.put, List.setIfInBounds_toArray, List.set_cons_zero, List.set_cons_succ]
            refine wpAnyH_take (i := 33) (oi := { dst := some 145, op := Op.move (Operand.tmp 144), type := 4, pos := "law.go:257", after := #[{ on := 32, ground := Ground.data }, { on := 30, ground := Ground.chain }, { on := 30, ground := Ground.guard }], guard := some (30, true) }) (v := .bool true) rfl (by kernel_rfl) (by kernel_rfl) (by kernel_rfl) (fun _ _ _ h => h) (Or.inl ⟨by rfl, by (intro w hSw; (try dsimp only at hSw); go_simp)⟩) (by assumption) ?_
            try simp only [Act.put, List.setIfInBounds_toArray, List.set_cons_zero, List.set_cons_succ]
            refine wpAnyH_take (i := 34) (oi := { dst := some 146, op := Op.move (Operand.tmp 24), type := 24, pos := "law.go:257", after := #[{ on := 33, ground := Ground.guard }], guard := some (33, false) }) (v := undef) rfl (by kernel_rfl) (by kernel_rfl) (by kernel_rfl) (fun _ _ _ h => h) (Or.inr ⟨by rfl, rfl⟩) (by assumption) ?_
            try simp only [Act.put, List.setIfInBounds_toArray, List.set_cons_zero, List.set_cons_succ]
            refine wpAnyH_take (i := 35) (oi := { dst := some 147, op := Op.binOp BinOp.eql 24 (Operand.tmp 146) (Operand.const (Value.int IntKind.i64 0)) 24, type := 4, pos := "law.go:257", after := #[{ on := 34, ground := Ground.data }, { on := 33, ground := Ground.guard }], guard := some (33, false) }) (v := undef) rfl (by kernel_rfl) (by kernel_rfl) (by kernel_rfl) (fun _ _ _ h => h) (Or.inr ⟨by rfl, rfl⟩) (by assumption) ?_
            try simp only [Act.put, List.setIfInBounds_toArray, List.set_cons_zero, List.set_cons_succ]
            refine wpAnyH_take (i := 36) (oi := { dst := some 148, op := Op.move (Operand.tmp 147), type := 4, pos := "law.go:257", after := #[{ on := 35, ground := Ground.data }, { on := 33, ground := Ground.chain }, { on := 33, ground := Ground.guard }], guard := some (33, false) }) (v := undef) rfl (by kernel_rfl) (by kernel_rfl) (by kernel_rfl) (fun _ _ _ h => h) (Or.inr ⟨by rfl, rfl⟩) (by assumption) ?_
            try simp only [Act.put, List.setIfInBounds_toArray, List.set_cons_zero, List.set_cons_succ]
            refine wpAnyH_take (i := 37) (oi := { dst := some 149, op := Op.load 28 (Operand.tmp 23), type := 28, pos := "law.go:257", after := #[{ on := 36, ground := Ground.guard }], guard := some (36, true) }) (v := undef) rfl (by kernel_rfl) (by kernel_rfl) (by kernel_rfl) (fun _ _ _ h => h) (Or.inr ⟨by rfl, rfl⟩) (by assumption) ?_
            try simp only [Act.put, List.setIfInBounds_toArray, List.set_cons_zero, List.set_cons_succ]
            refine wpAnyH_take (i := 38) (oi := { dst := some 150, op := Op.move (Operand.tmp 18), type := 3, pos := "law.go:257", after := #[{ on := 36, ground := Ground.guard }], guard := some (36, true) }) (v := undef) rfl (by kernel_rfl) (by kernel_rfl) (by kernel_rfl) (fun _ _ _ h => h) (Or.inr ⟨by rfl, rfl⟩) (by assumption) ?_
            try simp only [Act.put, List.setIfInBounds_toArray, List.set_cons_zero, List.set_cons_succ]
            refine wpAnyH_take (i := 39) (oi := { dst := some 151, op := Op.binOp BinOp.add 3 (Operand.tmp 150) (Operand.const (Value.int IntKind.i64 1)) 3, type := 3, pos := "law.go:257", after := #[{ on := 38, ground := Ground.data }, { on := 36, ground := Ground.guard }], guard := some (36, true) }) (v := undef) rfl (by kernel_rfl) (by kernel_rfl) (by kernel_rfl) (fun _ _ _ h => h) (Or.inr ⟨by rfl, rfl⟩) (by assumption) ?_
            try simp only [Act.put, List.setIfInBounds_toArray, List.set_cons_zero, List.set_cons_succ]
            refine wpAnyH_take (i := 40) (oi := { dst := some 152, op := Op.move (Operand.tmp 5), type := 3, pos := "law.go:257", after := #[{ on := 36, ground := Ground.guard }], guard := some (36, true) }) (v := undef) rfl (by kernel_rfl) (by kernel_rfl) (by kernel_rfl) (fun _ _ _ h => h) (Or.inr ⟨by rfl, rfl⟩) (by assumption) ?_
            try simp only [Act.put, List.setIfInBounds_toArray, List.set_cons_zero, List.set_cons_succ]
            refine wpAnyH_take (i := 41) (oi := { dst := some 153, op := Op.call { callee := Callee.value (Operand.func 24), args := #[Operand.tmp 151, Operand.tmp 152], argTypes := #[3, 3] }, type := 3, pos := "law.go:257", after := #[{ on := 39, ground := Ground.data }, { on := 40, ground := Ground.data }, { on := 36, ground := Ground.chain }, { on := 36, ground := Ground.guard }], guard := some (36, true) }) (v := undef) rfl (by kernel_rfl) (by kernel_rfl) (by kernel_rfl) (fun _ _ _ h => h) (Or.inr ⟨by rfl, rfl⟩) (by assumption) ?_
            try simp only [Act.put, List.setIfInBounds_toArray, List.set_cons_zero, List.set_cons_succ]
            refine wpAnyH_take (i := 42) (oi := { dst := some 154, op := Op.call { callee := Callee.value (Operand.func 12), args := #[Operand.tmp 153], argTypes := #[3] }, type := 28, pos := "law.go:257", after := #[{ on := 41, ground := Ground.data }, { on := 41, ground := Ground.chain }, { on := 36, ground := Ground.guard }], guard := some (36, true) }) (v := undef) rfl (by kernel_rfl) (by kernel_rfl) (by kernel_rfl) (fun _ _ _ h => h) (Or.inr ⟨by rfl, rfl⟩) (by assumption) ?_
            try simp only [Act.put, List.setIfInBounds_toArray, List.set_cons_zero, List.set_cons_succ]
            refine wpAnyH_take (i := 43) (oi := { dst := some 155, op := Op.binOp BinOp.eql 28 (Operand.tmp 149) (Operand.tmp 154) 28, type := 4, pos := "law.go:257", after := #[{ on := 37, ground := Ground.data }, { on := 42, ground := Ground.data }, { on := 36, ground := Ground.guard }], guard := some (36, true) }) (v := undef) rfl (by kernel_rfl) (by kernel_rfl) (by kernel_rfl) (fun _ _ _ h => h) (Or.inr ⟨by rfl, rfl⟩) (by assumption) ?_
            try simp only [Act.put, List.setIfInBounds_toArray, List.set_cons_zero, List.set_cons_succ]
            refine wpAnyH_take (i := 44) (oi := { dst := some 156, op := Op.pick (Operand.tmp 148) (Operand.tmp 155) (Operand.const (Value.bool false)), type := 4, pos := "law.go:257", after := #[{ on := 36, ground := Ground.data }, { on := 43, ground := Ground.data }, { on := 33, ground := Ground.guard }], guard := some (33, false) }) (v := undef) rfl (by kernel_rfl) (by kernel_rfl) (by kernel_rfl) (fun _ _ _ h => h) (Or.inr ⟨by rfl, rfl⟩) (by assumption) ?_
            try simp only [Act.put, List.setIfInBounds_toArray, List.set_cons_zero, List.set_cons_succ]
            refine wpAnyH_take (i := 45) (oi := { dst := some 157, op := Op.pick (Operand.tmp 145) (Operand.const (Value.bool true)) (Operand.tmp 156), type := 4, pos := "law.go:257", after := #[{ on := 33, ground := Ground.data }, { on := 44, ground := Ground.data }, { on := 30, ground := Ground.guard }], guard := some (30, true) }) (v := .bool true) rfl (by kernel_rfl) (by kernel_rfl) (by kernel_rfl) (fun _ _ _ h => h) (Or.inl ⟨by rfl, by (intro w hSw; (try dsimp only at hSw); go_simp)⟩) (by assumption) ?_
            try simp only [Act.put, List.setIfInBounds_toArray, List.set_cons_zero, List.set_cons_succ]
            refine wpAnyH_take (i := 46) (oi := { dst := some 158, op := Op.pick (Operand.tmp 142) (Operand.tmp 157) (Operand.const (Value.bool false)), type := 4, pos := "law.go:257", after := #[{ on := 30, ground := Ground.data }, { on := 45, ground := Ground.data }], guard := none }) (v := .bool true) rfl (by kernel_rfl) (by kernel_rfl) (by kernel_rfl) (fun _ _ _ h => h) (Or.inl ⟨by rfl, by (intro w hSw; (try dsimp only at hSw); go_simp)⟩) (by assumption) ?_
            try simp only [Act.put, List.setIfInBounds_toArray, List.set_cons_zero, List.set_cons_succ]
            refine wpAnyH_take (i := 47) (oi := { dst := some 4, op := Op.assign (Operand.tmp 158), type := 4, pos := "law.go:257", after := #[{ on := 46, ground := Ground.data }, { on := 42, ground := Ground.chain }, { on := 0, ground := Ground.phase }, { on := 1, ground := Ground.phase }, { on := 2, ground := Ground.phase }, { on := 3, ground := Ground.phase }, { on := 4, ground := Ground.phase }, { on := 5, ground := Ground.phase }, { on := 6, ground := Ground.phase }, { on := 7, ground := Ground.phase }, { on := 8, ground := Ground.phase }, { on := 9, ground := Ground.phase }, { on := 10, ground := Ground.phase }, { on := 11, ground := Ground.phase }, { on := 12, ground := Ground.phase }, { on := 13, ground := Ground.phase }, { on := 14, ground := Ground.phase }, { on := 15, ground := Ground.phase }, { on := 16, ground := Ground.phase }, { on := 17, ground := Ground.phase }, { on := 18, ground := Ground.phase }, { on := 19, ground := Ground.phase }, { on := 20, ground := Ground.phase }, { on := 21, ground := Ground.phase }, { on := 22, ground := Ground.phase }, { on := 23, ground := Ground.phase }, { on := 24, ground := Ground.phase }, { on := 25, ground := Ground.phase }, { on := 26, ground := Ground.phase }, { on := 27, ground := Ground.phase }, { on := 28, ground := Ground.phase }, { on := 29, ground := Ground.phase }, { on := 30, ground := Ground.phase }, { on := 31, ground := Ground.phase }, { on := 32, ground := Ground.phase }, { on := 33, ground := Ground.phase }, { on := 34, ground := Ground.phase }, { on := 35, ground := Ground.phase }, { on := 36, ground := Ground.phase }, { on := 37, ground := Ground.phase }, { on := 38, ground := Ground.phase }, { on := 39, ground := Ground.phase }, { on := 40, ground := Ground.phase }, { on := 41, ground := Ground.phase }, { on := 42, ground := Ground.phase }, { on := 43, ground := Ground.phase }, { on := 44, ground := Ground.phase }, { on := 45, ground := Ground.phase }, { on := 46, ground := Ground.phase }], guard := none }) (v := .bool true) rfl (by kernel_rfl) (by kernel_rfl) (by kernel_rfl) (fun _ _ _ h => h) (Or.inl ⟨by rfl, by (intro w hSw; (try dsimp only at hSw); go_simp)⟩) (by assumption) ?_
            try simp only [Act.put, List.setIfInBounds_toArray, List.set_cons_zero, List.set_cons_succ]
            refine wpAnyH_done (by kernel_rfl) ?_ _
            go_wp2_with fail
            go_meet
            exact ⟨rfl, (((Below.refl _ _).drew.trans (HBA.out.mono (Nat.le_refl _))).drewN d)⟩
          · skip
            have hjk : ¬ j = kz := fun h => h1n (H14.out.2.2.2.1 h)
            have hAm := HAm.out
            rw [if_neg hjk] at hAm
            obtain ⟨rfl, rfl⟩ : A = (0, (j : Int)) ∧ me = 0 := by cases hAm; exact ⟨rfl, rfl⟩
            have hn1b : ((n : Int) == 1) = false := by rw [beq_eq_false_iff_ne]; omega
            clear hAm
            go_region_held3 (fun w' => w'.cell? ⟨n21, 0, none⟩ = some (.int .i64 4) ∧ w'.cell? ⟨n21, 1, none⟩ = some (.int .i64 kz) ∧ w'.cell? ⟨n23, 0, none⟩ = some (.int .i64 0) ∧ w'.cell? ⟨n23, 1, none⟩ = some (.int .i64 j))
              (first | exact ⟨qb0, qb1, qb2, qb3⟩ | exact ⟨qa0, qa1, qa2, qa3⟩ | exact ⟨q0, q1, q2, q3⟩ | go_keep)
              (first
                | (go_at_call 16; refine (word_any _ _ _).mono ?_; rintro e wa ⟨rfl, hba⟩; obtain ⟨qa0, qa1, qa2, qa3, za21, za23⟩ := four_keep hba z21 z23 q0 q1 q2 q3; have HBA := Lib.hid hba; clear hba)
                | (go_at_call 19; refine (CM.out wa (fun k hk => HBA.out.block k hk)).mono ?_; rintro e w' ⟨rfl, d, rfl⟩)
                | (go_at_call 24; ((with_reducible refine (cP2 _).mono ?_); rintro e w' ⟨rfl, hw'⟩; obtain rfl : _ = w' := hw'.symm; clear hw'))
                | (go_at_call 12; refine (int_any _ _).mono ?_; rintro e wb ⟨rfl, hbb⟩; obtain ⟨qb0, qb1, qb2, qb3, zb21, zb23⟩ := four_keep hbb za21 za23 qa0 qa1 qa2 qa3; have HBB := Lib.hid hbb; clear hbb))
            all_goals (go_wp2_with fail; go_meet)
            all_goals exact ⟨rfl, (((Below.refl _ _).drew.trans (HBA.out.mono (Nat.le_refl _))).drewN d).trans (HBB.out.mono HBA.out.size)⟩
        case rest =>
          obtain ⟨rfl, hbe⟩ := hcut
          have hfin := (H14.out.1.junk hbe).below
          have HF := Lib.hid hfin
          clear hfin hbe
          go_wp2
          go_ret
          exact ⟨rfl, HF.out⟩
end Go.Proofs.YtleppjdmcjocmaaDoor
