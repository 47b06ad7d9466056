/- The walk of the law HeapCollect. Condition: unicode/utf8's two tables hold what the program's text lays. -/
import Derived.Test.YtleppjdmcjocmaaDoorHpColInv
import Derived.Deep.DeepCutAuto
import Derived.Deep.RegionHeld3
namespace Go.Proofs.YtleppjdmcjocmaaDoor
open Go.RowKit Go.Lib
structure ColParts (P : Prop) where
  T1 : Prop
  T2 : Prop
  T3 : Prop
  T6 : Prop
  T7 : Prop
  whole : RowKit.Hid T1 → RowKit.Hid T2 → RowKit.Hid T3 → RowKit.Hid T6 → RowKit.Hid T7 → P
set_option maxHeartbeats 60000000 in
set_option maxRecDepth 100000 in
noncomputable def col_cut : ColParts (∀ (v0 v1 v2 : Value) (cs ds rs : List Int) (w : World) (_hA0 : ArgI w v0 cs) (_hA1 : ArgI w v1 ds) (_hA2 : ArgI w v2 rs) (_hL : cs.length ≤ 40) (_hD : cs.length ≤ ds.length) (_hR : rs.length ≤ 40) (_hT : Tabs w),
    Calls Tryd.prog 6 #[v0, v1, v2] w fun e w' => e = .returned (.bool true) ∧ Below w.heap.size w w') := by
  apply ColParts.mk
  case whole =>
    intro h1 h2 h3 h6 h7 v0 v1 v2 cs ds rs w hA0 hA1 hA2 hL hD hR hT
    obtain ⟨a0, c0, rfl⟩ := hA0.slice
    obtain ⟨a1, c1, rfl⟩ := hA1.slice
    obtain ⟨a2, c2, rfl⟩ := hA2.slice
    have hL1 : decide ((40 : Int) < cs.length) = false := by simp; omega
    have hD1 : decide ((ds.length : Int) < cs.length) = false := by simp; omega
    have hR1 : decide ((40 : Int) < rs.length) = false := by simp; omega
    have hD2 : cs.length ≤ ds.length := hD
    have HT := Lib.hid hT
    have HA := Lib.hid (And.intro hA0 (And.intro hA1 (And.intro hA2 (And.intro hL (And.intro hD hR)))))
    clear hT hA0 hA1 hA2 hL hD hR
    go_enter Tryd.func6, Tryd.ntmps6
    go_wp2_with fail
    refine (lives_any _ HT.out).mono ?_
    rintro e W0 ⟨rfl, hb0⟩
    have H0 := Lib.hid hb0
    clear hb0
    go_wp2_with fail
    refine (new_any 50 _ (by decide) (by decide)).mono ?_
    rintro e W1 ⟨rfl, hb1, hz1, h1⟩
    have hlh : LHeap w W1 W0.heap.size (fun k => if k = W0.heap.size then 1 else 0) (gm cs ds 0) := ⟨H0.out.trans (hb1.mono H0.out.size), h1, fun k hk => if_neg (by have := H0.out.size; omega)⟩
    have H1 := Lib.hid hlh
    clear hb1 hz1 h1 hlh H0
    go_wp2_with fail
    generalize W0.heap.size = hb at *
    go_loopg [10] cs.length (fun gk kv wr => ∃ (k : Nat) (G : Nat → Nat), gk = cs.length - k ∧ k ≤ cs.length ∧ kv = .int .i64 k ∧ LHeap w wr hb G (gm cs ds k))
    case atStart => exact ⟨0, _, by omega, Nat.zero_le _, rfl, H1.out⟩
    case round =>
      obtain ⟨k, G, hgk, hk, rfl, hin⟩ := hrel
      have HIN := Lib.hid hin
      have HGK := Lib.hid hgk
      clear hin hgk H1
      by_cases hlt : k < cs.length
      · rename_i y0 y1 y2 y3 y4 y5 y6 y7
        revert cs ds rs w a0 c0 a1 c1 a2 c2 hL1 hD1 hR1 hD2 HT HA y0 W0 y1 W1 y2 y3 hb gk wr u48 u49 u50 u51 u52 u53 u54 u55 u56 u57 u58 u59 u60 u61 u62 u63 u64 u65 u66 y4 y5 y6 y7 k G hk HIN HGK hlt
        exact h1.out
      · have hk2 : k = cs.length := by omega
        subst hk2
        clear hk hlt HGK
        have hmk : ∀ W : World, (Instr.makeSlice 56 (.int .i64 41) (.int .i64 41)).run Tryd.prog W = .ok (.slice (some ⟨W.heap.size, 0, none⟩) 41 41) (W.alloc (.cells (madeCells #[.bool false] 41) 4)) := fun W => by simpa using make_bools 41 (by decide) W
        go_wp2_with fail
        have hrows : LRows w (wr.alloc (.cells (madeCells #[.bool false] 41) 4)) G (fun k => if k = wr.heap.size then 1 else 0) (.slice (some ⟨wr.heap.size, 0, none⟩) 41 41) (List.replicate 41 false) (.slice none 0 0) ((rs.take 0).map fun a => pickZ a 41) (.slice none 0 0) ((rs.take 0).map cw) :=
          start_rows HIN.out
        have HI2 := Lib.hid (And.intro (HIN.out.junk ((Below.refl _ _).alloc (Nat.le_refl _) (.cells (madeCells #[.bool false] 41) 4))) hrows)
        clear hrows HIN hmk
        generalize wr.alloc (.cells (madeCells #[.bool false] 41) 4) = wm at *
        generalize wr.heap.size = mb at *
        go_loopg [12, 13, 14] rs.length (fun gk tv fv kv wr => ∃ (k : Nat) (G D : Nat → Nat), gk = rs.length - k ∧ k ≤ rs.length ∧ kv = .int .i64 k ∧ LHeap w wr hb G (gmAll cs ds) ∧ LRows w wr G D (.slice (some ⟨mb, 0, none⟩) 41 41) (List.replicate 41 false) tv ((rs.take k).map fun a => pickZ a 41) fv ((rs.take k).map cw))
        case atStart => exact ⟨0, _, _, by omega, Nat.zero_le _, rfl, HI2.out.1, HI2.out.2⟩
        case round =>
          obtain ⟨k, G2, D2, hgk, hk, rfl, hin, hrw⟩ := hrel
          have HIN := Lib.hid (And.intro hin hrw)
          have HGK := Lib.hid hgk
          clear hin hgk hrw HI2
          by_cases hlt : k < rs.length
          · rename_i y0 y1 y2 y3 y4 y5 y6 y7 y8 y9 y10 y11 y12 y13 y14 y15 y16
            revert cs ds rs w a0 c0 a1 c1 a2 c2 hL1 hD1 hR1 hD2 HT HA y0 W0 y1 W1 y2 hb y3 y4 u48 u49 u50 u51 u52 u53 u54 u55 u56 u57 u58 u59 u60 u61 u62 u63 u64 u65 u66 y5 y6 y7 y8 G y9 y10 y11 y12 wm mb gk wr u12 u13 u15 u68 u69 u70 u71 u72 u73 u74 u75 u76 u77 u78 u79 u80 u81 u82 u83 u84 u85 u86 u87 y13 y14 y15 y16 k G2 D2 hk HIN HGK hlt
            exact h2.out
          · have hk2 : k = rs.length := by omega
            subst hk2
            have hmet := Met.start HA.out.2.2.2.2.1 rs
            have hin := HIN.out
            rw [List.take_length] at hin
            have H3 := Lib.hid (And.intro hmet hin)
            have hR40 := HA.out.2.2.2.2.2
            have hlen0 : (rs.map fun a => pickZ a 41).length = rs.length := by simp
            clear hk hlt HGK hmet hin HIN
            go_wp2_with fail
            go_loopg [12] (3 * (List.replicate 41 false).count false + (rs.map fun a => pickZ a 41).length) (fun gk tv wr => ∃ (met : List Bool) (todo : List Int) (G D : Nat → Nat), gk = 3 * met.count false + todo.length ∧ gk ≤ 200 ∧ Met cs ds (rs.map cw) met todo ∧ LHeap w wr hb G (gmAll cs ds) ∧ LRows w wr G D (.slice (some ⟨mb, 0, none⟩) 41 41) met tv todo u13 (rs.map cw))
            case atStart => exact ⟨_, _, _, _, rfl, by rw [hlen0]; simp; omega, H3.out.1, H3.out.2.1, H3.out.2.2⟩
            case round =>
              obtain ⟨met, todo, G3, D3, hgk, hg200, hmet, hin, hrw⟩ := hrel
              have HIN := Lib.hid (And.intro hin (And.intro hrw hmet))
              have HGK := Lib.hid (And.intro hgk hg200)
              have hst0 : todo = [] ∨ ∃ (st : List Int) (i : Int), todo = st ++ [i] := by
                rcases List.eq_nil_or_concat todo with h | ⟨a, b, h⟩
                · exact .inl h
                · exact .inr ⟨a, b, by rw [h]; simp⟩
              clear hin hgk hrw hmet hg200 H3 hlen0
              rcases hst0 with rfl | ⟨st, kz, rfl⟩
              · obtain ⟨ta, tc, e3⟩ := HIN.out.2.1.todo.slice
                subst e3
                have hmet := HIN.out.2.2
                have hrw := HIN.out.2.1
                have hin := HIN.out.1
                have hcR := fun W (hW : Below wr.heap.size wr W) => collect_any (hin.heap.below hW) u13 (rs.map cw) (by have := HA.out.2.2.2.2.2; simp; omega) (ArgW.of_own (own_keep hrw.roots.own hW))
                have H4 := Lib.hid (And.intro hin (And.intro hrw hmet))
                have CR := Lib.hid hcR
                have hL40 := HA.out.2.2.2.1
                have hm41 := hmet.len
                clear hmet hrw hin hcR HIN HGK
                go_wp2_with fail
                generalize wr = W3 at *
                go_loopg [17, 18] cs.length (fun gk lv kv wq => ∃ k : Nat, gk = cs.length - k ∧ k ≤ cs.length ∧ lv = .int .i64 ((met.take k).count true) ∧ kv = .int .i64 k ∧ wq = W3)
                case atStart => exact ⟨0, by omega, Nat.zero_le _, rfl, rfl, rfl⟩
                case round =>
                  obtain ⟨k, hgk, hk, rfl, rfl, hwq⟩ := hrel
                  subst hwq
                  have HGK := Lib.hid hgk
                  clear hgk
                  by_cases hlt : k < cs.length
                  · have hk41 : k < 41 := by omega
                    obtain ⟨bv, hbv⟩ : ∃ bv, met[k]? = some bv := ⟨_, List.getElem?_eq_getElem (by omega)⟩
                    have cm : wr.cell? ⟨mb, k, none⟩ = some (.bool bv) := H4.out.2.1.met.cell (by simp [bools, hbv])
                    have hle : (met.take k).count true ≤ 41 := Nat.le_trans List.count_le_length (by simp; omega)
                    have htk : (met.take (k + 1)).count true = (met.take k).count true + if bv then 1 else 0 := by rw [List.take_add_one, hbv, List.count_append]; cases bv <;> simp
                    have HT2 := Lib.hid htk
                    generalize (met.take k).count true = lf at *
                    clear htk hbv
                    cases bv with
                    | true =>
                      go_wp2_with fail
                      go_roundg (cs.length - (k + 1))
                      case measure => have := HGK.out; omega
                      case rel => exact ⟨k + 1, rfl, hlt, by rw [HT2.out]; go_num, by go_num, rfl⟩
                    | false =>
                      go_wp2_with fail
                      go_roundg (cs.length - (k + 1))
                      case measure => have := HGK.out; omega
                      case rel => exact ⟨k + 1, rfl, hlt, by rw [HT2.out]; rfl, by go_num, rfl⟩
                  · have hk2 : k = cs.length := by omega
                    subst hk2
                    obtain ⟨lf, hlf⟩ : ∃ lf, lf = (met.take cs.length).count true := ⟨_, rfl⟩
                    rw [← hlf]
                    have hlf41 : lf ≤ cs.length := by rw [hlf]; exact Nat.le_trans List.count_le_length (by simp; omega)
                    have HLF := Lib.hid hlf
                    clear hlf hlt hk HGK
                    go_wp2_with fail
                    refine (CR.out _ (Below.refl _ _)).mono ?_
                    rintro e W4 ⟨b, hbl, hbr, he, hwent⟩
                    have hDl := HA.out.2.2.2.2.1
                    have hlen : (gmAll cs ds).obs.length = cs.length := by rw [gmAll_obs hDl, gob_length hDl]
                    have hbm : ∀ j : Nat, b[j]? = some true ↔ met[j]? = some true := fun j => (hbr j).trans (H4.out.2.2.whole hDl j).symm
                    have hcount := many_count hDl b met (by omega) hL40 hbm cs.length (Nat.le_refl _)
                    have hM : (((gmAll cs ds).many b cs.length : Nat) : Int) = (cs.length : Int) - lf := by rw [← HLF.out] at hcount; omega
                    rw [hlen, hM] at he
                    subst he
                    obtain ⟨m2, hm2⟩ : ∃ m2, m2 = (gmAll cs ds).sweep b (gmAll cs ds).obs.length := ⟨_, rfl⟩
                    rw [← hm2] at hwent
                    obtain ⟨G4, h4, g4⟩ := H4.out.1.went hwent
                    have hrw4 := H4.out.2.1.went hwent g4
                    have hmany := h4.heap.many
                    have hmv : (m2.obs.length : Int) - m2.free.length = lf := by
                      rw [hm2, Hp.sweep_length, sweep_free, hlen]
                      have : (gmAll cs ds).free.length = 0 := rfl
                      omega
                    rw [hmv] at hmany
                    have hcR2 := fun W (hW : Below W4.heap.size W4 W) => collect_any (h4.heap.below hW) u13 (rs.map cw) (by have := HA.out.2.2.2.2.2; simp; omega) (ArgW.of_own (own_keep hrw4.roots.own hW))
                    have hnone := fun b2 (hb2 : ∀ j : Nat, b2[j]? = some true ↔ m2.Reach (rs.map cw) j) => many_zero m2 b2 (fun j => by rw [hm2] at hb2 ⊢; exact second_none _ _ b b2 hbr hb2 j) m2.obs.length
                    have H5 := Lib.hid (And.intro h4 (And.intro hrw4 (And.intro hm2 (And.intro hbm hnone))))
                    have CR2 := Lib.hid hcR2
                    have CM := Lib.hid hmany
                    clear hwent h4 g4 hrw4 hmany hmv hcR2 hm2 hbm hbr hcount hM hbl CR HLF hnone hlen hDl
                    go_wp2_with (go_at_call 19; refine (CM.out _ (Old.refl _)).mono ?_; rintro e w' ⟨rfl, d, rfl⟩)
                    refine (CR2.out _ ((Below.refl _ _).drewN d)).mono ?_
                    rintro e W5 ⟨b2, hb2l, hb2r, he2, hwent2⟩
                    have hz := H5.out.2.2.2.2 b2 hb2r
                    rw [hz.1] at he2
                    rw [hz.2] at hwent2
                    subst he2
                    obtain ⟨G5, h5, g5⟩ := (H5.out.1.junk ((Below.refl _ _).drewN d)).went hwent2
                    have hrw5 := (H5.out.2.1.junk ((Below.refl _ _).drewN d)).went hwent2 g5
                    have H6 := Lib.hid (And.intro h5 hrw5)
                    clear hz hb2l hb2r hwent2 h5 g5 hrw5 CR2 CM
                    go_wp2_with fail
                    go_loopg [19] cs.length (fun gk kv wr => ∃ (k : Nat) (G D : Nat → Nat), gk = cs.length - k ∧ k ≤ cs.length ∧ kv = .int .i64 k ∧ LHeap w wr hb G m2 ∧ LRows w wr G D (.slice (some ⟨mb, 0, none⟩) 41 41) met (.slice ta 0 tc) [] u13 (rs.map cw))
                    case atStart => exact ⟨0, _, _, by omega, Nat.zero_le _, rfl, H6.out.1, H6.out.2⟩
                    case round =>
                      obtain ⟨k, G6, D6, hgk, hk, rfl, hin, hrw⟩ := hrel
                      have HIN := Lib.hid (And.intro hin hrw)
                      have HGK := Lib.hid hgk
                      clear hin hgk hrw H6
                      by_cases hlt : k < cs.length
                      · skip
                        obtain ⟨a, ha⟩ : ∃ a, cs[k]? = some a := ⟨_, List.getElem?_eq_getElem hlt⟩
                        obtain ⟨d', hd'⟩ : ∃ d, ds[k]? = some d := ⟨_, List.getElem?_eq_getElem (Nat.lt_of_lt_of_le hlt HA.out.2.2.2.2.1)⟩
                        have hkd2 : k < ds.length := Nat.lt_of_lt_of_le hlt HA.out.2.2.2.2.1
                        obtain ⟨b0, o0, e0, hb0, ce0⟩ := HA.out.1.elem ha
                        obtain ⟨b1, o1, e1, hb1, ce1⟩ := HA.out.2.1.elem hd'
                        subst e0
                        subst e1
                        have hk41 : k < 41 := by omega
                        obtain ⟨bv, hbv⟩ : ∃ bv, met[k]? = some bv := ⟨_, List.getElem?_eq_getElem (by omega)⟩
                        obtain ⟨mb', mcap, mcur, em, _, km, _⟩ := HIN.out.2.met.at (by decide)
                        cases em
                        have cm : wr.cell? ⟨mb, k, none⟩ = some (.bool bv) := HIN.out.2.met.cell (by simp [bools, hbv])
                        have zm := lt_at km
                        have z0 : b0 < wr.heap.size := Nat.lt_of_lt_of_le hb0 HIN.out.1.below.size
                        have z1 : b1 < wr.heap.size := Nat.lt_of_lt_of_le hb1 HIN.out.1.below.size
                        have r0 : wr.cell? ⟨b0, o0 + k, none⟩ = some (.int .i64 a) := (HIN.out.1.below.cell (p := ⟨b0, o0 + k, none⟩) hb0).trans ce0
                        have r1 : wr.cell? ⟨b1, o1 + k, none⟩ = some (.int .i64 d') := (HIN.out.1.below.cell (p := ⟨b1, o1 + k, none⟩) hb1).trans ce1
                        have hfd : m2.find (2, (k : Int)) = if bv then some (.pair (2, pickZ a 41) (2, pickZ d' 41)) else none := by
                          have h := sweep_find (gmAll cs ds) b (2, (k : Int))
                          rw [← H5.out.2.2.1] at h
                          simp only [Int.toNat_natCast] at h
                          rw [h]
                          have hg : (gmAll cs ds).find (2, (k : Int)) = some (.pair (2, pickZ a 41) (2, pickZ d' 41)) := by
                            unfold Hp.find
                            rw [gmAll_obs HA.out.2.2.2.2.1]
                            simp only [Int.natCast_nonneg, if_true, Int.toNat_natCast, gob_at ha hd']
                            rfl
                          cases bv with
                          | true => rw [if_pos ((H5.out.2.2.2.1 k).2 hbv), hg]; rfl
                          | false => rw [if_neg (fun h => by have := (H5.out.2.2.2.1 k).1 h; rw [hbv] at this; cases this)]; rfl
                        have hcar : m2.car (2, (k : Int)) = if bv then ((2, pickZ a 41), 0) else ((0, 0), 6) := by
                          unfold Hp.car
                          rw [if_neg (by simp), hfd]
                          cases bv <;> rfl
                        have hcdr : m2.cdr (2, (k : Int)) = if bv then ((2, pickZ d' 41), 0) else ((0, 0), 6) := by
                          unfold Hp.cdr
                          rw [if_neg (by simp), hfd]
                          cases bv <;> rfl
                        have hlive : m2.live (2, (k : Int)) = bv := by
                          unfold Hp.live
                          rw [hfd]
                          cases bv <;> rfl
                        obtain ⟨A, er, hAe⟩ : ∃ (A : Wd) (er : Int), m2.car (2, (k : Int)) = (A, er) := ⟨_, _, rfl⟩
                        obtain ⟨B, es, hBe⟩ : ∃ (B : Wd) (es : Int), m2.cdr (2, (k : Int)) = (B, es) := ⟨_, _, rfl⟩
                        have hcA := fun W (hW : Below wr.heap.size wr W) => car_any (HIN.out.1.heap.below hW) (2, (k : Int))
                        have hcB := fun W (hW : Below wr.heap.size wr W) => cdr_any (HIN.out.1.heap.below hW) (2, (k : Int))
                        have hcL := fun W (hW : Below wr.heap.size wr W) => live_any (HIN.out.1.heap.below hW) (2, (k : Int))
                        rw [hAe] at hcA
                        rw [hBe] at hcB
                        rw [hlive] at hcL
                        have CA := Lib.hid hcA
                        have CB := Lib.hid hcB
                        have CL := Lib.hid hcL
                        have HV := Lib.hid (And.intro (hAe.symm.trans hcar) (hBe.symm.trans hcdr))
                        have HRC := Lib.hid (And.intro r0 (And.intro r1 cm))
                        clear ha hd' ce0 ce1 hb0 hb1 hbv km hfd hcar hcdr hlive hAe hBe hcA hcB hcL r0 r1 cm
                        go_wp2_with fail
                        refine (word_any _ _ _).mono ?_
                        rintro e Wa ⟨rfl, hba⟩
                        have HBA := Lib.hid hba
                        clear hba
                        go_wp2_with fail
                        refine (CA.out _ (HBA.out.alloc HBA.out.size _)).mono ?_
                        rintro e Wb ⟨rfl, hbb⟩
                        have hbw : Below wr.heap.size wr Wb := (HBA.out.alloc HBA.out.size _).trans (hbb.mono (by have := HBA.out.size; simp; omega))
                        have k20 := (hbb.block Wa.heap.size (by simp)).trans (alloc_at Wa (.cells #[.int .i64 2, .int .i64 k] 28))
                        have q0 : Wb.cell? ⟨Wa.heap.size, 0, none⟩ = some (.int .i64 2) := cell_at k20
                        have q1 : Wb.cell? ⟨Wa.heap.size, 1, none⟩ = some (.int .i64 k) := cell_at k20
                        have z20 := lt_at k20
                        have HBB := Lib.hid (And.intro hbw k20)
                        clear hbb hbw k20 HBA
                        go_wp2_with fail
                        refine (CB.out _ (HBB.out.1.alloc HBB.out.1.size _)).mono ?_
                        rintro e Wc ⟨rfl, hbc⟩
                        have hbw : Below wr.heap.size wr Wc := (HBB.out.1.alloc HBB.out.1.size _).trans (hbc.mono (by have := HBB.out.1.size; simp; omega))
                        have k20 := (hbc.block Wa.heap.size (by simp; omega)).trans ((Below.heap_alloc _ _ _ z20).trans HBB.out.2)
                        have k21 := (hbc.block Wb.heap.size (by simp)).trans (alloc_at Wb (.cells #[.int .i64 A.1, .int .i64 A.2] 28))
                        have hbw2 := hbw.alloc hbw.size (.cells #[.int .i64 B.1, .int .i64 B.2] 28)
                        have k20' := (Below.heap_alloc Wc (.cells #[.int .i64 B.1, .int .i64 B.2] 28) _ (lt_at k20)).trans k20
                        have k21' := (Below.heap_alloc Wc (.cells #[.int .i64 B.1, .int .i64 B.2] 28) _ (lt_at k21)).trans k21
                        have k23' := alloc_at Wc (.cells #[.int .i64 B.1, .int .i64 B.2] 28)
                        have HBC := Lib.hid (And.intro hbw2 (And.intro k20' (And.intro k21' k23')))
                        clear hbc hbw k20 k21 hbw2 k20' k21' k23' HBB q0 q1 z20
                        go_wp2_with fail
                        generalize Wc.alloc (.cells #[.int .i64 B.1, .int .i64 B.2] 28) = Wd at *
                        generalize Wa.heap.size = n20 at *
                        generalize Wb.heap.size = n21 at *
                        generalize Wc.heap.size = n23 at *
                        have q0 : Wd.cell? ⟨n20, 0, none⟩ = some (.int .i64 2) := cell_at HBC.out.2.1
                        have q1 : Wd.cell? ⟨n20, 1, none⟩ = some (.int .i64 k) := cell_at HBC.out.2.1
                        have cmd : Wd.cell? ⟨mb, k, none⟩ = some (.bool bv) := (HBC.out.1.cell (p := ⟨mb, k, none⟩) zm).trans HRC.out.2.2
                        have hkI0 : (0 : Int) ≤ (k : Int) := by omega
                        have hkI1 : (k : Int) < 41 := by omega
                        have hkI2 : (k : Int) < cs.length := by omega
                        have hkI3 : (k : Int) < ds.length := by omega
                        have hkI4 : (k : Int) ≤ 41 := by omega
                        have hkI5 : (k : Int) ≤ cs.length := by omega
                        have hkI6 : (k : Int) ≤ ds.length := by omega
                        have zmd : mb < Wd.heap.size := Nat.lt_of_lt_of_le zm HBC.out.1.size
                        have z20d := lt_at HBC.out.2.1
                        go_cut [198] (fun s198 we => s198 = .bool false ∧ Below Wd.heap.size Wd we)
                        case first =>
                          rename_i y0 y1 y2 y3 y4 y5 y6 y7 y8 y9 y10 y11 y12 y13 y14 y15 y16 y17 y18 y19 y20 y21 y22 y23 y24 y25 y26 y27 y28 y29 y30 y31 y32 y33 y34 y35 y36 y37 y38 y39 y40 y41 y42 y43 y44 y45 y46 y47 y48 y49 y50 y51 y52 y53 y54 y55
                          revert cs ds rs w c0 c1 a2 c2 hL1 hD1 hR1 hD2 HT y0 W0 y1 W1 y2 hb y3 y4 u48 u49 u50 u51 u52 u53 u54 u55 u56 u57 u58 u59 u60 u61 u62 u63 u64 u65 u66 y5 y6 y7 G y8 y9 y10 wm mb y11 y12 u12 u13 u15 u68 u69 u70 u71 u72 u73 u74 u75 u76 u77 u78 u79 u80 u81 u82 u83 u84 u85 u86 u87 y13 y14 y15 G2 D2 hR40 y16 y17 y18 y19 y20 u16 u88 u89 u90 u91 u92 u93 u94 u95 u96 u97 u98 u99 u100 u101 u102 u103 u104 u105 u106 u107 u108 u109 u110 u111 u112 u113 u114 u115 u116 u117 u118 u119 u120 u121 u122 u123 u124 u125 u126 y21 y22 y23 met G3 D3 ta tc hL40 hm41 y24 y25 y26 y27 y28 u127 u128 u129 u130 u131 u132 u133 u134 u135 u136 u137 y29 y30 y31 H4 lf hlf41 y32 y33 W4 b m2 G4 H5 d W5 b2 G5 y34 y35 gk wr u6 u20 u21 u22 u23 u24 u157 u158 u159 u160 u161 u162 u163 u164 u165 u166 u167 u168 u169 u170 u171 u172 u173 u174 u175 u176 u177 u178 u179 u180 u181 u182 u183 u184 u185 u186 u187 u188 u189 u190 u191 u192 u193 u194 u195 u196 u197 u198 u199 u200 u201 u202 u203 u204 u205 u206 u207 u208 u209 u210 u211 u212 u213 u214 u215 u216 u217 u218 u219 u220 u221 u222 y36 y37 y38 k G6 D6 hk HIN HGK hlt a d' hkd2 b0 o0 b1 o1 HA y39 y40 y41 y42 y43 hk41 bv mcur y44 y45 zm z0 z1 A er B es CA CB CL HV HRC y46 y47 Wa Wb Wc y48 y49 y50 y51 Wd n20 n21 n23 HBC q0 q1 cmd hkI0 hkI1 hkI2 hkI3 hkI4 hkI5 hkI6 zmd z20d y52 y53 y54 y55
                          exact h6.out
                        case rest =>
                          obtain ⟨rfl, hbe⟩ := hcut
                          have hbw : Below wr.heap.size wr wc := HBC.out.1.trans (hbe.mono HBC.out.1.size)
                          have k21 := (hbe.block n21 (lt_at HBC.out.2.2.1)).trans HBC.out.2.2.1
                          have k23 := (hbe.block n23 (lt_at HBC.out.2.2.2)).trans HBC.out.2.2.2
                          have z21 := lt_at k21
                          have z23 := lt_at k23
                          have p0 : wc.cell? ⟨n21, 0, none⟩ = some (.int .i64 A.1) := cell_at k21
                          have p1 : wc.cell? ⟨n21, 1, none⟩ = some (.int .i64 A.2) := cell_at k21
                          have p2 : wc.cell? ⟨n23, 0, none⟩ = some (.int .i64 B.1) := cell_at k23
                          have p3 : wc.cell? ⟨n23, 1, none⟩ = some (.int .i64 B.2) := cell_at k23
                          have r0 : wc.cell? ⟨b0, o0 + k, none⟩ = some (.int .i64 a) := (hbw.cell (p := ⟨b0, o0 + k, none⟩) z0).trans HRC.out.1
                          have r1 : wc.cell? ⟨b1, o1 + k, none⟩ = some (.int .i64 d') := (hbw.cell (p := ⟨b1, o1 + k, none⟩) z1).trans HRC.out.2.1
                          have cme : wc.cell? ⟨mb, k, none⟩ = some (.bool bv) := (hbw.cell (p := ⟨mb, k, none⟩) zm).trans HRC.out.2.2
                          have zb1 : b1 < wc.heap.size := Nat.lt_of_lt_of_le z1 hbw.size
                          have zb0 : b0 < wc.heap.size := Nat.lt_of_lt_of_le z0 hbw.size
                          have zme : mb < wc.heap.size := Nat.lt_of_lt_of_le zm hbw.size
                          have HW := Lib.hid hbw
                          clear hbe hbw k21 k23 q0 q1 cmd zmd z20d HBC z0 z1 zm
                          go_wp2_with fail
                          go_cut [222] (fun s222 we => s222 = .bool false ∧ Below wc.heap.size wc we)
                          case first =>
                            rename_i y0 y1 y2 y3 y4 y5 y6 y7 y8 y9 y10 y11 y12 y13 y14 y15 y16 y17 y18 y19 y20 y21 y22 y23 y24 y25 y26 y27 y28 y29 y30 y31 y32 y33 y34 y35 y36 y37 y38 y39 y40 y41 y42 y43 y44 y45 y46 y47 y48 y49 y50 y51 y52 y53 y54 y55 y56 y57 y58 y59 y60 y61 y62 y63 y64 y65 y66 y67 y68 y69 y70 y71 y72 y73 y74 y75 y76 y77 y78 y79 y80 y81 y82 y83 y84 y85 y86 y87 y88 y89 y90 y91 y92 y93 y94 y95 y96 y97 y98 y99 y100 y101 y102 y103 y104 y105 y106 y107 y108 y109 y110 y111 y112 y113 y114 y115 y116 y117 y118
                            revert cs ds rs w c0 c1 a2 c2 hL1 hD1 hR1 hD2 HT y0 W0 y1 W1 y2 hb y3 y4 u48 u49 u50 u51 u52 u53 u54 u55 u56 u57 u58 u59 u60 u61 u62 u63 u64 u65 u66 y5 y6 y7 G y8 y9 y10 wm mb y11 y12 u12 u13 u15 u68 u69 u70 u71 u72 u73 u74 u75 u76 u77 u78 u79 u80 u81 u82 u83 u84 u85 u86 u87 y13 y14 y15 G2 D2 hR40 y16 y17 y18 y19 y20 u16 u88 u89 u90 u91 u92 u93 u94 u95 u96 u97 u98 u99 u100 u101 u102 u103 u104 u105 u106 u107 u108 u109 u110 u111 u112 u113 u114 u115 u116 u117 u118 u119 u120 u121 u122 u123 u124 u125 u126 y21 y22 y23 met G3 D3 ta tc hL40 hm41 y24 y25 y26 y27 y28 u127 u128 u129 u130 u131 u132 u133 u134 u135 u136 u137 y29 y30 y31 H4 lf hlf41 y32 y33 W4 b m2 G4 H5 d W5 b2 G5 y34 y35 gk wr u6 u20 u21 u22 u23 u24 y36 y37 y38 y39 y40 y41 y42 y43 y44 y45 y46 y47 y48 y49 y50 y51 y52 y53 y54 y55 y56 y57 y58 y59 y60 y61 y62 y63 y64 y65 y66 y67 y68 y69 y70 y71 y72 y73 y74 y75 y76 u198 y77 y78 y79 y80 y81 y82 y83 y84 y85 y86 y87 y88 y89 y90 y91 y92 y93 y94 y95 y96 y97 y98 y99 y100 y101 y102 y103 k G6 D6 hk HIN HGK hlt a d' hkd2 b0 o0 b1 o1 HA y104 y105 y106 y107 y108 hk41 bv mcur y109 y110 A er B es CA CB CL HV HRC y111 y112 Wa Wb Wc Wd n20 n21 n23 hkI0 hkI1 hkI2 hkI3 hkI4 hkI5 hkI6 wc u157 u158 u159 u160 u161 u162 u163 u164 u165 u166 u167 u168 u169 u170 u171 u172 u173 u174 u175 u176 u177 u178 u179 u180 u181 u182 u183 u184 u185 u186 u187 u188 u189 u190 u191 u192 u193 u194 u195 u196 u197 u199 u200 u201 u202 u203 u204 u205 u206 u207 u208 u209 u210 u211 u212 u213 u214 u215 u216 u217 u218 u219 u220 u221 u222 z21 z23 p0 p1 p2 p3 r0 r1 cme zb1 zb0 zme HW y113 y114 y115 y116 y117 y118
                            exact h7.out
                          case rest =>
                            obtain ⟨rfl, hbf⟩ := hcut
                            have hheap := HIN.out.1.junk (HW.out.trans (hbf.mono HW.out.size))
                            have hrows := HIN.out.2.junk (HW.out.trans (hbf.mono HW.out.size))
                            have HZ := Lib.hid (And.intro hheap hrows)
                            clear hheap hrows hbf
                            go_wp2_with fail
                            go_roundg (cs.length - (k + 1))
                            case measure => have := HGK.out; omega
                            case rel => exact ⟨k + 1, G6, _, rfl, hlt, by go_num, HZ.out.1, HZ.out.2⟩
                      · have hk2 : k = cs.length := by omega
                        subst hk2
                        clear hk hlt HGK
                        go_wp2
                        go_ret
                        exact ⟨rfl, HIN.out.1.below⟩
              · obtain ⟨k, rfl⟩ := Int.eq_ofNat_of_zero_le (HIN.out.2.2.rng kz (by simp)).1
                have hk41 : k < 41 := by have := (HIN.out.2.2.rng k (by simp)).2; omega
                obtain ⟨g, tc, tcur, e3, _, kg, hcap, _⟩ := HIN.out.2.1.todo.at (by simp)
                subst e3
                simp only [List.length_append, List.length_cons, List.length_nil, Nat.zero_add] at hcap
                have hrow := HIN.out.2.1.todo
                simp only [List.length_append, List.length_cons, List.length_nil, Nat.zero_add] at hrow
                have hgl := HGK.out
                simp only [List.length_append, List.length_cons, List.length_nil, Nat.zero_add] at hgl
                have hst : st.length ≤ 200 := by omega
                have ct : wr.cell? ⟨g, st.length, none⟩ = some (.int .i64 k) := hrow.cell (by simp [ints])
                obtain ⟨bv, hbv⟩ : ∃ bv, met[k]? = some bv := ⟨_, List.getElem?_eq_getElem (by have := HIN.out.2.2.len; omega)⟩
                have cm : wr.cell? ⟨mb, k, none⟩ = some (.bool bv) := HIN.out.2.1.met.cell (by simp [bools, hbv])
                have hpop := HIN.out.2.1
                simp only [List.length_append, List.length_cons, List.length_nil, Nat.zero_add] at hpop
                have hpop2 := hpop.popT
                have HP := Lib.hid (And.intro hpop2 hbv)
                clear hrow hpop hpop2 hbv hgl kg
                simp only [List.length_append, List.length_cons, List.length_nil, Nat.zero_add]
                by_cases hkn : cs.length ≤ k
                · have hkd : decide ((k : Int) < cs.length) = false := by simp; omega
                  have hskip := HIN.out.2.2.skip (.inl hkn)
                  have HS := Lib.hid hskip
                  clear hskip
                  go_wp2_with fail
                  go_roundg (3 * met.count false + st.length)
                  case measure => have := HGK.out; simp at this; omega
                  case rel => exact ⟨met, st, G3, D3, rfl, by have := HGK.out; simp at this; omega, HS.out, HIN.out.1, HP.out.1⟩
                · have hkd : ¬ cs.length ≤ k := hkn
                  have hkl : k < cs.length := by omega
                  cases bv with
                  | true =>
                    have hskip := HIN.out.2.2.skip (.inr HP.out.2)
                    have HS := Lib.hid hskip
                    clear hskip
                    go_wp2_with fail
                    go_roundg (3 * met.count false + st.length)
                    case measure => have := HGK.out; simp at this; omega
                    case rel => exact ⟨met, st, G3, D3, rfl, by have := HGK.out; simp at this; omega, HS.out, HIN.out.1, HP.out.1⟩
                  | false =>
                    rename_i y0 y1 y2 y3 y4 y5 y6 y7 y8 y9 y10 y11 y12 y13 y14 y15 y16 y17 y18 y19 y20 y21 y22 y23 y24 y25 y26 y27
                    revert cs ds rs w a0 c0 a1 c1 a2 c2 hL1 hD1 hR1 hD2 HT HA y0 W0 y1 W1 y2 hb y3 y4 u48 u49 u50 u51 u52 u53 u54 u55 u56 u57 u58 u59 u60 u61 u62 u63 u64 u65 u66 y5 y6 y7 y8 G y9 y10 y11 wm mb y12 y13 u12 u13 u15 u68 u69 u70 u71 u72 u73 u74 u75 u76 u77 u78 u79 u80 u81 u82 u83 u84 u85 u86 u87 y14 y15 y16 y17 G2 D2 hR40 y18 y19 y20 y21 gk wr u16 u88 u89 u90 u91 u92 u93 u94 u95 u96 u97 u98 u99 u100 u101 u102 u103 u104 u105 u106 u107 u108 u109 u110 u111 u112 u113 u114 u115 u116 u117 u118 u119 u120 u121 u122 u123 u124 u125 u126 y22 y23 y24 y25 met G3 D3 st k HGK hk41 g tc tcur y26 y27 HIN hcap hst ct hkn hkd hkl cm HP
                    exact h3.out
set_option maxHeartbeats 60000000 in
set_option maxRecDepth 100000 in
theorem col_part1 : col_cut.T1 := by
  intro cs ds rs w a0 c0 a1 c1 a2 c2 hL1 hD1 hR1 hD2 HT HA y0 W0 y1 W1 y2 y3 hb gk wr u48 u49 u50 u51 u52 u53 u54 u55 u56 u57 u58 u59 u60 u61 u62 u63 u64 u65 u66 y4 y5 y6 y7 k G hk HIN HGK hlt
  have hL40 := HA.out.2.2.2.1
  obtain ⟨a, ha⟩ : ∃ a, cs[k]? = some a := ⟨_, List.getElem?_eq_getElem hlt⟩
  obtain ⟨d, hd⟩ : ∃ d, ds[k]? = some d := ⟨_, List.getElem?_eq_getElem (Nat.lt_of_lt_of_le hlt HA.out.2.2.2.2.1)⟩
  have hkd : k < ds.length := Nat.lt_of_lt_of_le hlt HA.out.2.2.2.2.1
  obtain ⟨b0, o0, e0, hb0, ce0⟩ := HA.out.1.elem ha
  obtain ⟨b1, o1, e1, hb1, ce1⟩ := HA.out.2.1.elem hd
  subst e0
  subst e1
  have z0 : b0 < wr.heap.size := Nat.lt_of_lt_of_le hb0 HIN.out.below.size
  have z1 : b1 < wr.heap.size := Nat.lt_of_lt_of_le hb1 HIN.out.below.size
  have r0 : wr.cell? ⟨b0, o0 + k, none⟩ = some (.int .i64 a) := (HIN.out.below.cell (p := ⟨b0, o0 + k, none⟩) hb0).trans ce0
  have r1 : wr.cell? ⟨b1, o1 + k, none⟩ = some (.int .i64 d) := (HIN.out.below.cell (p := ⟨b1, o1 + k, none⟩) hb1).trans ce1
  have hcc := fun W (hW : Below wr.heap.size wr W) => cons_any (HIN.out.heap.below hW) (adds_graph HA.out.2.2.2.2.1 HA.out.2.2.2.1 ha hd)
  have CC := Lib.hid hcc
  have HC := Lib.hid (And.intro ha hd)
  have cP0 := fun W => pick_any a 41 W (by decide) (by decide)
  have cP1 := fun W => pick_any d 41 W (by decide) (by decide)
  clear ha hd ce0 ce1 hb0 hb1 hcc
  go_wp2_with fail
  go_region_with (first
    | (go_at_call_of 16 (Value.int IntKind.i64 (pickZ a 41)); refine (word_any _ _ _).mono ?_; rintro e wa ⟨rfl, hba⟩; have ra : wa.cell? ⟨b1, o1 + k, none⟩ = some (.int .i64 d) := (hba.cell (p := ⟨b1, o1 + k, none⟩) z1).trans r1; have HBA := Lib.hid hba; clear hba)
    | (go_at_call_of 16 (Value.int IntKind.i64 (pickZ d 41)); refine (word_any _ _ _).mono ?_; rintro e wb ⟨rfl, hbb⟩; have HBB := Lib.hid hbb; clear hbb)
    | (go_at_call_of 24 (Value.int IntKind.i64 a); ((with_reducible refine (cP0 _).mono ?_); rintro e w' ⟨rfl, hw'⟩; obtain rfl : _ = w' := hw'.symm; clear hw'))
    | (go_at_call_of 24 (Value.int IntKind.i64 d); ((with_reducible refine (cP1 _).mono ?_); rintro e w' ⟨rfl, hw'⟩; obtain rfl : _ = w' := hw'.symm; clear hw'))
    | (go_at_call 11; have hch : Below wr.heap.size wr wb := ((Below.refl wr.heap.size wr).drew.trans (HBA.out.mono (Nat.le_refl _))).trans (HBB.out.mono HBA.out.size); refine (CC.out _ hch).mono ?_; rintro e wc ⟨rfl, hwc⟩; obtain ⟨G', hG', _⟩ := (HIN.out.junk hch).went hwc; have HG := Lib.hid hG'; clear hwc hG' hch))
  all_goals (go_wp2_with fail; go_roundg (cs.length - (k + 1)))
  all_goals first
    | (case measure => have := HGK.out; omega)
    | (case rel => exact ⟨k + 1, G', rfl, hlt, by go_num, HG.out⟩)
    | trace_state
set_option maxHeartbeats 60000000 in
set_option maxRecDepth 100000 in
theorem col_part2 : col_cut.T2 := by
  intro cs ds rs w a0 c0 a1 c1 a2 c2 hL1 hD1 hR1 hD2 HT HA y0 W0 y1 W1 y2 hb y3 y4 u48 u49 u50 u51 u52 u53 u54 u55 u56 u57 u58 u59 u60 u61 u62 u63 u64 u65 u66 y5 y6 y7 y8 G y9 y10 y11 y12 wm mb gk wr u12 u13 u15 u68 u69 u70 u71 u72 u73 u74 u75 u76 u77 u78 u79 u80 u81 u82 u83 u84 u85 u86 u87 y13 y14 y15 y16 k G2 D2 hk HIN HGK hlt
  have hR40 := HA.out.2.2.2.2.2
  obtain ⟨c, hc⟩ : ∃ c, rs[k]? = some c := ⟨_, List.getElem?_eq_getElem hlt⟩
  obtain ⟨b2, o2, e2, hb2, ce2⟩ := HA.out.2.2.1.elem hc
  subst e2
  have z2 : b2 < wr.heap.size := Nat.lt_of_lt_of_le hb2 HIN.out.1.below.size
  have r2 : wr.cell? ⟨b2, o2 + k, none⟩ = some (.int .i64 c) := (HIN.out.1.below.cell (p := ⟨b2, o2 + k, none⟩) hb2).trans ce2
  have cP := fun W => pick_any c 41 W (by decide) (by decide)
  obtain ⟨x, hx⟩ : ∃ x, x = pickZ c 41 := ⟨_, rfl⟩
  rw [← hx] at cP
  obtain ⟨ta, tc, e3⟩ := HIN.out.2.todo.slice
  subst e3
  obtain ⟨fa, fc, e4⟩ := HIN.out.2.roots.slice
  subst e4
  obtain ⟨i0, hi, hz0, hz1, hz2⟩ := info_parts info_int
  obtain ⟨i1, hj, hj0, hj1, hj2⟩ := info_parts info_word
  obtain ⟨todo, htodo⟩ : ∃ todo, todo = (rs.take k).map fun a => pickZ a 41 := ⟨_, rfl⟩
  obtain ⟨R, hRR⟩ : ∃ R, R = (rs.take k).map cw := ⟨_, rfl⟩
  have hlt2 : todo.length = k := by rw [htodo]; simp; omega
  have hlr2 : R.length = k := by rw [hRR]; simp; omega
  have hmap1 : (rs.take (k + 1)).map (fun a => pickZ a 41) = todo ++ [x] := by rw [List.take_add_one, hc, List.map_append, ← htodo, hx]; rfl
  have hmap2 : (rs.take (k + 1)).map cw = R ++ [(2, x)] := by rw [List.take_add_one, hc, List.map_append, ← hRR, hx]; rfl
  rw [← htodo, ← hRR] at HIN
  rw [← htodo, ← hRR]
  have HM := Lib.hid (And.intro hmap1 (And.intro hmap2 (And.intro hlt2 hlr2)))
  have hrow0 : Row (wr.alloc (.cells #[.int .i64 x] 3)) D2 2 3 1 (.slice ta todo.length tc) todo.length (ints todo) := HIN.out.2.todo.keep (fun k hk _ => Below.heap_alloc _ _ _ hk) (fun _ _ e => e)
  have hn0 := news_one wr (.int .i64 x) 3
  clear hc ce2 hb2 hx htodo hRR hmap1 hmap2
  have hnx : ∀ u ∈ [Value.int .i64 x], u.oneCell' = true := by intro u hu; simp at hu; subst hu; rfl
  have hnw : ∀ u ∈ [Value.int .i64 2, Value.int .i64 x], u.oneCell' = true := by intro u hu; simp at hu; rcases hu with rfl | rfl <;> rfl
  have h63 : todo.length + 1 ≤ maxLen := by unfold maxLen; omega
  have h64 : R.length + 1 ≤ maxLen := by unfold maxLen; omega
  have hb8 : (todo.length + 1) * 8 ≤ 140737488355328 := by omega
  have hb16 : (R.length + 1) * 16 ≤ 140737488355328 := by omega
  have HN := Lib.hid (And.intro hnx (And.intro hnw (And.intro (And.intro h63 h64) (And.intro hb8 hb16))))
  have HR0 := Lib.hid (And.intro hrow0 hn0)
  clear hnx hnw h63 h64 hb8 hb16 hrow0 hn0 hlt2 hlr2
  go_wp2_with (first
    | (go_at_call 24; ((with_reducible refine (cP _).mono ?_); rintro e w' ⟨rfl, hw'⟩; obtain rfl : _ = w' := hw'.symm; clear hw'))
    | (at_builtin; refine wpList_append_row _ rfl _ _ 55 rfl 3 i0 (.int .i64 0) 1 8 Tryd.underlying55 hi hz0 hz1 hz2 rfl (by decide) _ _ _ rfl D2 2 HR0.out.1 ⟨wr.heap.size, 0, none⟩ 1 1 [.int .i64 x] rfl rfl HR0.out.2 HN.out.1 HN.out.2.2.1.1 HN.out.2.2.2.1 ?_))
  intro v1' w1 hrow1 hgr1 _
  have hbl1 := (Below.refl wr.heap.size wr).alloc (Nat.le_refl _) (.cells #[.int .i64 x] 3)
  have hrow1' : Row w1 (fun j => if j < (wr.alloc (.cells #[.int .i64 x] 3)).heap.size then D2 j else 2) 2 3 1 v1' (todo ++ [x]).length (ints (todo ++ [x])) := by
    have e1 : (todo ++ [x]).length = todo.length + 1 := by simp
    have e2 : ints (todo ++ [x]) = ints todo ++ [.int .i64 x] := by simp [ints]
    have e3 : (wr.alloc (.cells #[.int .i64 x] 3)).heap.size = wr.heap.size + 1 := by simp
    rw [e1, e2]; simp only [e3]; exact hrow1
  have hrows1 := HIN.out.2.pushT HIN.out.1.below.size HIN.out.1.heap.new hbl1 hrow1' hgr1
  have hheap1 := HIN.out.1.grown hbl1 hgr1 (fun j hj => HIN.out.2.sep j (by rw [HIN.out.2.todo.lab j hj]; omega) (HIN.out.2.todo.lt j hj))
  have H1 := Lib.hid (And.intro hheap1 hrows1)
  clear hbl1 hrow1 hgr1 hrow1' hrows1 hheap1 r2
  go_wp2_with fail
  refine (word_any _ _ _).mono ?_
  rintro e w2 ⟨rfl, hb2⟩
  have hrows2 := H1.out.2.junk hb2
  have hheap2 := H1.out.1.junk hb2
  have hroot := hrows2.roots
  have hrow2 : Row (w2.alloc (.cells #[.int .i64 2, .int .i64 x] 28)) _ 3 28 2 (.slice fa R.length fc) R.length (wcells R) := hroot.keep (fun j hj _ => Below.heap_alloc _ _ _ hj) (fun _ _ e => e)
  have hn2 := news_two w2 (.int .i64 2) (.int .i64 x) 28
  have H2 := Lib.hid (And.intro hheap2 (And.intro hrows2 (And.intro hrow2 hn2)))
  clear hb2 hrows2 hheap2 hroot hrow2 hn2 H1
  go_wp2_with (at_builtin; refine wpList_append_row _ rfl _ _ 36 rfl 28 i1 (.agg #[.int .i64 0, .int .i64 0]) 2 16 Tryd.underlying36 hj hj0 hj1 hj2 rfl (by decide) _ _ _ rfl _ 3 H2.out.2.2.1 ⟨w2.heap.size, 0, none⟩ 1 1 [.int .i64 2, .int .i64 x] rfl rfl H2.out.2.2.2 HN.out.2.1 HN.out.2.2.1.2 HN.out.2.2.2.2 ?_)
  intro v3' w3 hrow3 hgr3 _
  have hbl3 := (Below.refl w2.heap.size w2).alloc (Nat.le_refl _) (.cells #[.int .i64 2, .int .i64 x] 28)
  have e1 : (R ++ [((2 : Int), x)]).length = R.length + 1 := by simp
  have e2 : wcells (R ++ [((2 : Int), x)]) = wcells R ++ [.int .i64 2, .int .i64 x] := by rw [wcells_append]; rfl
  have e3 : (w2.alloc (.cells #[.int .i64 2, .int .i64 x] 28)).heap.size = w2.heap.size + 1 := by simp
  rw [← e1, ← e2, ← e3] at hrow3
  have hrows3 := H2.out.2.1.pushF H2.out.1.below.size H2.out.1.heap.new hbl3 hrow3 hgr3
  have hheap3 := H2.out.1.grown hbl3 hgr3 (fun j hj => H2.out.2.1.sep j (by have h3 := H2.out.2.2.1.lab j hj; rw [h3]; omega) (H2.out.2.1.roots.lt j hj))
  have H3 := Lib.hid (And.intro hheap3 hrows3)
  clear hbl3 hrow3 hgr3 hrows3 hheap3 H2 e1 e2 e3
  go_wp2_with fail
  go_roundg (rs.length - (k + 1))
  case measure => have := HGK.out; omega
  case rel => exact ⟨k + 1, G2, _, rfl, hlt, by go_num, H3.out.1, by rw [HM.out.1, HM.out.2.1]; exact H3.out.2⟩
set_option maxHeartbeats 60000000 in
set_option maxRecDepth 100000 in
theorem col_part3 : col_cut.T3 := by
  intro cs ds rs w a0 c0 a1 c1 a2 c2 hL1 hD1 hR1 hD2 HT HA y0 W0 y1 W1 y2 hb y3 y4 u48 u49 u50 u51 u52 u53 u54 u55 u56 u57 u58 u59 u60 u61 u62 u63 u64 u65 u66 y5 y6 y7 y8 G y9 y10 y11 wm mb y12 y13 u12 u13 u15 u68 u69 u70 u71 u72 u73 u74 u75 u76 u77 u78 u79 u80 u81 u82 u83 u84 u85 u86 u87 y14 y15 y16 y17 G2 D2 hR40 y18 y19 y20 y21 gk wr u16 u88 u89 u90 u91 u92 u93 u94 u95 u96 u97 u98 u99 u100 u101 u102 u103 u104 u105 u106 u107 u108 u109 u110 u111 u112 u113 u114 u115 u116 u117 u118 u119 u120 u121 u122 u123 u124 u125 u126 y22 y23 y24 y25 met G3 D3 st k HGK hk41 g tc tcur y26 y27 HIN hcap hst ct hkn hkd hkl cm HP
  obtain ⟨mb', mcap, mcur, em, lm, km, _⟩ := HIN.out.2.1.met.at (by decide)
  cases em
  have fm : wr.frozen? ⟨mb, k, none⟩ = false := frozen_at km
  obtain ⟨a, ha⟩ : ∃ a, cs[k]? = some a := ⟨_, List.getElem?_eq_getElem hkl⟩
  obtain ⟨d, hd⟩ : ∃ d, ds[k]? = some d := ⟨_, List.getElem?_eq_getElem (Nat.lt_of_lt_of_le hkl HA.out.2.2.2.2.1)⟩
  have hkd2 : k < ds.length := Nat.lt_of_lt_of_le hkl HA.out.2.2.2.2.1
  obtain ⟨b0, o0, e0, hb0, ce0⟩ := HA.out.1.elem ha
  obtain ⟨b1, o1, e1, hb1, ce1⟩ := HA.out.2.1.elem hd
  subst e0
  subst e1
  have hsep := HIN.out.2.1.sep mb (by rw [lm]; decide) (lt_at km)
  obtain ⟨W, hW⟩ : ∃ W, W = wr.setCell ⟨mb, k, none⟩ (.bool true) := ⟨_, rfl⟩
  have hin2 : LHeap w W hb G3 (gmAll cs ds) := by rw [hW]; exact HIN.out.1.mark hsep
  have hrw2 : LRows w W G3 D3 (.slice (some ⟨mb, 0, none⟩) 41 41) (met.set k true) (.slice (some ⟨g, 0, none⟩) st.length tc) st u13 (rs.map cw) := by rw [hW]; exact HP.out.1.mark
  have hmet2 := HIN.out.2.2.take HA.out.2.2.2.2.1 HA.out.2.2.2.1 ha hd
  have hcnt := count_set_false met k HP.out.2
  have r0 : W.cell? ⟨b0, o0 + k, none⟩ = some (.int .i64 a) := (hin2.below.cell (p := ⟨b0, o0 + k, none⟩) hb0).trans ce0
  have r1 : W.cell? ⟨b1, o1 + k, none⟩ = some (.int .i64 d) := (hin2.below.cell (p := ⟨b1, o1 + k, none⟩) hb1).trans ce1
  have H4 := Lib.hid (And.intro hin2 (And.intro hrw2 (And.intro hmet2 hcnt)))
  have HW := Lib.hid hW
  clear hin2 hrw2 hmet2 hcnt hW ha hd ce0 ce1 hb0 hb1 hsep km lm
  have cP0 := fun V => pick_any a 41 V (by decide) (by decide)
  have cP1 := fun V => pick_any d 41 V (by decide) (by decide)
  obtain ⟨i0, hi, hz0, hz1, hz2⟩ := info_parts info_int
  have hbl := (Below.refl W.heap.size W).drew.alloc (Nat.le_refl _) (.cells #[.int .i64 (pickZ a 41), .int .i64 (pickZ d 41)] 3)
  have hrow0 : Row (W.drew.alloc (.cells #[.int .i64 (pickZ a 41), .int .i64 (pickZ d 41)] 3)) D3 2 3 1 (.slice (some ⟨g, 0, none⟩) st.length tc) st.length (ints st) := H4.out.2.1.todo.keep (fun j hj _ => hbl.block j hj) (fun _ _ e => e)
  have hn0 := news_two W.drew (.int .i64 (pickZ a 41)) (.int .i64 (pickZ d 41)) 3
  have hnx : ∀ u ∈ [Value.int .i64 (pickZ a 41), Value.int .i64 (pickZ d 41)], u.oneCell' = true := by intro u hu; simp at hu; rcases hu with rfl | rfl <;> rfl
  have h63 : st.length + 2 ≤ maxLen := by unfold maxLen; omega
  have h64 : (st.length + 2) * 8 ≤ 140737488355328 := by omega
  have HR := Lib.hid (And.intro hrow0 (And.intro hn0 (And.intro hnx (And.intro h63 (And.intro h64 hbl)))))
  clear hrow0 hn0 hnx h63 h64 hbl
  go_wp2_with fail
  rw [← HW.out]
  go_region_law (first
    | (refine step_append_row rfl _ _ 55 rfl 3 i0 (.int .i64 0) 1 8 Tryd.underlying55 hi hz0 hz1 hz2 rfl (by decide) _ _ _ rfl D3 2 HR.out.1 ⟨W.heap.size, 0, none⟩ 2 2 [.int .i64 (pickZ a 41), .int .i64 (pickZ d 41)] rfl rfl HR.out.2.1 HR.out.2.2.1 HR.out.2.2.2.1 HR.out.2.2.2.2.1 ?_; intro v1' w1 hrow1 hgr1 _; have HQ := Lib.hid (And.intro hrow1 hgr1); clear hrow1 hgr1)
    | (go_simp; go_at_call_of 24 (Value.int IntKind.i64 a); ((with_reducible refine (cP0 _).mono ?_); rintro e w' ⟨rfl, hw'⟩; obtain rfl : _ = w' := hw'.symm; clear hw'))
    | (go_simp; go_at_call_of 24 (Value.int IntKind.i64 d); ((with_reducible refine (cP1 _).mono ?_); rintro e w' ⟨rfl, hw'⟩; obtain rfl : _ = w' := hw'.symm; clear hw')))
  all_goals
    have hfin : ∃ D', LHeap w w1 hb G3 (gmAll cs ds) ∧ LRows w w1 G3 D' (.slice (some ⟨mb, 0, none⟩) 41 41) (met.set k true) v1' (st ++ [pickZ a 41, pickZ d 41]) u13 (rs.map cw) := by
      obtain ⟨hrow1, hgr1⟩ := HQ.out
      have e1 : (st ++ [pickZ a 41, pickZ d 41]).length = st.length + 2 := by simp
      have e2 : ints (st ++ [pickZ a 41, pickZ d 41]) = ints st ++ [.int .i64 (pickZ a 41), .int .i64 (pickZ d 41)] := by simp [ints]
      rw [← e1, ← e2] at hrow1
      exact ⟨_, H4.out.1.grown HR.out.2.2.2.2.2 hgr1 (fun j hj => H4.out.2.1.sep j (by rw [H4.out.2.1.todo.lab j hj]; decide) (H4.out.2.1.todo.lt j hj)), H4.out.2.1.pushT H4.out.1.below.size H4.out.1.heap.new HR.out.2.2.2.2.2 hrow1 hgr1⟩
    obtain ⟨D', hf1, hf2⟩ := hfin
    have HF := Lib.hid (And.intro hf1 hf2)
    clear hf1 hf2 HR HQ
    go_wp2_with fail
    go_roundg (3 * (met.set k true).count false + (st ++ [pickZ a 41, pickZ d 41]).length)
  all_goals first
    | (case measure => have := HGK.out; have := H4.out.2.2.2; simp at *; omega)
    | (case rel => exact ⟨_, _, G3, D', rfl, by have := HGK.out; have := H4.out.2.2.2; simp at *; omega, H4.out.2.2.1, HF.out.1, HF.out.2⟩)
    | trace_state
set_option maxHeartbeats 60000000 in
set_option maxRecDepth 100000 in
theorem col_part6 : col_cut.T6 := by
  intro cs ds rs w c0 c1 a2 c2 hL1 hD1 hR1 hD2 HT y0 W0 y1 W1 y2 hb y3 y4 u48 u49 u50 u51 u52 u53 u54 u55 u56 u57 u58 u59 u60 u61 u62 u63 u64 u65 u66 y5 y6 y7 G y8 y9 y10 wm mb y11 y12 u12 u13 u15 u68 u69 u70 u71 u72 u73 u74 u75 u76 u77 u78 u79 u80 u81 u82 u83 u84 u85 u86 u87 y13 y14 y15 G2 D2 hR40 y16 y17 y18 y19 y20 u16 u88 u89 u90 u91 u92 u93 u94 u95 u96 u97 u98 u99 u100 u101 u102 u103 u104 u105 u106 u107 u108 u109 u110 u111 u112 u113 u114 u115 u116 u117 u118 u119 u120 u121 u122 u123 u124 u125 u126 y21 y22 y23 met G3 D3 ta tc hL40 hm41 y24 y25 y26 y27 y28 u127 u128 u129 u130 u131 u132 u133 u134 u135 u136 u137 y29 y30 y31 H4 lf hlf41 y32 y33 W4 b m2 G4 H5 d W5 b2 G5 y34 y35 gk wr u6 u20 u21 u22 u23 u24 u157 u158 u159 u160 u161 u162 u163 u164 u165 u166 u167 u168 u169 u170 u171 u172 u173 u174 u175 u176 u177 u178 u179 u180 u181 u182 u183 u184 u185 u186 u187 u188 u189 u190 u191 u192 u193 u194 u195 u196 u197 u198 u199 u200 u201 u202 u203 u204 u205 u206 u207 u208 u209 u210 u211 u212 u213 u214 u215 u216 u217 u218 u219 u220 u221 u222 y36 y37 y38 k G6 D6 hk HIN HGK hlt a d' hkd2 b0 o0 b1 o1 HA y39 y40 y41 y42 y43 hk41 bv mcur y44 y45 zm z0 z1 A er B es CA CB CL HV HRC y46 y47 Wa Wb Wc y48 y49 y50 y51 Wd n20 n21 n23 HBC q0 q1 cmd hkI0 hkI1 hkI2 hkI3 hkI4 hkI5 hkI6 zmd z20d y52 y53 y54 y55
  cases bv with
  | true =>
    obtain ⟨hA', hB'⟩ := HV.out
    simp only [if_true, Prod.mk.injEq] at hA' hB'
    obtain ⟨rfl, rfl⟩ := hA'
    obtain ⟨rfl, rfl⟩ := hB'
    refine wp_region_held_drew (S := (fun w' => w'.cell? ⟨n20, 0, none⟩ = some (.int .i64 2) ∧ w'.cell? ⟨n20, 1, none⟩ = some (.int .i64 k) ∧ w'.cell? ⟨mb, k, none⟩ = some (.bool true))) (by kernel_rfl) ⟨q0, q1, cmd⟩ (fun hHeld => ?_)
    refine wpAnyH_take (i := 0) (oi := { dst := some 176, op := Op.move (Operand.tmp 8), type := 23, pos := "law.go:303", after := #[], guard := none }) (v := hptr hb) rfl (by kernel_rfl) (by kernel_rfl) (by kernel_rfl) (fun _ _ _ h => h) (Or.inl ⟨by rfl, by (intro w hSw; (try dsimp only at hSw); go_simp)⟩) (by assumption) ?_
    try simp only [Act.put, List.setIfInBounds_toArray, List.set_cons_zero, List.set_cons_succ]
    refine wpAnyH_take (i := 1) (oi := { dst := some 177, op := Op.load 28 (Operand.tmp 20), type := 28, pos := "law.go:303", after := #[], guard := none }) (v := .agg #[.int .i64 2, .int .i64 k]) rfl (by kernel_rfl) (by kernel_rfl) (by kernel_rfl) (fun _ _ _ h => h) (Or.inl ⟨by rfl, by (intro w hSw; (try dsimp only at hSw); go_simp)⟩) (by assumption) ?_
    try simp only [Act.put, List.setIfInBounds_toArray, List.set_cons_zero, List.set_cons_succ]
    refine wpAnyH_take (i := 3) (oi := { dst := some 179, op := Op.move (Operand.tmp 11), type := 56, pos := "law.go:303", after := #[], guard := none }) (v := .slice (some ⟨mb, 0, none⟩) 41 41) rfl (by kernel_rfl) (by kernel_rfl) (by kernel_rfl) (fun _ _ _ h => h) (Or.inl ⟨by rfl, by (intro w hSw; (try dsimp only at hSw); go_simp)⟩) (by assumption) ?_
    try simp only [Act.put, List.setIfInBounds_toArray, List.set_cons_zero, List.set_cons_succ]
    refine wpAnyH_take (i := 4) (oi := { dst := some 180, op := Op.move (Operand.tmp 19), type := 3, pos := "law.go:303", after := #[], guard := none }) (v := .int .i64 k) rfl (by kernel_rfl) (by kernel_rfl) (by kernel_rfl) (fun _ _ _ h => h) (Or.inl ⟨by rfl, by (intro w hSw; (try dsimp only at hSw); go_simp)⟩) (by assumption) ?_
    try simp only [Act.put, List.setIfInBounds_toArray, List.set_cons_zero, List.set_cons_succ]
    refine wpAnyH_take (i := 5) (oi := { dst := some 181, op := Op.indexAddr 56 (Operand.tmp 179) (Operand.tmp 180), type := 0, pos := "law.go:303", after := #[{ on := 3, ground := Ground.data }, { on := 4, ground := Ground.data }], guard := none }) (v := .pointer (some ⟨mb, k, none⟩)) rfl (by kernel_rfl) (by kernel_rfl) (by kernel_rfl) (fun _ _ _ h => h) (Or.inl ⟨by rfl, by (intro w hSw; (try dsimp only at hSw); go_simp)⟩) (by assumption) ?_
    try simp only [Act.put, List.setIfInBounds_toArray, List.set_cons_zero, List.set_cons_succ]
    refine wpAnyH_take (i := 6) (oi := { dst := some 182, op := Op.load 4 (Operand.tmp 181), type := 4, pos := "law.go:303", after := #[{ on := 5, ground := Ground.data }], guard := none }) (v := .bool true) rfl (by kernel_rfl) (by kernel_rfl) (by kernel_rfl) (fun _ _ _ h => h) (Or.inl ⟨by rfl, by (intro w hSw; (try dsimp only at hSw); go_simp)⟩) (by assumption) ?_
    try simp only [Act.put, List.setIfInBounds_toArray, List.set_cons_zero, List.set_cons_succ]
    refine wpAnyH_ready (rs := [2]) (by kernel_rfl) (by simp) (AllReadyH.cons (i := 2) (o := { dst := some 178, op := Op.call { callee := Callee.value (Operand.func 32), args := #[Operand.tmp 176, Operand.tmp 177], argTypes := #[23, 28] }, type := 4, pos := "law.go:303", after := #[{ on := 0, ground := Ground.data }, { on := 1, ground := Ground.data }], guard := none }) rfl (fun K hK => ?_) AllReadyH.nil)
    rw [if_pos (by rfl)]
    go_simp
    refine (CL.out _ HBC.out.1.drew).mono ?_
    rintro e we ⟨rfl, hbe⟩
    have cme : we.cell? ⟨mb, k, none⟩ = some (.bool true) := (hbe.cell (p := ⟨mb, k, none⟩) zmd).trans cmd
    have cme0 : we.cell? ⟨n20, 0, none⟩ = some (.int .i64 2) := (hbe.cell (p := ⟨n20, 0, none⟩) z20d).trans q0
    have cme1 : we.cell? ⟨n20, 1, none⟩ = some (.int .i64 k) := (hbe.cell (p := ⟨n20, 1, none⟩) z20d).trans q1
    have HE := Lib.hid hbe
    clear hbe hHeld
    try go_wp2_with fail
    refine hK.out _ _ ⟨cme0, cme1, cme⟩ (fun hHeld => ?_)
    clear hK K
    try try simp only [Act.put, List.setIfInBounds_toArray, List.set_cons_zero, List.set_cons_succ]
    refine wpAnyH_take (i := 7) (oi := { dst := some 183, op := Op.binOp BinOp.neq 4 (Operand.tmp 178) (Operand.tmp 182) 4, type := 4, pos := "law.go:303", after := #[{ on := 2, ground := Ground.data }, { on := 6, ground := Ground.data }], guard := none }) (v := .bool false) rfl (by kernel_rfl) (by kernel_rfl) (by kernel_rfl) (fun _ _ _ h => h) (Or.inl ⟨by rfl, by (intro w hSw; (try dsimp only at hSw); go_simp)⟩) (by assumption) ?_
    try simp only [Act.put, List.setIfInBounds_toArray, List.set_cons_zero, List.set_cons_succ]
    refine wpAnyH_take (i := 8) (oi := { dst := some 184, op := Op.move (Operand.tmp 183), type := 4, pos := "law.go:303", after := #[{ on := 7, ground := Ground.data }, { on := 2, ground := Ground.chain }], guard := none }) (v := .bool false) rfl (by kernel_rfl) (by kernel_rfl) (by kernel_rfl) (fun _ _ _ h => h) (Or.inl ⟨by rfl, by (intro w hSw; (try dsimp only at hSw); go_simp)⟩) (by assumption) ?_
    try simp only [Act.put, List.setIfInBounds_toArray, List.set_cons_zero, List.set_cons_succ]
    refine wpAnyH_take (i := 9) (oi := { dst := some 185, op := Op.move (Operand.tmp 11), type := 56, pos := "law.go:303", after := #[{ on := 8, ground := Ground.guard }], guard := some (8, false) }) (v := .slice (some ⟨mb, 0, none⟩) 41 41) rfl (by kernel_rfl) (by kernel_rfl) (by kernel_rfl) (fun _ _ _ h => h) (Or.inl ⟨by rfl, by (intro w hSw; (try dsimp only at hSw); go_simp)⟩) (by assumption) ?_
    try simp only [Act.put, List.setIfInBounds_toArray, List.set_cons_zero, List.set_cons_succ]
    refine wpAnyH_take (i := 10) (oi := { dst := some 186, op := Op.move (Operand.tmp 19), type := 3, pos := "law.go:303", after := #[{ on := 8, ground := Ground.guard }], guard := some (8, false) }) (v := .int .i64 k) rfl (by kernel_rfl) (by kernel_rfl) (by kernel_rfl) (fun _ _ _ h => h) (Or.inl ⟨by rfl, by (intro w hSw; (try dsimp only at hSw); go_simp)⟩) (by assumption) ?_
    try simp only [Act.put, List.setIfInBounds_toArray, List.set_cons_zero, List.set_cons_succ]
    refine wpAnyH_take (i := 11) (oi := { dst := some 187, op := Op.indexAddr 56 (Operand.tmp 185) (Operand.tmp 186), type := 0, pos := "law.go:303", after := #[{ on := 9, ground := Ground.data }, { on := 10, ground := Ground.data }, { on := 8, ground := Ground.guard }], guard := some (8, false) }) (v := .pointer (some ⟨mb, k, none⟩)) rfl (by kernel_rfl) (by kernel_rfl) (by kernel_rfl) (fun _ _ _ h => h) (Or.inl ⟨by rfl, by (intro w hSw; (try dsimp only at hSw); go_simp)⟩) (by assumption) ?_
    try simp only [Act.put, List.setIfInBounds_toArray, List.set_cons_zero, List.set_cons_succ]
    refine wpAnyH_take (i := 12) (oi := { dst := some 188, op := Op.load 4 (Operand.tmp 187), type := 4, pos := "law.go:303", after := #[{ on := 11, ground := Ground.data }, { on := 8, ground := Ground.guard }], guard := some (8, false) }) (v := .bool true) rfl (by kernel_rfl) (by kernel_rfl) (by kernel_rfl) (fun _ _ _ h => h) (Or.inl ⟨by rfl, by (intro w hSw; (try dsimp only at hSw); go_simp)⟩) (by assumption) ?_
    try simp only [Act.put, List.setIfInBounds_toArray, List.set_cons_zero, List.set_cons_succ]
    refine wpAnyH_take (i := 13) (oi := { dst := some 189, op := Op.unOp UnOp.not 4 (Operand.tmp 188), type := 4, pos := "law.go:303", after := #[{ on := 12, ground := Ground.data }, { on := 8, ground := Ground.guard }], guard := some (8, false) }) (v := .bool false) rfl (by kernel_rfl) (by kernel_rfl) (by kernel_rfl) (fun _ _ _ h => h) (Or.inl ⟨by rfl, by (intro w hSw; (try dsimp only at hSw); go_simp)⟩) (by assumption) ?_
    try simp only [Act.put, List.setIfInBounds_toArray, List.set_cons_zero, List.set_cons_succ]
    refine wpAnyH_take (i := 14) (oi := { dst := some 190, op := Op.move (Operand.tmp 189), type := 4, pos := "law.go:303", after := #[{ on := 13, ground := Ground.data }, { on := 8, ground := Ground.chain }, { on := 8, ground := Ground.guard }], guard := some (8, false) }) (v := .bool false) rfl (by kernel_rfl) (by kernel_rfl) (by kernel_rfl) (fun _ _ _ h => h) (Or.inl ⟨by rfl, by (intro w hSw; (try dsimp only at hSw); go_simp)⟩) (by assumption) ?_
    try simp only [Act.put, List.setIfInBounds_toArray, List.set_cons_zero, List.set_cons_succ]
    refine wpAnyH_take (i := 15) (oi := { dst := some 191, op := Op.move (Operand.tmp 22), type := 24, pos := "law.go:303", after := #[{ on := 14, ground := Ground.guard }], guard := some (14, true) }) (v := undef) rfl (by kernel_rfl) (by kernel_rfl) (by kernel_rfl) (fun _ _ _ h => h) (Or.inr ⟨by rfl, rfl⟩) (by assumption) ?_
    try simp only [Act.put, List.setIfInBounds_toArray, List.set_cons_zero, List.set_cons_succ]
    refine wpAnyH_take (i := 16) (oi := { dst := some 192, op := Op.binOp BinOp.neq 24 (Operand.tmp 191) (Operand.const (Value.int IntKind.i64 6)) 24, type := 4, pos := "law.go:303", after := #[{ on := 15, ground := Ground.data }, { on := 14, ground := Ground.guard }], guard := some (14, true) }) (v := undef) rfl (by kernel_rfl) (by kernel_rfl) (by kernel_rfl) (fun _ _ _ h => h) (Or.inr ⟨by rfl, rfl⟩) (by assumption) ?_
    try simp only [Act.put, List.setIfInBounds_toArray, List.set_cons_zero, List.set_cons_succ]
    refine wpAnyH_take (i := 17) (oi := { dst := some 193, op := Op.move (Operand.tmp 192), type := 4, pos := "law.go:303", after := #[{ on := 16, ground := Ground.data }, { on := 14, ground := Ground.chain }, { on := 14, ground := Ground.guard }], guard := some (14, true) }) (v := undef) rfl (by kernel_rfl) (by kernel_rfl) (by kernel_rfl) (fun _ _ _ h => h) (Or.inr ⟨by rfl, rfl⟩) (by assumption) ?_
    try simp only [Act.put, List.setIfInBounds_toArray, List.set_cons_zero, List.set_cons_succ]
    refine wpAnyH_take (i := 18) (oi := { dst := some 194, op := Op.move (Operand.tmp 24), type := 24, pos := "law.go:303", after := #[{ on := 17, ground := Ground.guard }], guard := some (17, false) }) (v := undef) rfl (by kernel_rfl) (by kernel_rfl) (by kernel_rfl) (fun _ _ _ h => h) (Or.inr ⟨by rfl, rfl⟩) (by assumption) ?_
    try simp only [Act.put, List.setIfInBounds_toArray, List.set_cons_zero, List.set_cons_succ]
    refine wpAnyH_take (i := 19) (oi := { dst := some 195, op := Op.binOp BinOp.neq 24 (Operand.tmp 194) (Operand.const (Value.int IntKind.i64 6)) 24, type := 4, pos := "law.go:303", after := #[{ on := 18, ground := Ground.data }, { on := 17, ground := Ground.guard }], guard := some (17, false) }) (v := undef) rfl (by kernel_rfl) (by kernel_rfl) (by kernel_rfl) (fun _ _ _ h => h) (Or.inr ⟨by rfl, rfl⟩) (by assumption) ?_
    try simp only [Act.put, List.setIfInBounds_toArray, List.set_cons_zero, List.set_cons_succ]
    refine wpAnyH_take (i := 20) (oi := { dst := some 196, op := Op.pick (Operand.tmp 193) (Operand.const (Value.bool true)) (Operand.tmp 195), type := 4, pos := "law.go:303", after := #[{ on := 17, ground := Ground.data }, { on := 19, ground := Ground.data }, { on := 14, ground := Ground.guard }], guard := some (14, true) }) (v := undef) rfl (by kernel_rfl) (by kernel_rfl) (by kernel_rfl) (fun _ _ _ h => h) (Or.inr ⟨by rfl, rfl⟩) (by assumption) ?_
    try simp only [Act.put, List.setIfInBounds_toArray, List.set_cons_zero, List.set_cons_succ]
    refine wpAnyH_take (i := 21) (oi := { dst := some 197, op := Op.pick (Operand.tmp 190) (Operand.tmp 196) (Operand.const (Value.bool false)), type := 4, pos := "law.go:303", after := #[{ on := 14, ground := Ground.data }, { on := 20, ground := Ground.data }, { on := 8, ground := Ground.guard }], guard := some (8, false) }) (v := .bool false) rfl (by kernel_rfl) (by kernel_rfl) (by kernel_rfl) (fun _ _ _ h => h) (Or.inl ⟨by rfl, by (intro w hSw; (try dsimp only at hSw); go_simp)⟩) (by assumption) ?_
    try simp only [Act.put, List.setIfInBounds_toArray, List.set_cons_zero, List.set_cons_succ]
    refine wpAnyH_take (i := 22) (oi := { dst := some 198, op := Op.pick (Operand.tmp 184) (Operand.const (Value.bool true)) (Operand.tmp 197), type := 4, pos := "law.go:303", after := #[{ on := 8, ground := Ground.data }, { on := 21, ground := Ground.data }], guard := none }) (v := .bool false) rfl (by kernel_rfl) (by kernel_rfl) (by kernel_rfl) (fun _ _ _ h => h) (Or.inl ⟨by rfl, by (intro w hSw; (try dsimp only at hSw); go_simp)⟩) (by assumption) ?_
    try simp only [Act.put, List.setIfInBounds_toArray, List.set_cons_zero, List.set_cons_succ]
    refine wpAnyH_done (by kernel_rfl) ?_ _
    go_wp2_with fail
    go_meet
    exact ⟨rfl, (Below.refl _ _).drew.trans (HE.out.mono (Nat.le_refl _))⟩
  | false =>
    obtain ⟨hA', hB'⟩ := HV.out
    simp only [Bool.false_eq_true, if_false, Prod.mk.injEq] at hA' hB'
    obtain ⟨rfl, rfl⟩ := hA'
    obtain ⟨rfl, rfl⟩ := hB'
    go_region_held3 (fun w' => w'.cell? ⟨n20, 0, none⟩ = some (.int .i64 2) ∧ w'.cell? ⟨n20, 1, none⟩ = some (.int .i64 k) ∧ w'.cell? ⟨mb, k, none⟩ = some (.bool false)) (first | exact ⟨cme0, cme1, cme⟩ | exact ⟨q0, q1, cmd⟩ | go_keep) ((go_at_call 32; refine (CL.out _ HBC.out.1.drew).mono ?_; rintro e we ⟨rfl, hbe⟩; have cme : we.cell? ⟨mb, k, none⟩ = some (.bool false) := (hbe.cell (p := ⟨mb, k, none⟩) zmd).trans cmd; have cme0 : we.cell? ⟨n20, 0, none⟩ = some (.int .i64 2) := (hbe.cell (p := ⟨n20, 0, none⟩) z20d).trans q0; have cme1 : we.cell? ⟨n20, 1, none⟩ = some (.int .i64 k) := (hbe.cell (p := ⟨n20, 1, none⟩) z20d).trans q1; have HE := Lib.hid hbe; clear hbe))
    all_goals (go_wp2_with fail; go_meet)
    all_goals exact ⟨rfl, (Below.refl _ _).drew.trans (HE.out.mono (Nat.le_refl _))⟩
set_option maxHeartbeats 60000000 in
set_option maxRecDepth 100000 in
theorem col_part7 : col_cut.T7 := by
  intro cs ds rs w c0 c1 a2 c2 hL1 hD1 hR1 hD2 HT y0 W0 y1 W1 y2 hb y3 y4 u48 u49 u50 u51 u52 u53 u54 u55 u56 u57 u58 u59 u60 u61 u62 u63 u64 u65 u66 y5 y6 y7 G y8 y9 y10 wm mb y11 y12 u12 u13 u15 u68 u69 u70 u71 u72 u73 u74 u75 u76 u77 u78 u79 u80 u81 u82 u83 u84 u85 u86 u87 y13 y14 y15 G2 D2 hR40 y16 y17 y18 y19 y20 u16 u88 u89 u90 u91 u92 u93 u94 u95 u96 u97 u98 u99 u100 u101 u102 u103 u104 u105 u106 u107 u108 u109 u110 u111 u112 u113 u114 u115 u116 u117 u118 u119 u120 u121 u122 u123 u124 u125 u126 y21 y22 y23 met G3 D3 ta tc hL40 hm41 y24 y25 y26 y27 y28 u127 u128 u129 u130 u131 u132 u133 u134 u135 u136 u137 y29 y30 y31 H4 lf hlf41 y32 y33 W4 b m2 G4 H5 d W5 b2 G5 y34 y35 gk wr u6 u20 u21 u22 u23 u24 y36 y37 y38 y39 y40 y41 y42 y43 y44 y45 y46 y47 y48 y49 y50 y51 y52 y53 y54 y55 y56 y57 y58 y59 y60 y61 y62 y63 y64 y65 y66 y67 y68 y69 y70 y71 y72 y73 y74 y75 y76 u198 y77 y78 y79 y80 y81 y82 y83 y84 y85 y86 y87 y88 y89 y90 y91 y92 y93 y94 y95 y96 y97 y98 y99 y100 y101 y102 y103 k G6 D6 hk HIN HGK hlt a d' hkd2 b0 o0 b1 o1 HA y104 y105 y106 y107 y108 hk41 bv mcur y109 y110 A er B es CA CB CL HV HRC y111 y112 Wa Wb Wc Wd n20 n21 n23 hkI0 hkI1 hkI2 hkI3 hkI4 hkI5 hkI6 wc u157 u158 u159 u160 u161 u162 u163 u164 u165 u166 u167 u168 u169 u170 u171 u172 u173 u174 u175 u176 u177 u178 u179 u180 u181 u182 u183 u184 u185 u186 u187 u188 u189 u190 u191 u192 u193 u194 u195 u196 u197 u199 u200 u201 u202 u203 u204 u205 u206 u207 u208 u209 u210 u211 u212 u213 u214 u215 u216 u217 u218 u219 u220 u221 u222 z21 z23 p0 p1 p2 p3 r0 r1 cme zb1 zb0 zme HW y113 y114 y115 y116 y117 y118
  cases bv with
  | true =>
    obtain ⟨hA', hB'⟩ := HV.out
    simp only [if_true, Prod.mk.injEq] at hA' hB'
    obtain ⟨rfl, rfl⟩ := hA'
    obtain ⟨rfl, rfl⟩ := hB'
    have cP0 := fun V => pick_any a 41 V (by decide) (by decide)
    have cP1 := fun V => pick_any d' 41 V (by decide) (by decide)
    go_region_held3 (fun w' => w'.cell? ⟨n21, 0, none⟩ = some (.int .i64 2) ∧ w'.cell? ⟨n21, 1, none⟩ = some (.int .i64 (pickZ a 41)) ∧ w'.cell? ⟨n23, 0, none⟩ = some (.int .i64 2) ∧ w'.cell? ⟨n23, 1, none⟩ = some (.int .i64 (pickZ d' 41)) ∧ w'.cell? ⟨b0, o0 + k, none⟩ = some (.int .i64 a) ∧ w'.cell? ⟨b1, o1 + k, none⟩ = some (.int .i64 d') ∧ w'.cell? ⟨mb, k, none⟩ = some (.bool true)) (first | exact ⟨pb0, pb1, pb2, pb3, rb0, rb1, cmb⟩ | exact ⟨pa0, pa1, pa2, pa3, ra0, ra1, cma⟩ | exact ⟨p0, p1, p2, p3, r0, r1, cme⟩ | go_keep) (first
      | (go_at_call_of 16 (Value.int IntKind.i64 (pickZ a 41)); refine (word_any _ _ _).mono ?_; rintro e wa ⟨rfl, hba⟩; obtain ⟨pa0, pa1, pa2, pa3, ra0, ra1, cma⟩ := seven_keep hba z21 z21 z23 z23 zb0 zb1 zme p0 p1 p2 p3 r0 r1 cme; have HBA := Lib.hid hba; have HSZ := Lib.hid hba.size; clear hba)
      | (go_at_call_of 16 (Value.int IntKind.i64 (pickZ d' 41)); refine (word_any _ _ _).mono ?_; rintro e wb ⟨rfl, hbb⟩; obtain ⟨pb0, pb1, pb2, pb3, rb0, rb1, cmb⟩ := seven_keep hbb (Nat.lt_of_lt_of_le z21 HSZ.out) (Nat.lt_of_lt_of_le z21 HSZ.out) (Nat.lt_of_lt_of_le z23 HSZ.out) (Nat.lt_of_lt_of_le z23 HSZ.out) (Nat.lt_of_lt_of_le zb0 HSZ.out) (Nat.lt_of_lt_of_le zb1 HSZ.out) (Nat.lt_of_lt_of_le zme HSZ.out) pa0 pa1 pa2 pa3 ra0 ra1 cma; have HBB := Lib.hid hbb; clear hbb)
      | (go_at_call_of 24 (Value.int IntKind.i64 a); ((with_reducible refine (cP0 _).mono ?_); rintro e w' ⟨rfl, hw'⟩; obtain rfl : _ = w' := hw'.symm; clear hw'))
      | (go_at_call_of 24 (Value.int IntKind.i64 d'); ((with_reducible refine (cP1 _).mono ?_); rintro e w' ⟨rfl, hw'⟩; obtain rfl : _ = w' := hw'.symm; clear hw')))
    all_goals (go_wp2_with fail; go_meet)
    all_goals exact ⟨rfl, ((Below.refl _ _).drew.trans (HBA.out.mono (Nat.le_refl _))).trans (HBB.out.mono HBA.out.size)⟩
  | false =>
    go_quiet (fail)
    go_wp2_with fail
    go_meet
    exact ⟨rfl, (Below.refl _ _).drewN _⟩
theorem col_main (v0 v1 v2 : Value) (cs ds rs : List Int) (w : World) (hA0 : ArgI w v0 cs) (hA1 : ArgI w v1 ds) (hA2 : ArgI w v2 rs) (hL : cs.length ≤ 40) (hD : cs.length ≤ ds.length) (hR : rs.length ≤ 40) (hT : Tabs w) :
    Calls Tryd.prog 6 #[v0, v1, v2] w fun e w' => e = .returned (.bool true) ∧ Below w.heap.size w w' := col_cut.whole (Lib.hid col_part1) (Lib.hid col_part2) (Lib.hid col_part3) (Lib.hid col_part6) (Lib.hid col_part7) v0 v1 v2 cs ds rs w hA0 hA1 hA2 hL hD hR hT
end Go.Proofs.YtleppjdmcjocmaaDoor
