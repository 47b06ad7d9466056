/- The walk of the law HeapHolds, for a string that is not valid. Condition: unicode/utf8's two tables hold what the program's text lays. -/
import Derived.Test.YtleppjdmcjocmaaDoorHpHolds2
namespace Go.Proofs.YtleppjdmcjocmaaDoor
open Go.RowKit Go.Lib
structure Parts_bad (P : Prop) where
  T1 : Prop
  T2 : Prop
  T4 : Prop
  T5 : Prop
  whole : RowKit.Hid T1 → RowKit.Hid T2 → RowKit.Hid T4 → RowKit.Hid T5 → P
set_option maxHeartbeats 60000000 in
set_option maxRecDepth 100000 in
noncomputable def cut_bad : Parts_bad (∀ (v0 : Value) (L : List Wd) (s : ByteArray) (i : Int) (x : Wd) (Bs : List (Option Ob)) (w : World) (_hA : ArgW w v0 L) (_hL : L.length ≤ 60) (_hs : s.size ≤ 300) (_hT : Tabs w)
    (_hB : Bs.length = 1 ∧ Bs[0]? = some (some (.vec L)))
    (_cT : ∀ W hb G, HeapAt W hb G ⟨200, [some (.vec L)], []⟩ → Tabs W → Calls Tryd.prog 14 #[hptr hb, .string s] W fun e w' => e = .returned (.tuple #[wv (0, 0), .int .i64 5]) ∧ Went W w' hb G ⟨200, Bs, []⟩)
    (_cU : ∀ W hb G p, HeapAt W hb G (hpF Bs L p x) → Calls Tryd.prog 29 #[hptr hb, wv (0, 0)] W fun e w' => e = .returned (.tuple #[.string ⟨#[]⟩, .int .i64 6]) ∧ Below W.heap.size W w'),
    Calls Tryd.prog 4 #[v0, .string s, .int .i64 i, wv x] w fun e w' => e = .returned (.bool true) ∧ Below w.heap.size w w') := by
  apply Parts_bad.mk
  case whole =>
    intro h1 h2 h4 h5 v0 L s i x Bs w hA hL hs hT hB cT cU
    have hsrc := hA.src
    obtain ⟨a0, c0, rfl⟩ := hA.slice
    have hvb : True := trivial
    have hL1 : decide ((60 : Int) < L.length) = false := by simp; omega
    have hs1 : ¬ (300 : Int) < s.size := by omega
    have HT := Lib.hid hT
    have CU := Lib.hid cU
    clear cU
    have HA := Lib.hid (And.intro hA (And.intro hsrc (And.intro hvb (And.intro hL (And.intro hB cT)))))
    clear hT hA hsrc hvb hL hB cT hs
    go_enter Tryd.func4, Tryd.ntmps4
    go_wp2_with fail
    refine (lives_any _ (HT.out.below ((Below.refl _ _).alloc (Nat.le_refl _) _) HT.out.size)).mono ?_
    rintro e W0 ⟨rfl, hb0⟩
    have kx : W0.heap[w.heap.size]? = some (.cells #[.int .i64 x.1, .int .i64 x.2] 28 (0, 0)) := (hb0.block _ (by simp)).trans (alloc_at w _)
    have hw0 : Below w.heap.size w W0 := ((Below.refl _ _).alloc (Nat.le_refl _) _).trans (hb0.mono (by simp))
    have hz0 : w.heap.size < W0.heap.size := lt_at kx
    have H0 := Lib.hid (And.intro kx (And.intro hw0 hz0))
    clear hb0 kx hw0 hz0
    go_wp2_with fail
    refine (new_any 200 _ (by decide) (by decide)).mono ?_
    rintro e W1 ⟨rfl, hb1, hz1, h1⟩
    have kx1 := (hb1.block _ H0.out.2.2).trans H0.out.1
    have hw1 := H0.out.2.1.trans (hb1.mono (by have := H0.out.2.2; omega))
    have hgx1 : (if w.heap.size = W0.heap.size then 1 else 0) = 0 := if_neg (by have := H0.out.2.2; omega)
    have H1 := Lib.hid (And.intro kx1 (And.intro hw1 (And.intro hz1 h1)))
    have HZ0 := Lib.hid H0.out.2.2
    clear hb1 hz1 h1 kx1 hw1 H0 hgx1
    go_wp2_with fail
    have cV : Calls Tryd.prog 17 #[hptr W0.heap.size, .slice a0 L.length c0] W1 fun e w' => e = .returned (.tuple #[wv (4, 0), .int .i64 0]) ∧ Went W1 w' W0.heap.size (fun k => if k = W0.heap.size then 1 else 0) ⟨200, [some (.vec L)], []⟩ :=
      vec_any' H1.out.2.2.2 (fun W hW => HA.out.2.1 W (H1.out.2.1.trans (hW.mono H1.out.2.1.size))) (by have := HA.out.2.2.2.1; omega) (adds_new rfl (by decide) (by have := HA.out.2.2.2.1; simp [Hp.empty, total, Ob.size]; omega))
    refine cV.mono ?_
    clear cV
    rintro e W2 ⟨rfl, hw2⟩
    obtain ⟨G2, h2, hz2⟩ := hw2.heap
    have kx2 := (hw2.keeps.block w.heap.size (by have := H1.out.2.2.1; have := HZ0.out; omega) (if_neg (by have := HZ0.out; omega))).trans H1.out.1
    have hbw2 := H1.out.2.1.trans (hw2.keeps.below (B := w.heap.size) (by have := H1.out.2.1.size; omega) (fun k hk => if_neg (by have := HZ0.out; omega)))
    have hg2 : ∀ k, k ≤ w.heap.size → G2 k = 0 := fun k hk => (hz2 k (by have := H1.out.2.2.1; have := HZ0.out; omega)).2 (if_neg (by have := HZ0.out; omega))
    have H2 := Lib.hid (And.intro kx2 (And.intro hbw2 (And.intro hg2 h2)))
    clear hw2 hz2 h2 kx2 hbw2 hg2 H1
    go_wp2_with fail
    -- v lies in block W2.heap.size
    refine (HA.out.2.2.2.2.2 _ _ _ (H2.out.2.2.2.below ((Below.refl _ _).alloc (Nat.le_refl _) _)) (HT.out.below (H2.out.2.1.alloc H2.out.2.1.size _) HT.out.size)).mono ?_
    rintro e W3 ⟨rfl, hw3⟩
    obtain ⟨G3, h3, hz3⟩ := hw3.heap
    have hzx : w.heap.size < W2.heap.size := lt_at H2.out.1
    have kx3 := ((hw3.keeps.block w.heap.size (by simp; omega) (H2.out.2.2.1 _ (Nat.le_refl _))).trans (Below.heap_alloc _ _ _ hzx)).trans H2.out.1
    have kv3 : W3.heap[W2.heap.size]? = some (.cells #[.int .i64 4, .int .i64 0] 28 (0, 0)) := (hw3.keeps.block _ (by simp) (H2.out.2.2.2.new _ (Nat.le_refl _))).trans (alloc_at W2 _)
    have hbw3 := (H2.out.2.1.alloc H2.out.2.1.size _).trans (hw3.keeps.below (B := w.heap.size) (by have := H2.out.2.1.size; simp; omega) (fun k hk => H2.out.2.2.1 k (by omega)))
    have hg3 : ∀ k, k ≤ w.heap.size → G3 k = 0 := fun k hk => (hz3 k (by simp; omega)).2 (H2.out.2.2.1 k hk)
    have hgv3 : G3 W2.heap.size = 0 := (hz3 _ (by simp)).2 (H2.out.2.2.2.new _ (Nat.le_refl _))
    have hin0 : HInv w (W3.alloc (wobj (0, 0))) W0.heap.size w.heap.size W2.heap.size W3.heap.size x (4, 0) (0, 0) (hpH Bs L 0) G3 (.slice none 0 0) 0 [] :=
      ⟨hbw3.alloc hbw3.size _, by rw [hpH_zero]; exact h3.below ((Below.refl _ _).alloc (Nat.le_refl _) _), fun j hj => hg3 j (by omega), hg3 _ (Nat.le_refl _), hgv3, h3.new _ (Nat.le_refl _),
        (Below.heap_alloc _ _ _ (lt_at kx3)).trans kx3, (Below.heap_alloc _ _ _ (lt_at kv3)).trans kv3, alloc_at W3 _, World.ownsRow_nil _ _ _ _, fun c hc => by cases hc⟩
    have HN := Lib.hid hin0
    clear hw3 hz3 h3 kx3 kv3 hbw3 hg3 hgv3 H2 hzx HZ0 hin0
    go_wp2_with fail
    generalize W3.alloc (wobj (0, 0)) = W4 at *
    generalize W3.heap.size = tb at *
    generalize W2.heap.size = vb at *
    generalize W0.heap.size = hb at *
    go_loopg [15, 16] L.length (fun gk cs kv wr => ∃ (k : Nat) (G : Nat → Nat), gk = L.length - k ∧ k ≤ L.length ∧ kv = .int .i64 k ∧ HInv w wr hb w.heap.size vb tb x (4, 0) (0, 0) (hpH Bs L k) G cs k (cnl 1 k))
    case atStart => exact ⟨0, G3, by omega, Nat.zero_le _, rfl, HN.out⟩
    case round =>
      obtain ⟨k, G, hgk, hk, rfl, hin⟩ := hrel
      have HIN := Lib.hid hin
      have HGK := Lib.hid hgk
      clear hin hgk HN
      by_cases hlt : k < L.length
      · skip
        rcases HA.out.1 with ⟨_, e2⟩ | ⟨_, _, _, e2⟩ | ⟨_, b, o, c, e2, hbw, hcells⟩
        · rw [e2] at hlt; simp at hlt
        · rw [e2] at hlt; simp at hlt
        rename_i y0 y1 y2 y3 y4 y5 y6 y7 y8
        revert L s i x Bs w a0 c0 hL1 HT CU HA y0 hs1 W0 y1 W1 W2 G2 W3 G3 y2 y3 W4 tb vb hb gk wr u8 u15 u17 u18 u58 u59 u60 u61 u62 u63 u64 u65 u66 u67 u68 u69 u70 u71 u72 u73 u74 u75 u76 u77 u78 u79 u80 u81 u82 u83 u84 u85 u86 u87 u88 u89 u90 u91 u92 u93 u94 u95 u96 u97 u98 u99 u100 u101 u102 y4 y5 y6 y7 k G hk HIN HGK hlt y8 b o c e2 hbw hcells
        exact h1.out
      · have hk2 : k = L.length := by omega
        subst hk2
        clear hk hlt HGK
        obtain ⟨p, hp⟩ : ∃ p, p = (pickZ i L.length).toNat := ⟨_, rfl⟩
        have HP := Lib.hid hp
        have z0 := lt_at HIN.out.kv
        have z1 := lt_at HIN.out.kt
        have z2 := lt_at HIN.out.kx
        clear hp
        go_upto_if 107 with fail
        go_cut [15] (fun s15 wc => s15 = u15 ∧ ∃ G', HInv w wc hb w.heap.size vb tb x (4, 0) (0, 0) (hpF Bs L p x) G' u15 L.length (cnl 1 L.length))
        case first =>
          by_cases hpos : 0 < L.length
          · rename_i y0 y1 y2 y3 y4 y5 y6 y7 y8 y9 y10 y11 y12 y13 y14
            revert L s i x Bs w a0 c0 hL1 HT CU HA y0 hs1 W0 y1 W1 W2 G2 W3 G3 y2 W4 tb vb hb gk wr u8 u15 u17 u18 u58 u59 u60 u61 u62 u63 u64 u65 u66 u67 u68 u69 u70 u71 u72 u73 u74 u75 u76 u77 u78 u79 u80 u81 u82 u83 u84 u85 u86 u87 u88 u89 u90 u91 u92 u93 u94 u95 u96 u97 u98 u99 u100 u101 u102 y3 y4 y5 y6 G HIN p HP z0 z1 z2 y7 y8 y9 y10 y11 y12 y13 y14 hpos
            exact h2.out
          · have hL0 : L = [] := List.eq_nil_of_length_eq_zero (by omega)
            have hpp : decide ((0 : Int) < (L.length : Int)) = false := by simpa using hpos
            have h8 : HInv w wr hb w.heap.size vb tb x (4, 0) (0, 0) (hpF Bs L p x) G u15 L.length (cnl 1 L.length) := by
              have h9 := HIN.out
              have hb0 := HA.out.2.2.2.2.1.2
              subst hL0
              rw [hpF_nil Bs p x hb0]
              exact h9
            have H8 := Lib.hid h8
            clear h8 hL0
            go_wp2_with fail
            go_meet
            exact ⟨rfl, G, H8.out⟩
        case rest =>
          obtain ⟨rfl, G8, hin8⟩ := hcut
          have H8 := Lib.hid hin8
          have q0 : wc.cell? ⟨vb, 0, none⟩ = some (.int .i64 4) := cell_at hin8.kv
          have q1 : wc.cell? ⟨vb, 1, none⟩ = some (.int .i64 0) := cell_at hin8.kv
          have hl2 : (L.set p x).length = L.length := by simp
          have cO := vecof_ok H8.out.heap (4, 0) (L.set p x) (by have := HA.out.2.2.2.1; omega) (hpF_vec Bs L p x (by have := HA.out.2.2.2.2.1.1; omega))
          rw [hl2] at cO
          clear hin8 z0 z1 z2 HIN hl2
          go_wp2_with fail
          refine cO.mono ?_
          clear cO
          rintro e W9 ⟨v9, rfl, ho9, hb9⟩
          obtain ⟨a9, c9, rfl⟩ := own_slice ho9
          have H9 := Lib.hid (And.intro (H8.out.junk hb9) (own_base ho9 (Nat.zero_le _)))
          clear ho9 hb9 q0 q1 H8
          go_wp2_with fail
          go_loopg [22] L.length (fun gk kv wr => ∃ k : Nat, gk = L.length - k ∧ k ≤ L.length ∧ kv = .int .i64 k ∧ Below W9.heap.size W9 wr)
          case atStart => exact ⟨0, by omega, Nat.zero_le _, rfl, Below.refl _ _⟩
          case round =>
            obtain ⟨k, hgk, hk, rfl, hbr⟩ := hrel
            have HGK := Lib.hid hgk
            have HI := Lib.hid (And.intro (H9.out.1.junk hbr) (And.intro (own_keep H9.out.2 hbr) hbr))
            clear hgk hbr
            by_cases hlt : k < L.length
            · rcases HA.out.1 with ⟨_, e2⟩ | ⟨_, _, _, e2⟩ | ⟨_, b, o, c, e2, hbw, hcells⟩
              · rw [e2] at hlt; simp at hlt
              · rw [e2] at hlt; simp at hlt
              obtain ⟨rfl, rfl⟩ : some (⟨b, o, none⟩ : Addr) = a0 ∧ c = c0 := by cases e2; exact ⟨rfl, rfl⟩
              obtain ⟨a, ha⟩ : ∃ a, L[k]? = some a := ⟨_, List.getElem?_eq_getElem hlt⟩
              obtain ⟨ca, cb⟩ := hcells k a ha
              have hL60 : L.length ≤ 60 := HA.out.2.2.2.1
              have z0 := lt_at HI.out.1.kv
              have z2 := lt_at HI.out.1.kx
              have z3 : b < wr.heap.size := Nat.lt_of_lt_of_le hbw HI.out.1.below.size
              have r0 := (HI.out.1.below.cell (p := ⟨b, o + k * 2, none⟩) hbw).trans ca
              have r1 := (HI.out.1.below.cell (p := ⟨b, o + k * 2 + 1, none⟩) hbw).trans cb
              have r2 : wr.cell? ⟨vb, 0, none⟩ = some (.int .i64 4) := cell_at HI.out.1.kv
              have r3 : wr.cell? ⟨vb, 1, none⟩ = some (.int .i64 0) := cell_at HI.out.1.kv
              have HC := Lib.hid (And.intro ha hbw)
              clear hcells ca cb ha hbw e2
              go_wp2_with fail
              go_cut [23, 24] (fun s23 s24 wc => ∃ b1 b2 : Nat, s23 = .pointer (some ⟨b1, 0, none⟩) ∧ s24 = .pointer (some ⟨b2, 0, none⟩) ∧ wr.heap.size ≤ b1 ∧ wr.heap.size ≤ b2 ∧ b1 ≠ b2 ∧ wc.heap[b1]? = some (wobj a) ∧ wc.heap[b2]? = some (wobj (4, 0)) ∧ Below wr.heap.size wr wc)
              case first =>
                go_region
                all_goals (go_wp2_with fail; go_meet)
                all_goals first
                  | exact ⟨_, _, rfl, rfl, Nat.le_refl _, Nat.le_succ _, Nat.ne_of_lt (Nat.lt_succ_self _), alloc2_a _ _ _, alloc2_b _ _ _, alloc2_below _ _ _⟩
                  | exact ⟨_, _, rfl, rfl, Nat.le_succ _, Nat.le_refl _, Nat.ne_of_gt (Nat.lt_succ_self _), alloc2_b _ _ _, alloc2_a _ _ _, alloc2_below _ _ _⟩
              case rest =>
                obtain ⟨b1, b2, rfl, rfl, hb1, hb2, hne, k1, k2, hbc⟩ := hcut
                have HK := Lib.hid (And.intro hb1 (And.intro hb2 (And.intro hne (And.intro k1 (And.intro k2 hbc)))))
                obtain ⟨want, hwant⟩ : ∃ u : Wd, u = if k = p then x else a := ⟨_, rfl⟩
                obtain ⟨tail, htail⟩ : ∃ u : Wd, u = if k = p then x else (4, 0) := ⟨_, rfl⟩
                have HWT := Lib.hid (And.intro hwant htail)
                clear hb1 hb2 hne k1 k2 hbc hwant htail r0 r1 r2 r3
                have hpz := pickZ_in i L.length (by omega)
                have hpn : pickZ i L.length = (p : Int) := by rw [HP.out]; omega
                have cP := fun W => pick_any i L.length W (by omega) (by omega)
                rw [hpn] at cP
                clear hpz hpn
                go_upto_if 150 with (go_at_call 24; ((with_reducible refine (cP _).mono ?_); rintro e w' ⟨rfl, hw'⟩; obtain rfl : _ = w' := hw'.symm; clear hw'))
                go_cut [22] (fun s22 wd => s22 = .int .i64 k ∧ wd.heap[b1]? = some (wobj want) ∧ wd.heap[b2]? = some (wobj tail) ∧ Below wr.heap.size wr wd)
                case first =>
                  rename_i y0 y1 y2 y3 y4 y5 y6 y7 y8 y9 y10 y11 y12 y13 y14 y15 y16 y17 y18 y19 y20 y21 y22 y23 y24 y25 y26 y27 y28 y29 y30 y31 y32 y33 y34 y35 y36 y37 y38 y39 y40 y41 y42 y43 y44 y45 y46 y47 y48 y49 y50 y51 y52 y53 y54 y55 y56 y57 y58 y59 y60 y61 y62 y63 y64 y65 y66 y67 y68 y69 y70 y71 y72 y73 y74 y75 y76 y77 y78 y79 y80 y81 y82 y83 y84 y85 y86 y87 y88 y89 y90 y91 y92 y93 y94 y95 y96 y97 y98 y99 y100 y101 y102 y103 y104 y105 y106 y107 y108 y109 y110 y111 y112 y113 y114 y115 y116 y117 y118 y119 y120 y121 y122 y123 y124 y125 y126 y127 y128 y129 y130 y131 y132 y133 y134 y135 y136 y137 y138 y139 y140 y141 y142 y143 y144 y145 y146 y147 y148 y149 y150 y151 y152 y153 y154 y155 y156 y157 y158 y159 y160 y161 y162 y163 y164 y165 y166 y167 y168 y169 y170 y171 y172 y173 y174 y175 y176 y177 y178 y179 y180 y181 y182 y183 y184 y185 y186 y187 y188 y189 y190 y191 y192 y193 y194 y195 y196 y197 y198 y199 y200 y201 y202 y203 y204 y205 y206 y207 y208 y209 y210 y211 y212 y213 y214 y215 y216 y217 y218 y219 y220 y221 y222 y223 y224 y225 y226 y227 y228 y229 y230 y231 y232 y233 y234 y235 y236 y237 y238 y239 y240 y241
                  revert L s i x Bs w hL1 HT CU y0 hs1 W0 y1 W1 W2 G2 W3 G3 y2 W4 tb vb hb y3 y4 y5 u17 u18 y6 y7 y8 y9 y10 y11 y12 y13 y14 y15 y16 y17 y18 y19 y20 y21 y22 y23 y24 y25 y26 y27 y28 y29 y30 y31 y32 y33 y34 y35 y36 y37 y38 y39 y40 y41 y42 y43 y44 y45 y46 y47 y48 y49 y50 y51 y52 y53 G p HP y54 y55 y56 y57 u15 u19 u32 u33 u34 u35 u36 u37 u38 u39 u40 u41 u42 u43 u44 u45 u46 u47 u48 u49 u50 u51 u52 u53 u54 u55 u56 u57 u58 u59 u60 u61 u62 u63 u64 u65 u66 u67 u68 u69 u70 u71 u72 u73 u74 u75 u76 u77 u78 u79 u80 u81 u82 u83 u84 u85 u86 u87 u88 u89 u90 u91 u92 u93 u94 u95 u96 u97 u98 u99 u100 u101 u102 u103 u104 u105 u106 u107 u108 u109 u110 u111 u112 u113 u114 u115 u116 u117 u118 u119 u120 u121 u122 u123 u124 u125 u126 u127 u128 u129 u130 u131 u132 u133 y58 y59 y60 y61 y62 y63 y64 y65 y66 y67 y68 y69 y70 y71 y72 y73 y74 y75 y76 y77 y78 y79 y80 y81 y82 y83 y84 y85 y86 y87 y88 y89 y90 y91 y92 y93 y94 y95 y96 y97 y98 y99 y100 y101 y102 y103 y104 y105 y106 y107 y108 y109 y110 y111 y112 y113 y114 y115 y116 y117 y118 y119 y120 y121 y122 y123 y124 y125 y126 y127 y128 y129 y130 y131 y132 y133 y134 y135 y136 y137 y138 y139 y140 y141 u218 u219 u220 u221 u222 u223 u224 u225 u226 u227 u228 u229 u230 u231 u232 u233 u234 u235 u236 u237 u238 u239 u240 u241 u242 u243 u244 u245 G8 W9 a9 c9 H9 y142 y143 gk wr u8 u23 u24 u25 u26 u27 u28 u29 y144 y145 y146 y147 y148 y149 y150 y151 y152 y153 y154 y155 y156 y157 y158 y159 y160 y161 y162 y163 y164 y165 y166 y167 y168 y169 y170 y171 y172 y173 y174 y175 y176 y177 y178 y179 y180 y181 y182 y183 y184 y185 y186 y187 y188 y189 y190 y191 y192 y193 y194 y195 y196 y197 y198 y199 y200 y201 y202 y203 y204 y205 y206 y207 y208 y209 y210 y211 y212 y213 y214 y215 y216 y217 y218 y219 y220 y221 y222 y223 y224 y225 y226 y227 y228 y229 y230 k hk HGK HI hlt y231 b o c HA y232 y233 a hL60 z0 z2 z3 HC y234 y235 wc u134 u135 u136 u137 u138 u139 u140 u141 u142 u143 u144 u145 u146 u147 u148 u149 u150 u151 u152 u153 u154 u155 u156 u157 u158 u159 u160 u161 u162 u163 u164 u165 u166 u167 u168 u169 u170 u171 u172 u173 u174 u175 u176 u177 u178 u179 u180 u181 u182 u183 u184 u185 u186 u187 u188 u189 u190 u191 u192 u193 u194 u195 u196 u197 u198 u199 u200 u201 u202 u203 u204 u205 u206 u207 u208 u209 u210 u211 u212 u213 u214 u215 u216 u217 b1 b2 HK want tail HWT cP y236 y237 y238 y239 y240 y241
                  exact h4.out
                case rest =>
                  rename_i y0 y1 y2 y3 y4 y5 y6 y7 y8 y9 y10 y11 y12 y13 y14 y15 y16 y17 y18 y19 y20 y21 y22 y23 y24 y25 y26 y27 y28 y29 y30 y31 y32 y33 y34 y35 y36 y37 y38 y39 y40 y41 y42 y43 y44 y45 y46 y47 y48 y49 y50 y51 y52 y53 y54 y55 y56 y57 y58 y59 y60 y61 y62 y63 y64 y65 y66 y67 y68 y69 y70 y71 y72 y73 y74 y75 y76 y77 y78 y79 y80 y81 y82 y83 y84 y85 y86 y87 y88 y89 y90 y91 y92 y93 y94 y95 y96 y97 y98 y99 y100 y101 y102 y103 y104 y105 y106 y107 y108 y109 y110 y111 y112 y113 y114 y115 y116 y117 y118 y119 y120 y121 y122 y123 y124 y125 y126 y127 y128 y129 y130 y131 y132 y133 y134 y135 y136 y137 y138 y139 y140 y141 y142 y143 y144 y145 y146 y147 y148 y149 y150 y151 y152 y153 y154 y155 y156 y157 y158 y159 y160 y161 y162 y163 y164 y165 y166 y167 y168 y169 y170 y171 y172 y173 y174 y175 y176 y177 y178 y179 y180 y181 y182 y183 y184 y185 y186 y187 y188 y189 y190 y191 y192 y193 y194 y195 y196 y197 y198 y199 y200 y201 y202 y203 y204 y205 y206 y207 y208 y209 y210 y211 y212 y213 y214 y215 y216 y217 y218 y219 y220 y221 y222 y223 y224 y225 y226 y227 y228 y229 y230 y231 y232 y233 y234 y235 y236 y237 y238 y239 y240 y241 y242 y243 y244 y245 y246 y247 y248 y249 y250 y251 y252 y253 y254 y255 y256 y257 y258 y259 y260 y261 y262 y263 y264 y265 y266 y267 y268 y269 y270 y271 y272 y273 y274 y275 y276 y277 y278 y279 y280 y281 y282 y283 y284 y285 y286 y287 y288 y289 y290 y291 y292 y293 y294 y295 y296 y297 y298 y299 y300 y301 y302 y303 y304 y305 y306 y307 y308 y309 y310 y311 y312 y313 y314 y315 y316 y317 y318 y319 y320 y321 y322
                  revert L s i x Bs w hL1 HT CU y0 hs1 W0 y1 W1 W2 G2 W3 G3 y2 W4 tb vb hb y3 y4 y5 u17 u18 y6 y7 y8 y9 y10 y11 y12 y13 y14 y15 y16 y17 y18 y19 y20 y21 y22 y23 y24 y25 y26 y27 y28 y29 y30 y31 y32 y33 y34 y35 y36 y37 y38 y39 y40 y41 y42 y43 y44 y45 y46 y47 y48 y49 y50 y51 y52 y53 G p HP y54 y55 y56 y57 u15 u19 u32 u33 u34 u35 u36 u37 u38 u39 u40 u41 u42 u43 u44 u45 u46 u47 u48 u49 u50 u51 u52 u53 u54 u55 u56 u57 u58 u59 u60 u61 u62 u63 u64 u65 u66 u67 u68 u69 u70 u71 u72 u73 u74 u75 u76 u77 u78 u79 u80 u81 u82 u83 u84 u85 u86 u87 u88 u89 u90 u91 u92 u93 u94 u95 u96 u97 u98 u99 u100 u101 u102 u103 u104 u105 u106 u107 u108 u109 u110 u111 u112 u113 u114 u115 u116 u117 u118 u119 u120 u121 u122 u123 u124 u125 u126 u127 u128 u129 u130 u131 u132 u133 y58 y59 y60 y61 y62 y63 y64 y65 y66 y67 y68 y69 y70 y71 y72 y73 y74 y75 y76 y77 y78 y79 y80 y81 y82 y83 y84 y85 y86 y87 y88 y89 y90 y91 y92 y93 y94 y95 y96 y97 y98 y99 y100 y101 y102 y103 y104 y105 y106 y107 y108 y109 y110 y111 y112 y113 y114 y115 y116 y117 y118 y119 y120 y121 y122 y123 y124 y125 y126 y127 y128 y129 y130 y131 y132 y133 y134 y135 y136 y137 y138 y139 y140 y141 u218 u219 u220 u221 u222 u223 u224 u225 u226 u227 u228 u229 u230 u231 u232 u233 u234 u235 u236 u237 u238 u239 u240 u241 u242 u243 u244 u245 G8 W9 a9 c9 H9 y142 y143 gk wr u8 u23 u24 u25 u26 u27 u28 u29 y144 y145 y146 y147 y148 y149 y150 y151 y152 y153 y154 y155 y156 y157 y158 y159 y160 y161 y162 y163 y164 y165 y166 y167 y168 y169 y170 y171 y172 y173 y174 y175 y176 y177 y178 y179 y180 y181 y182 y183 y184 y185 y186 y187 y188 y189 y190 y191 y192 y193 y194 y195 y196 y197 y198 y199 y200 y201 y202 y203 y204 y205 y206 y207 y208 y209 y210 y211 y212 y213 y214 y215 y216 y217 y218 y219 y220 y221 y222 y223 y224 y225 y226 y227 y228 y229 y230 k hk HGK HI hlt y231 b o c HA y232 y233 a hL60 z0 z2 z3 HC y234 y235 y236 y237 y238 y239 y240 y241 y242 y243 y244 y245 y246 y247 y248 y249 y250 y251 y252 y253 y254 y255 y256 y257 y258 y259 y260 y261 y262 y263 y264 y265 y266 y267 y268 y269 y270 y271 y272 y273 y274 y275 y276 y277 y278 y279 y280 y281 y282 y283 y284 y285 y286 y287 y288 y289 y290 y291 y292 y293 y294 y295 y296 y297 y298 y299 y300 y301 y302 y303 y304 y305 y306 y307 y308 y309 y310 y311 y312 y313 y314 y315 y316 y317 y318 y319 y320 b1 b2 HK want tail HWT cP y321 y322 wc u22 u134 u135 u136 u137 u138 u139 u140 u141 u142 u143 u144 u145 u146 u147 u148 u149 u150 u151 u152 u153 u154 u155 u156 u157 u158 u159 u160 u161 u162 u163 u164 u165 u166 u167 u168 u169 u170 u171 u172 u173 u174 u175 u176 u177 u178 u179 u180 u181 u182 u183 u184 u185 u186 u187 u188 u189 u190 u191 u192 u193 u194 u195 u196 u197 u198 u199 u200 u201 u202 u203 u204 u205 u206 u207 u208 u209 u210 u211 u212 u213 u214 u215 u216 u217 hcut
                  exact h5.out
            · skip
              have r0 : wr.cell? ⟨tb, 0, none⟩ = some (.int .i64 0) := cell_at HI.out.1.kt
              have r1 : wr.cell? ⟨tb, 1, none⟩ = some (.int .i64 0) := cell_at HI.out.1.kt
              go_wp2_with fail
              refine (CU.out _ _ _ p HI.out.1.heap).mono ?_
              rintro e Wz ⟨rfl, hbz⟩
              have HZ := Lib.hid (HI.out.1.below.trans (hbz.mono HI.out.1.below.size))
              clear hbz r0 r1
              go_wp2
              go_ret
              exact ⟨rfl, HZ.out⟩
set_option maxHeartbeats 60000000 in
set_option maxRecDepth 100000 in
theorem part_bad1 : cut_bad.T1 := by
  intro L s i x Bs w a0 c0 hL1 HT CU HA y0 hs1 W0 y1 W1 W2 G2 W3 G3 y2 y3 W4 tb vb hb gk wr u8 u15 u17 u18 u58 u59 u60 u61 u62 u63 u64 u65 u66 u67 u68 u69 u70 u71 u72 u73 u74 u75 u76 u77 u78 u79 u80 u81 u82 u83 u84 u85 u86 u87 u88 u89 u90 u91 u92 u93 u94 u95 u96 u97 u98 u99 u100 u101 u102 y4 y5 y6 y7 k G hk HIN HGK hlt y8 b o c e2 hbw hcells
  obtain ⟨rfl, rfl⟩ : some (⟨b, o, none⟩ : Addr) = a0 ∧ c = c0 := by cases e2; exact ⟨rfl, rfl⟩
  obtain ⟨a, ha⟩ : ∃ a, L[k]? = some a := ⟨_, List.getElem?_eq_getElem hlt⟩
  obtain ⟨ca, cb⟩ := hcells k a ha
  have hL60 : L.length ≤ 60 := HA.out.2.2.2.1
  obtain ⟨cn, hcn⟩ : ∃ cn : Int, ((1 + k : Nat) : Int) = cn := ⟨_, rfl⟩
  have hq0 : (cn == 0) = false := by rw [beq_eq_false_iff_ne]; omega
  have HC := Lib.hid (And.intro ha (And.intro hcn hbw))
  have r0 := (HIN.out.below.cell (p := ⟨b, o + k * 2, none⟩) hbw).trans ca
  have r1 := (HIN.out.below.cell (p := ⟨b, o + k * 2 + 1, none⟩) hbw).trans cb
  have r2 : wr.cell? ⟨vb, 0, none⟩ = some (.int .i64 4) := cell_at HIN.out.kv
  have r3 : wr.cell? ⟨vb, 1, none⟩ = some (.int .i64 0) := cell_at HIN.out.kv
  have r4 : wr.cell? ⟨tb, 1, none⟩ = some (.int .i64 0) := cell_at HIN.out.kt
  have z0 := lt_at HIN.out.kv
  have z1 := lt_at HIN.out.kt
  have z2 := lt_at HIN.out.kx
  have z3 : b < wr.heap.size := Nat.lt_of_lt_of_le hbw HIN.out.below.size
  clear hcells ca cb ha hcn hbw e2
  go_wp2_with fail
  have hcc : ∀ W, Below wr.heap.size wr W → _ := fun W hW => HIN.out.cons (cn := cn) HC.out.1 (by have := HA.out.2.2.2.2.1.1; omega) hL60 (by rw [HA.out.2.2.2.2.1.1]; exact HC.out.2.1) W hW
  have CC := Lib.hid hcc
  clear hcc
  go_cut [17, 18] (fun s17 s18 wc => ∃ (cb : Nat) (G' : Nat → Nat), s17 = .pointer (some ⟨cb, 0, none⟩) ∧ s18 = .int .i64 0 ∧ wr.heap.size ≤ cb ∧ wc.heap[cb]? = some (wobj (2, cn)) ∧ G' cb = 0 ∧
    HInv w wc hb w.heap.size vb tb x (4, 0) (0, 0) (hpH Bs L (k + 1)) G' u15 k (cnl 1 k))
  case first =>
    go_region_with (go_at_call 11; first
      | (with_reducible refine (CC.out _ (Below.drew (Below.refl _ _))).mono ?_
         rintro e W5 ⟨rfl, G5, hin5, hk5, hs5⟩
         have H5 := Lib.hid (And.intro hin5 (And.intro hk5 hs5))
         clear hin5 hk5 hs5)
      | (with_reducible refine (CC.out _ (Below.drew (Below.alloc (Below.refl _ _) (Nat.le_refl _) _))).mono ?_
         rintro e W5 ⟨rfl, G5, hin5, hk5, hs5⟩
         have k9 : W5.heap[wr.heap.size]? = some (.cells #[.int .i64 0, .int .i64 0] 28 (0, 0)) := (hk5 _ (Nat.le_refl _) (by simp [World.drew])).1.trans (alloc_at wr _)
         have d0 : W5.cell? ⟨wr.heap.size, 0, none⟩ = some (.int .i64 0) := cell_at k9
         have d1 : W5.cell? ⟨wr.heap.size, 1, none⟩ = some (.int .i64 0) := cell_at k9
         have e0 : W5.frozen? ⟨wr.heap.size, 0, none⟩ = false := frozen_at k9
         have e1 : W5.frozen? ⟨wr.heap.size, 1, none⟩ = false := frozen_at k9
         have H5 := Lib.hid (And.intro hin5 (And.intro hk5 (And.intro hs5 k9)))
         clear hin5 hk5 hs5 k9))
    all_goals (go_wp2_with fail; go_meet)
    all_goals first
      | exact ⟨W5.heap.size, G5, rfl, rfl, Nat.le_trans (show wr.heap.size ≤ wr.drew.heap.size from Nat.le_refl _) H5.out.2.2, alloc_at W5 _, H5.out.1.heap.new _ (Nat.le_refl _), H5.out.1.junk ((Below.refl _ _).alloc (Nat.le_refl _) _)⟩
      | (have g0 := (H5.out.2.1 wr.heap.size (Nat.le_refl _) (by simp [World.drew])).2
         have hn4 : u15.ownBlock ≠ some wr.heap.size := fun e => by have := (HIN.out.row.lt _ e).2; omega
         have hlo := HIN.out.below.size
         refine ⟨wr.heap.size, G5, rfl, rfl, Nat.le_refl _, ?_, g0, (H5.out.1.poke (p := ⟨wr.heap.size, 0, none⟩) _ hlo g0 (Nat.ne_of_gt z2) (Nat.ne_of_gt z0) (Nat.ne_of_gt z1) hn4).poke (p := ⟨wr.heap.size, 1, none⟩) _ hlo g0 (Nat.ne_of_gt z2) (Nat.ne_of_gt z0) (Nat.ne_of_gt z1) hn4⟩
         exact setCell_at (i := 1) (setCell_at (i := 0) H5.out.2.2.2 (.int .i64 2)) (.int .i64 cn))
  case rest =>
    obtain ⟨cb, G6, rfl, rfl, hcb, kcb, gcb, hin6⟩ := hcut
    have r2 : wc.cell? ⟨vb, 1, none⟩ = some (.int .i64 0) := cell_at hin6.kv
    have r3 : wc.cell? ⟨tb, 1, none⟩ = some (.int .i64 0) := cell_at hin6.kt
    have r4 : wc.cell? ⟨cb, 0, none⟩ = some (.int .i64 2) := cell_at kcb
    have r5 : wc.cell? ⟨cb, 1, none⟩ = some (.int .i64 cn) := cell_at kcb
    have y0 := lt_at kcb
    have H6 := Lib.hid (And.intro hin6 (And.intro kcb gcb))
    clear hin6 kcb gcb CC z0 z1 z2 z3 r0 r1
    obtain ⟨i0, hi, hz0, hz1, hz2⟩ := info_parts info_word
    have hk60 : k ≤ 60 := Nat.le_trans hk hL60
    have hrow := ((H6.out.1.junk ((Below.refl _ _).alloc (Nat.le_refl _) (.cells #[.int .i64 2, .int .i64 cn] 28)))).toRow
    obtain ⟨ac, cc, hcs⟩ := hrow.slice
    subst hcs
    go_wp2_with (at_builtin; refine wpList_append_row _ rfl _ _ 36 rfl 28 i0 (.agg #[.int .i64 0, .int .i64 0]) 2 16 Tryd.underlying36 hi hz0 hz1 hz2 rfl (by decide) _ _ _ rfl _ 1 hrow ⟨wc.heap.size, 0, none⟩ 1 1 [.int .i64 2, .int .i64 cn] rfl rfl ?c1 ?c2 ?c3 ?c4 ?_)
    case c1 =>
      intro j u hj
      match j, hj with
      | 0, hj => simp at hj; subst hj; simp [Addr.add]
      | 1, hj => simp at hj; subst hj; simp [Addr.add]
      | (j + 2), hj => simp at hj
    case c2 => intro u hu; simp at hu; rcases hu with rfl | rfl <;> rfl
    case c3 => unfold maxLen; omega
    case c4 => omega
    intro v' w7 hrow7 hgr7 _
    have hin7 := (H6.out.1.junk ((Below.refl _ _).alloc (Nat.le_refl _) (.cells #[.int .i64 2, .int .i64 cn] 28))).grow (w' := w7) (cs' := v') (l' := cnl 1 (k + 1)) (n' := k + 1) (by
      rw [cells_snoc 1 k cn HC.out.2.1] at hrow7
      have e7 : (wc.alloc (.cells #[.int .i64 2, .int .i64 cn] 28)).heap.size = wc.heap.size + 1 := by simp
      simp only [e7]
      exact hrow7) hgr7
    obtain ⟨g7, cap7, cur7, e7, hrest⟩ := hrow7.at (Nat.succ_pos _)
    clear hrest cur7
    subst e7
    have H7 := Lib.hid hin7
    clear hin7 hrow7 hgr7 hrow H6 r2 r3 r4 r5 y0
    go_wp2_with fail
    go_roundg (L.length - (k + 1))
    case measure => have := HGK.out; omega
    case rel => exact ⟨k + 1, G6, rfl, hlt, by go_num, H7.out⟩
set_option maxHeartbeats 60000000 in
set_option maxRecDepth 100000 in
theorem part_bad2 : cut_bad.T2 := by
  intro L s i x Bs w a0 c0 hL1 HT CU HA y0 hs1 W0 y1 W1 W2 G2 W3 G3 y2 W4 tb vb hb gk wr u8 u15 u17 u18 u58 u59 u60 u61 u62 u63 u64 u65 u66 u67 u68 u69 u70 u71 u72 u73 u74 u75 u76 u77 u78 u79 u80 u81 u82 u83 u84 u85 u86 u87 u88 u89 u90 u91 u92 u93 u94 u95 u96 u97 u98 u99 u100 u101 u102 y3 y4 y5 y6 G HIN p HP z0 z1 z2 y7 y8 y9 y10 y11 y12 y13 y14 hpos
  have hpz := pickZ_in i L.length (by omega)
  have hpn : pickZ i L.length = (p : Int) := by rw [HP.out]; omega
  have hpl : p < L.length := by omega
  have hpp : decide ((0 : Int) < (L.length : Int)) = true := by simpa using hpos
  obtain ⟨a, ha⟩ : ∃ a, L[p]? = some a := ⟨_, List.getElem?_eq_getElem hpl⟩
  have cP := fun W => pick_any i L.length W (by omega) (by have := HA.out.2.2.2.1; omega)
  rw [hpn] at cP
  obtain ⟨g, cap, cur, hu, hrest⟩ := HIN.out.toRow.at hpos
  clear hrest cur
  subst hu
  obtain ⟨q0, q1⟩ := HIN.out.cellsAt (cnl_at 1 L.length p hpl)
  obtain ⟨cn, hcn⟩ : ∃ cn : Int, ((1 + p : Nat) : Int) = cn := ⟨_, rfl⟩
  rw [hcn] at q1
  have r0 : wr.cell? ⟨vb, 0, none⟩ = some (.int .i64 4) := cell_at HIN.out.kv
  have r1 : wr.cell? ⟨vb, 1, none⟩ = some (.int .i64 0) := cell_at HIN.out.kv
  have r2 : wr.cell? ⟨w.heap.size, 0, none⟩ = some (.int .i64 x.1) := cell_at HIN.out.kx
  have r3 : wr.cell? ⟨w.heap.size, 1, none⟩ = some (.int .i64 x.2) := cell_at HIN.out.kx
  have HQ := Lib.hid (And.intro ha hcn)
  have hcc := fun W hW => HIN.out.setat HA.out.2.2.2.2.1.2 p hpl W hW
  have CC := Lib.hid hcc
  clear hcc hpz hpn ha hcn hpos
  go_wp2_with (go_at_call 24; ((with_reducible refine (cP _).mono ?_); rintro e w' ⟨rfl, rfl⟩))
  go_cut [127] (fun s127 wc => s127 = .bool false ∧ ∃ G', HInv w wc hb w.heap.size vb tb x (4, 0) (0, 0) (hpF Bs L p x) G' (.slice (some ⟨g, 0, none⟩) L.length cap) L.length (cnl 1 L.length))
  case first =>
    go_region_with (first
      | (go_at_call 25; with_reducible refine (CC.out _ (Below.drew (Below.refl _ _))).mono ?_
         rintro e w1 ⟨rfl, _, G1, hin1⟩
         have q2 := (hin1.cellsAt (cnl_at 1 L.length p hpl)).1
         have q3 := (hin1.cellsAt (cnl_at 1 L.length p hpl)).2
         rw [HQ.out.2] at q3
         have r4 : w1.cell? ⟨w.heap.size, 0, none⟩ = some (.int .i64 x.1) := cell_at hin1.kx
         have r5 : w1.cell? ⟨w.heap.size, 1, none⟩ = some (.int .i64 x.2) := cell_at hin1.kx
         have hcd := fun W hW => hin1.setcdr (cn := cn) (by have := HA.out.2.2.2.2.1.1; omega) HQ.out.1 (by rw [HA.out.2.2.2.2.1.1]; exact HQ.out.2) W hW
         have CD := Lib.hid hcd
         clear hin1 hcd)
      | (go_at_call 26; with_reducible refine (CD.out _ (Below.refl _ _)).mono ?_
         rintro e w2 ⟨rfl, G2', hin2⟩
         have H2 := Lib.hid hin2
         clear hin2))
    all_goals (go_wp2_with fail; go_meet; exact ⟨rfl, _, H2.out⟩)
  case rest =>
    obtain ⟨rfl, G8, hin8⟩ := hcut
    have H8 := Lib.hid hin8
    clear hin8
    go_wp2_with fail
    go_meet
    exact ⟨rfl, G8, H8.out⟩
set_option maxHeartbeats 60000000 in
set_option maxRecDepth 100000 in
theorem part_bad4 : cut_bad.T4 := by
  intro L s i x Bs w hL1 HT CU y0 hs1 W0 y1 W1 W2 G2 W3 G3 y2 W4 tb vb hb y3 y4 y5 u17 u18 y6 y7 y8 y9 y10 y11 y12 y13 y14 y15 y16 y17 y18 y19 y20 y21 y22 y23 y24 y25 y26 y27 y28 y29 y30 y31 y32 y33 y34 y35 y36 y37 y38 y39 y40 y41 y42 y43 y44 y45 y46 y47 y48 y49 y50 y51 y52 y53 G p HP y54 y55 y56 y57 u15 u19 u32 u33 u34 u35 u36 u37 u38 u39 u40 u41 u42 u43 u44 u45 u46 u47 u48 u49 u50 u51 u52 u53 u54 u55 u56 u57 u58 u59 u60 u61 u62 u63 u64 u65 u66 u67 u68 u69 u70 u71 u72 u73 u74 u75 u76 u77 u78 u79 u80 u81 u82 u83 u84 u85 u86 u87 u88 u89 u90 u91 u92 u93 u94 u95 u96 u97 u98 u99 u100 u101 u102 u103 u104 u105 u106 u107 u108 u109 u110 u111 u112 u113 u114 u115 u116 u117 u118 u119 u120 u121 u122 u123 u124 u125 u126 u127 u128 u129 u130 u131 u132 u133 y58 y59 y60 y61 y62 y63 y64 y65 y66 y67 y68 y69 y70 y71 y72 y73 y74 y75 y76 y77 y78 y79 y80 y81 y82 y83 y84 y85 y86 y87 y88 y89 y90 y91 y92 y93 y94 y95 y96 y97 y98 y99 y100 y101 y102 y103 y104 y105 y106 y107 y108 y109 y110 y111 y112 y113 y114 y115 y116 y117 y118 y119 y120 y121 y122 y123 y124 y125 y126 y127 y128 y129 y130 y131 y132 y133 y134 y135 y136 y137 y138 y139 y140 y141 u218 u219 u220 u221 u222 u223 u224 u225 u226 u227 u228 u229 u230 u231 u232 u233 u234 u235 u236 u237 u238 u239 u240 u241 u242 u243 u244 u245 G8 W9 a9 c9 H9 y142 y143 gk wr u8 u23 u24 u25 u26 u27 u28 u29 y144 y145 y146 y147 y148 y149 y150 y151 y152 y153 y154 y155 y156 y157 y158 y159 y160 y161 y162 y163 y164 y165 y166 y167 y168 y169 y170 y171 y172 y173 y174 y175 y176 y177 y178 y179 y180 y181 y182 y183 y184 y185 y186 y187 y188 y189 y190 y191 y192 y193 y194 y195 y196 y197 y198 y199 y200 y201 y202 y203 y204 y205 y206 y207 y208 y209 y210 y211 y212 y213 y214 y215 y216 y217 y218 y219 y220 y221 y222 y223 y224 y225 y226 y227 y228 y229 y230 k hk HGK HI hlt y231 b o c HA y232 y233 a hL60 z0 z2 z3 HC y234 y235 wc u134 u135 u136 u137 u138 u139 u140 u141 u142 u143 u144 u145 u146 u147 u148 u149 u150 u151 u152 u153 u154 u155 u156 u157 u158 u159 u160 u161 u162 u163 u164 u165 u166 u167 u168 u169 u170 u171 u172 u173 u174 u175 u176 u177 u178 u179 u180 u181 u182 u183 u184 u185 u186 u187 u188 u189 u190 u191 u192 u193 u194 u195 u196 u197 u198 u199 u200 u201 u202 u203 u204 u205 u206 u207 u208 u209 u210 u211 u212 u213 u214 u215 u216 u217 b1 b2 HK want tail HWT cP y236 y237 y238 y239 y240 y241
  by_cases hkp : k = p
  · have hkb : ((k : Int) == (p : Int)) = true := by rw [hkp]; simp
    have r2 : wc.cell? ⟨w.heap.size, 0, none⟩ = some (.int .i64 x.1) := (HK.out.2.2.2.2.2.cell (p := ⟨w.heap.size, 0, none⟩) z2).trans (cell_at HI.out.1.kx)
    have r3 : wc.cell? ⟨w.heap.size, 1, none⟩ = some (.int .i64 x.2) := (HK.out.2.2.2.2.2.cell (p := ⟨w.heap.size, 1, none⟩) z2).trans (cell_at HI.out.1.kx)
    have d0 : wc.cell? ⟨b1, 0, none⟩ = some (.int .i64 a.1) := cell_at HK.out.2.2.2.1
    have d1 : wc.cell? ⟨b1, 1, none⟩ = some (.int .i64 a.2) := cell_at HK.out.2.2.2.1
    have d2 : wc.cell? ⟨b2, 0, none⟩ = some (.int .i64 4) := cell_at HK.out.2.2.2.2.1
    have d3 : wc.cell? ⟨b2, 1, none⟩ = some (.int .i64 0) := cell_at HK.out.2.2.2.2.1
    have f0 : wc.frozen? ⟨b1, 0, none⟩ = false := frozen_at HK.out.2.2.2.1
    have f1 : wc.frozen? ⟨b1, 1, none⟩ = false := frozen_at HK.out.2.2.2.1
    have f2 : wc.frozen? ⟨b2, 0, none⟩ = false := frozen_at HK.out.2.2.2.2.1
    have f3 : wc.frozen? ⟨b2, 1, none⟩ = false := frozen_at HK.out.2.2.2.2.1
    have n0 : b1 ≠ w.heap.size := by have := HK.out.1; omega
    have n1 : b2 ≠ w.heap.size := by have := HK.out.2.1; omega
    have n2 : b1 ≠ b2 := HK.out.2.2.1
    have n3 : b2 ≠ b1 := Ne.symm n2
    have n4 : w.heap.size ≠ b1 := Ne.symm n0
    have n5 : w.heap.size ≠ b2 := Ne.symm n1
    have HKP := Lib.hid hkp
    clear hkp
    go_wp2_with fail
    go_region
    all_goals (go_wp2_with fail; go_meet)
    all_goals
      have hov := over2 (x := x) (y := x) HK.out.2.2.2.1 HK.out.2.2.2.2.1 n2 wr.heap.size HK.out.1 HK.out.2.1 (.inl rfl)
      refine ⟨rfl, ?_, ?_, (HK.out.2.2.2.2.2.trans hov.2.2).drew⟩
      · rw [HWT.out.1, if_pos HKP.out]; exact hov.1
      · rw [HWT.out.2, if_pos HKP.out]; exact hov.2.1
  · have hkb : ((k : Int) == (p : Int)) = false := by rw [beq_eq_false_iff_ne]; omega
    have HKP := Lib.hid hkp
    clear hkp
    go_wp2_with fail
    go_meet
    refine ⟨rfl, ?_, ?_, HK.out.2.2.2.2.2⟩
    · rw [HWT.out.1, if_neg HKP.out]; exact HK.out.2.2.2.1
    · rw [HWT.out.2, if_neg HKP.out]; exact HK.out.2.2.2.2.1
set_option maxHeartbeats 60000000 in
set_option maxRecDepth 100000 in
theorem part_bad5 : cut_bad.T5 := by
  intro L s i x Bs w hL1 HT CU y0 hs1 W0 y1 W1 W2 G2 W3 G3 y2 W4 tb vb hb y3 y4 y5 u17 u18 y6 y7 y8 y9 y10 y11 y12 y13 y14 y15 y16 y17 y18 y19 y20 y21 y22 y23 y24 y25 y26 y27 y28 y29 y30 y31 y32 y33 y34 y35 y36 y37 y38 y39 y40 y41 y42 y43 y44 y45 y46 y47 y48 y49 y50 y51 y52 y53 G p HP y54 y55 y56 y57 u15 u19 u32 u33 u34 u35 u36 u37 u38 u39 u40 u41 u42 u43 u44 u45 u46 u47 u48 u49 u50 u51 u52 u53 u54 u55 u56 u57 u58 u59 u60 u61 u62 u63 u64 u65 u66 u67 u68 u69 u70 u71 u72 u73 u74 u75 u76 u77 u78 u79 u80 u81 u82 u83 u84 u85 u86 u87 u88 u89 u90 u91 u92 u93 u94 u95 u96 u97 u98 u99 u100 u101 u102 u103 u104 u105 u106 u107 u108 u109 u110 u111 u112 u113 u114 u115 u116 u117 u118 u119 u120 u121 u122 u123 u124 u125 u126 u127 u128 u129 u130 u131 u132 u133 y58 y59 y60 y61 y62 y63 y64 y65 y66 y67 y68 y69 y70 y71 y72 y73 y74 y75 y76 y77 y78 y79 y80 y81 y82 y83 y84 y85 y86 y87 y88 y89 y90 y91 y92 y93 y94 y95 y96 y97 y98 y99 y100 y101 y102 y103 y104 y105 y106 y107 y108 y109 y110 y111 y112 y113 y114 y115 y116 y117 y118 y119 y120 y121 y122 y123 y124 y125 y126 y127 y128 y129 y130 y131 y132 y133 y134 y135 y136 y137 y138 y139 y140 y141 u218 u219 u220 u221 u222 u223 u224 u225 u226 u227 u228 u229 u230 u231 u232 u233 u234 u235 u236 u237 u238 u239 u240 u241 u242 u243 u244 u245 G8 W9 a9 c9 H9 y142 y143 gk wr u8 u23 u24 u25 u26 u27 u28 u29 y144 y145 y146 y147 y148 y149 y150 y151 y152 y153 y154 y155 y156 y157 y158 y159 y160 y161 y162 y163 y164 y165 y166 y167 y168 y169 y170 y171 y172 y173 y174 y175 y176 y177 y178 y179 y180 y181 y182 y183 y184 y185 y186 y187 y188 y189 y190 y191 y192 y193 y194 y195 y196 y197 y198 y199 y200 y201 y202 y203 y204 y205 y206 y207 y208 y209 y210 y211 y212 y213 y214 y215 y216 y217 y218 y219 y220 y221 y222 y223 y224 y225 y226 y227 y228 y229 y230 k hk HGK HI hlt y231 b o c HA y232 y233 a hL60 z0 z2 z3 HC y234 y235 y236 y237 y238 y239 y240 y241 y242 y243 y244 y245 y246 y247 y248 y249 y250 y251 y252 y253 y254 y255 y256 y257 y258 y259 y260 y261 y262 y263 y264 y265 y266 y267 y268 y269 y270 y271 y272 y273 y274 y275 y276 y277 y278 y279 y280 y281 y282 y283 y284 y285 y286 y287 y288 y289 y290 y291 y292 y293 y294 y295 y296 y297 y298 y299 y300 y301 y302 y303 y304 y305 y306 y307 y308 y309 y310 y311 y312 y313 y314 y315 y316 y317 y318 y319 y320 b1 b2 HK want tail HWT cP y321 y322 wc u22 u134 u135 u136 u137 u138 u139 u140 u141 u142 u143 u144 u145 u146 u147 u148 u149 u150 u151 u152 u153 u154 u155 u156 u157 u158 u159 u160 u161 u162 u163 u164 u165 u166 u167 u168 u169 u170 u171 u172 u173 u174 u175 u176 u177 u178 u179 u180 u181 u182 u183 u184 u185 u186 u187 u188 u189 u190 u191 u192 u193 u194 u195 u196 u197 u198 u199 u200 u201 u202 u203 u204 u205 u206 u207 u208 u209 u210 u211 u212 u213 u214 u215 u216 u217 hcut
  obtain ⟨rfl, k1, k2, hbd⟩ := hcut
  have hid := HI.out.1.junk hbd
  have hod := own_keep HI.out.2.1 hbd
  obtain ⟨g, cap, cur, hu, hrest⟩ := hid.toRow.at (Nat.lt_of_le_of_lt (Nat.zero_le _) hlt)
  clear hrest cur
  subst hu
  obtain ⟨q0, q1⟩ := hid.cellsAt (cnl_at 1 L.length k hlt)
  have hBL : Bs.length = 1 := HA.out.2.2.2.2.1.1
  obtain ⟨cn, hcn⟩ : ∃ cn : Int, ((1 + k : Nat) : Int) = cn := ⟨_, rfl⟩
  rw [hcn] at q1
  have hg : g < wc.heap.size := (hid.row.lt g rfl).2
  have cC := fun W hW => hid.car (cn := cn) HC.out.1 (by rw [hBL]; exact hcn) W hW
  have cD := fun W hW => hid.cdr (cn := cn) HC.out.1 HWT.out.2 (by rw [hBL]; exact hcn) W hW
  have HD := Lib.hid (And.intro k1 (And.intro k2 (And.intro hbd (And.intro hid (And.intro hod (And.intro hcn hBL))))))
  have CC := Lib.hid cC
  have CD := Lib.hid cD
  clear k1 k2 hbd hid hod hcn hBL cC cD cP HK z0 z2 z3
  go_wp2_with fail
  refine (CC.out _ (Below.refl _ _)).mono ?_
  rintro e We ⟨rfl, hbe⟩
  have q2 := (hbe.cell (p := ⟨g, k * 2, none⟩) hg).trans q0
  have q3 := (hbe.cell (p := ⟨g, k * 2 + 1, none⟩) hg).trans q1
  have hg2 : g < We.heap.size := Nat.lt_of_lt_of_le hg hbe.size
  have HE := Lib.hid hbe
  clear hbe q0 q1 hg
  go_wp2_with fail
  refine (CD.out _ (HE.out.alloc HE.out.size _)).mono ?_
  rintro e Wf ⟨rfl, hbf⟩
  have ke : Wf.heap[We.heap.size]? = some (wobj a) := (hbf.block _ (by simp)).trans (alloc_at We _)
  have hdf : Below wc.heap.size wc Wf := (HE.out.alloc HE.out.size _).trans (hbf.mono (by have := HE.out.size; simp; omega))
  have hdg := hdf.alloc hdf.size (.cells #[.int .i64 tail.1, .int .i64 tail.2] 28)
  have kf := alloc_at Wf (.cells #[.int .i64 tail.1, .int .i64 tail.2] 28)
  have ke2 := (Below.heap_alloc Wf (.cells #[.int .i64 tail.1, .int .i64 tail.2] 28) _ (lt_at ke)).trans ke
  have HF := Lib.hid (And.intro hdg (And.intro kf ke2))
  clear hbf ke hdf hdg kf ke2 HE CC CD q2 q3 hg2
  go_wp2_with fail
  generalize Wf.alloc (.cells #[.int .i64 tail.1, .int .i64 tail.2] 28) = Wh at *
  generalize Wf.heap.size = bf at *
  generalize We.heap.size = be at *
  obtain ⟨hbh, kf, ke⟩ := HF.out
  have hih := HD.out.2.2.2.1.junk hbh
  have hoh := own_keep HD.out.2.2.2.2.1 hbh
  have kb1 := (hbh.block b1 (lt_at HD.out.1)).trans HD.out.1
  have kb2 := (hbh.block b2 (lt_at HD.out.2.1)).trans HD.out.2.1
  rcases HA.out.1 with ⟨_, e2⟩ | ⟨_, _, _, e2⟩ | ⟨_, b', o', c', e2, hbw, hcells⟩
  · rw [e2] at hlt; simp at hlt
  · rw [e2] at hlt; simp at hlt
  cases e2
  obtain ⟨ca, cb⟩ := hcells k a HC.out.1
  have r0 := (hih.below.cell (p := ⟨b, o + k * 2, none⟩) hbw).trans ca
  have r1 := (hih.below.cell (p := ⟨b, o + k * 2 + 1, none⟩) hbw).trans cb
  have hset : (L.set p x)[k]? = some want := by
    rw [HWT.out.1]
    by_cases hkp : k = p
    · rw [if_pos hkp, ← hkp, List.getElem?_set_self hlt]
    · rw [if_neg hkp, List.getElem?_set_ne (Ne.symm hkp)]; exact HC.out.1
  have hrow9 : Row Wh (fun k => if (Value.slice a9 L.length c9).ownBlock = some k then 1 else 0) 1 28 2 (.slice a9 L.length c9) L.length (wcells (L.set p x)) := ⟨hoh, fun _ hk => if_pos hk⟩
  obtain ⟨g9, cap9, cur9, e9, hrest⟩ := hrow9.at (Nat.lt_of_le_of_lt (Nat.zero_le _) hlt)
  clear hrest cur9
  cases e9
  have s0 := hrow9.cell (wcells_fst _ k _ hset)
  have s1 := hrow9.cell (wcells_snd _ k _ hset)
  have d0 : Wh.cell? ⟨be, 0, none⟩ = some (.int .i64 a.1) := cell_at ke
  have d1 : Wh.cell? ⟨be, 1, none⟩ = some (.int .i64 a.2) := cell_at ke
  have d2 : Wh.cell? ⟨bf, 0, none⟩ = some (.int .i64 tail.1) := cell_at kf
  have d3 : Wh.cell? ⟨bf, 1, none⟩ = some (.int .i64 tail.2) := cell_at kf
  have d4 : Wh.cell? ⟨b1, 0, none⟩ = some (.int .i64 want.1) := cell_at kb1
  have d5 : Wh.cell? ⟨b1, 1, none⟩ = some (.int .i64 want.2) := cell_at kb1
  have d6 : Wh.cell? ⟨b2, 0, none⟩ = some (.int .i64 tail.1) := cell_at kb2
  have d7 : Wh.cell? ⟨b2, 1, none⟩ = some (.int .i64 tail.2) := cell_at kb2
  have hkl : decide ((L.length : Int) ≤ (k : Int)) = false := by simpa using hlt
  have HH := Lib.hid (And.intro hih hbh)
  clear hbh kf ke hih hoh kb1 kb2 hbw hcells ca cb hset hrow9 HF
  go_quiet (fail)
  clear r0 r1 s0 s1 d0 d1 d2 d3 d4 d5 d6 d7
  have HJ := Lib.hid (And.intro (HH.out.1.junk ((Below.refl _ _).drewN nq)) (HH.out.2.drewN nq))
  generalize Wh.drewN nq = Wi at *
  clear HH
  go_upto_region 33 with fail
  go_cut [29] (fun s29 wc => s29 = .int .i64 0 ∧ Below Wi.heap.size Wi wc)
  case first =>
    go_wp2_with fail
    go_meet
    exact ⟨rfl, Below.refl _ _⟩
  case rest =>
  obtain ⟨rfl, hbi⟩ := hcut
  have HBI := Lib.hid hbi
  clear hbi
  go_wp2_with fail
  go_loopg [29] k (fun gn nv wq => ∃ n : Nat, gn = k - n ∧ n ≤ k ∧ nv = .int .i64 n ∧ Below Wi.heap.size Wi wq)
  case atStart => exact ⟨0, by omega, Nat.zero_le _, rfl, HBI.out⟩
  case round =>
    obtain ⟨n, hgn, hn, rfl, hbq⟩ := hrel
    have HGN := Lib.hid hgn
    have HQ := Lib.hid hbq
    clear hgn hbq
    by_cases hnk : n < k
    · obtain ⟨q0, q1⟩ := (HJ.out.1.junk HQ.out).cellsAt (cnl_at 1 L.length n (by omega))
      obtain ⟨q2, q3⟩ := (HJ.out.1.junk HQ.out).cellsAt (cnl_at 1 L.length k hlt)
      obtain ⟨cm, hcm⟩ : ∃ cm : Int, ((1 + n : Nat) : Int) = cm := ⟨_, rfl⟩
      have hck : ((1 + k : Nat) : Int) = cn := HD.out.2.2.2.2.2.1
      rw [hcm] at q1
      rw [hck] at q3
      have hne : (cm == cn) = false := by rw [beq_eq_false_iff_ne]; omega
      have hnl : n < L.length := by omega
      clear hcm hck
      go_wp2_with fail
      go_quiet (fail)
      go_wp2_with fail
      go_roundg (k - (n + 1))
      case measure => have := HGN.out; omega
      case rel => exact ⟨n + 1, rfl, hnk, by go_num, HQ.out.drewN _⟩
    · have hnk2 : n = k := by omega
      subst hnk2
      go_wp2_with fail
      go_roundg (L.length - (n + 1))
      case measure => have := HGK.out; omega
      case rel => exact ⟨n + 1, rfl, hlt, by go_num, HI.out.2.2.trans ((HD.out.2.2.1.trans ((HJ.out.2.trans (HQ.out.mono HJ.out.2.size)).mono HD.out.2.2.1.size)).mono HI.out.2.2.size)⟩
theorem holds_bad (v0 : Value) (L : List Wd) (s : ByteArray) (i : Int) (x : Wd) (Bs : List (Option Ob)) (w : World) (hA : ArgW w v0 L) (hL : L.length ≤ 60) (hs : s.size ≤ 300) (hT : Tabs w)
    (hB : Bs.length = 1 ∧ Bs[0]? = some (some (.vec L)))
    (cT : ∀ W hb G, HeapAt W hb G ⟨200, [some (.vec L)], []⟩ → Tabs W → Calls Tryd.prog 14 #[hptr hb, .string s] W fun e w' => e = .returned (.tuple #[wv (0, 0), .int .i64 5]) ∧ Went W w' hb G ⟨200, Bs, []⟩)
    (cU : ∀ W hb G p, HeapAt W hb G (hpF Bs L p x) → Calls Tryd.prog 29 #[hptr hb, wv (0, 0)] W fun e w' => e = .returned (.tuple #[.string ⟨#[]⟩, .int .i64 6]) ∧ Below W.heap.size W w') :
    Calls Tryd.prog 4 #[v0, .string s, .int .i64 i, wv x] w fun e w' => e = .returned (.bool true) ∧ Below w.heap.size w w' := cut_bad.whole (Lib.hid part_bad1) (Lib.hid part_bad2) (Lib.hid part_bad4) (Lib.hid part_bad5) v0 L s i x Bs w hA hL hs hT hB cT cU
end Go.Proofs.YtleppjdmcjocmaaDoor
