/- The walk of the law NamesOnce, for names that are light and as many answers. Condition: unicode/utf8's two tables hold what the program's text lays. -/
import Derived.Test.YtjcdleajebefcaaDoorNmOnceSpec
import Derived.Deep.RegionHeld3
namespace Go.Proofs.YtjcdleajebefcaaDoor
open Go.RowKit Go.Lib Go.Shelf
set_option maxHeartbeats 60000000 in
set_option maxRecDepth 100000 in
theorem once_ok (v0 v1 : Value) (L : List ByteArray) (B : List Bool) (w : World) (hA : ArgS w v0 L) (hB : ArgB w v1 B) (hl : lightS L 60 300 = true) (hLB : L.length ≤ B.length) (hT : Tabs w) :
    Calls Tryd.prog 5 #[v0, v1] w fun e w' => e = .returned (.bool true) ∧ Below w.heap.size w w' := by
  obtain ⟨hsz, hlen⟩ : (∀ s ∈ L, s.size ≤ 300) ∧ L.length ≤ 60 := by
    unfold lightS at hl
    simp only [Bool.and_eq_true, decide_eq_true_eq, List.all_eq_true] at hl
    exact hl
  obtain ⟨a0, c0, rfl⟩ := hA.slice
  obtain ⟨a1, c1, rfl⟩ := hB.slice
  have hq : decide ((B.length : Int) < L.length) = false := by simp; omega
  have cL := fun W (hW : Below w.heap.size w W) => light_any (.slice a0 L.length c0) L 60 300 hA hW (by omega)
  rw [hl] at cL
  have CL := Lib.hid cL
  have HT := Lib.hid hT
  have HA := Lib.hid (And.intro hA (And.intro hB (And.intro hsz (And.intro hlen hLB))))
  have hlI : (L.length : Int) ≤ (B.length : Int) := by omega
  clear hT hA hB hsz hlen hLB hl cL
  go_enter Tryd.func5, Tryd.ntmps5
  go_wp2_with fail
  refine (lives_any _ HT.out).mono ?_
  rintro e W0 ⟨rfl, hb0⟩
  have H0 := Lib.hid hb0
  clear hb0
  go_wp2_with fail
  refine (CL.out _ H0.out).mono ?_
  rintro e Wx ⟨rfl, rfl⟩
  go_wp2_with fail
  refine (new_any _).mono ?_
  rintro e W1 ⟨tb, G1, rfl, hb1, h1, hlow1⟩
  have H1 := Lib.hid (TInv.of_new H0.out hb1 h1 hlow1)
  clear hb1 h1 hlow1 H0 CL
  go_wp2_with fail
  refine (H1.out.table.many (by rw [tbN_length]; decide)).mono ?_
  rintro e Wy ⟨rfl, rfl⟩
  go_wp2_with fail
  go_loopg [6, 7, 8] L.length (fun gk nv av iv wr => ∃ (k : Nat) (m : Tb) (G D : Nat → Nat) (at' : List Int), gk = L.length - k ∧ k ≤ L.length ∧ iv = .int .i64 k ∧ nv = .int .i64 m.syms.length ∧ Hid (TInv w wr tb G m ∧ IRow w wr G D av at' ∧ Once L B k m at'))
  case atStart => exact ⟨0, tbN, G1, _, [], rfl, Nat.zero_le _, rfl, rfl, Lib.hid ⟨H1.out, IRow.nil, Once.start L B⟩⟩
  case round =>
    obtain ⟨k, m, G, D, at', hgk, hk, rfl, rfl, HM⟩ := hrel
    have HGK := Lib.hid hgk
    clear hgk H1
    have hmlo := HM.out.2.2.lo
    have hmhi := HM.out.2.2.hi
    have hL60 := HA.out.2.2.2.1
    by_cases hlt : (k : Int) < (L.length : Int)
    · obtain ⟨s, hsk⟩ : ∃ s, L[k]? = some s := ⟨L[k]'(by omega), List.getElem?_eq_getElem _⟩
      obtain ⟨b, hbk⟩ : ∃ b, B[k]? = some b := ⟨B[k]'(by omega), List.getElem?_eq_getElem _⟩
      obtain ⟨g0, o0, e0, hg0, hc0⟩ := HA.out.1.elem hsk
      obtain ⟨g1, o1, e1, hg1, hc1⟩ := HA.out.2.1.elem hbk
      subst e0
      subst e1
      have hltB : (k : Int) < (B.length : Int) := by omega
      have hss : s.size ≤ 300 := HA.out.2.2.1 s (List.mem_iff_getElem?.2 ⟨k, hsk⟩)
      have HQ := Lib.hid (fun W (hW : Below w.heap.size w W) => And.intro ((hW.cell (p := ⟨g0, o0 + k, none⟩) hg0).trans hc0) ((hW.cell (p := ⟨g1, o1 + k, none⟩) hg1).trans hc1))
      have HS := Lib.hid (And.intro hsk (And.intro hbk hss))
      obtain ⟨sa, sc, e3⟩ := HM.out.2.1.row.slice
      subst e3
      obtain ⟨q0, r0⟩ := HQ.out wr HM.out.1.below
      have hm0 : 0 < m.syms.length := by omega
      clear hsk hbk hc0 hc1 hg0 hg1 hss
      cases hv : validD s.data.toList
      · cases b
        · have c1 := find_any HM.out.1.table hm0 s (by have := HS.out.2.2; omega)
          go_wp2_with fail
          refine c1.mono ?_
          rintro e Wf ⟨rfl, rfl⟩
          clear c1
          go_wp2_with fail
          have c2 := fresh_any HM.out.1.table hm0 s (by have := HS.out.2.2; omega) (HT.out.below HM.out.1.below HT.out.size)
          rw [fresh_bad m s hv] at c2
          refine c2.mono ?_
          rintro e W2 ⟨rfl, hw2⟩
          obtain ⟨G2, h2, z2⟩ := HM.out.1.went hw2
          have r2' := HM.out.2.1.went hw2 z2
          have h2 : TInv w W2 tb G2 m := h2
          obtain ⟨q2, r2⟩ := HQ.out W2 h2.below
          have H2 := Lib.hid (And.intro h2 r2')
          clear hw2 h2 z2 r2' c2 q0 r0
          go_wp2_with fail
          have c3 := refValid_any s W2 (by have := HS.out.2.2; omega)
          rw [hv] at c3
          refine c3.mono ?_
          rintro e W3 ⟨rfl, hb3⟩
          have h3 := H2.out.1.junk hb3
          have r3' := H2.out.2.junk hb3
          have hrow0 : Row (W3.alloc (.cells #[.int .i64 0] 3)) _ 1 3 1 (.slice sa at'.length sc) at'.length (intsV at') := r3'.row.keep (fun j hj _ => Below.heap_alloc _ _ _ hj) (fun _ _ e => e)
          have hn0 := news_int W3 0
          have hnw : ∀ u ∈ [Value.int .i64 0], u.oneCell' = true := by intro u hu; simp at hu; subst hu; rfl
          have hal := HM.out.2.2.len
          have h63 : at'.length + 1 ≤ maxLen := by unfold maxLen; omega
          have h64 : (at'.length + 1) * 8 ≤ 140737488355328 := by omega
          obtain ⟨i1, hj, hj0, hj1, hj2⟩ := info_parts info_int3
          obtain ⟨q3, r3⟩ := HQ.out W3 h3.below
          have H3 := Lib.hid (And.intro h3 (And.intro r3' (And.intro hrow0 (And.intro hn0 (And.intro hnw (And.intro h63 h64))))))
          clear hb3 h3 r3' hrow0 hn0 hnw h63 h64 H2 q2 r2 c3 hal
          go_wp2_with (at_builtin; refine wpList_append_row _ rfl _ _ 54 rfl 3 i1 (.int .i64 0) 1 8 Tryd.underlying54 hj hj0 hj1 hj2 rfl (by decide) _ _ _ rfl _ 1 H3.out.2.2.1 ⟨W3.heap.size, 0, none⟩ 1 1 [.int .i64 0] rfl rfl H3.out.2.2.2.1 H3.out.2.2.2.2.1 H3.out.2.2.2.2.2.1 H3.out.2.2.2.2.2.2 ?_)
          intro v4 W4 hrow4 hgr4 _
          have hbl4 := (Below.refl W3.heap.size W3).alloc (Nat.le_refl _) (.cells #[.int .i64 0] 3)
          have e1 : (at' ++ [0]).length = at'.length + 1 := by simp
          have e2 : intsV (at' ++ [0]) = intsV at' ++ [.int .i64 0] := by simp [intsV]
          have e4 : (W3.alloc (.cells #[.int .i64 0] 3)).heap.size = W3.heap.size + 1 := by simp
          rw [← e1, ← e2, ← e4] at hrow4
          have r4' := H3.out.2.1.push H3.out.1.below.size H3.out.1.table.new hbl4 hrow4
          have h4 := H3.out.1.grown hbl4 hgr4 H3.out.2.1.lab
          obtain ⟨q4, r4⟩ := HQ.out W4 h4.below
          have H4 := Lib.hid (And.intro h4 r4')
          clear hbl4 e1 e2 e4 hrow4 hgr4 r4' h4 H3 q3 r3
          go_wp2_with fail
          go_roundg (L.length - (k + 1))
          case measure => have := HGK.out; omega
          case rel => exact ⟨k + 1, m, G2, _, at' ++ [0], rfl, by omega, by go_num, rfl, Lib.hid ⟨H4.out.1, H4.out.2, HM.out.2.2.bad HS.out.1 hv 0⟩⟩

        · have c1 := find_any HM.out.1.table hm0 s (by have := HS.out.2.2; omega)
          go_wp2_with fail
          refine c1.mono ?_
          rintro e Wf ⟨rfl, rfl⟩
          clear c1
          go_wp2_with fail
          have c2 := intern_any HM.out.1.table hm0 s (by have := HS.out.2.2; omega) (HT.out.below HM.out.1.below HT.out.size)
          rw [intern_bad m s hv] at c2
          refine c2.mono ?_
          rintro e W2 ⟨rfl, hw2⟩
          obtain ⟨G2, h2, z2⟩ := HM.out.1.went hw2
          have r2' := HM.out.2.1.went hw2 z2
          have h2 : TInv w W2 tb G2 m := h2
          obtain ⟨q2, r2⟩ := HQ.out W2 h2.below
          have H2 := Lib.hid (And.intro h2 r2')
          clear hw2 h2 z2 r2' c2 q0 r0
          go_wp2_with fail
          have c3 := refValid_any s W2 (by have := HS.out.2.2; omega)
          rw [hv] at c3
          refine c3.mono ?_
          rintro e W3 ⟨rfl, hb3⟩
          have h3 := H2.out.1.junk hb3
          have r3' := H2.out.2.junk hb3
          have hrow0 : Row (W3.alloc (.cells #[.int .i64 0] 3)) _ 1 3 1 (.slice sa at'.length sc) at'.length (intsV at') := r3'.row.keep (fun j hj _ => Below.heap_alloc _ _ _ hj) (fun _ _ e => e)
          have hn0 := news_int W3 0
          have hnw : ∀ u ∈ [Value.int .i64 0], u.oneCell' = true := by intro u hu; simp at hu; subst hu; rfl
          have hal := HM.out.2.2.len
          have h63 : at'.length + 1 ≤ maxLen := by unfold maxLen; omega
          have h64 : (at'.length + 1) * 8 ≤ 140737488355328 := by omega
          obtain ⟨i1, hj, hj0, hj1, hj2⟩ := info_parts info_int3
          obtain ⟨q3, r3⟩ := HQ.out W3 h3.below
          have H3 := Lib.hid (And.intro h3 (And.intro r3' (And.intro hrow0 (And.intro hn0 (And.intro hnw (And.intro h63 h64))))))
          clear hb3 h3 r3' hrow0 hn0 hnw h63 h64 H2 q2 r2 c3 hal
          go_wp2_with (at_builtin; refine wpList_append_row _ rfl _ _ 54 rfl 3 i1 (.int .i64 0) 1 8 Tryd.underlying54 hj hj0 hj1 hj2 rfl (by decide) _ _ _ rfl _ 1 H3.out.2.2.1 ⟨W3.heap.size, 0, none⟩ 1 1 [.int .i64 0] rfl rfl H3.out.2.2.2.1 H3.out.2.2.2.2.1 H3.out.2.2.2.2.2.1 H3.out.2.2.2.2.2.2 ?_)
          intro v4 W4 hrow4 hgr4 _
          have hbl4 := (Below.refl W3.heap.size W3).alloc (Nat.le_refl _) (.cells #[.int .i64 0] 3)
          have e1 : (at' ++ [0]).length = at'.length + 1 := by simp
          have e2 : intsV (at' ++ [0]) = intsV at' ++ [.int .i64 0] := by simp [intsV]
          have e4 : (W3.alloc (.cells #[.int .i64 0] 3)).heap.size = W3.heap.size + 1 := by simp
          rw [← e1, ← e2, ← e4] at hrow4
          have r4' := H3.out.2.1.push H3.out.1.below.size H3.out.1.table.new hbl4 hrow4
          have h4 := H3.out.1.grown hbl4 hgr4 H3.out.2.1.lab
          obtain ⟨q4, r4⟩ := HQ.out W4 h4.below
          have H4 := Lib.hid (And.intro h4 r4')
          clear hbl4 e1 e2 e4 hrow4 hgr4 r4' h4 H3 q3 r3
          go_wp2_with fail
          go_roundg (L.length - (k + 1))
          case measure => have := HGK.out; omega
          case rel => exact ⟨k + 1, m, G2, _, at' ++ [0], rfl, by omega, by go_num, rfl, Lib.hid ⟨H4.out.1, H4.out.2, HM.out.2.2.bad HS.out.1 hv 0⟩⟩

      · have hck := ck_small s hv (by have := HS.out.2.2; omega)
        have hml : m.syms.length < 16384 := by omega
        cases b
        · have c1 := find_any HM.out.1.table hm0 s (by have := HS.out.2.2; omega)
          go_wp2_with fail
          refine c1.mono ?_
          rintro e Wf ⟨rfl, rfl⟩
          clear c1
          go_wp2_with fail
          have c2 := fresh_any HM.out.1.table hm0 s (by have := HS.out.2.2; omega) (HT.out.below HM.out.1.below HT.out.size)
          rw [fresh_ok m s hck hml] at c2
          refine c2.mono ?_
          rintro e W2 ⟨rfl, hw2⟩
          obtain ⟨G2, h2, z2⟩ := HM.out.1.went hw2
          have r2' := HM.out.2.1.went hw2 z2
          have h2 : TInv w W2 tb G2 (m.add (fy s false)) := h2
          obtain ⟨q2, r2⟩ := HQ.out W2 h2.below
          have H2 := Lib.hid (And.intro h2 r2')
          clear hw2 h2 z2 r2' c2 q0 r0
          go_wp2_with fail
          have c3 := refValid_any s W2 (by have := HS.out.2.2; omega)
          rw [hv] at c3
          refine c3.mono ?_
          rintro e W3 ⟨rfl, hb3⟩
          have h3 := H2.out.1.junk hb3
          have r3' := H2.out.2.junk hb3
          have hrow0 : Row (W3.alloc (.cells #[.int .i64 (m.syms.length : Int)] 3)) _ 1 3 1 (.slice sa at'.length sc) at'.length (intsV at') := r3'.row.keep (fun j hj _ => Below.heap_alloc _ _ _ hj) (fun _ _ e => e)
          have hn0 := news_int W3 (m.syms.length : Int)
          have hnw : ∀ u ∈ [Value.int .i64 (m.syms.length : Int)], u.oneCell' = true := by intro u hu; simp at hu; subst hu; rfl
          have hal := HM.out.2.2.len
          have h63 : at'.length + 1 ≤ maxLen := by unfold maxLen; omega
          have h64 : (at'.length + 1) * 8 ≤ 140737488355328 := by omega
          obtain ⟨i1, hj, hj0, hj1, hj2⟩ := info_parts info_int3
          obtain ⟨q3, r3⟩ := HQ.out W3 h3.below
          have H3 := Lib.hid (And.intro h3 (And.intro r3' (And.intro hrow0 (And.intro hn0 (And.intro hnw (And.intro h63 h64))))))
          clear hb3 h3 r3' hrow0 hn0 hnw h63 h64 H2 q2 r2 c3 hal
          go_wp2_with (at_builtin; refine wpList_append_row _ rfl _ _ 54 rfl 3 i1 (.int .i64 0) 1 8 Tryd.underlying54 hj hj0 hj1 hj2 rfl (by decide) _ _ _ rfl _ 1 H3.out.2.2.1 ⟨W3.heap.size, 0, none⟩ 1 1 [.int .i64 (m.syms.length : Int)] rfl rfl H3.out.2.2.2.1 H3.out.2.2.2.2.1 H3.out.2.2.2.2.2.1 H3.out.2.2.2.2.2.2 ?_)
          intro v4 W4 hrow4 hgr4 _
          have hbl4 := (Below.refl W3.heap.size W3).alloc (Nat.le_refl _) (.cells #[.int .i64 (m.syms.length : Int)] 3)
          have e1 : (at' ++ [(m.syms.length : Int)]).length = at'.length + 1 := by simp
          have e2 : intsV (at' ++ [(m.syms.length : Int)]) = intsV at' ++ [.int .i64 (m.syms.length : Int)] := by simp [intsV]
          have e4 : (W3.alloc (.cells #[.int .i64 (m.syms.length : Int)] 3)).heap.size = W3.heap.size + 1 := by simp
          rw [← e1, ← e2, ← e4] at hrow4
          have r4' := H3.out.2.1.push H3.out.1.below.size H3.out.1.table.new hbl4 hrow4
          have h4 := H3.out.1.grown hbl4 hgr4 H3.out.2.1.lab
          obtain ⟨q4, r4⟩ := HQ.out W4 h4.below
          have H4 := Lib.hid (And.intro h4 r4')
          clear hbl4 e1 e2 e4 hrow4 hgr4 r4' h4 H3 q3 r3
          have hy4 : (m.add (fy s false)).syms[m.syms.length]? = some (fy s false) := by simp [Tb.add]
          have cI := fun W (hW : Below W4.heap.size W4 W) => interned_ok (H4.out.1.table.below hW) hy4
          have CI := Lib.hid cI
          have hle : (((m.add (fy s false)).syms.length : Nat) : Int) = (m.syms.length : Int) + 1 := by simp [Tb.add]
          have hne : ((m.syms.length : Int) != (m.syms.length : Int)) = false := by simp
          clear hy4 cI
          go_wp2_with fail
          go_region_held3 (fun w' => w'.cell? ⟨g1, o1 + k, none⟩ = some (.bool false)) (first | with_reducible exact r4 | exact r4)
            ((go_at_call 14; refine (CI.out _ (Below.refl _ _).drew).mono ?_; rintro e w' ⟨rfl, rfl⟩))
          all_goals (go_wp2_with fail; go_roundg (L.length - (k + 1)))
          all_goals first
            | (have := HGK.out; omega)
            | exact ⟨k + 1, m.add (fy s false), G2, _, at' ++ [(m.syms.length : Int)], rfl, by omega, by go_num, (by first | (rw [hle]; done) | (rw [hle]; go_num)), Lib.hid ⟨H4.out.1.junk (Below.refl _ _).drew, H4.out.2.junk (Below.refl _ _).drew, HM.out.2.2.put HS.out.1 HS.out.2.1 (.inr ⟨_, rfl⟩) (seen_fresh m s)⟩⟩

        · cases hf : m.find s with
          | some i =>
            have c1 := find_any HM.out.1.table hm0 s (by have := HS.out.2.2; omega)
            rw [show m.found s = ((i : Int), true) from by unfold Tb.found; rw [hf]] at c1
            go_wp2_with fail
            refine c1.mono ?_
            rintro e Wf ⟨rfl, rfl⟩
            clear c1
            go_wp2_with fail
            have c2 := intern_any HM.out.1.table hm0 s (by have := HS.out.2.2; omega) (HT.out.below HM.out.1.below HT.out.size)
            rw [intern_found m s i hck hf] at c2
            refine c2.mono ?_
            rintro e W2 ⟨rfl, hw2⟩
            obtain ⟨G2, h2, z2⟩ := HM.out.1.went hw2
            have r2' := HM.out.2.1.went hw2 z2
            have h2 : TInv w W2 tb G2 m := h2
            obtain ⟨q2, r2⟩ := HQ.out W2 h2.below
            have H2 := Lib.hid (And.intro h2 r2')
            clear hw2 h2 z2 r2' c2 q0 r0
            go_wp2_with fail
            have c3 := refValid_any s W2 (by have := HS.out.2.2; omega)
            rw [hv] at c3
            refine c3.mono ?_
            rintro e W3 ⟨rfl, hb3⟩
            have h3 := H2.out.1.junk hb3
            have r3' := H2.out.2.junk hb3
            have hrow0 : Row (W3.alloc (.cells #[.int .i64 (i : Int)] 3)) _ 1 3 1 (.slice sa at'.length sc) at'.length (intsV at') := r3'.row.keep (fun j hj _ => Below.heap_alloc _ _ _ hj) (fun _ _ e => e)
            have hn0 := news_int W3 (i : Int)
            have hnw : ∀ u ∈ [Value.int .i64 (i : Int)], u.oneCell' = true := by intro u hu; simp at hu; subst hu; rfl
            have hal := HM.out.2.2.len
            have h63 : at'.length + 1 ≤ maxLen := by unfold maxLen; omega
            have h64 : (at'.length + 1) * 8 ≤ 140737488355328 := by omega
            obtain ⟨i1, hj, hj0, hj1, hj2⟩ := info_parts info_int3
            obtain ⟨q3, r3⟩ := HQ.out W3 h3.below
            have H3 := Lib.hid (And.intro h3 (And.intro r3' (And.intro hrow0 (And.intro hn0 (And.intro hnw (And.intro h63 h64))))))
            clear hb3 h3 r3' hrow0 hn0 hnw h63 h64 H2 q2 r2 c3 hal
            go_wp2_with (at_builtin; refine wpList_append_row _ rfl _ _ 54 rfl 3 i1 (.int .i64 0) 1 8 Tryd.underlying54 hj hj0 hj1 hj2 rfl (by decide) _ _ _ rfl _ 1 H3.out.2.2.1 ⟨W3.heap.size, 0, none⟩ 1 1 [.int .i64 (i : Int)] rfl rfl H3.out.2.2.2.1 H3.out.2.2.2.2.1 H3.out.2.2.2.2.2.1 H3.out.2.2.2.2.2.2 ?_)
            intro v4 W4 hrow4 hgr4 _
            have hbl4 := (Below.refl W3.heap.size W3).alloc (Nat.le_refl _) (.cells #[.int .i64 (i : Int)] 3)
            have e1 : (at' ++ [(i : Int)]).length = at'.length + 1 := by simp
            have e2 : intsV (at' ++ [(i : Int)]) = intsV at' ++ [.int .i64 (i : Int)] := by simp [intsV]
            have e4 : (W3.alloc (.cells #[.int .i64 (i : Int)] 3)).heap.size = W3.heap.size + 1 := by simp
            rw [← e1, ← e2, ← e4] at hrow4
            have r4' := H3.out.2.1.push H3.out.1.below.size H3.out.1.table.new hbl4 hrow4
            have h4 := H3.out.1.grown hbl4 hgr4 H3.out.2.1.lab
            obtain ⟨q4, r4⟩ := HQ.out W4 h4.below
            have H4 := Lib.hid (And.intro h4 r4')
            clear hbl4 e1 e2 e4 hrow4 hgr4 r4' h4 H3 q3 r3
            have hne : ((i : Int) != (i : Int)) = false := by simp
            go_wp2_with fail
            go_roundg (L.length - (k + 1))
            case measure => have := HGK.out; omega
            case rel => exact ⟨k + 1, m, G2, _, at' ++ [(i : Int)], rfl, by omega, by go_num, rfl, Lib.hid ⟨H4.out.1, H4.out.2, HM.out.2.2.put HS.out.1 HS.out.2.1 (.inl rfl) (seen_found hf)⟩⟩

          | none =>
            have c1 := find_any HM.out.1.table hm0 s (by have := HS.out.2.2; omega)
            rw [show m.found s = ((0 : Int), false) from by unfold Tb.found; rw [hf]] at c1
            go_wp2_with fail
            refine c1.mono ?_
            rintro e Wf ⟨rfl, rfl⟩
            clear c1
            go_wp2_with fail
            have c2 := intern_any HM.out.1.table hm0 s (by have := HS.out.2.2; omega) (HT.out.below HM.out.1.below HT.out.size)
            rw [intern_none m s hck hf hml] at c2
            refine c2.mono ?_
            rintro e W2 ⟨rfl, hw2⟩
            obtain ⟨G2, h2, z2⟩ := HM.out.1.went hw2
            have r2' := HM.out.2.1.went hw2 z2
            have h2 : TInv w W2 tb G2 (m.add (fy s true)) := h2
            obtain ⟨q2, r2⟩ := HQ.out W2 h2.below
            have H2 := Lib.hid (And.intro h2 r2')
            clear hw2 h2 z2 r2' c2 q0 r0
            go_wp2_with fail
            have c3 := refValid_any s W2 (by have := HS.out.2.2; omega)
            rw [hv] at c3
            refine c3.mono ?_
            rintro e W3 ⟨rfl, hb3⟩
            have h3 := H2.out.1.junk hb3
            have r3' := H2.out.2.junk hb3
            have hrow0 : Row (W3.alloc (.cells #[.int .i64 (m.syms.length : Int)] 3)) _ 1 3 1 (.slice sa at'.length sc) at'.length (intsV at') := r3'.row.keep (fun j hj _ => Below.heap_alloc _ _ _ hj) (fun _ _ e => e)
            have hn0 := news_int W3 (m.syms.length : Int)
            have hnw : ∀ u ∈ [Value.int .i64 (m.syms.length : Int)], u.oneCell' = true := by intro u hu; simp at hu; subst hu; rfl
            have hal := HM.out.2.2.len
            have h63 : at'.length + 1 ≤ maxLen := by unfold maxLen; omega
            have h64 : (at'.length + 1) * 8 ≤ 140737488355328 := by omega
            obtain ⟨i1, hj, hj0, hj1, hj2⟩ := info_parts info_int3
            obtain ⟨q3, r3⟩ := HQ.out W3 h3.below
            have H3 := Lib.hid (And.intro h3 (And.intro r3' (And.intro hrow0 (And.intro hn0 (And.intro hnw (And.intro h63 h64))))))
            clear hb3 h3 r3' hrow0 hn0 hnw h63 h64 H2 q2 r2 c3 hal
            go_wp2_with (at_builtin; refine wpList_append_row _ rfl _ _ 54 rfl 3 i1 (.int .i64 0) 1 8 Tryd.underlying54 hj hj0 hj1 hj2 rfl (by decide) _ _ _ rfl _ 1 H3.out.2.2.1 ⟨W3.heap.size, 0, none⟩ 1 1 [.int .i64 (m.syms.length : Int)] rfl rfl H3.out.2.2.2.1 H3.out.2.2.2.2.1 H3.out.2.2.2.2.2.1 H3.out.2.2.2.2.2.2 ?_)
            intro v4 W4 hrow4 hgr4 _
            have hbl4 := (Below.refl W3.heap.size W3).alloc (Nat.le_refl _) (.cells #[.int .i64 (m.syms.length : Int)] 3)
            have e1 : (at' ++ [(m.syms.length : Int)]).length = at'.length + 1 := by simp
            have e2 : intsV (at' ++ [(m.syms.length : Int)]) = intsV at' ++ [.int .i64 (m.syms.length : Int)] := by simp [intsV]
            have e4 : (W3.alloc (.cells #[.int .i64 (m.syms.length : Int)] 3)).heap.size = W3.heap.size + 1 := by simp
            rw [← e1, ← e2, ← e4] at hrow4
            have r4' := H3.out.2.1.push H3.out.1.below.size H3.out.1.table.new hbl4 hrow4
            have h4 := H3.out.1.grown hbl4 hgr4 H3.out.2.1.lab
            obtain ⟨q4, r4⟩ := HQ.out W4 h4.below
            have H4 := Lib.hid (And.intro h4 r4')
            clear hbl4 e1 e2 e4 hrow4 hgr4 r4' h4 H3 q3 r3
            have hy4 : (m.add (fy s true)).syms[m.syms.length]? = some (fy s true) := by simp [Tb.add]
            have cI := fun W (hW : Below W4.heap.size W4 W) => interned_ok (H4.out.1.table.below hW) hy4
            have CI := Lib.hid cI
            have hle : (((m.add (fy s true)).syms.length : Nat) : Int) = (m.syms.length : Int) + 1 := by simp [Tb.add]
            have hne : ((m.syms.length : Int) != (m.syms.length : Int)) = false := by simp
            clear hy4 cI
            go_wp2_with fail
            go_region_held3 (fun w' => w'.cell? ⟨g1, o1 + k, none⟩ = some (.bool true)) (first | with_reducible exact r4 | exact r4)
              ((go_at_call 14; refine (CI.out _ (Below.refl _ _).drew).mono ?_; rintro e w' ⟨rfl, rfl⟩))
            all_goals (go_wp2_with fail; go_roundg (L.length - (k + 1)))
            all_goals first
              | (have := HGK.out; omega)
              | exact ⟨k + 1, m.add (fy s true), G2, _, at' ++ [(m.syms.length : Int)], rfl, by omega, by go_num, (by first | (rw [hle]; done) | (rw [hle]; go_num)), Lib.hid ⟨H4.out.1.junk (Below.refl _ _).drew, H4.out.2.junk (Below.refl _ _).drew, HM.out.2.2.put HS.out.1 HS.out.2.1 (.inr ⟨_, rfl⟩) (seen_new hf)⟩⟩

    · have hk2 : k = L.length := by omega
      subst hk2
      obtain ⟨sa, sc, e3⟩ := HM.out.2.1.row.slice
      subst e3
      have HLn := Lib.hid HM.out.2.2.len
      clear hk hlt HGK
      go_wp2_with fail
      go_loopg [13] L.length (fun gk iv wq => ∃ (k : Nat) (D : Nat → Nat), gk = L.length - k ∧ k ≤ L.length ∧ iv = .int .i64 k ∧ Hid (TInv w wq tb G m ∧ IRow w wq G D (.slice sa at'.length sc) at'))
      case atStart => exact ⟨0, D, rfl, Nat.zero_le _, rfl, Lib.hid ⟨HM.out.1, HM.out.2.1⟩⟩
      case round =>
        obtain ⟨k, D2, hgk, hk, rfl, HR⟩ := hrel
        have HGK := Lib.hid hgk
        clear hgk
        by_cases hlt : (k : Int) < (L.length : Int)
        · obtain ⟨s, hsk⟩ : ∃ s, L[k]? = some s := ⟨L[k]'(by omega), List.getElem?_eq_getElem _⟩
          obtain ⟨b, hbk⟩ : ∃ b, B[k]? = some b := ⟨B[k]'(by omega), List.getElem?_eq_getElem _⟩
          obtain ⟨a, hak⟩ : ∃ a, at'[k]? = some a := ⟨at'[k]'(by have := HLn.out; omega), List.getElem?_eq_getElem _⟩
          obtain ⟨g0, o0, e0, hg0, hc0⟩ := HA.out.1.elem hsk
          obtain ⟨g1, o1, e1, hg1, hc1⟩ := HA.out.2.1.elem hbk
          subst e0
          subst e1
          obtain ⟨ga, _, _, ea, _⟩ := HR.out.2.row.at (by have := HLn.out; omega)
          cases ea
          have hltB : (k : Int) < (B.length : Int) := by omega
          have hltA : (k : Int) < (at'.length : Int) := by have := HLn.out; omega
          have hss : s.size ≤ 300 := HA.out.2.2.1 s (List.mem_iff_getElem?.2 ⟨k, hsk⟩)
          have HQ := Lib.hid (fun W (hW : Below w.heap.size w W) => And.intro ((hW.cell (p := ⟨g0, o0 + k, none⟩) hg0).trans hc0) ((hW.cell (p := ⟨g1, o1 + k, none⟩) hg1).trans hc1))
          have HS := Lib.hid (And.intro hsk (And.intro hbk (And.intro hss hak)))
          obtain ⟨q0, r0⟩ := HQ.out wr HR.out.1.below
          clear hsk hbk hak hc0 hc1 hg0 hg1 hss
          cases hv : validD s.data.toList
          · have c1 := refValid_any s wr (by have := HS.out.2.2.1; omega)
            rw [hv] at c1
            go_wp2_with fail
            refine c1.mono ?_
            rintro e W2 ⟨rfl, hb2⟩
            have H2 := Lib.hid (And.intro (HR.out.1.junk hb2) (HR.out.2.junk hb2))
            clear hb2 c1 q0 r0
            go_wp2_with fail
            go_roundg (L.length - (k + 1))
            case measure => have := HGK.out; omega
            case rel => exact ⟨k + 1, _, rfl, by omega, by go_num, H2⟩
          · obtain ⟨i, rfl, ⟨y, hy, hyn⟩, hf1, hf2⟩ := HM.out.2.2.each k s b a HS.out.1 HS.out.2.1 HS.out.2.2.2 hv
            have c1 := refValid_any s wr (by have := HS.out.2.2.1; omega)
            rw [hv] at c1
            go_wp2_with fail
            refine c1.mono ?_
            rintro e W2 ⟨rfl, hb2⟩
            have h2 := HR.out.1.junk hb2
            have r2' := HR.out.2.junk hb2
            obtain ⟨q2, r2⟩ := HQ.out W2 h2.below
            have a2 : W2.cell? ⟨ga, k, none⟩ = some (.int .i64 (i : Int)) := r2'.row.cell (by simp [intsV, HS.out.2.2.2])
            have c2 := name_ok h2.table hy
            rw [hyn] at c2
            have c3 := find_any h2.table (by omega) s (by have := HS.out.2.2.1; omega)
            have H2 := Lib.hid (And.intro h2 r2')
            clear hb2 c1 q0 r0 h2 r2' hy hyn
            cases b
            · have hf3 := hf2 rfl
              cases hf : m.find s with
              | some i' =>
                have hne : ((i' : Int) == (i : Int)) = false := by
                  rw [beq_eq_false_iff_ne]
                  intro e
                  rw [hf] at hf3
                  exact hf3 (by rw [show i' = i by omega])
                rw [show m.found s = ((i' : Int), true) from by unfold Tb.found; rw [hf]] at c3
                have C3 := Lib.hid c3
                clear hf1 hf2 hf3 hf c3
                go_wp2_with fail
                refine c2.mono ?_
                rintro e W3 ⟨rfl, rfl⟩
                clear c2
                go_wp2_with fail
                refine C3.out.mono ?_
                rintro e W4 ⟨rfl, rfl⟩
                go_wp2_with fail
                go_roundg (L.length - (k + 1))
                case measure => have := HGK.out; omega
                case rel => exact ⟨k + 1, _, rfl, by omega, by go_num, H2⟩
              | none =>
                rw [show m.found s = ((0 : Int), false) from by unfold Tb.found; rw [hf]] at c3
                have C3 := Lib.hid c3
                clear hf1 hf2 hf3 hf c3
                go_wp2_with fail
                refine c2.mono ?_
                rintro e W3 ⟨rfl, rfl⟩
                clear c2
                go_wp2_with fail
                refine C3.out.mono ?_
                rintro e W4 ⟨rfl, rfl⟩
                go_wp2_with fail
                go_roundg (L.length - (k + 1))
                case measure => have := HGK.out; omega
                case rel => exact ⟨k + 1, _, rfl, by omega, by go_num, H2⟩
            · have hf := hf1 rfl
              rw [show m.found s = ((i : Int), true) from by unfold Tb.found; rw [hf]] at c3
              have C3 := Lib.hid c3
              clear hf1 hf2 hf c3
              go_wp2_with fail
              refine c2.mono ?_
              rintro e W3 ⟨rfl, rfl⟩
              clear c2
              go_wp2_with fail
              refine C3.out.mono ?_
              rintro e W4 ⟨rfl, rfl⟩
              go_wp2_with fail
              go_roundg (L.length - (k + 1))
              case measure => have := HGK.out; omega
              case rel => exact ⟨k + 1, _, rfl, by omega, by go_num, H2⟩
        · have hmany := HR.out.1.table.many (by omega)
          have hz : ((m.syms.length : Int) == (m.syms.length : Int)) = true := by simp
          go_wp2_with fail
          refine hmany.mono ?_
          rintro e W2 ⟨rfl, rfl⟩
          clear hmany
          go_wp2
          go_ret
          exact ⟨rfl, HR.out.1.below⟩
end Go.Proofs.YtjcdleajebefcaaDoor
