/- The law NamesApart: the walk. Condition: unicode/utf8's two tables hold what the program's text lays. -/
import Derived.Test.YtponbhhkccpbfaaDoorNmApartInv
namespace Go.Proofs.YtponbhhkccpbfaaDoor
open Go.RowKit Go.Lib Go.Shelf
theorem tprop_yes {w : World} {tb : Nat} {G : Nat → Nat} {m : Tb} (h : TableAt w tb G m) {i : Nat} {f : Wd} {has : Bool} {nm : ByteArray} {it : Bool} {key : Int} {x : Wd} (hy : m.syms[i]? = some ⟨f, has, [(key, x)], nm, it⟩) (I : Int) (hI : (i : Int) = I) :
    Calls Tryd.prog 33 #[hptr tb, .int .i64 I, .int .i64 key] w fun e w' => e = .returned (.tuple #[wv x, .bool true]) ∧ Below w.heap.size w w' := by
  subst hI
  refine prop_gen h hy key _ (fun W g a cs hW hg c3 hp => ?_)
  refine (cprop_yes [(key, x)] key a g (i * 6) cs 0 x W hg (by simp) (asc_one _) hp c3 rfl).mono ?_
  rintro e w' ⟨he, hb⟩
  exact ⟨x, true, rfl, he, hb⟩
theorem BTab.setf {w wr : World} {tb tc : Nat} {G F : Nat → Nat} {m n n' : Tb} {ks : List (Nat × Obj)} (h : BTab w wr tb G m tc F n ks) {i : Nat} {y : Sy} (hy : n.syms[i]? = some y) (hi2 : 2 ≤ i) (x : Wd) (I : Int) (hI : (i : Int) = I) (hm : n.setSy i ⟨x, true, y.ps, y.name, y.intd⟩ = n') :
    Calls Tryd.prog 18 #[hptr tc, .int .i64 I, wv x] wr fun e w' => e = .returned (.int .i64 0) ∧ ∃ F', BTab w w' tb G m tc F' n' ks := by
  subst hI hm
  refine (setf_ok h.two hy hi2 x).mono ?_
  rintro e w' ⟨he, hw⟩
  exact ⟨he, h.went2 hw⟩
theorem BTab.setp {w wr : World} {tb tc : Nat} {G F : Nat → Nat} {m n n' : Tb} {ks : List (Nat × Obj)} (h : BTab w wr tb G m tc F n ks) {i : Nat} {f : Wd} {has : Bool} {nm : ByteArray} {it : Bool} {v : Wd} (key : Nat) (hy : n.syms[i]? = some ⟨f, has, [((key : Int), v)], nm, it⟩) (hk : key < n.syms.length) (x : Wd) (I : Int) (hI : (i : Int) = I) (hm : n.setSy i ⟨f, has, [((key : Int), x)], nm, it⟩ = n') :
    Calls Tryd.prog 31 #[hptr tc, .int .i64 I, .int .i64 key, wv x] wr fun e w' => e = .returned (.int .i64 0) ∧ ∃ F', BTab w w' tb G m tc F' n' ks := by
  subst hI hm
  refine (setprop_old h.two hy key hk (k := 0) (u := v) x (by simp) (asc_one _) rfl).mono ?_
  rintro e w' ⟨he, hw⟩
  exact ⟨he, h.went2 hw⟩
set_option maxHeartbeats 20000000 in
set_option maxRecDepth 100000 in
theorem apart_big (s u : ByteArray) (a : Int) (v x : Wd) (w : World) (hT : Tabs w) (hb : (300 : Int) < (s.size : Int) ∨ (300 : Int) < (u.size : Int)) :
    Calls Tryd.prog 7 #[.string s, .string u, .int .i64 a, wv v, wv x] w fun e w' => e = .returned (.bool true) ∧ Below w.heap.size w w' := by
  have HT := Lib.hid hT
  clear hT
  have h0 : Below w.heap.size w ((w.alloc (wobj v)).alloc (wobj x)) := ((Below.refl _ _).alloc (Nat.le_refl _) _).alloc (by simp) _
  have HB := Lib.hid h0
  clear h0
  have hc : (300 : Int) < (s.size : Int) ∨ (¬ (300 : Int) < (s.size : Int) ∧ (300 : Int) < (u.size : Int)) := by omega
  clear hb
  rcases hc with hc | ⟨hc, hd⟩
  all_goals
    go_enter Tryd.func7, Tryd.ntmps7
    go_wp2_with fail
    generalize (w.alloc (.cells #[.int .i64 v.1, .int .i64 v.2] 37)).alloc (.cells #[.int .i64 x.1, .int .i64 x.2] 37) = W at *
    refine (lives_any _ (HT.out.below HB.out HT.out.size)).mono ?_
    rintro e W0 ⟨rfl, hb0⟩
    have H0 := Lib.hid (HB.out.trans (hb0.mono HB.out.size))
    clear hb0 HB
    go_wp2
    go_ret
    exact ⟨rfl, H0.out⟩
set_option maxHeartbeats 40000000 in
set_option maxRecDepth 100000 in
theorem apart_small (s u : ByteArray) (a : Int) (k : Nat) (v x : Wd) (w : World) (hT : Tabs w) (hs : s.size ≤ 300) (hu : u.size ≤ 300) (hpk : pickZ a 60 = (k : Int)) (hk : k < 60) :
    Calls Tryd.prog 7 #[.string s, .string u, .int .i64 a, wv v, wv x] w fun e w' => e = .returned (.bool true) ∧ Below w.heap.size w w' := by
  obtain ⟨nm, X, E, Y, F, Z, I, M, fd, m1, m2, m3, n1, n2, n3, n4, hS⟩ := apart_spec s u (k + 2) v x (by omega)
  have HS := Lib.hid hS
  have HT := Lib.hid hT
  have p1 := fun W => pick_any a 60 W (by decide) (by decide)
  rw [hpk] at p1
  have P1 := Lib.hid p1
  have kl : (k : Int) < 60 := by omega
  have ss1 : ¬ (300 : Int) < (s.size : Int) := by omega
  have uu1 : ¬ (300 : Int) < (u.size : Int) := by omega
  have HX := Lib.hid (And.intro hk (And.intro hs hu))
  have hb : Below w.heap.size w ((w.alloc (wobj v)).alloc (wobj x)) := ((Below.refl _ _).alloc (Nat.le_refl _) _).alloc (by simp) _
  have kb0 : ((w.alloc (wobj v)).alloc (wobj x)).heap[w.heap.size]? = some (wobj v) := (((Below.refl _ _).alloc (Nat.le_refl _) (wobj x)).block w.heap.size (by simp)).trans (alloc_at w (wobj v))
  have kb1 : ((w.alloc (wobj v)).alloc (wobj x)).heap[w.heap.size + 1]? = some (wobj x) := by
    have := alloc_at (w.alloc (wobj v)) (wobj x)
    rw [show (w.alloc (wobj v)).heap.size = w.heap.size + 1 by simp] at this
    exact this
  have HB := Lib.hid (And.intro hb (And.intro kb0 kb1))
  clear hb kb0 kb1 hS hT hs hu hk hpk p1
  go_enter Tryd.func7, Tryd.ntmps7
  go_wp2_with fail
  generalize (w.alloc (.cells #[.int .i64 v.1, .int .i64 v.2] 37)).alloc (.cells #[.int .i64 x.1, .int .i64 x.2] 37) = W at *
  refine (lives_any _ (HT.out.below HB.out.1 HT.out.size)).mono ?_
  rintro e W0 ⟨rfl, hb0⟩
  have H0 := Lib.hid (And.intro (HB.out.1.trans (hb0.mono HB.out.1.size)) (And.intro ((hb0.block _ (lt_at HB.out.2.1)).trans HB.out.2.1) ((hb0.block _ (lt_at HB.out.2.2)).trans HB.out.2.2)))
  clear hb0 HB
  go_wp2_with fail
  refine (new_any _).mono ?_
  rintro e W1 ⟨tb, G1, rfl, hb1, h1, hlow1⟩
  have ht : KTab w W1 tb G1 tbN [(w.heap.size, wobj v), (w.heap.size + 1, wobj x)] := ⟨TInv.of_new H0.out.1 hb1 h1 hlow1, fun p hp => by
    rcases List.mem_cons.1 hp with rfl | hp
    · exact ⟨(hb1.block _ (lt_at H0.out.2.1)).trans H0.out.2.1, hlow1 _ (lt_at H0.out.2.1)⟩
    · rcases List.mem_cons.1 hp with rfl | hp
      · exact ⟨(hb1.block _ (lt_at H0.out.2.2)).trans H0.out.2.2, hlow1 _ (lt_at H0.out.2.2)⟩
      · cases hp⟩
  have H1 := Lib.hid ht
  clear hb1 h1 hlow1 ht H0
  go_wp2_with fail
  have cI := intern_any H1.out.t.table (by rw [tbN_length]; decide) s (by have := HX.out.2.1; omega) (HT.out.below H1.out.t.below HT.out.size)
  rw [HS.out.i1] at cI
  refine cI.mono ?_
  rintro e W2 ⟨rfl, hw⟩
  obtain ⟨G2, h2⟩ := H1.out.went hw
  have H2 := Lib.hid h2
  clear hw h2 H1 cI
  go_wp2_with fail
  refine (P1.out _).mono ?_
  rintro e W3 ⟨rfl, rfl⟩
  have q00 := (cell_at (i := 0) (H2.out.has _ (.head _)).1).trans (show _ = some (.int .i64 v.1) from rfl)
  have q01 := (cell_at (i := 1) (H2.out.has _ (.head _)).1).trans (show _ = some (.int .i64 v.2) from rfl)
  have q10 := (cell_at (i := 0) (H2.out.has _ (.tail _ (.head _))).1).trans (show _ = some (.int .i64 x.1) from rfl)
  have q11 := (cell_at (i := 1) (H2.out.has _ (.tail _ (.head _))).1).trans (show _ = some (.int .i64 x.2) from rfl)
  go_wp2_with fail
  refine (H2.out.setf HS.out.a0 (by omega) v _ (by omega) HS.out.e1).mono ?_
  rintro e W4 ⟨rfl, G4, h4⟩
  have H4 := Lib.hid h4
  clear q00 q01 q10 q11
  clear h4 H2
  have q00 := (cell_at (i := 0) (H4.out.has _ (.head _)).1).trans (show _ = some (.int .i64 v.1) from rfl)
  have q01 := (cell_at (i := 1) (H4.out.has _ (.head _)).1).trans (show _ = some (.int .i64 v.2) from rfl)
  have q10 := (cell_at (i := 0) (H4.out.has _ (.tail _ (.head _))).1).trans (show _ = some (.int .i64 x.1) from rfl)
  have q11 := (cell_at (i := 1) (H4.out.has _ (.tail _ (.head _))).1).trans (show _ = some (.int .i64 x.2) from rfl)
  go_wp2_with fail
  refine (H4.out.setp HS.out.a1 5 HS.out.l2 v _ (by omega) HS.out.e2).mono ?_
  rintro e W5 ⟨rfl, G5, h5⟩
  have H5 := Lib.hid h5
  clear q00 q01 q10 q11
  clear h5 H4
  go_wp2_with fail
  refine (tcopy_any H5.out.t.table HS.out.l3 HS.out.few).mono ?_
  rintro e W6 ⟨tc, F6, rfl, h6, hz6, hb6⟩
  have H6 := Lib.hid (H5.out.copied hb6 h6 hz6)
  clear h6 hz6 hb6 H5
  go_wp2_with fail
  have cI := intern_any H6.out.two HS.out.l3 u (by have := HX.out.2.2; omega) (HT.out.below H6.out.below HT.out.size)
  rw [HS.out.i2] at cI
  refine cI.mono ?_
  rintro e W7 ⟨rfl, hw⟩
  obtain ⟨F7, h7⟩ := H6.out.went2 hw
  have H7 := Lib.hid h7
  clear hw h7 H6 cI
  have q00 := (cell_at (i := 0) (H7.out.has _ (.head _)).1).trans (show _ = some (.int .i64 v.1) from rfl)
  have q01 := (cell_at (i := 1) (H7.out.has _ (.head _)).1).trans (show _ = some (.int .i64 v.2) from rfl)
  have q10 := (cell_at (i := 0) (H7.out.has _ (.tail _ (.head _))).1).trans (show _ = some (.int .i64 x.1) from rfl)
  have q11 := (cell_at (i := 1) (H7.out.has _ (.tail _ (.head _))).1).trans (show _ = some (.int .i64 x.2) from rfl)
  go_wp2_with fail
  refine (H7.out.setf HS.out.a3 (by omega) x _ (by omega) HS.out.e3).mono ?_
  rintro e W8 ⟨rfl, F8, h8⟩
  have H8 := Lib.hid h8
  clear q00 q01 q10 q11
  clear h8 H7
  have q00 := (cell_at (i := 0) (H8.out.has _ (.head _)).1).trans (show _ = some (.int .i64 v.1) from rfl)
  have q01 := (cell_at (i := 1) (H8.out.has _ (.head _)).1).trans (show _ = some (.int .i64 v.2) from rfl)
  have q10 := (cell_at (i := 0) (H8.out.has _ (.tail _ (.head _))).1).trans (show _ = some (.int .i64 x.1) from rfl)
  have q11 := (cell_at (i := 1) (H8.out.has _ (.tail _ (.head _))).1).trans (show _ = some (.int .i64 x.2) from rfl)
  go_wp2_with fail
  refine (H8.out.setp 5 HS.out.a4 HS.out.l4 x _ (by omega) HS.out.e4).mono ?_
  rintro e W9 ⟨rfl, F9, h9⟩
  have H9 := Lib.hid h9
  clear q00 q01 q10 q11
  clear h9 H8
  go_wp2_with fail
  have cF : Calls Tryd.prog 32 #[hptr tb, .int .i64 (2 + (k : Int))] W9 fun e w' => e = .returned (.tuple #[wv v, .bool true]) ∧ Below W9.heap.size W9 w' := by
    have c := func_ok H9.out.one HS.out.a2
    rwa [show ((k + 2 : Nat) : Int) = 2 + (k : Int) by omega] at c
  refine (cF).mono ?_
  rintro e W10 ⟨rfl, hbb⟩
  have H10 := Lib.hid (H9.out.junk hbb)
  clear hbb H9
  go_wp2_with fail
  have h11 := H10.out.add (b := W10.heap.size) ((Below.refl _ _).alloc (Nat.le_refl _) (.cells #[.int .i64 v.1, .int .i64 v.2] 37)) (Nat.le_refl _) (alloc_at W10 _)
  generalize W10.alloc (.cells #[.int .i64 v.1, .int .i64 v.2] 37) = W11 at *
  generalize W10.heap.size = ba at *
  have H11 := Lib.hid h11
  clear h11 H10
  clear cF
  have cF : Calls Tryd.prog 32 #[hptr tc, .int .i64 (2 + (k : Int))] W11 fun e w' => e = .returned (.tuple #[wv x, .bool true]) ∧ Below W11.heap.size W11 w' := by
    have c := func_ok H11.out.two HS.out.a5
    rwa [show ((k + 2 : Nat) : Int) = 2 + (k : Int) by omega] at c
  refine (cF).mono ?_
  rintro e W12 ⟨rfl, hbb⟩
  have H12 := Lib.hid (H11.out.junk hbb)
  clear hbb H11
  go_wp2_with fail
  have h13 := H12.out.add (b := W12.heap.size) ((Below.refl _ _).alloc (Nat.le_refl _) (.cells #[.int .i64 x.1, .int .i64 x.2] 37)) (Nat.le_refl _) (alloc_at W12 _)
  generalize W12.alloc (.cells #[.int .i64 x.1, .int .i64 x.2] 37) = W13 at *
  generalize W12.heap.size = bb at *
  have H13 := Lib.hid h13
  clear h13 H12
  clear cF
  refine (tprop_yes H13.out.one HS.out.a2 _ (by omega)).mono ?_
  rintro e W14 ⟨rfl, hbb⟩
  have H14 := Lib.hid (H13.out.junk hbb)
  clear hbb H13
  go_wp2_with fail
  have h15 := H14.out.add (b := W14.heap.size) ((Below.refl _ _).alloc (Nat.le_refl _) (.cells #[.int .i64 v.1, .int .i64 v.2] 37)) (Nat.le_refl _) (alloc_at W14 _)
  generalize W14.alloc (.cells #[.int .i64 v.1, .int .i64 v.2] 37) = W15 at *
  generalize W14.heap.size = bp at *
  have H15 := Lib.hid h15
  clear h15 H14
  refine (tprop_yes H15.out.two HS.out.a5 _ (by omega)).mono ?_
  rintro e W16 ⟨rfl, hbb⟩
  have H16 := Lib.hid (H15.out.junk hbb)
  clear hbb H15
  go_wp2_with fail
  have h17 := H16.out.add (b := W16.heap.size) ((Below.refl _ _).alloc (Nat.le_refl _) (.cells #[.int .i64 x.1, .int .i64 x.2] 37)) (Nat.le_refl _) (alloc_at W16 _)
  generalize W16.alloc (.cells #[.int .i64 x.1, .int .i64 x.2] 37) = W17 at *
  generalize W16.heap.size = bq at *
  have H17 := Lib.hid h17
  clear h17 H16
  have cI := intern_any H17.out.two HS.out.l5 s (by have := HX.out.2.1; omega) (HT.out.below H17.out.below HT.out.size)
  rw [HS.out.i3] at cI
  refine cI.mono ?_
  rintro e W18 ⟨rfl, hw⟩
  obtain ⟨F18, h18⟩ := H17.out.went2 hw
  have H18 := Lib.hid h18
  clear hw h18 H17 cI
  go_wp2_with fail
  have cD := find_any H18.out.one HS.out.l3 u (by have := HX.out.2.2; omega)
  rw [HS.out.f3] at cD
  refine cD.mono ?_
  rintro e W19 ⟨rfl, rfl⟩
  clear cD
  have hone := HS.out.one
  have htwo := HS.out.two
  have cM := H18.out.one.many HS.out.l3
  have hv1 : (v.1 == v.1) = true := by simp
  have hv2 : (v.2 == v.2) = true := by simp
  have hx1 : (x.1 == x.1) = true := by simp
  have hx2 : (x.2 == x.2) = true := by simp
  have HR := Lib.hid H18.out.below
  have q00 := (cell_at (i := 0) (H18.out.has _ (.head _)).1).trans (show _ = some (.int .i64 x.1) from rfl)
  have q01 := (cell_at (i := 1) (H18.out.has _ (.head _)).1).trans (show _ = some (.int .i64 x.2) from rfl)
  have q10 := (cell_at (i := 0) (H18.out.has _ (.tail _ (.head _))).1).trans (show _ = some (.int .i64 v.1) from rfl)
  have q11 := (cell_at (i := 1) (H18.out.has _ (.tail _ (.head _))).1).trans (show _ = some (.int .i64 v.2) from rfl)
  have q20 := (cell_at (i := 0) (H18.out.has _ (.tail _ (.tail _ (.head _)))).1).trans (show _ = some (.int .i64 x.1) from rfl)
  have q21 := (cell_at (i := 1) (H18.out.has _ (.tail _ (.tail _ (.head _)))).1).trans (show _ = some (.int .i64 x.2) from rfl)
  have q30 := (cell_at (i := 0) (H18.out.has _ (.tail _ (.tail _ (.tail _ (.head _))))).1).trans (show _ = some (.int .i64 v.1) from rfl)
  have q31 := (cell_at (i := 1) (H18.out.has _ (.tail _ (.tail _ (.tail _ (.head _))))).1).trans (show _ = some (.int .i64 v.2) from rfl)
  have q40 := (cell_at (i := 0) (H18.out.has _ (.tail _ (.tail _ (.tail _ (.tail _ (.head _)))))).1).trans (show _ = some (.int .i64 v.1) from rfl)
  have q41 := (cell_at (i := 1) (H18.out.has _ (.tail _ (.tail _ (.tail _ (.tail _ (.head _)))))).1).trans (show _ = some (.int .i64 v.2) from rfl)
  have q50 := (cell_at (i := 0) (H18.out.has _ (.tail _ (.tail _ (.tail _ (.tail _ (.tail _ (.head _))))))).1).trans (show _ = some (.int .i64 x.1) from rfl)
  have q51 := (cell_at (i := 1) (H18.out.has _ (.tail _ (.tail _ (.tail _ (.tail _ (.tail _ (.head _))))))).1).trans (show _ = some (.int .i64 x.2) from rfl)
  clear H18
  have hE : (E = 0 ∧ I = 0 ∧ Z = X) ∨ (E == 0) = false := by
    by_cases h : E = 0
    · exact .inl ⟨h, hone h⟩
    · exact .inr (by rw [beq_eq_false_iff_ne]; exact h)
  have hF : (F == 0) = false ∨ (F = 0 ∧ fd = false) ∨ (F = 0 ∧ fd = true ∧ M = Y ∧ Y < (m3.syms.length : Int)) := by
    by_cases h : F = 0
    · cases hfd : fd
      · exact .inr (.inl ⟨h, rfl⟩)
      · exact .inr (.inr ⟨h, rfl, htwo hfd h⟩)
    · exact .inl (by rw [beq_eq_false_iff_ne]; exact h)
  clear hone htwo
  rcases hE with ⟨rfl, rfl, rfl⟩ | hE
  all_goals
    rcases hF with hF | ⟨rfl, rfl⟩ | ⟨rfl, rfl, rfl, hlt⟩
  all_goals
    go_wp2_with (go_at_call 17; (refine cM.mono ?_); rintro e Wm ⟨rfl, rfl⟩)
  all_goals (go_ret; exact ⟨rfl, HR.out⟩)
theorem apart_any (s u : ByteArray) (a : Int) (v x : Wd) (w : World) (hT : Tabs w) :
    Calls Tryd.prog 7 #[.string s, .string u, .int .i64 a, wv v, wv x] w fun e w' => e = .returned (.bool true) ∧ Below w.heap.size w w' := by
  by_cases hs : s.size ≤ 300
  · by_cases hu : u.size ≤ 300
    · obtain ⟨k, hk, hl⟩ := pickZ_nat a 60 (by decide)
      exact apart_small s u a k v x w hT hs hu hk (by omega)
    · exact apart_big s u a v x w hT (.inr (by omega))
  · exact apart_big s u a v x w hT (.inl (by omega))
end Go.Proofs.YtponbhhkccpbfaaDoor
