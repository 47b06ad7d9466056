/- What the law NamesCells needs; the law where its two symbols are one. Condition: unicode/utf8's two tables hold what the program's text lays. -/
import Derived.Test.YtponbhhkccpbfaaDoorNmSame
namespace Go.Proofs.YtponbhhkccpbfaaDoor
open Go.RowKit Go.Lib Go.Shelf
theorem pickZ_nat (n m : Int) (h0 : 0 < m) : ∃ k : Nat, pickZ n m = (k : Int) ∧ (k : Int) < m := by
  have ht1 := Int.tmod_lt_of_pos n h0
  have ht2 := tmod_lo n m h0
  unfold pickZ
  rw [if_neg (by omega)]
  split
  · exact ⟨(n.tmod m + m).toNat, by omega, by omega⟩
  · exact ⟨(n.tmod m).toNat, by omega, by omega⟩
theorem tbN_sym (x : Nat) (hx : x < 62) : ∃ s, tbN.syms[x]? = some (fy s true) := by
  obtain ⟨s, hs⟩ : ∃ s, fixedN[x]? = some s := ⟨_, List.getElem?_eq_getElem (by rw [fixed_length]; exact hx)⟩
  exact ⟨s, fixed_sym x s hs⟩
theorem asc_nil : Asc [] := fun j k p q h => by simp at h
theorem asc_one (p : Int × Wd) : Asc [p] := fun j k p q h1 h2 h3 => by
  have := (List.getElem?_eq_some_iff.1 h1).1
  have := (List.getElem?_eq_some_iff.1 h2).1
  simp at *
  omega
/-- The tables of the law, where its two symbols differ. -/
structure CSpec (x y k : Nat) (v u : Wd) (nx ny : ByteArray) (m1 m2 m3 m4 m5 : Tb) : Prop where
  a0 : tbN.syms[x]? = some ⟨(0, 0), false, [], nx, true⟩
  e1 : tbN.setSy x ⟨v, true, [], nx, true⟩ = m1
  a1 : m1.syms[x]? = some ⟨v, true, [], nx, true⟩
  e2 : m1.setSy x ⟨v, true, [((k : Int), u)], nx, true⟩ = m2
  a2 : m2.syms[y]? = some ⟨(0, 0), false, [], ny, true⟩
  e3 : m2.setSy y ⟨u, true, [], ny, true⟩ = m3
  a3 : m3.syms[y]? = some ⟨u, true, [], ny, true⟩
  e4 : m3.setSy y ⟨u, true, [((k : Int), v)], ny, true⟩ = m4
  a4 : m4.syms[x]? = some ⟨v, true, [((k : Int), u)], nx, true⟩
  a5 : m4.syms[y]? = some ⟨u, true, [((k : Int), v)], ny, true⟩
  e5 : m4.setSy y ⟨(0, 0), false, [((k : Int), v)], ny, true⟩ = m5
  a6 : m5.syms[x]? = some ⟨v, true, [((k : Int), u)], nx, true⟩
  a7 : m5.syms[y]? = some ⟨(0, 0), false, [((k : Int), v)], ny, true⟩
  l1 : m1.syms.length = 62
  l3 : m3.syms.length = 62
theorem cells_spec (x y k : Nat) (v u : Wd) (hx : x < 62) (hy : y < 62) (hne : x ≠ y) : ∃ (nx ny : ByteArray) (m1 m2 m3 m4 m5 : Tb), CSpec x y k v u nx ny m1 m2 m3 m4 m5 := by
  obtain ⟨nx, hnx⟩ := tbN_sym x hx
  obtain ⟨ny, hny⟩ := tbN_sym y hy
  have hl := tbN_length
  have hne2 := hne.symm
  have f0 : tbN.syms[x]? = some ⟨(0, 0), false, [], nx, true⟩ := hnx
  have f1 : (tbN.setSy x ⟨v, true, [], nx, true⟩).syms.length = 62 := by rw [Tb.setSy_length, hl]
  have f2 : ((tbN.setSy x ⟨v, true, [], nx, true⟩).setSy x ⟨v, true, [((k : Int), u)], nx, true⟩).syms.length = 62 := by rw [Tb.setSy_length, f1]
  have f3 : (((tbN.setSy x ⟨v, true, [], nx, true⟩).setSy x ⟨v, true, [((k : Int), u)], nx, true⟩).setSy y ⟨u, true, [], ny, true⟩).syms.length = 62 := by rw [Tb.setSy_length, f2]
  have f4 : ((((tbN.setSy x ⟨v, true, [], nx, true⟩).setSy x ⟨v, true, [((k : Int), u)], nx, true⟩).setSy y ⟨u, true, [], ny, true⟩).setSy y ⟨u, true, [((k : Int), v)], ny, true⟩).syms.length = 62 := by rw [Tb.setSy_length, f3]
  have g1 := Tb.setSy_at tbN x ⟨v, true, [], nx, true⟩ (by omega)
  have g2 := Tb.setSy_at (tbN.setSy x ⟨v, true, [], nx, true⟩) x ⟨v, true, [((k : Int), u)], nx, true⟩ (by omega)
  have g3 := Tb.setSy_at ((tbN.setSy x ⟨v, true, [], nx, true⟩).setSy x ⟨v, true, [((k : Int), u)], nx, true⟩) y ⟨u, true, [], ny, true⟩ (by omega)
  have g4 := Tb.setSy_at (((tbN.setSy x ⟨v, true, [], nx, true⟩).setSy x ⟨v, true, [((k : Int), u)], nx, true⟩).setSy y ⟨u, true, [], ny, true⟩) y ⟨u, true, [((k : Int), v)], ny, true⟩ (by omega)
  have g5 := Tb.setSy_at ((((tbN.setSy x ⟨v, true, [], nx, true⟩).setSy x ⟨v, true, [((k : Int), u)], nx, true⟩).setSy y ⟨u, true, [], ny, true⟩).setSy y ⟨u, true, [((k : Int), v)], ny, true⟩) y ⟨(0, 0), false, [((k : Int), v)], ny, true⟩ (by omega)
  refine ⟨nx, ny, _, _, _, _, _, f0, rfl, ?_, rfl, ?_, rfl, ?_, rfl, ?_, ?_, rfl, ?_, ?_, f1, f3⟩
  · rw [g1, if_pos rfl]
  · rw [g2, if_neg hne, g1, if_neg hne]; exact hny
  · rw [g3, if_pos rfl]
  · rw [g4, if_neg hne2, g3, if_neg hne2, g2, if_pos rfl]
  · rw [g4, if_pos rfl]
  · rw [g5, if_neg hne2, g4, if_neg hne2, g3, if_neg hne2, g2, if_pos rfl]
  · rw [g5, if_pos rfl]
/-- A law's table, and blocks of the law's own beside it. -/
structure KTab (w wr : World) (tb : Nat) (G : Nat → Nat) (m : Tb) (ks : List (Nat × Obj)) : Prop where
  t : TInv w wr tb G m
  has : ∀ p ∈ ks, wr.heap[p.1]? = some p.2 ∧ G p.1 = 0
theorem KTab.junk {w wr wr' : World} {tb : Nat} {G : Nat → Nat} {m : Tb} {ks : List (Nat × Obj)} (h : KTab w wr tb G m ks) (hw : Below wr.heap.size wr wr') : KTab w wr' tb G m ks :=
  ⟨h.t.junk hw, fun p hp => by obtain ⟨h1, h2⟩ := h.has p hp; exact ⟨(hw.block _ (lt_at h1)).trans h1, h2⟩⟩
theorem KTab.went {w wr w' : World} {tb : Nat} {G : Nat → Nat} {m m' : Tb} {ks : List (Nat × Obj)} (h : KTab w wr tb G m ks) (hw : WentT wr w' tb G m') : ∃ G', KTab w w' tb G' m' ks := by
  obtain ⟨G', h1, h2⟩ := h.t.went hw
  exact ⟨G', h1, fun p hp => by obtain ⟨h3, h4⟩ := h.has p hp; exact ⟨(hw.keeps.block _ (lt_at h3) h4).trans h3, (h2 _ (lt_at h3)).2 h4⟩⟩
theorem KTab.add {w wr wr' : World} {tb b : Nat} {G : Nat → Nat} {m : Tb} {ks : List (Nat × Obj)} {o : Obj} (h : KTab w wr tb G m ks) (hw : Below wr.heap.size wr wr') (hb1 : wr.heap.size ≤ b) (ho : wr'.heap[b]? = some o) : KTab w wr' tb G m ((b, o) :: ks) :=
  ⟨h.t.junk hw, fun p hp => by
    rcases List.mem_cons.1 hp with rfl | hp
    · exact ⟨ho, h.t.table.new _ hb1⟩
    · exact (h.junk hw).has p hp⟩
theorem KTab.setf {w wr : World} {tb : Nat} {G : Nat → Nat} {m m' : Tb} {ks : List (Nat × Obj)} (h : KTab w wr tb G m ks) {i : Nat} {y : Sy} (hy : m.syms[i]? = some y) (hi2 : 2 ≤ i) (x : Wd) (I : Int) (hI : (i : Int) = I) (hm : m.setSy i ⟨x, true, y.ps, y.name, y.intd⟩ = m') :
    Calls Tryd.prog 18 #[hptr tb, .int .i64 I, wv x] wr fun e w' => e = .returned (.int .i64 0) ∧ ∃ G', KTab w w' tb G' m' ks := by
  subst hI hm
  refine (setf_ok h.t.table hy hi2 x).mono ?_
  rintro e w' ⟨he, hw⟩
  exact ⟨he, h.went hw⟩
theorem KTab.clearf {w wr : World} {tb : Nat} {G : Nat → Nat} {m m' : Tb} {ks : List (Nat × Obj)} (h : KTab w wr tb G m ks) {i : Nat} {y : Sy} (hy : m.syms[i]? = some y) (hi2 : 2 ≤ i) (I : Int) (hI : (i : Int) = I) (hm : m.setSy i ⟨(0, 0), false, y.ps, y.name, y.intd⟩ = m') :
    Calls Tryd.prog 30 #[hptr tb, .int .i64 I] wr fun e w' => e = .returned (.int .i64 0) ∧ ∃ G', KTab w w' tb G' m' ks := by
  subst hI hm
  refine (clearf_ok h.t.table hy hi2).mono ?_
  rintro e w' ⟨he, hw⟩
  exact ⟨he, h.went hw⟩
theorem KTab.setp {w wr : World} {tb : Nat} {G : Nat → Nat} {m m' : Tb} {ks : List (Nat × Obj)} (h : KTab w wr tb G m ks) {i : Nat} {f : Wd} {has : Bool} {nm : ByteArray} {it : Bool} (hy : m.syms[i]? = some ⟨f, has, [], nm, it⟩) (key : Nat) (hk : key < m.syms.length) (x : Wd) (I : Int) (hI : (i : Int) = I) (hm : m.setSy i ⟨f, has, [((key : Int), x)], nm, it⟩ = m') :
    Calls Tryd.prog 31 #[hptr tb, .int .i64 I, .int .i64 key, wv x] wr fun e w' => e = .returned (.int .i64 0) ∧ ∃ G', KTab w w' tb G' m' ks := by
  subst hI hm
  refine (setprop_new h.t.table hy key hk x (by simp) asc_nil (fun p hp => by cases hp)).mono ?_
  rintro e w' ⟨he, hw⟩
  exact ⟨he, h.went hw⟩
theorem KTab.func {w wr : World} {tb : Nat} {G : Nat → Nat} {m : Tb} {ks : List (Nat × Obj)} (h : KTab w wr tb G m ks) {i : Nat} {y : Sy} (hy : m.syms[i]? = some y) (I : Int) (hI : (i : Int) = I) :
    Calls Tryd.prog 32 #[hptr tb, .int .i64 I] wr fun e w' => e = .returned (.tuple #[wv y.f, .bool y.has]) ∧ Below wr.heap.size wr w' := by
  subst hI
  exact func_ok h.t.table hy
theorem KTab.propy {w wr : World} {tb : Nat} {G : Nat → Nat} {m : Tb} {ks : List (Nat × Obj)} (h : KTab w wr tb G m ks) {i : Nat} {f : Wd} {has : Bool} {nm : ByteArray} {it : Bool} {key : Int} {x : Wd} (hy : m.syms[i]? = some ⟨f, has, [(key, x)], nm, it⟩) (I : Int) (hI : (i : Int) = I) :
    Calls Tryd.prog 33 #[hptr tb, .int .i64 I, .int .i64 key] wr fun e w' => e = .returned (.tuple #[wv x, .bool true]) ∧ Below wr.heap.size wr w' := by
  subst hI
  refine prop_gen h.t.table hy key _ (fun W g a cs hW hg c3 hp => ?_)
  refine (cprop_yes [(key, x)] key a g (i * 6) cs 0 x W hg (by simp) (asc_one _) hp c3 rfl).mono ?_
  rintro e w' ⟨he, hb⟩
  exact ⟨x, true, rfl, he, hb⟩
theorem KTab.propn {w wr : World} {tb : Nat} {G : Nat → Nat} {m : Tb} {ks : List (Nat × Obj)} (h : KTab w wr tb G m ks) {i : Nat} {f : Wd} {has : Bool} {nm : ByteArray} {it : Bool} {key key2 : Int} {x : Wd} (hy : m.syms[i]? = some ⟨f, has, [(key, x)], nm, it⟩) (hne : key ≠ key2) (I : Int) (hI : (i : Int) = I) :
    Calls Tryd.prog 33 #[hptr tb, .int .i64 I, .int .i64 key2] wr fun e w' => e = .returned (.tuple #[wv (0, 0), .bool false]) ∧ Below wr.heap.size wr w' := by
  subst hI
  refine prop_gen h.t.table hy key2 _ (fun W g a cs hW hg c3 hp => ?_)
  refine (cprop_no [(key, x)] key2 a g (i * 6) cs W hg (by simp) (asc_one _) hp c3 (fun p hp => by rw [List.mem_singleton.1 hp]; exact hne)).mono ?_
  rintro e w' ⟨he, hb⟩
  exact ⟨(0, 0), false, rfl, he, hb⟩
abbrev wobj (x : Wd) : Obj := .cells #[.int .i64 x.1, .int .i64 x.2] 37
set_option maxHeartbeats 60000000 in
set_option maxRecDepth 100000 in
theorem cells_eq (a b key : Int) (x k : Nat) (v u : Wd) (w : World) (hT : Tabs w) (hpx : pickZ a 60 = (x : Int)) (hpy : pickZ b 60 = (x : Int)) (hpk : pickZ key 62 = (k : Int)) (hx : x < 60) (hk : k < 62) :
    Calls Tryd.prog 6 #[.int .i64 a, .int .i64 b, .int .i64 key, wv v, wv u] w fun e w' => e = .returned (.bool true) ∧ Below w.heap.size w w' := by
  obtain ⟨nx, hnx⟩ := tbN_sym (x + 2) (by omega)
  obtain ⟨m1, e1, a1⟩ : ∃ m1, tbN.setSy (x + 2) ⟨v, true, [], nx, true⟩ = m1 ∧ m1.syms[x + 2]? = some ⟨v, true, [], nx, true⟩ := ⟨_, rfl, by rw [Tb.setSy_at _ _ _ (by rw [tbN_length]; omega), if_pos rfl]⟩
  have l1 : m1.syms.length = 62 := by rw [← e1, Tb.setSy_length, tbN_length]
  obtain ⟨m2, e2, a2⟩ : ∃ m2, m1.setSy (x + 2) ⟨u, true, [], nx, true⟩ = m2 ∧ m2.syms[x + 2]? = some ⟨u, true, [], nx, true⟩ := ⟨_, rfl, by rw [Tb.setSy_at _ _ _ (by omega), if_pos rfl]⟩
  have l2 : m2.syms.length = 62 := by rw [← e2, Tb.setSy_length, l1]
  obtain ⟨m3, e3, a3⟩ : ∃ m3, m2.setSy (x + 2) ⟨(0, 0), false, [], nx, true⟩ = m3 ∧ m3.syms[x + 2]? = some ⟨(0, 0), false, [], nx, true⟩ := ⟨_, rfl, by rw [Tb.setSy_at _ _ _ (by omega), if_pos rfl]⟩
  obtain ⟨m4, e4⟩ : ∃ m4, m3.setSy (x + 2) ⟨(0, 0), false, [], nx, true⟩ = m4 := ⟨_, rfl⟩
  have hS := And.intro hnx (And.intro e1 (And.intro a1 (And.intro e2 (And.intro a2 (And.intro e3 (And.intro a3 e4))))))
  clear hnx e1 a1 l1 e2 a2 l2 e3 a3 e4
  have HT := Lib.hid hT
  have HS := Lib.hid hS
  have p1 := fun W => pick_any a 60 W (by decide) (by decide)
  have p2 := fun W => pick_any b 60 W (by decide) (by decide)
  have p3 := fun W => pick_any key 62 W (by decide) (by decide)
  rw [hpx] at p1
  rw [hpy] at p2
  rw [hpk] at p3
  have P1 := Lib.hid p1
  have P2 := Lib.hid p2
  have P3 := Lib.hid p3
  have xl : (x : Int) < 60 := by omega
  have kl : (k : Int) < 62 := by omega
  have xyn : ((2 + (x : Int)) == (2 + (x : Int))) = true := by simp
  clear hT hS hx hk hpx hpy hpk p1 p2 p3
  go_enter Tryd.func6, Tryd.ntmps6
  go_wp2_with fail
  have hb : Below w.heap.size w ((w.alloc (wobj v)).alloc (wobj u)) := ((Below.refl _ _).alloc (Nat.le_refl _) _).alloc (by simp) _
  have kb0 : ((w.alloc (wobj v)).alloc (wobj u)).heap[w.heap.size]? = some (wobj v) := (((Below.refl _ _).alloc (Nat.le_refl _) (wobj u)).block w.heap.size (by simp)).trans (alloc_at w (wobj v))
  have kb1 : ((w.alloc (wobj v)).alloc (wobj u)).heap[w.heap.size + 1]? = some (wobj u) := by
    have := alloc_at (w.alloc (wobj v)) (wobj u)
    rw [show (w.alloc (wobj v)).heap.size = w.heap.size + 1 by simp] at this
    exact this
  have HB := Lib.hid (And.intro hb (And.intro kb0 kb1))
  clear hb kb0 kb1
  generalize (w.alloc (.cells #[.int .i64 v.1, .int .i64 v.2] 37)).alloc (.cells #[.int .i64 u.1, .int .i64 u.2] 37) = W at *
  refine (lives_any _ (HT.out.below HB.out.1 HT.out.size)).mono ?_
  rintro e W0 ⟨rfl, hb0⟩
  have H0 := Lib.hid (And.intro (HB.out.1.trans (hb0.mono HB.out.1.size)) (And.intro ((hb0.block _ (lt_at HB.out.2.1)).trans HB.out.2.1) ((hb0.block _ (lt_at HB.out.2.2)).trans HB.out.2.2)))
  clear hb0 HB
  go_wp2_with fail
  refine (new_any _).mono ?_
  rintro e W1 ⟨tb, G1, rfl, hb1, h1, hlow1⟩
  have ht : KTab w W1 tb G1 tbN [(w.heap.size, wobj v), (w.heap.size + 1, wobj u)] := ⟨TInv.of_new H0.out.1 hb1 h1 hlow1, fun p hp => by
    rcases List.mem_cons.1 hp with rfl | hp
    · exact ⟨(hb1.block _ (lt_at H0.out.2.1)).trans H0.out.2.1, hlow1 _ (lt_at H0.out.2.1)⟩
    · rcases List.mem_cons.1 hp with rfl | hp
      · exact ⟨(hb1.block _ (lt_at H0.out.2.2)).trans H0.out.2.2, hlow1 _ (lt_at H0.out.2.2)⟩
      · cases hp⟩
  have H1 := Lib.hid ht
  clear hb1 h1 hlow1 ht H0
  go_wp2_with fail
  refine (P1.out _).mono ?_
  rintro e W2 ⟨rfl, rfl⟩
  go_wp2_with fail
  refine (P2.out _).mono ?_
  rintro e W2 ⟨rfl, rfl⟩
  go_wp2_with fail
  refine (P3.out _).mono ?_
  rintro e W2 ⟨rfl, rfl⟩
  have c0 : W2.cell? ⟨w.heap.size, 0, none⟩ = some (.int .i64 v.1) := cell_at (H1.out.has _ (.head _)).1
  have c1 : W2.cell? ⟨w.heap.size, 1, none⟩ = some (.int .i64 v.2) := cell_at (H1.out.has _ (.head _)).1
  have c2 : W2.cell? ⟨w.heap.size + 1, 0, none⟩ = some (.int .i64 u.1) := cell_at (H1.out.has _ (.tail _ (.head _))).1
  have c3 : W2.cell? ⟨w.heap.size + 1, 1, none⟩ = some (.int .i64 u.2) := cell_at (H1.out.has _ (.tail _ (.head _))).1
  go_wp2_with fail
  refine (H1.out.setf HS.out.1 (by omega) v _ (by omega) HS.out.2.1).mono ?_
  rintro e W3 ⟨rfl, G3, h3⟩
  have H3 := Lib.hid h3
  clear h3 H1 c0 c1 c2 c3
  have c0 : W3.cell? ⟨w.heap.size, 0, none⟩ = some (.int .i64 v.1) := cell_at (H3.out.has _ (.head _)).1
  have c1 : W3.cell? ⟨w.heap.size, 1, none⟩ = some (.int .i64 v.2) := cell_at (H3.out.has _ (.head _)).1
  have c2 : W3.cell? ⟨w.heap.size + 1, 0, none⟩ = some (.int .i64 u.1) := cell_at (H3.out.has _ (.tail _ (.head _))).1
  have c3 : W3.cell? ⟨w.heap.size + 1, 1, none⟩ = some (.int .i64 u.2) := cell_at (H3.out.has _ (.tail _ (.head _))).1
  go_wp2_with fail
  refine (H3.out.setf HS.out.2.2.1 (by omega) u _ (by omega) HS.out.2.2.2.1).mono ?_
  rintro e W4 ⟨rfl, G4, h4⟩
  have H4 := Lib.hid h4
  clear h4 H3 c0 c1 c2 c3
  have c0 : W4.cell? ⟨w.heap.size, 0, none⟩ = some (.int .i64 v.1) := cell_at (H4.out.has _ (.head _)).1
  have c1 : W4.cell? ⟨w.heap.size, 1, none⟩ = some (.int .i64 v.2) := cell_at (H4.out.has _ (.head _)).1
  have c2 : W4.cell? ⟨w.heap.size + 1, 0, none⟩ = some (.int .i64 u.1) := cell_at (H4.out.has _ (.tail _ (.head _))).1
  have c3 : W4.cell? ⟨w.heap.size + 1, 1, none⟩ = some (.int .i64 u.2) := cell_at (H4.out.has _ (.tail _ (.head _))).1
  go_wp2_with fail
  refine (H4.out.clearf HS.out.2.2.2.2.1 (by omega) _ (by omega) HS.out.2.2.2.2.2.1).mono ?_
  rintro e W5 ⟨rfl, G5, h5⟩
  have H5 := Lib.hid h5
  clear h5 H4 c0 c1 c2 c3
  have c0 : W5.cell? ⟨w.heap.size, 0, none⟩ = some (.int .i64 v.1) := cell_at (H5.out.has _ (.head _)).1
  have c1 : W5.cell? ⟨w.heap.size, 1, none⟩ = some (.int .i64 v.2) := cell_at (H5.out.has _ (.head _)).1
  have c2 : W5.cell? ⟨w.heap.size + 1, 0, none⟩ = some (.int .i64 u.1) := cell_at (H5.out.has _ (.tail _ (.head _))).1
  have c3 : W5.cell? ⟨w.heap.size + 1, 1, none⟩ = some (.int .i64 u.2) := cell_at (H5.out.has _ (.tail _ (.head _))).1
  go_wp2_with fail
  refine (H5.out.clearf HS.out.2.2.2.2.2.2.1 (by omega) _ (by omega) HS.out.2.2.2.2.2.2.2).mono ?_
  rintro e W6 ⟨rfl, G6, h6⟩
  have H6 := Lib.hid h6
  clear h6 H5 c0 c1 c2 c3
  have c0 : W6.cell? ⟨w.heap.size, 0, none⟩ = some (.int .i64 v.1) := cell_at (H6.out.has _ (.head _)).1
  have c1 : W6.cell? ⟨w.heap.size, 1, none⟩ = some (.int .i64 v.2) := cell_at (H6.out.has _ (.head _)).1
  have c2 : W6.cell? ⟨w.heap.size + 1, 0, none⟩ = some (.int .i64 u.1) := cell_at (H6.out.has _ (.tail _ (.head _))).1
  have c3 : W6.cell? ⟨w.heap.size + 1, 1, none⟩ = some (.int .i64 u.2) := cell_at (H6.out.has _ (.tail _ (.head _))).1
  go_wp2
  go_ret
  exact ⟨rfl, H6.out.t.below⟩
end Go.Proofs.YtponbhhkccpbfaaDoor
