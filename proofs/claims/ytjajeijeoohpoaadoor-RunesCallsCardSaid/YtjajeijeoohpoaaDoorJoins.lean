/- The walk of the law RunesJoins, for any two strings. Condition: unicode/utf8's two tables hold what the program's text lays. -/
import Derived.Test.YtjajeijeoohpoaaDoorList
import Derived.Test.YtjajeijeoohpoaaDoorSame
import Derived.Test.YtjajeijeoohpoaaDoorPlain2
import Derived.Test.YtjajeijeoohpoaaDoorLives
namespace Go.Proofs.YtjajeijeoohpoaaDoor
open Go.RowKit Go.Lib Go.Shelf
theorem Ints.sl {B : Nat} {v : Value} {l : List Int} {w : World} (h : Ints B v l w) : Sl v l w := by
  obtain ⟨h1, h2⟩ := h
  rcases h2 with ⟨hv, hl⟩ | ⟨g, cap, cur, hv, hg, hh, hn, hc, hsz, ht⟩
  · exact ⟨none, 0, by rw [hv, hl], fun i x hx => by have : l = [] := List.length_eq_zero_iff.1 hl; subst this; simp at hx⟩
  · refine ⟨some ⟨g, 0, none⟩, cap, hv, fun i x hx => ⟨g, 0, rfl, (Array.getElem?_eq_some_iff.1 hh).1, ?_⟩⟩
    rw [cell_of_row w g _ cur 3 (0, 0) hh]
    obtain ⟨hi, hx2⟩ := List.getElem?_eq_some_iff.1 hx
    have h3 : (l.map (Value.int .i64))[i]? = some (.int .i64 x) := by simp [hx]
    rw [← ht, List.getElem?_take_of_lt (by omega)] at h3
    simpa using h3
theorem runes_len_le (s : ByteArray) : (runesD s.data.toList).length ≤ s.size := by rw [← runeCount_eq]; exact runeCount_le s
/-- The two strings set one behind the other. -/
theorem cat_data (s t : ByteArray) : (s ++ t).data.toList = s.data.toList ++ t.data.toList := by simp
theorem cat_size (s t : ByteArray) : (s ++ t).size = s.size + t.size := by simp
/-- append, within a guarded part of a statement that is wanted. -/
theorem wpList_append_wanted {P : Program} (w : World) {ops : Array Oper} {rest : List Oper} {o : Oper} {a : Act} {Q : Exit → Act → World → Prop} (hgd : Region.wanted o (yielded ops a.tmps) = true) (s x : Operand) (t : TypeId)
    (ho : o.op = .call { callee := .builtin .append, args := #[s, x], argTypes := #[t, t] })
    (base : Nat) (e : TypeId) (i : TypeInfo) (z : Value) (size bytes : Nat) (ht : P.underlying t = some (.slice e)) (hi : P.info? e = some i) (hz : i.zero = some z)
    (hsize : i.size = size) (hby : i.bytes = bytes) (hzs : z.cells.size = size) (hsz : 0 < size)
    (v : Value) (n : Nat) (xs : List Value) (hs : a.eval s = v) (hown : w.ownsRow base e size v n xs)
    (ad : Addr) (m c : Nat) (news : List Value) (hx : a.eval x = .slice (some ad) m c) (hl : news.length = m * size) (hnews : ∀ j u, news[j]? = some u → w.cell? (ad.add j) = some u) (h1 : ∀ u ∈ news, u.oneCell' = true)
    (h63 : n + m ≤ maxLen) (hbytes : (n + m) * bytes ≤ 140737488355328) (hbase : base ≤ w.heap.size)
    (h : ∀ v' w', w'.ownsRow base e size v' (n + m) (xs ++ news) → w.grownBy w' v.ownBlock → wpList P ops Q rest (a.put o.dst v') w') : wpList P ops Q (o :: rest) a w :=
  wpList_step fun K hK => by
    rw [if_pos hgd]
    exact wp_append_own w s x t ho base e i z size bytes ht hi hz hsize hby hzs hsz v n xs hs hown ad m c news hx hl hnews h1 h63 hbytes hbase fun v' w' h2 h3 _ => hK _ _ (h v' w' h2 h3)
theorem Ints.ge {B : Nat} {v : Value} {l : List Int} {w : World} (h : Ints B v l w) : ∀ k, v.ownBlock = some k → B ≤ k := own_ge h
theorem ints_one (l : List Int) : ∀ u ∈ l.map (Value.int .i64), u.oneCell' = true := by
  intro u hu
  obtain ⟨x, _, rfl⟩ := List.mem_map.1 hu
  rfl
theorem Ints.cells {B g n cap : Nat} {l : List Int} {w : World} (h : Ints B (.slice (some ⟨g, 0, none⟩) n cap) l w) : ∀ j u, (l.map (Value.int .i64))[j]? = some u → w.cell? ((⟨g, 0, none⟩ : Addr).add j) = some u :=
  World.ownsRow.cells h (g := g) rfl
theorem Ints.grown {B : Nat} {v : Value} {l : List Int} {w w' : World} {row : Option Nat} (h : Ints B v l w) (hg : w.grownBy w' row) (hne : ∀ k, v.ownBlock = some k → row ≠ some k) : Ints B v l w' := by
  obtain ⟨h1, h2⟩ := h
  refine ⟨h1, ?_⟩
  rcases h2 with h2 | ⟨g, cap, cur, hv, hgb, hh, hrest⟩
  · exact .inl h2
  · have hlt : g < w.heap.size := (Array.getElem?_eq_some_iff.1 hh).1
    refine .inr ⟨g, cap, cur, hv, hgb, ?_, hrest⟩
    rw [hg.block g hlt (fun e => hne g (by rw [hv]; rfl) e.symm)]
    exact hh
theorem Ints.lt {B g n cap : Nat} {l : List Int} {w : World} (h : Ints B (.slice (some ⟨g, 0, none⟩) n cap) l w) : g < w.heap.size := by
  rcases h.2 with ⟨e, _⟩ | ⟨g', cap', cur, hv, _, hh, _⟩
  · cases e
  · cases hv; exact (Array.getElem?_eq_some_iff.1 hh).1
set_option maxHeartbeats 1000000 in
theorem joins_long (s t : ByteArray) (w : World) (h : 2000 < s.size ∨ 2000 < t.size) (hT : Tabs w) :
    Calls Tryd.prog 8 #[.string s, .string t] w fun e w' => e = .returned (.bool true) ∧ Below w.heap.size w w' := by
  have cL := lives_any w hT
  rcases h with h | h
  · have hz : (2000 : Int) < (s.size : Int) := by omega
    go_enter Tryd.func8, Tryd.ntmps8
    go_wp2_with (go_at_call 10; ((with_reducible refine cL.mono ?_); rintro e W1 ⟨rfl, hb⟩))
    go_ret
    exact ⟨rfl, hb⟩
  · have hz : (2000 : Int) < (t.size : Int) := by omega
    by_cases hs : (2000 : Int) < (s.size : Int)
    · go_enter Tryd.func8, Tryd.ntmps8
      go_wp2_with (go_at_call 10; ((with_reducible refine cL.mono ?_); rintro e W1 ⟨rfl, hb⟩))
      go_ret
      exact ⟨rfl, hb⟩
    · go_enter Tryd.func8, Tryd.ntmps8
      go_wp2_with (go_at_call 10; ((with_reducible refine cL.mono ?_); rintro e W1 ⟨rfl, hb⟩))
      go_ret
      exact ⟨rfl, hb⟩
set_option maxHeartbeats 1000000 in
theorem joins_vv (s t : ByteArray) (w : World) (hs : s.size ≤ 2000) (ht : t.size ≤ 2000) (hT : Tabs w) (v1 : validD s.data.toList = true) (v2 : validD t.data.toList = true) :
    Calls Tryd.prog 8 #[.string s, .string t] w fun e w' => e = .returned (.bool true) ∧ Below w.heap.size w w' := by
  have cL := lives_any w hT
  have hz1 : ¬ (2000 : Int) < (s.size : Int) := by omega
  have hz2 : ¬ (2000 : Int) < (t.size : Int) := by omega
  have HT : Hid _ := Lib.hid hT
  have H1 : Hid _ := Lib.hid v1
  have H2 : Hid _ := Lib.hid v2
  clear hT v1 v2
  go_enter Tryd.func8, Tryd.ntmps8
  go_wp2_with (go_at_call 10; ((with_reducible refine cL.mono ?_); rintro e W1 ⟨rfl, b1⟩))
  have T1 := HT.out.below b1 HT.out.size
  have c1 := list_valid s W1 (by omega) T1 H1.out
  clear T1 cL
  go_wp2_with (go_at_call 13; ((with_reducible refine c1.mono ?_); rintro e W2 ⟨g1, k1, rfl, i1, b2⟩))
  have b02 := b1.trans (b2.mono b1.size)
  have T2 := HT.out.below b02 HT.out.size
  have c2 := list_valid t W2 (by omega) T2 H2.out
  clear T2 c1
  go_wp2_with (go_at_call 13; ((with_reducible refine c2.mono ?_); rintro e W3 ⟨g2, k2, rfl, i2, b3⟩))
  have b03 := b02.trans (b3.mono b02.size)
  have T3 := HT.out.below b03 HT.out.size
  have v3 : validD (s ++ t).data.toList = true := by rw [cat_data, valid_append _ _ H1.out]; exact H2.out
  have c3 := list_valid (s ++ t) W3 (by rw [cat_size]; omega) T3 v3
  have er : runesD (s ++ t).data.toList = runesD s.data.toList ++ runesD t.data.toList := by rw [cat_data, runes_append _ _ H1.out]
  rw [er] at c3
  have la := runes_len_le s
  have lb := runes_len_le t
  have F1 : Hid (∀ W, Below W3.heap.size W3 W → Ints W1.heap.size (.slice (some ⟨g1, 0, none⟩) (runesD s.data.toList).length k1) (runesD s.data.toList) W) := Lib.hid (fun W hb => (i1.below b3).below hb)
  have F2 : Hid (∀ W, Below W3.heap.size W3 W → Ints W2.heap.size (.slice (some ⟨g2, 0, none⟩) (runesD t.data.toList).length k2) (runesD t.data.toList) W) := Lib.hid (fun W hb => i2.below hb)
  have FB : Hid (Below w.heap.size w W1 ∧ Below w.heap.size w W2 ∧ Below w.heap.size w W3 ∧ W1.heap.size ≤ W3.heap.size) := Lib.hid ⟨b1, b02, b03, Nat.le_trans b2.size b3.size⟩
  obtain ⟨i0, hi, hz0, hz1', hz2'⟩ := info_parts info3
  clear T3 c2 v3 er i1 i2 b1 b2 b3 b02 b03
  generalize runesD s.data.toList = l1 at c3 la F1
  generalize runesD t.data.toList = l2 at c3 lb F2
  go_wp2_with (first | (go_at_call 13; ((with_reducible refine c3.mono ?_); rintro e W4 ⟨g3, k3, rfl, i3, b4⟩)) | (at_builtin; refine wpList_append_wanted _ rfl _ _ 27 rfl W1.heap.size 3 i0 (.int .i64 0) 1 8 Tryd.underlying27 hi hz0 hz1' hz2' rfl (by decide) _ l1.length (l1.map (Value.int .i64)) rfl (F1.out _ b4) ⟨g2, 0, none⟩ l2.length _ (l2.map (Value.int .i64)) rfl (by simp) (Ints.cells (F2.out _ b4)) (ints_one l2) ?c1 ?c2 ?c3 ?_))
  case c1 => unfold maxLen; omega
  case c2 => omega
  case c3 => have := FB.out.2.2.2; have := b4.size; omega
  intro v' W5 hown5 hgr
  have j5 : Ints W1.heap.size v' (l1 ++ l2) W5 := by unfold Ints; rw [List.length_append, List.map_append]; exact hown5
  have hg1 : g1 < W3.heap.size := (F1.out W3 (Below.refl _ _)).lt
  have j3 : Ints W3.heap.size (.slice (some ⟨g3, 0, none⟩) (l1 ++ l2).length k3) (l1 ++ l2) W5 := i3.grown hgr (fun k hk => by
    have := i3.ge k hk
    simp [Value.ownBlock]
    omega)
  have b5 : Below w.heap.size w W5 := (FB.out.2.2.1.trans (b4.mono FB.out.2.2.1.size)).grown hgr (by have := FB.out.1.size; have := FB.out.2.2.2; have := b4.size; omega) (fun k hk => by
    have := (F1.out W3 (Below.refl _ _)).ge k hk
    have := FB.out.1.size
    omega)
  have c5 := same_any _ _ _ _ W5 j3.sl j5.sl (by simp; omega)
  rw [decide_eq_true rfl, List.length_append] at c5
  have HB5 : Hid _ := Lib.hid b5
  clear hown5 hgr j5 j3 hg1 i3 b4 F1 F2 FB b5 hi hz0 hz1' hz2' c3
  go_wp2_with (go_at_call 30; ((with_reducible refine c5.mono ?_); rintro e W6 ⟨rfl, b6⟩))
  go_ret
  exact ⟨rfl, HB5.out.trans (b6.mono HB5.out.size)⟩
/-- List at an invalid string, anywhere behind w. -/
theorem list_not_after (s : ByteArray) (w : World) (hs : s.size ≤ 100000) (hT : Tabs w) (hv : validD s.data.toList = false) :
    ∀ W, Below w.heap.size w W → Calls Tryd.prog 13 #[.string s] W fun e w' => e = .returned (.tuple #[.slice none 0 0, .int .i64 5]) ∧ Below w.heap.size w w' := fun W hb => by
  refine (list_not s W hs (hT.below hb hT.size) hv).mono ?_
  rintro e w' ⟨he, hb'⟩
  exact ⟨he, hb.trans (hb'.mono hb.size)⟩
/-- List at a valid string, anywhere behind w. -/
theorem list_valid_after (s : ByteArray) (w : World) (hs : s.size ≤ 100000) (hT : Tabs w) (hv : validD s.data.toList = true) :
    ∀ W, Below w.heap.size w W → Calls Tryd.prog 13 #[.string s] W fun e w' => ∃ g n cap, e = .returned (.tuple #[.slice (some ⟨g, 0, none⟩) n cap, .int .i64 0]) ∧ Below w.heap.size w w' := fun W hb => by
  refine (list_valid s W hs (hT.below hb hT.size) hv).mono ?_
  rintro e w' ⟨g, cap, he, _, hb'⟩
  exact ⟨g, _, cap, he, hb.trans (hb'.mono hb.size)⟩
set_option maxHeartbeats 1000000 in
theorem joins_vn (s t : ByteArray) (w : World) (hs : s.size ≤ 2000) (ht : t.size ≤ 2000) (hT : Tabs w) (v1 : validD s.data.toList = true) (v2 : validD t.data.toList = false) :
    Calls Tryd.prog 8 #[.string s, .string t] w fun e w' => e = .returned (.bool true) ∧ Below w.heap.size w w' := by
  have cL := lives_any w hT
  have k1 := list_valid_after s w (by omega) hT v1
  have k2 := list_not_after t w (by omega) hT v2
  have k3 := list_not_after (s ++ t) w (by rw [cat_size]; omega) hT (by rw [cat_data, valid_append _ _ v1]; exact v2)
  have hz1 : ¬ (2000 : Int) < (s.size : Int) := by omega
  have hz2 : ¬ (2000 : Int) < (t.size : Int) := by omega
  clear hT v1 v2
  go_enter Tryd.func8, Tryd.ntmps8
  go_wp2_with (first | (go_at_call 10; ((with_reducible refine cL.mono ?_); rintro e W1 ⟨rfl, hb⟩)) | (go_at_call 13; first | ((with_reducible refine (k1 _ hb).mono ?_); rintro e W2 ⟨g, n, cap, rfl, hb⟩) | ((with_reducible refine (k2 _ hb).mono ?_); rintro e W2 ⟨rfl, hb⟩) | ((with_reducible refine (k3 _ hb).mono ?_); rintro e W2 ⟨rfl, hb⟩)))
  go_ret
  exact ⟨rfl, hb⟩
set_option maxHeartbeats 1000000 in
theorem joins_nv (s t : ByteArray) (w : World) (hs : s.size ≤ 2000) (ht : t.size ≤ 2000) (hT : Tabs w) (v1 : validD s.data.toList = false) (v2 : validD t.data.toList = true) :
    Calls Tryd.prog 8 #[.string s, .string t] w fun e w' => e = .returned (.bool true) ∧ Below w.heap.size w w' := by
  have cL := lives_any w hT
  have v3 : validD (s ++ t).data.toList = false := by
    rw [cat_data]
    cases h : validD (s.data.toList ++ t.data.toList)
    · rfl
    · rw [valid_before _ _ v2 h] at v1; cases v1
  have k1 := list_not_after s w (by omega) hT v1
  have k2 := list_valid_after t w (by omega) hT v2
  have k3 := list_not_after (s ++ t) w (by rw [cat_size]; omega) hT v3
  have hz1 : ¬ (2000 : Int) < (s.size : Int) := by omega
  have hz2 : ¬ (2000 : Int) < (t.size : Int) := by omega
  clear hT v1 v2 v3
  go_enter Tryd.func8, Tryd.ntmps8
  go_wp2_with (first | (go_at_call 10; ((with_reducible refine cL.mono ?_); rintro e W1 ⟨rfl, hb⟩)) | (go_at_call 13; first | ((with_reducible refine (k1 _ hb).mono ?_); rintro e W2 ⟨rfl, hb⟩) | ((with_reducible refine (k2 _ hb).mono ?_); rintro e W2 ⟨g, n, cap, rfl, hb⟩) | ((with_reducible refine (k3 _ hb).mono ?_); rintro e W2 ⟨rfl, hb⟩)))
  go_ret
  exact ⟨rfl, hb⟩
set_option maxHeartbeats 1000000 in
theorem joins_nnn (s t : ByteArray) (w : World) (hs : s.size ≤ 2000) (ht : t.size ≤ 2000) (hT : Tabs w) (v1 : validD s.data.toList = false) (v2 : validD t.data.toList = false) (v3 : validD (s ++ t).data.toList = false) :
    Calls Tryd.prog 8 #[.string s, .string t] w fun e w' => e = .returned (.bool true) ∧ Below w.heap.size w w' := by
  have cL := lives_any w hT
  have k1 := list_not_after s w (by omega) hT v1
  have k2 := list_not_after t w (by omega) hT v2
  have k3 := list_not_after (s ++ t) w (by rw [cat_size]; omega) hT v3
  have hz1 : ¬ (2000 : Int) < (s.size : Int) := by omega
  have hz2 : ¬ (2000 : Int) < (t.size : Int) := by omega
  clear hT v1 v2 v3
  go_enter Tryd.func8, Tryd.ntmps8
  go_wp2_with (first | (go_at_call 10; ((with_reducible refine cL.mono ?_); rintro e W1 ⟨rfl, hb⟩)) | (go_at_call 13; first | ((with_reducible refine (k1 _ hb).mono ?_); rintro e W2 ⟨rfl, hb⟩) | ((with_reducible refine (k2 _ hb).mono ?_); rintro e W2 ⟨rfl, hb⟩) | ((with_reducible refine (k3 _ hb).mono ?_); rintro e W2 ⟨rfl, hb⟩)))
  go_ret
  exact ⟨rfl, hb⟩
set_option maxHeartbeats 1000000 in
theorem joins_nnv (s t : ByteArray) (w : World) (hs : s.size ≤ 2000) (ht : t.size ≤ 2000) (hT : Tabs w) (v1 : validD s.data.toList = false) (v2 : validD t.data.toList = false) (v3 : validD (s ++ t).data.toList = true) :
    Calls Tryd.prog 8 #[.string s, .string t] w fun e w' => e = .returned (.bool true) ∧ Below w.heap.size w w' := by
  have cL := lives_any w hT
  have k1 := list_not_after s w (by omega) hT v1
  have k2 := list_not_after t w (by omega) hT v2
  have k3 := list_valid_after (s ++ t) w (by rw [cat_size]; omega) hT v3
  have hz1 : ¬ (2000 : Int) < (s.size : Int) := by omega
  have hz2 : ¬ (2000 : Int) < (t.size : Int) := by omega
  clear hT v1 v2 v3
  go_enter Tryd.func8, Tryd.ntmps8
  go_wp2_with (first | (go_at_call 10; ((with_reducible refine cL.mono ?_); rintro e W1 ⟨rfl, hb⟩)) | (go_at_call 13; first | ((with_reducible refine (k1 _ hb).mono ?_); rintro e W2 ⟨rfl, hb⟩) | ((with_reducible refine (k2 _ hb).mono ?_); rintro e W2 ⟨rfl, hb⟩) | ((with_reducible refine (k3 _ hb).mono ?_); rintro e W2 ⟨g, n, cap, rfl, hb⟩)))
  go_ret
  exact ⟨rfl, hb⟩
theorem joins_any (s t : ByteArray) (w : World) (hT : Tabs w) :
    Calls Tryd.prog 8 #[.string s, .string t] w fun e w' => e = .returned (.bool true) ∧ Below w.heap.size w w' := by
  by_cases h : 2000 < s.size ∨ 2000 < t.size
  · exact joins_long s t w h hT
  · cases v1 : validD s.data.toList <;> cases v2 : validD t.data.toList
    · cases v3 : validD (s ++ t).data.toList
      · exact joins_nnn s t w (by omega) (by omega) hT v1 v2 v3
      · exact joins_nnv s t w (by omega) (by omega) hT v1 v2 v3
    · exact joins_nv s t w (by omega) (by omega) hT v1 v2
    · exact joins_vn s t w (by omega) (by omega) hT v1 v2
    · exact joins_vv s t w (by omega) (by omega) hT v1 v2
end Go.Proofs.YtjajeijeoohpoaaDoor
