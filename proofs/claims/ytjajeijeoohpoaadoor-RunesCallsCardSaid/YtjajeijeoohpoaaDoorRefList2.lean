/- The contracts of the reference's List, Valid, Len and At, for every string of at most 100,000 bytes. Conditions: none. -/
import Derived.Test.YtjajeijeoohpoaaDoorRefList
import Derived.Deep.LoopGhost
namespace Go.Proofs.YtjajeijeoohpoaaDoor
open Go.RowKit Go.Lib
/-- What the reference's List leaves. -/
def RefPost (s : ByteArray) (w : World) (e : Ending) (w' : World) : Prop :=
  (validD s.data.toList = true ∧ ∃ v, e = .returned (.tuple #[v, .int .i64 0]) ∧ Ints w.heap.size v (runesD s.data.toList) w' ∧ Below w.heap.size w w') ∨
  (validD s.data.toList = false ∧ e = .returned (.tuple #[.slice none 0 0, .int .i64 5]) ∧ Below w.heap.size w w')
set_option maxHeartbeats 1000000 in
theorem refList_any (s : ByteArray) (w : World) (hs : s.size ≤ 100000) : Calls Tryd.prog 24 #[.string s] w (RefPost s w) := by
  obtain ⟨i0, hi, hz0, hz1, hz2⟩ := info_parts info3
  go_enter Tryd.func24, Tryd.ntmps24
  go_wp2
  go_loopg [0, 4] (s.size + 1) (fun gk sv v wr => ∃ (t : ByteArray) (acc : List Int), sv = .string t ∧ Ints w.heap.size v acc wr ∧ Below w.heap.size w wr ∧ t.size < gk ∧ acc.length + t.size ≤ s.size ∧ Hid (acc ++ runesD t.data.toList = runesD s.data.toList ∧ validD t.data.toList = validD s.data.toList))
  case atStart => exact ⟨s, [], rfl, World.ownsRow_nil _ _ _ _, Below.refl _ _, by omega, by simp, Lib.hid ⟨rfl, rfl⟩⟩
  case round =>
    obtain ⟨t, acc, rfl, hown, hbw, hg, hal, HA⟩ := hrel
    by_cases h0 : 0 < t.size
    · have h0z : (0 : Int) < (t.size : Int) := by omega
      have hne : t.data.toList ≠ [] := by have := drop_ne (s := t) (pos := 0) h0; rwa [List.drop_zero] at this
      have cP := point_any t wr h0
      by_cases hbad : (decodeL t.data.toList).1 = 65533 ∧ (decodeL t.data.toList).2 = 1
      · have e1 : pointD t.data.toList = (0, 0) := by unfold pointD; rw [if_pos hbad]
        rw [e1] at cP
        have hv : validD s.data.toList = false := by rw [← HA.out.2, validD_step _ hne, if_pos hbad]
        have HV : Hid _ := Lib.hid hv
        have HB : Hid _ := Lib.hid hbw
        clear e1 hbad hv hne HA hown hal hg hbw
        go_wp2_with (go_at_call 46; ((with_reducible refine cP.mono ?_); rintro e w2 ⟨rfl, hb2⟩))
        go_ret2
        exact Or.inr ⟨HV.out, rfl, HB.out.trans (hb2.mono HB.out.size)⟩
      · obtain ⟨c, hc⟩ : ∃ c : Nat, (decodeL t.data.toList).1 = c := ⟨_, rfl⟩
        obtain ⟨k, hk⟩ : ∃ k : Nat, (decodeL t.data.toList).2 = k := ⟨_, rfl⟩
        have e1 : pointD t.data.toList = ((c : Int), (k : Int)) := by unfold pointD; rw [if_neg hbad, hc, hk]
        rw [e1] at cP
        have hw := decodeL_width t.data.toList
        have hle := decodeL_le t.data.toList hne
        rw [hk] at hw hle
        have hle2 : k ≤ t.size := by simpa using hle
        have hst := runesD_step t.data.toList hne
        have hvs := validD_step t.data.toList hne
        rw [hc, hk] at hst
        rw [if_neg hbad, hk] at hvs
        obtain ⟨t2, ht2⟩ : ∃ t2, t.extract k t.size = t2 := ⟨_, rfl⟩
        have hd2 : t2.data.toList = t.data.toList.drop k := by rw [← ht2]; exact Lib.ext_list t k
        have hz2' : t2.size + k = t.size := by rw [← ht2, Lib.ext_size]; omega
        have HS : Hid (acc ++ [(c : Int)] ++ runesD t2.data.toList = runesD s.data.toList ∧ validD t2.data.toList = validD s.data.toList) := Lib.hid ⟨by rw [hd2, ← HA.out.1, hst]; simp, by rw [hd2, ← hvs]; exact HA.out.2⟩
        have kz : (k : Int) ≤ (t.size : Int) := by omega
        have k0 : ((k : Int) == 0) = false := by simp; omega
        have HB : Hid _ := Lib.hid hbw
        obtain ⟨gk', rfl⟩ : ∃ g', gk = g' + 1 := ⟨gk - 1, by omega⟩
        have hbsz := hbw.size
        have HO : Hid (∀ W, Below wr.heap.size wr W → Ints w.heap.size u4 acc W) := Lib.hid (fun W hb => hown.below hb)
        clear hbad hne HA e1 hst hvs hc hk hle hd2 hbw hown
        go_wp2_with (first | (go_at_call 46; ((with_reducible refine cP.mono ?_); rintro e w2 ⟨rfl, hb2⟩)) | (at_builtin; refine wpList_append_own _ rfl _ _ 27 rfl w.heap.size 3 i0 (.int .i64 0) 1 8 Tryd.underlying27 hi hz0 hz1 hz2 rfl (by decide) _ acc.length (acc.map (Value.int .i64)) rfl ((HO.out _ hb2).alloc _) _ 1 1 [.int .i64 c] rfl rfl ?c1 ?c2 ?c3 ?c4 ?c5 ?_))
        case c1 =>
          intro j u hj
          match j, hj with
          | 0, hj => simp at hj; subst hj; simp [Addr.add]
          | (j + 1), hj => simp at hj
        case c2 => intro u hu; simp at hu; subst hu; rfl
        case c3 => unfold maxLen; omega
        case c4 => omega
        case c5 => have := hb2.size; simp; omega
        intro v' w3 hown3 hgr _
        have hge := own_ge (HO.out _ hb2)
        have hbw3 : Below w.heap.size w w3 := ((HB.out.trans (hb2.mono hbsz)).alloc (by have := hb2.size; omega) _).grown hgr (by have := hb2.size; simp; omega) hge
        have HZ : Hid (_ ∧ _) := Lib.hid ⟨hown3, hbw3⟩
        clear hown3 hgr hge hbw3 HO HB hb2 cP
        go_wp2
        go_roundg gk'
        case rel => exact ⟨t2, acc ++ [(c : Int)], rfl, by simpa [Ints] using HZ.out.1, HZ.out.2, by omega, by simp; omega, HS⟩
        case measure => omega
    · have ht : t.data.toList = [] := by
        have : t.size = 0 := by omega
        apply List.length_eq_zero_iff.1
        simpa using this
      have e1 : acc = runesD s.data.toList := by have := HA.out.1; rw [ht, runesD_nil] at this; simpa using this
      have e2 : validD s.data.toList = true := by rw [← HA.out.2, ht]; rfl
      have HV : Hid _ := Lib.hid (And.intro e1 e2)
      have HO : Hid _ := Lib.hid (And.intro hown hbw)
      clear e1 e2 HA hown hbw ht
      go_wp2
      go_ret2
      exact Or.inl ⟨HV.out.2, _, rfl, by rw [← HV.out.1]; exact HO.out.1, HO.out.2⟩
theorem refList_not (s : ByteArray) (w : World) (hs : s.size ≤ 100000) (hv : validD s.data.toList = false) : Calls Tryd.prog 24 #[.string s] w fun e w' => e = .returned (.tuple #[.slice none 0 0, .int .i64 5]) ∧ Below w.heap.size w w' := by
  refine (refList_any s w hs).mono ?_
  intro e w' h
  rcases h with ⟨h1, _⟩ | ⟨_, h2, h3⟩
  · rw [hv] at h1; cases h1
  · exact ⟨h2, h3⟩
theorem refList_valid (s : ByteArray) (l : List Int) (n : Nat) (w : World) (hs : s.size ≤ 100000) (hv : validD s.data.toList = true) (hl : runesD s.data.toList = l) (hn : l.length = n) :
    Calls Tryd.prog 24 #[.string s] w fun e w' => ∃ a cap, e = .returned (.tuple #[.slice a n cap, .int .i64 0]) ∧ Ints w.heap.size (.slice a n cap) l w' ∧ Below w.heap.size w w' := by
  subst hl
  subst hn
  refine (refList_any s w hs).mono ?_
  intro e w' h
  rcases h with ⟨_, v, h2, h3, h4⟩ | ⟨h1, _⟩
  · obtain ⟨a, cap, hvv, _⟩ := h3.sl
    subst hvv
    exact ⟨a, cap, h2, h3, h4⟩
  · rw [hv] at h1; cases h1
set_option maxHeartbeats 400000 in
theorem refValid_any (s : ByteArray) (w : World) (hs : s.size ≤ 100000) : Calls Tryd.prog 27 #[.string s] w fun e w' => e = .returned (.bool (validD s.data.toList)) ∧ Below w.heap.size w w' := by
  cases hv : validD s.data.toList
  · have cL := refList_not s w hs hv
    clear hv
    go_enter Tryd.func27, Tryd.ntmps27
    go_wp2_with (go_at_call 24; ((with_reducible refine cL.mono ?_); rintro e w' ⟨rfl, hb⟩))
    go_ret
    exact ⟨rfl, hb⟩
  · have cL := refList_valid s _ _ w hs hv rfl rfl
    clear hv
    go_enter Tryd.func27, Tryd.ntmps27
    go_wp2_with (go_at_call 24; ((with_reducible refine cL.mono ?_); rintro e w' ⟨a, cap, rfl, _, hb⟩))
    go_ret
    exact ⟨rfl, hb⟩
set_option maxHeartbeats 400000 in
theorem refLen_any (s : ByteArray) (w : World) (hs : s.size ≤ 100000) : Calls Tryd.prog 29 #[.string s] w fun e w' => e = .returned (.int .i64 (lenD s.data.toList)) ∧ Below w.heap.size w w' := by
  unfold lenD
  cases hv : validD s.data.toList
  · have cL := refList_not s w hs hv
    clear hv
    go_enter Tryd.func29, Tryd.ntmps29
    go_wp2_with (go_at_call 24; ((with_reducible refine cL.mono ?_); rintro e w' ⟨rfl, hb⟩))
    go_ret
    exact ⟨rfl, hb⟩
  · obtain ⟨n, hn⟩ : ∃ n, (runesD s.data.toList).length = n := ⟨_, rfl⟩
    have cL := refList_valid s _ n w hs hv rfl hn
    rw [if_pos rfl, hn]
    clear hv hn
    go_enter Tryd.func29, Tryd.ntmps29
    go_wp2_with (go_at_call 24; ((with_reducible refine cL.mono ?_); rintro e w' ⟨a, cap, rfl, _, hb⟩))
    go_ret
    exact ⟨rfl, hb⟩
set_option maxHeartbeats 400000 in
theorem refAt_not (s : ByteArray) (i : Int) (w : World) (hs : s.size ≤ 100000) (hv : validD s.data.toList = false) : Calls Tryd.prog 22 #[.string s, .int .i64 i] w fun e w' => e = .returned (.tuple #[.int .i64 0, .bool false]) ∧ Below w.heap.size w w' := by
  have cL := refList_not s w hs hv
  clear hv
  by_cases h : i < 0
  · go_enter Tryd.func22, Tryd.ntmps22
    go_wp2_with (go_at_call 24; ((with_reducible refine cL.mono ?_); rintro e w' ⟨rfl, hb⟩))
    go_ret2
    exact ⟨rfl, hb⟩
  · have h1 : 0 ≤ i := by omega
    go_enter Tryd.func22, Tryd.ntmps22
    go_wp2_with (go_at_call 24; ((with_reducible refine cL.mono ?_); rintro e w' ⟨rfl, hb⟩))
    go_ret2
    exact ⟨rfl, hb⟩
set_option maxHeartbeats 400000 in
theorem refAt_out (s : ByteArray) (i : Int) (n : Nat) (w : World) (hs : s.size ≤ 100000) (hv : validD s.data.toList = true) (hn : (runesD s.data.toList).length = n) (h : i < 0 ∨ (n : Int) ≤ i) : Calls Tryd.prog 22 #[.string s, .int .i64 i] w fun e w' => e = .returned (.tuple #[.int .i64 0, .bool false]) ∧ Below w.heap.size w w' := by
  have cL := refList_valid s _ n w hs hv rfl hn
  clear hv hn
  by_cases h0 : i < 0
  · clear h
    go_enter Tryd.func22, Tryd.ntmps22
    go_wp2_with (go_at_call 24; ((with_reducible refine cL.mono ?_); rintro e w' ⟨a, cap, rfl, _, hb⟩))
    go_ret2
    exact ⟨rfl, hb⟩
  · have h1 : (n : Int) ≤ i := by omega
    clear h
    go_enter Tryd.func22, Tryd.ntmps22
    go_wp2_with (go_at_call 24; ((with_reducible refine cL.mono ?_); rintro e w' ⟨a, cap, rfl, _, hb⟩))
    go_ret2
    exact ⟨rfl, hb⟩
set_option maxHeartbeats 400000 in
theorem refAt_in (s : ByteArray) (i n : Nat) (c : Int) (w : World) (hs : s.size ≤ 100000) (hv : validD s.data.toList = true) (hn : (runesD s.data.toList).length = n) (h : (runesD s.data.toList)[i]? = some c) : Calls Tryd.prog 22 #[.string s, .int .i64 i] w fun e w' => e = .returned (.tuple #[.int .i64 c, .bool true]) ∧ Below w.heap.size w w' := by
  have cL := refList_valid s _ n w hs hv rfl hn
  have hi : (i : Int) < (n : Int) := by
    obtain ⟨hi, _⟩ := List.getElem?_eq_some_iff.1 h
    omega
  have cL2 := cL.mono (fun e w' hh => (by
    obtain ⟨a, cap, h1, h2, h3⟩ := hh
    obtain ⟨a2, cap2, hv2, hc2⟩ := h2.sl
    obtain ⟨b, off, ha, _, hcell⟩ := hc2 i c h
    cases hv2
    subst ha
    exact ⟨b, off, _, h1, hcell, h3⟩ : ∃ b off cap, e = .returned (.tuple #[.slice (some ⟨b, off, none⟩) n cap, .int .i64 0]) ∧ w'.cell? ⟨b, off + i, none⟩ = some (.int .i64 c) ∧ Below w.heap.size w w'))
  clear cL hv hn h
  go_enter Tryd.func22, Tryd.ntmps22
  go_wp2_with (go_at_call 24; ((with_reducible refine cL2.mono ?_); rintro e w' ⟨b, off, cap, rfl, hcell, hb⟩))
  go_ret2
  exact ⟨rfl, hb⟩
theorem refAt_any (s : ByteArray) (i : Int) (w : World) (hs : s.size ≤ 100000) : Calls Tryd.prog 22 #[.string s, .int .i64 i] w fun e w' => e = .returned (.tuple #[.int .i64 (atD s.data.toList i).1, .bool (atD s.data.toList i).2]) ∧ Below w.heap.size w w' := by
  unfold atD
  cases hv : validD s.data.toList
  · rw [if_neg (by simp)]; exact refAt_not s i w hs hv
  · by_cases h : 0 ≤ i
    · rw [if_pos ⟨h, rfl⟩]
      obtain ⟨k, rfl⟩ : ∃ k : Nat, i = k := ⟨i.toNat, by omega⟩
      rw [Int.toNat_natCast]
      cases hc : (runesD s.data.toList)[k]? with
      | none =>
        have := List.getElem?_eq_none_iff.1 hc
        exact refAt_out s k _ w hs hv rfl (by omega)
      | some c => exact refAt_in s k _ c w hs hv rfl hc
    · rw [if_neg (by omega)]; exact refAt_out s i _ w hs hv rfl (by omega)
end Go.Proofs.YtjajeijeoohpoaaDoor
