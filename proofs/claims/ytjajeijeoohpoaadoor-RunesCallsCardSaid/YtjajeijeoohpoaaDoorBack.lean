/- The walk of the law RunesBack, for every slice of ints and every string. Condition: unicode/utf8's two tables hold what the program's text lays. -/
import Derived.Test.YtjajeijeoohpoaaDoorJoins
namespace Go.Proofs.YtjajeijeoohpoaaDoor
open Go.RowKit Go.Lib Go.Shelf
set_option maxHeartbeats 1000000 in
theorem back_long (a : Option Addr) (cap n : Nat) (s : ByteArray) (w : World) (h : 2000 < s.size ∨ 2000 < n) (hT : Tabs w) :
    Calls Tryd.prog 6 #[.slice a n cap, .string s] w fun e w' => e = .returned (.bool true) ∧ Below w.heap.size w w' := by
  have cL := lives_any w hT
  by_cases hs : (2000 : Int) < (s.size : Int)
  · go_enter Tryd.func6, Tryd.ntmps6
    go_wp2_with (go_at_call 10; ((with_reducible refine cL.mono ?_); rintro e W1 ⟨rfl, hb⟩))
    go_ret
    exact ⟨rfl, hb⟩
  · have hz : (2000 : Int) < (n : Int) := by omega
    go_enter Tryd.func6, Tryd.ntmps6
    go_wp2_with (go_at_call 10; ((with_reducible refine cL.mono ?_); rintro e W1 ⟨rfl, hb⟩))
    go_ret
    exact ⟨rfl, hb⟩
/-- What the law's own loop comes to. -/
theorem all_take (l : List Int) (k : Nat) (x : Int) (h : l[k]? = some x) : (l.take (k + 1)).all isZ = ((l.take k).all isZ && isZ x) := by
  rw [take_snoc_int l k x h, List.all_append]; simp
theorem text_of_runes (s : ByteArray) (h : validD s.data.toList = true) : textS (runesD s.data.toList) = s ∧ textE (runesD s.data.toList) = 0 := by
  unfold textS textE
  rw [runes_isZ, if_pos rfl, if_pos rfl, encD_runes _ h]
  exact ⟨rfl, rfl⟩
/-- A contract anywhere behind w, with what its own call leaves. -/
theorem after2 {w : World} {f : Nat} {args : Array Value} {v : Value} (hT : Tabs w) (h : ∀ W, Tabs W → Calls Tryd.prog f args W fun e w' => e = .returned v ∧ Below W.heap.size W w') :
    ∀ W, Below w.heap.size w W → Calls Tryd.prog f args W fun e w' => e = .returned v ∧ Below W.heap.size W w' ∧ Below w.heap.size w w' := fun W hb => by
  refine (h W (hT.below hb hT.size)).mono ?_
  rintro e w' ⟨he, hb'⟩
  exact ⟨he, hb', hb.trans (hb'.mono hb.size)⟩
theorem list_after2 (s : ByteArray) (l : List Int) (n : Nat) (w : World) (hs : s.size ≤ 100000) (hT : Tabs w) (hv : validD s.data.toList = true) (hl : runesD s.data.toList = l) (hn : l.length = n) :
    ∀ W, Below w.heap.size w W → Calls Tryd.prog 13 #[.string s] W fun e w' => ∃ g cp, e = .returned (.tuple #[.slice (some ⟨g, 0, none⟩) n cp, .int .i64 0]) ∧ Ints W.heap.size (.slice (some ⟨g, 0, none⟩) n cp) l w' ∧ Below w.heap.size w w' := fun W hb => by
  subst hl
  subst hn
  refine (list_valid s W hs (hT.below hb hT.size) hv).mono ?_
  rintro e w' ⟨g, cp, he, hi, hb'⟩
  exact ⟨g, cp, he, hi, hb.trans (hb'.mono hb.size)⟩
set_option maxHeartbeats 4000000 in
theorem back_core (a : Option Addr) (cap n n2 nt : Nat) (l ls lt : List Int) (s t : ByteArray) (te : Int) (al vs : Bool) (w : World) (hn : l.length = n) (hn2 : n ≤ 2000) (hs : s.size ≤ 2000) (hT : Tabs w)
    (hc : ∀ i x, l[i]? = some x → ∃ b off, a = some ⟨b, off, none⟩ ∧ b < w.heap.size ∧ w.cell? ⟨b, off + i, none⟩ = some (.int .i64 x))
    (hal : l.all isZ = al) (ht : textS l = t) (hte : textE l = te) (hvs : validD s.data.toList = vs) (hls : runesD s.data.toList = ls) (hn3 : ls.length = n2)
    (htv : validD t.data.toList = true) (htr : runesD t.data.toList = lt) (htn : lt.length = nt) (htz : t.size ≤ 100000) (hc1 : al = true → lt = l ∧ nt = n ∧ te = 0) (hc0 : al = false → te = 3 ∧ t = ⟨#[]⟩) :
    Calls Tryd.prog 6 #[.slice a n cap, .string s] w fun e w' => e = .returned (.bool true) ∧ Below w.heap.size w w' := by
  have k10 := after2 hT (f := 10) (args := #[]) (v := .bool true) (fun W hW => lives_any W hW)
  have hz1 : ¬ (2000 : Int) < (s.size : Int) := by omega
  have hz2 : ¬ (2000 : Int) < (n : Int) := by omega
  have hsl : Sl (.slice a n cap) l w := ⟨a, cap, by rw [hn], hc⟩
  have HSL : Hid _ := Lib.hid hsl
  have HC : Hid _ := Lib.hid hc
  have HN : Hid _ := Lib.hid hn
  have HL : Hid _ := Lib.hid (And.intro hal (And.intro ht hte))
  have HSV : Hid _ := Lib.hid (And.intro hvs (And.intro hls hn3))
  have k12 : ∀ W, Below w.heap.size w W → Calls Tryd.prog 12 #[.slice a n cap] W fun e w' => e = .returned (.tuple #[.string t, .int .i64 te]) ∧ Below w.heap.size w w' := fun W hb => by
    refine (text_any (.slice a n cap) l W (hsl.below hb (Nat.le_refl _)) (by omega)).mono ?_
    rintro e w' ⟨he, hb'⟩
    rw [ht, hte] at he
    exact ⟨he, hb.trans (hb'.mono hb.size)⟩
  have k20s := after2 hT (f := 20) (args := #[.string s]) (v := .bool vs) (fun W hW => by have := valid_any s W (by omega) hW; rwa [hvs] at this)
  have lls : ls.length ≤ 2000 := by have := runes_len_le s; rw [hls] at this; omega
  have k30 : ∀ v1 W, Below w.heap.size w W → Sl v1 l W → Calls Tryd.prog 30 #[v1, .slice a n cap] W fun e w' => e = .returned (.bool true) ∧ Below w.heap.size w w' := fun v1 W hb h1 => by
    refine (same_any v1 (.slice a n cap) l l W h1 (hsl.below hb (Nat.le_refl _)) (by omega)).mono ?_
    rintro e w' ⟨he, hb'⟩
    rw [decide_eq_true rfl] at he
    exact ⟨he, hb.trans (hb'.mono hb.size)⟩
  have kM := list_after2 t lt nt w htz hT htv htr htn
  have kLt := after2 hT (f := 28) (args := #[.string t]) (v := .int .i64 nt) (fun W hW => by have := len_any t W (by omega) hW; rwa [lenD, htv, if_pos rfl, htr, htn] at this)
  have kVt := after2 hT (f := 20) (args := #[.string t]) (v := .bool true) (fun W hW => by have := valid_any t W (by omega) hW; rwa [htv] at this)
  have KS1 : Hid (vs = true → ∀ W, Below w.heap.size w W → Calls Tryd.prog 13 #[.string s] W fun e w' => ∃ g cp, e = .returned (.tuple #[.slice (some ⟨g, 0, none⟩) n2 cp, .int .i64 0]) ∧ Ints W.heap.size (.slice (some ⟨g, 0, none⟩) n2 cp) ls w' ∧ Below w.heap.size w w') := Lib.hid (fun h => list_after2 s ls n2 w (by omega) hT (hvs.trans h) hls hn3)
  have KS0 : Hid (vs = false → (∀ W, Below w.heap.size w W → Calls Tryd.prog 13 #[.string s] W fun e w' => e = .returned (.tuple #[.slice none 0 0, .int .i64 5]) ∧ Below w.heap.size w w') ∧ (∀ W, Below w.heap.size w W → Calls Tryd.prog 28 #[.string s] W fun e w' => e = .returned (.int .i64 0) ∧ Below W.heap.size W w' ∧ Below w.heap.size w w')) := Lib.hid (fun h => ⟨list_not_after s w (by omega) hT (hvs.trans h), after2 hT (fun W hW => by have := len_any s W (by omega) hW; rwa [lenD, hvs.trans h, if_neg (by simp)] at this)⟩)
  have KT : Hid (vs = true → ∀ v W, Below w.heap.size w W → Sl v ls W → Calls Tryd.prog 12 #[v] W fun e w' => e = .returned (.tuple #[.string s, .int .i64 0]) ∧ Below w.heap.size w w') := Lib.hid (fun h v W hb hv => by
    refine (text_any v ls W hv (by omega)).mono ?_
    rintro e w' ⟨he, hb'⟩
    obtain ⟨q1, q2⟩ := text_of_runes s (hvs.trans h)
    rw [← hls, q1, q2] at he
    exact ⟨he, hb.trans (hb'.mono hb.size)⟩)
  have KT0 : Hid (∀ W, Below w.heap.size w W → Calls Tryd.prog 12 #[.slice none 0 0] W fun e w' => e = .returned (.tuple #[.string ⟨#[]⟩, .int .i64 0]) ∧ Below w.heap.size w w') := Lib.hid (fun W hb => by
    refine (text_any (.slice none 0 0) [] W ⟨none, 0, rfl, fun i x hx => by simp at hx⟩ (by simp)).mono ?_
    rintro e w' ⟨he, hb'⟩
    exact ⟨he, hb.trans (hb'.mono hb.size)⟩)
  have HC1 : Hid _ := Lib.hid hc1
  have HC0 : Hid _ := Lib.hid hc0
  have hb0 := Below.refl w.heap.size w
  clear hsl hc hn hT hal ht hte hvs hls hn3 htv htr htn htz hc1 hc0
  go_enter Tryd.func6, Tryd.ntmps6
  go_wp2_with (first | (go_at_call 10; ((with_reducible refine (k10 _ hb0).mono ?_); rintro e W1 ⟨rfl, _, hb1⟩)) | (go_at_call 12; ((with_reducible refine (k12 _ hb1).mono ?_); rintro e W2 ⟨rfl, hb⟩)))
  clear k10 k12 hb0 hb1
  go_loop [7, 8] (fun m i => ∃ (k : Nat) (b : Bool), m = .bool b ∧ i = .int .i64 k ∧ k ≤ n ∧ Hid ((l.take k).all isZ = b)) (fun _ i => n - (intOf i).toNat)
  case atStart => exact ⟨0, true, rfl, rfl, Nat.zero_le _, Lib.hid rfl⟩
  case round =>
    obtain ⟨k, b, rfl, rfl, hk, HB⟩ := hrel
    by_cases hlt : (k : Int) < (n : Int)
    · obtain ⟨x, hx⟩ : ∃ x, l[k]? = some x := ⟨l[k]'(by have := HN.out; omega), List.getElem?_eq_getElem _⟩
      obtain ⟨bk, off, ha, hbl, hcell⟩ := HC.out k x hx
      have hcell2 : W2.cell? ⟨bk, off + k, none⟩ = some (.int .i64 x) := by rw [hb.cell (by simpa using hbl)]; exact hcell
      have HX : Hid _ := Lib.hid (all_take l k x hx)
      have cI := fun w => is_any x w
      subst ha
      clear hcell hx
      cases b
      · go_wp2
        go_round
        case rel => exact ⟨k + 1, false, rfl, by go_num, by omega, Lib.hid (by rw [HX.out, HB.out]; rfl)⟩
        case measure => simp [intOf]; omega
      · obtain ⟨z, hz⟩ : ∃ z, isZ x = z := ⟨_, rfl⟩
        rw [hz] at cI
        have HZ : Hid _ := Lib.hid hz
        clear hz
        go_wp2_with (go_at_call 21; ((with_reducible refine (cI _).mono ?_); rintro e w' ⟨rfl, rfl⟩))
        go_round
        case rel => exact ⟨k + 1, z, rfl, by go_num, by omega, Lib.hid (by rw [HX.out, HB.out, HZ.out]; rfl)⟩
        case measure => simp [intOf]; omega
    · have hkn : k = n := by omega
      subst hkn
      have eb : b = al := by have h1 := HB.out; rw [List.take_of_length_le (by have := HN.out; omega), HL.out.1] at h1; exact h1.symm
      subst eb
      cases b
      · obtain ⟨e1, e2⟩ := HC0.out rfl
        subst e1
        subst e2
        clear k30 kLt kVt HSL HC HN HL HB HC0 HC1
        cases vs
        · have KS := (KS0.out rfl).1
          have KL := (KS0.out rfl).2
          have KTv := KT0.out
          clear KS0 KS1 KT0 HSV KT
          go_wp2_with (first | (go_at_call 13; first | ((with_reducible refine (kM _ hb).mono ?_); rintro e W3 ⟨gt, ct, rfl, it, hb⟩) | ((with_reducible refine (KS _ hb).mono ?_); rintro e W3 ⟨rfl, hb⟩)) | (go_at_call 28; first | ((with_reducible refine (KL _ hb).mono ?_); rintro e W3 ⟨rfl, _, hb⟩)) | (go_at_call 20; first | ((with_reducible refine (k20s _ hb).mono ?_); rintro e W3 ⟨rfl, hv, hb⟩)) | (go_at_call 12; first | ((with_reducible refine (KTv _ hb).mono ?_); rintro e W3 ⟨rfl, hb⟩)))
          go_ret
          exact ⟨rfl, hb⟩
        · have KS := KS1.out rfl
          have KTv := KT.out rfl
          clear KS0 KS1 KT0 HSV KT
          go_wp2_with (first | (go_at_call 13; first | ((with_reducible refine (kM _ hb).mono ?_); rintro e W3 ⟨gt, ct, rfl, it, hb⟩) | ((with_reducible refine (KS _ hb).mono ?_); rintro e W3 ⟨gs, cs, rfl, is, hb⟩)) | (go_at_call 20; first | ((with_reducible refine (k20s _ hb).mono ?_); rintro e W3 ⟨rfl, hv, hb⟩)) | (go_at_call 12; first | ((with_reducible refine (KTv _ _ hb (is.below hv).sl).mono ?_); rintro e W3 ⟨rfl, hb⟩)))
          go_ret
          exact ⟨rfl, hb⟩
      · obtain ⟨e1, e2, e3⟩ := HC1.out rfl
        subst e1
        subst e2
        subst e3
        clear HSL HC HN HL HB HC0 HC1
        cases vs
        · have KS := (KS0.out rfl).1
          have KL := (KS0.out rfl).2
          have KTv := KT0.out
          clear KS0 KS1 KT0 HSV KT
          go_wp2_with (first | (go_at_call 13; first | ((with_reducible refine (kM _ hb).mono ?_); rintro e W3 ⟨gt, ct, rfl, it, hb⟩) | ((with_reducible refine (KS _ hb).mono ?_); rintro e W3 ⟨rfl, hb⟩)) | (go_at_call 30; first | ((with_reducible refine (k30 _ _ hb it.sl).mono ?_); rintro e W3 ⟨rfl, hb⟩)) | (go_at_call 28; first | ((with_reducible refine (kLt _ hb).mono ?_); rintro e W3 ⟨rfl, _, hb⟩) | ((with_reducible refine (KL _ hb).mono ?_); rintro e W3 ⟨rfl, _, hb⟩)) | (go_at_call 20; first | ((with_reducible refine (kVt _ hb).mono ?_); rintro e W3 ⟨rfl, _, hb⟩) | ((with_reducible refine (k20s _ hb).mono ?_); rintro e W3 ⟨rfl, hv, hb⟩)) | (go_at_call 12; first | ((with_reducible refine (KTv _ hb).mono ?_); rintro e W3 ⟨rfl, hb⟩)))
          go_ret
          exact ⟨rfl, hb⟩
        · have KS := KS1.out rfl
          have KTv := KT.out rfl
          clear KS0 KS1 KT0 HSV KT
          go_wp2_with (first | (go_at_call 13; first | ((with_reducible refine (kM _ hb).mono ?_); rintro e W3 ⟨gt, ct, rfl, it, hb⟩) | ((with_reducible refine (KS _ hb).mono ?_); rintro e W3 ⟨gs, cs, rfl, is, hb⟩)) | (go_at_call 30; first | ((with_reducible refine (k30 _ _ hb it.sl).mono ?_); rintro e W3 ⟨rfl, hb⟩)) | (go_at_call 28; first | ((with_reducible refine (kLt _ hb).mono ?_); rintro e W3 ⟨rfl, _, hb⟩)) | (go_at_call 20; first | ((with_reducible refine (kVt _ hb).mono ?_); rintro e W3 ⟨rfl, _, hb⟩) | ((with_reducible refine (k20s _ hb).mono ?_); rintro e W3 ⟨rfl, hv, hb⟩)) | (go_at_call 12; first | ((with_reducible refine (KTv _ _ hb (is.below hv).sl).mono ?_); rintro e W3 ⟨rfl, hb⟩)))
          go_ret
          exact ⟨rfl, hb⟩
theorem back_any (v : Value) (l : List Int) (s : ByteArray) (w : World) (h : Sl v l w) (hT : Tabs w) :
    Calls Tryd.prog 6 #[v, .string s] w fun e w' => e = .returned (.bool true) ∧ Below w.heap.size w w' := by
  obtain ⟨a, cap, rfl, hc⟩ := h
  by_cases hl : 2000 < s.size ∨ 2000 < l.length
  · exact back_long a cap l.length s w hl hT
  · cases hal : l.all isZ
    · have e1 : textS l = ⟨#[]⟩ := by simp [textS, hal]
      have e2 : textE l = 3 := by simp [textE, hal]
      exact back_core a cap l.length _ 0 l _ [] s ⟨#[]⟩ 3 false _ w rfl (by omega) (by omega) hT hc hal e1 e2 rfl rfl rfl rfl rfl rfl (by decide) (fun h => by cases h) (fun _ => ⟨rfl, rfl⟩)
    · have e1 : textS l = ⟨(encD l).toArray⟩ := by simp [textS, hal]
      have e2 : textE l = 0 := by simp [textE, hal]
      have hz : (encD l).length ≤ 4 * l.length := encD_len l
      exact back_core a cap l.length _ l.length l _ l s ⟨(encD l).toArray⟩ 0 true _ w rfl (by omega) (by omega) hT hc hal e1 e2 rfl rfl rfl (valid_encD' l hal) (runes_encD' l hal) rfl (by show (encD l).toArray.size ≤ _; simp; omega) (fun _ => ⟨rfl, rfl, rfl⟩) (fun h => by cases h)
end Go.Proofs.YtjajeijeoohpoaaDoor
