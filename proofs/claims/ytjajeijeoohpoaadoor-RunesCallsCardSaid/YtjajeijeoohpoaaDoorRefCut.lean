/- The contracts of the reference's Cut and of copyistkit.Own. Conditions: a string of at most 100,000 bytes, a slice of at most 65,536 ints. -/
import Derived.Test.YtjajeijeoohpoaaDoorRefText
import Derived.Test.YtjajeijeoohpoaaDoorRefList2
import Derived.Test.YtjajeijeoohpoaaDoorCut
namespace Go.Proofs.YtjajeijeoohpoaaDoor
open Go.RowKit Go.Lib
set_option maxHeartbeats 400000 in
theorem refCut_not (s : ByteArray) (a b : Int) (w : World) (hs : s.size ≤ 100000) (hv : validD s.data.toList = false) :
    Calls Tryd.prog 23 #[.string s, .int .i64 a, .int .i64 b] w fun e w' => e = .returned (.tuple #[.string ⟨#[]⟩, .int .i64 5]) ∧ Below w.heap.size w w' := by
  have cL := refList_not s w hs hv
  clear hv
  go_enter Tryd.func23, Tryd.ntmps23
  go_wp2_with (go_at_call 24; ((with_reducible refine cL.mono ?_); rintro e w' ⟨rfl, hb⟩))
  go_ret2
  exact ⟨rfl, hb⟩
set_option maxHeartbeats 400000 in
theorem refCut_out (s : ByteArray) (a b : Int) (n : Nat) (w : World) (hs : s.size ≤ 100000) (hv : validD s.data.toList = true) (hn : (runesD s.data.toList).length = n) (h : a < 0 ∨ b < a ∨ (n : Int) < b) :
    Calls Tryd.prog 23 #[.string s, .int .i64 a, .int .i64 b] w fun e w' => e = .returned (.tuple #[.string ⟨#[]⟩, .int .i64 3]) ∧ Below w.heap.size w w' := by
  have cL := refList_valid s _ n w hs hv rfl hn
  clear hv hn
  by_cases h1 : a < 0
  · clear h
    go_enter Tryd.func23, Tryd.ntmps23
    go_wp2_with (go_at_call 24; ((with_reducible refine cL.mono ?_); rintro e w' ⟨a2, cap, rfl, _, hb⟩))
    go_ret2
    exact ⟨rfl, hb⟩
  · by_cases h2 : b < a
    · clear h
      go_enter Tryd.func23, Tryd.ntmps23
      go_wp2_with (go_at_call 24; ((with_reducible refine cL.mono ?_); rintro e w' ⟨a2, cap, rfl, _, hb⟩))
      go_ret2
      exact ⟨rfl, hb⟩
    · have h3 : (n : Int) < b := by omega
      clear h
      go_enter Tryd.func23, Tryd.ntmps23
      go_wp2_with (go_at_call 24; ((with_reducible refine cL.mono ?_); rintro e w' ⟨a2, cap, rfl, _, hb⟩))
      go_ret2
      exact ⟨rfl, hb⟩
theorem drop_take_snoc (l : List Int) (A k : Nat) (x : Int) (hA : A ≤ k) (h : l[k]? = some x) : (l.drop A).take (k + 1 - A) = (l.drop A).take (k - A) ++ [x] := by
  have h1 : (l.drop A)[k - A]? = some x := by rw [List.getElem?_drop, show A + (k - A) = k by omega]; exact h
  rw [show k + 1 - A = k - A + 1 by omega]
  exact take_snoc_int _ _ _ h1
set_option maxHeartbeats 1000000 in
theorem refCut_in (s : ByteArray) (A B n : Nat) (l : List Int) (w : World) (hs : s.size ≤ 100000) (hv : validD s.data.toList = true) (hl : runesD s.data.toList = l) (hn : l.length = n) (hAB : A ≤ B) (hBn : B ≤ n) :
    Calls Tryd.prog 23 #[.string s, .int .i64 A, .int .i64 B] w fun e w' => e = .returned (.tuple #[.string ⟨(encD ((l.drop A).take (B - A))).toArray⟩, .int .i64 0]) ∧ Below w.heap.size w w' := by
  have cL := refList_valid s l n w hs hv hl hn
  have hn2 : n ≤ 100000 := by have := runes_len_le s; rw [hl] at this; omega
  have hz : l.all isZ = true := by rw [← hl]; exact runes_isZ _
  obtain ⟨rs, hrs⟩ : ∃ rs : ByteArray, (⟨(encD ((l.drop A).take (B - A))).toArray⟩ : ByteArray) = rs := ⟨_, rfl⟩
  rw [hrs]
  have q1 : ¬ (A : Int) < 0 := by omega
  have q2 : ¬ (B : Int) < (A : Int) := by omega
  have q3 : ¬ (n : Int) < (B : Int) := by omega
  have d1 : decide (B < A) = false := decide_eq_false (by omega)
  have d2 : decide (n < B) = false := decide_eq_false (by omega)
  have d3 : decide ((A : Int) < 0) = false := decide_eq_false (by omega)
  have HN : Hid _ := Lib.hid (And.intro hn (And.intro hz hrs))
  clear hv hl hn hz hrs
  go_enter Tryd.func23, Tryd.ntmps23
  go_wp2_with (go_at_call 24; ((with_reducible refine cL.mono ?_); rintro e W1 ⟨a2, cap, rfl, hI, hb⟩))
  clear cL
  have HI : Hid _ := Lib.hid hI
  have hbz := hb.size
  have HB1 : Hid _ := Lib.hid hb
  clear hI hb
  go_loopw [10, 11] (fun v i wr => ∃ (k : Nat) (o : ByteArray), v = .string o ∧ i = .int .i64 k ∧ A ≤ k ∧ k ≤ B ∧ o.size ≤ 4 * k ∧ Below W1.heap.size W1 wr ∧ Hid (o.data.toList = encD ((l.drop A).take (k - A)))) (fun _ i _ => B - (intOf i).toNat)
  case atStart => exact ⟨A, ⟨#[]⟩, rfl, rfl, Nat.le_refl _, hAB, Nat.zero_le _, Below.refl _ _, Lib.hid (by simp [encD])⟩
  case round =>
    obtain ⟨k, o, rfl, rfl, hAk, hkB, hos, hbw, HO⟩ := hrel
    by_cases hlt : (k : Int) < (B : Int)
    · obtain ⟨x, hx⟩ : ∃ x, l[k]? = some x := ⟨l[k]'(by have := HN.out.1; omega), List.getElem?_eq_getElem _⟩
      have hzx : isZ x = true := by
        have h1 := HN.out.2.1
        rw [List.all_eq_true] at h1
        exact h1 x (List.mem_of_getElem? hx)
      obtain ⟨a3, cap3, hv3, hc3⟩ := (HI.out.below hbw).sl
      obtain ⟨b, off, ha, hbl, hcell⟩ := hc3 k x hx
      simp only [Value.slice.injEq] at hv3
      have ha2 : a2 = some ⟨b, off, none⟩ := hv3.1.trans ha
      clear hc3 hv3 ha
      subst ha2
      have hsn := drop_take_snoc l A k x hAk hx
      have cB := fun W => bytes_any x W hzx
      obtain ⟨pt, hpt⟩ : ∃ pt : ByteArray, (⟨(encodeRune x).toArray⟩ : ByteArray) = pt := ⟨_, rfl⟩
      have hps : pt.size ≤ 4 := by
        rw [← hpt]
        have := (encodeRuneZ_length x).2
        show (encodeRune x).toArray.size ≤ 4
        simpa [encodeRune] using this
      have hconv : (convert 46 9 (.slice (some ⟨wr.heap.size, 0, none⟩) (runeCells x).length (runeCells x).length)).run Tryd.prog (wr.alloc (.cells (runeCells x).toArray 5)) = .ok (.string pt) (wr.alloc (.cells (runeCells x).toArray 5)) := by
        rw [← hpt, runeCells_length]
        refine run_convert_bytes_back _ 46 9 5 ⟨wr.heap.size, 0, none⟩ _ (encodeRune x) Tryd.underlying46 Tryd.underlying5 Tryd.underlying9 (fun j hj => ?_)
        rw [new_cells wr (runeCells x) j (.int .u8 ((encodeRune x)[j].toNat : Int)) (by rw [← byteCells_encodeRune]; simp [byteCells, hj])]
      obtain ⟨rc, hrc⟩ : ∃ rc, runeCells x = rc := ⟨_, rfl⟩
      rw [hrc] at cB hconv
      have HX : Hid ((o ++ pt).data.toList = encD ((l.drop A).take (k + 1 - A)) ∧ (o ++ pt).size = o.size + pt.size) := Lib.hid ⟨by rw [cat_data, HO.out, hsn, encD_snoc, ← hpt], by simp⟩
      have HB : Hid _ := Lib.hid hbw
      clear hsn hpt hrc hx hzx HO hbw
      go_wp2_with (go_at_call 45; ((with_reducible refine (cB _).mono ?_); rintro e w' ⟨rfl, rfl⟩))
      go_roundw
      case rel => exact ⟨k + 1, o ++ pt, rfl, by go_num, by omega, by omega, by rw [HX.out.2]; omega, HB.out.alloc HB.out.size _, Lib.hid HX.out.1⟩
      case measure => simp [intOf]; omega
    · have hkB2 : k = B := by omega
      subst hkB2
      have e1 : o = rs := by rw [← HN.out.2.2]; exact ba_of o _ HO.out
      subst e1
      have HB : Hid _ := Lib.hid hbw
      clear HO HN hbw
      go_wp2
      go_ret2
      exact ⟨rfl, HB1.out.trans (HB.out.mono hbz)⟩
theorem refCut_any (s : ByteArray) (a b : Int) (w : World) (hs : s.size ≤ 100000) :
    Calls Tryd.prog 23 #[.string s, .int .i64 a, .int .i64 b] w fun e w' => e = .returned (.tuple #[.string (cutS s.data.toList a b), .int .i64 (cutE s.data.toList a b)]) ∧ Below w.heap.size w w' := by
  unfold cutS cutE
  cases hv : validD s.data.toList
  · rw [if_neg (by simp), if_neg (by simp)]
    exact refCut_not s a b w hs hv
  · by_cases h : 0 ≤ a ∧ a ≤ b ∧ b ≤ ((runesD s.data.toList).length : Int)
    · rw [if_pos ⟨rfl, h⟩, if_pos rfl, if_pos h]
      obtain ⟨a', rfl⟩ : ∃ n : Nat, a = n := ⟨a.toNat, by omega⟩
      obtain ⟨b', rfl⟩ : ∃ n : Nat, b = n := ⟨b.toNat, by omega⟩
      have := refCut_in s a' b' _ _ w hs hv rfl rfl (by omega) (by omega)
      rwa [show ((b' : Int) - (a' : Int)).toNat = b' - a' by omega]
    · rw [if_neg (fun q => h q.2), if_pos rfl, if_neg h]
      exact refCut_out s a b _ w hs hv rfl (by omega)
end Go.Proofs.YtjajeijeoohpoaaDoor
