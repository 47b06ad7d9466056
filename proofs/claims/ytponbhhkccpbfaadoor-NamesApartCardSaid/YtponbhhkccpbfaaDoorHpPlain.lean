/- Plain laws on the characters of a list of bytes; of no program. -/
import Derived.Lib.MapLaws
import Derived.Lib.ValidLaws
import Derived.Lib.RuneCount
import Derived.Lib.Strings
namespace Go.Proofs.YtponbhhkccpbfaaDoor
open Go.Lib

/-- The characters of a list of bytes, as the decoder gives them. -/
def runesGo : Nat → List UInt8 → List Int
  | 0, _ => []
  | n + 1, l => if l = [] then [] else ((decodeL l).1 : Int) :: runesGo n (l.drop (decodeL l).2)
def runesD (l : List UInt8) : List Int := runesGo l.length l
theorem runesGo_fuel : ∀ (n : Nat) (l : List UInt8), l.length ≤ n → runesGo n l = runesGo l.length l
  | 0, l, h => by have : l = [] := List.length_eq_zero_iff.1 (by omega); subst this; rfl
  | n + 1, l, h => by
    by_cases hl : l = []
    · subst hl; rfl
    · have hp : 0 < l.length := List.length_pos_iff.2 hl
      have hw := decodeL_width l
      obtain ⟨m, hm⟩ : ∃ m, l.length = m + 1 := ⟨l.length - 1, by omega⟩
      rw [hm]
      simp only [runesGo, if_neg hl]
      have hd : (l.drop (decodeL l).2).length ≤ m := by rw [List.length_drop]; omega
      rw [runesGo_fuel n _ (by omega), runesGo_fuel m _ hd]
theorem runesD_nil : runesD [] = [] := rfl
theorem runesD_step (l : List UInt8) (hne : l ≠ []) : runesD l = ((decodeL l).1 : Int) :: runesD (l.drop (decodeL l).2) := by
  have hp : 0 < l.length := List.length_pos_iff.2 hne
  have hw := decodeL_width l
  obtain ⟨m, hm⟩ : ∃ m, l.length = m + 1 := ⟨l.length - 1, by omega⟩
  have hd : (l.drop (decodeL l).2).length ≤ m := by rw [List.length_drop]; omega
  unfold runesD
  rw [hm]
  simp only [runesGo, if_neg hne]
  rw [runesGo_fuel m _ hd]
theorem drop_ne {s : ByteArray} {pos : Nat} (h : pos < s.size) : s.data.toList.drop pos ≠ [] := by
  intro e
  have := congrArg List.length e
  simp at this
  omega
/-- The characters from a place on. -/
theorem runesD_at (s : ByteArray) (pos : Nat) (h : pos < s.size) : runesD (s.data.toList.drop pos) = ((Utf8.decode s pos).1 : Int) :: runesD (s.data.toList.drop (pos + (Utf8.decode s pos).2)) := by
  rw [runesD_step _ (drop_ne h), decodeL_drop, List.drop_drop]
theorem runesD_end (s : ByteArray) (pos : Nat) (h : ¬ pos < s.size) : runesD (s.data.toList.drop pos) = [] := by
  rw [List.drop_of_length_le (by simp; omega)]
  rfl
theorem runeCountFrom_eq (s : ByteArray) : ∀ (f pos : Nat), s.size - pos ≤ f → runeCountFrom s f pos = (runesD (s.data.toList.drop pos)).length
  | 0, pos, h => by rw [runesD_end s pos (by omega)]; rfl
  | f + 1, pos, h => by
    unfold runeCountFrom
    by_cases hp : pos < s.size
    · have hw := decode_width_pos s pos hp
      rw [if_pos hp, runesD_at s pos hp, List.length_cons, runeCountFrom_eq s f _ (by omega)]
      omega
    · rw [if_neg hp, runesD_end s pos hp]; rfl
theorem runeCount_eq (s : ByteArray) : runeCount s = (runesD s.data.toList).length := by
  have := runeCountFrom_eq s s.size 0 (by omega)
  simpa [runeCount] using this
end Go.Proofs.YtponbhhkccpbfaaDoor
