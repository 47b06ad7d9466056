/- Plain laws on encoding and decoding of characters; of no program. -/
import Derived.Test.YtbbopdkbokbafaaGreatDoorNmRef
import Derived.Lib.BufferRead
namespace Go.Proofs.YtbbopdkbokbafaaGreatDoor
open Go.Lib
def encD (l : List Int) : List UInt8 := l.flatMap encodeRune
theorem byte_nat (x : Int) (_h0 : 0 ≤ x) (h1 : x < 256) : (x.toNat.toUInt8).toNat = x.toNat := by
  simp
  omega
/-- The four forms of a character's bytes. -/
theorem enc_forms (c : Int) (h : isZ c = true) :
    (c ≤ 127 ∧ encodeRune c = [c.toNat.toUInt8]) ∨
    (128 ≤ c ∧ c ≤ 2047 ∧ encodeRune c = [(192 + c / 64).toNat.toUInt8, (128 + c % 64).toNat.toUInt8]) ∨
    (2048 ≤ c ∧ c ≤ 65535 ∧ encodeRune c = [(224 + c / 4096).toNat.toUInt8, (128 + c / 64 % 64).toNat.toUInt8, (128 + c % 64).toNat.toUInt8]) ∨
    (65536 ≤ c ∧ encodeRune c = [(240 + c / 262144).toNat.toUInt8, (128 + c / 4096 % 64).toNat.toUInt8, (128 + c / 64 % 64).toNat.toUInt8, (128 + c % 64).toNat.toUInt8]) := by
  rw [isZ_def] at h
  unfold encodeRune
  by_cases h1 : c ≤ 127
  · exact Or.inl ⟨h1, by rw [encodeRuneZ_one h.1 h1]; rfl⟩
  · by_cases h2 : c ≤ 2047
    · exact Or.inr (Or.inl ⟨by omega, h2, by rw [encodeRuneZ_two (by omega) h2]; rfl⟩)
    · by_cases h3 : c ≤ 65535
      · exact Or.inr (Or.inr (Or.inl ⟨by omega, h3, by rw [encodeRuneZ_three (by omega)]; rfl⟩))
      · exact Or.inr (Or.inr (Or.inr ⟨by omega, by rw [encodeRuneZ_four (by omega) h.2.1]; rfl⟩))
theorem decode_enc (c : Int) (h : isZ c = true) (t : List UInt8) : decodeL (encodeRune c ++ t) = (c.toNat, (encodeRune c).length) := by
  have hz := (isZ_def c).1 h
  rcases enc_forms c h with ⟨h1, e⟩ | ⟨h1, h2, e⟩ | ⟨h1, h2, e⟩ | ⟨h1, e⟩
  · rw [e, decodeL_N]
    simp only [List.cons_append, List.nil_append, List.getD_cons_zero, List.length_cons, List.length_nil]
    rw [byte_nat c (by omega) (by omega)]
    unfold decodeN
    rw [if_pos (by omega)]
  · rw [e, decodeL_N]
    simp only [List.cons_append, List.nil_append, List.getD_cons_zero, List.getD_cons_succ, List.length_cons, List.length_nil]
    rw [byte_nat _ (by omega) (by omega), byte_nat _ (by omega) (by omega)]
    unfold decodeN
    rw [if_neg (by omega), if_pos (by omega), if_pos (by omega)]
    apply Prod.ext <;> simp only <;> omega
  · rw [e, decodeL_N]
    simp only [List.cons_append, List.nil_append, List.getD_cons_zero, List.getD_cons_succ, List.length_cons, List.length_nil]
    rw [byte_nat _ (by omega) (by omega), byte_nat _ (by omega) (by omega), byte_nat _ (by omega) (by omega)]
    unfold decodeN
    rw [if_neg (by omega), if_neg (by omega), if_pos (by omega), if_pos (by omega)]
    apply Prod.ext <;> simp only <;> omega
  · rw [e, decodeL_N]
    simp only [List.cons_append, List.nil_append, List.getD_cons_zero, List.getD_cons_succ, List.length_cons, List.length_nil]
    rw [byte_nat _ (by omega) (by omega), byte_nat _ (by omega) (by omega), byte_nat _ (by omega) (by omega), byte_nat _ (by omega) (by omega)]
    unfold decodeN
    rw [if_neg (by omega), if_neg (by omega), if_neg (by omega), if_pos (by omega), if_pos (by omega)]
    apply Prod.ext <;> simp only <;> omega
theorem enc_len (c : Int) : 1 ≤ (encodeRune c).length := by
  have := (encodeRuneZ_length c).1
  simpa [encodeRune] using this
theorem enc_ne (c : Int) (t : List UInt8) : encodeRune c ++ t ≠ [] := by
  intro e
  have h1 := (List.append_eq_nil_iff.1 e).1
  have h2 := enc_len c
  rw [h1] at h2
  simp at h2
theorem enc_not_bad (c : Int) (h : isZ c = true) : ¬ (c.toNat = 65533 ∧ (encodeRune c).length = 1) := by
  rintro ⟨h1, h2⟩
  rcases enc_forms c h with ⟨h3, e⟩ | ⟨h3, h4, e⟩ | ⟨h3, h4, e⟩ | ⟨h3, e⟩
  · omega
  all_goals rw [e] at h2; simp at h2
theorem valid_enc (c : Int) (h : isZ c = true) (t : List UInt8) : validD (encodeRune c ++ t) = validD t := by
  rw [validD_step _ (enc_ne c t), decode_enc c h t, if_neg (enc_not_bad c h)]
  simp
theorem runes_enc (c : Int) (h : isZ c = true) (t : List UInt8) : runesD (encodeRune c ++ t) = c :: runesD t := by
  rw [runesD_step _ (enc_ne c t), decode_enc c h t]
  have := ((isZ_def c).1 h).1
  simp [Int.toNat_of_nonneg this]
theorem encD_cons (c : Int) (l : List Int) : encD (c :: l) = encodeRune c ++ encD l := by simp [encD]
theorem encD_append (a b : List Int) : encD (a ++ b) = encD a ++ encD b := by simp [encD]
theorem valid_encD : ∀ (l : List Int) (t : List UInt8), l.all isZ = true → validD (encD l ++ t) = validD t
  | [], t, _ => rfl
  | c :: l, t, h => by
    simp only [List.all_cons, Bool.and_eq_true] at h
    rw [encD_cons, List.append_assoc, valid_enc c h.1, valid_encD l t h.2]
theorem runes_encD : ∀ (l : List Int) (t : List UInt8), l.all isZ = true → runesD (encD l ++ t) = l ++ runesD t
  | [], t, _ => rfl
  | c :: l, t, h => by
    simp only [List.all_cons, Bool.and_eq_true] at h
    rw [encD_cons, List.append_assoc, runes_enc c h.1, runes_encD l t h.2]
    rfl
theorem valid_encD' (l : List Int) (h : l.all isZ = true) : validD (encD l) = true := by
  have := valid_encD l [] h
  rw [List.append_nil] at this
  rw [this]; rfl
theorem runes_encD' (l : List Int) (h : l.all isZ = true) : runesD (encD l) = l := by
  have := runes_encD l [] h
  simpa [runesD_nil] using this
theorem decode_isZ (l : List UInt8) : isZ ((decodeL l).1 : Int) = true := by
  rw [isZ_def, decodeL_N]
  have k0 := (l.getD 0 0).toNat_lt
  have k1 := (l.getD 1 0).toNat_lt
  have k2 := (l.getD 2 0).toNat_lt
  have k3 := (l.getD 3 0).toNat_lt
  rcases decodeN_shape l.length (l.getD 0 0).toNat (l.getD 1 0).toNat (l.getD 2 0).toNat (l.getD 3 0).toNat with ⟨c, e⟩ | ⟨c1, c2, c3, cv, e⟩ | ⟨c1, c2, c3, c4, cv, cs, e⟩ | ⟨c1, c2, c3, c4, c5, cv, cw, e⟩ | e
  all_goals rw [e]; dsimp only; omega
theorem runesGo_isZ : ∀ (n : Nat) (l : List UInt8), (runesGo n l).all isZ = true
  | 0, l => rfl
  | n + 1, l => by
    unfold runesGo
    by_cases h : l = []
    · rw [if_pos h]; rfl
    · rw [if_neg h, List.all_cons, decode_isZ, runesGo_isZ n]; rfl
theorem runes_isZ (l : List UInt8) : (runesD l).all isZ = true := runesGo_isZ _ _
theorem encD_runesAux : ∀ (n : Nat) (l : List UInt8), l.length ≤ n → validD l = true → encD (runesD l) = l
  | 0, l, h, _ => by have : l = [] := List.length_eq_zero_iff.1 (by omega); subst this; rfl
  | n + 1, l, h, hv => by
    by_cases hl : l = []
    · subst hl; rfl
    · rw [validD_step l hl] at hv
      by_cases hb : (decodeL l).1 = 65533 ∧ (decodeL l).2 = 1
      · rw [if_pos hb] at hv; cases hv
      · rw [if_neg hb] at hv
        have hw := decodeL_width l
        rw [runesD_step l hl, encD_cons, encode_decode l hl hb, encD_runesAux n _ (by rw [List.length_drop]; omega) hv, List.take_append_drop]
theorem encD_runes (l : List UInt8) (h : validD l = true) : encD (runesD l) = l := encD_runesAux l.length l (Nat.le_refl _) h
/-- A character's first byte is no continuation byte; the others are. -/
theorem valid_append (s t : List UInt8) (hs : validD s = true) : validD (s ++ t) = validD t := by
  rw [← encD_runes s hs, valid_encD _ _ (runes_isZ s)]
theorem runes_append (s t : List UInt8) (hs : validD s = true) : runesD (s ++ t) = runesD s ++ runesD t := by
  conv => lhs; rw [← encD_runes s hs]
  rw [runes_encD _ _ (runes_isZ s)]
end Go.Proofs.YtbbopdkbokbafaaGreatDoor
