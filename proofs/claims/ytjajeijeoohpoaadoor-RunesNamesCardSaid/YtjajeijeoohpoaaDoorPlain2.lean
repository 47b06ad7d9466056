/- Plain laws on encoding and decoding of characters: each undoes the other; a text of characters that is cut at a place between characters; of no program. -/
import Derived.Test.YtjajeijeoohpoaaDoorPlain
import Derived.Test.YtjajeijeoohpoaaDoorText
namespace Go.Proofs.YtjajeijeoohpoaaDoor
open Go.Lib
theorem isZ_def (c : Int) : isZ c = true ↔ 0 ≤ c ∧ c ≤ 1114111 ∧ (c < 55296 ∨ 57343 < c) := by
  unfold isZ; simp; omega
theorem byte_nat (x : Int) (_h0 : 0 ≤ x) (h1 : x < 256) : (x.toNat.toUInt8).toNat = x.toNat := by
  simp
  omega
/-- The four forms of a character's bytes. -/
theorem enc_forms (c : Int) (h : isZ c = true) :
    (c ≤ 127 ∧ encodeRune c = [c.toNat.toUInt8]) ∨
    (128 ≤ c ∧ c ≤ 2047 ∧ encodeRune c = [(192 + c / 64).toNat.toUInt8, (128 + c % 64).toNat.toUInt8]) ∨
    (2048 ≤ c ∧ c ≤ 65535 ∧ encodeRune c = [(224 + c / 4096).toNat.toUInt8, (128 + c / 64 % 64).toNat.toUInt8, (128 + c % 64).toNat.toUInt8]) ∨
    (65536 ≤ c ∧ encodeRune c = [(240 + c / 262144).toNat.toUInt8, (128 + c / 4096 % 64).toNat.toUInt8, (128 + c / 64 % 64).toNat.toUInt8, (128 + c % 64).toNat.toUInt8]) := by
  rw [isZ_def] at h
  unfold encodeRune
  by_cases h1 : c ≤ 127
  · exact Or.inl ⟨h1, by rw [encodeRuneZ_one h.1 h1]; rfl⟩
  · by_cases h2 : c ≤ 2047
    · exact Or.inr (Or.inl ⟨by omega, h2, by rw [encodeRuneZ_two (by omega) h2]; rfl⟩)
    · by_cases h3 : c ≤ 65535
      · exact Or.inr (Or.inr (Or.inl ⟨by omega, h3, by rw [encodeRuneZ_three (by omega)]; rfl⟩))
      · exact Or.inr (Or.inr (Or.inr ⟨by omega, by rw [encodeRuneZ_four (by omega) h.2.1]; rfl⟩))
theorem decode_enc (c : Int) (h : isZ c = true) (t : List UInt8) : decodeL (encodeRune c ++ t) = (c.toNat, (encodeRune c).length) := by
  have hz := (isZ_def c).1 h
  rcases enc_forms c h with ⟨h1, e⟩ | ⟨h1, h2, e⟩ | ⟨h1, h2, e⟩ | ⟨h1, e⟩
  · rw [e, decodeL_N]
    simp only [List.cons_append, List.nil_append, List.getD_cons_zero, List.length_cons, List.length_nil]
    rw [byte_nat c (by omega) (by omega)]
    unfold decodeN
    rw [if_pos (by omega)]
  · rw [e, decodeL_N]
    simp only [List.cons_append, List.nil_append, List.getD_cons_zero, List.getD_cons_succ, List.length_cons, List.length_nil]
    rw [byte_nat _ (by omega) (by omega), byte_nat _ (by omega) (by omega)]
    unfold decodeN
    rw [if_neg (by omega), if_pos (by omega), if_pos (by omega)]
    apply Prod.ext <;> simp only <;> omega
  · rw [e, decodeL_N]
    simp only [List.cons_append, List.nil_append, List.getD_cons_zero, List.getD_cons_succ, List.length_cons, List.length_nil]
    rw [byte_nat _ (by omega) (by omega), byte_nat _ (by omega) (by omega), byte_nat _ (by omega) (by omega)]
    unfold decodeN
    rw [if_neg (by omega), if_neg (by omega), if_pos (by omega), if_pos (by omega)]
    apply Prod.ext <;> simp only <;> omega
  · rw [e, decodeL_N]
    simp only [List.cons_append, List.nil_append, List.getD_cons_zero, List.getD_cons_succ, List.length_cons, List.length_nil]
    rw [byte_nat _ (by omega) (by omega), byte_nat _ (by omega) (by omega), byte_nat _ (by omega) (by omega), byte_nat _ (by omega) (by omega)]
    unfold decodeN
    rw [if_neg (by omega), if_neg (by omega), if_neg (by omega), if_pos (by omega), if_pos (by omega)]
    apply Prod.ext <;> simp only <;> omega
theorem enc_len (c : Int) : 1 ≤ (encodeRune c).length := by
  have := (encodeRuneZ_length c).1
  simpa [encodeRune] using this
theorem enc_ne (c : Int) (t : List UInt8) : encodeRune c ++ t ≠ [] := by
  intro e
  have h1 := (List.append_eq_nil_iff.1 e).1
  have h2 := enc_len c
  rw [h1] at h2
  simp at h2
theorem enc_not_bad (c : Int) (h : isZ c = true) : ¬ (c.toNat = 65533 ∧ (encodeRune c).length = 1) := by
  rintro ⟨h1, h2⟩
  rcases enc_forms c h with ⟨h3, e⟩ | ⟨h3, h4, e⟩ | ⟨h3, h4, e⟩ | ⟨h3, e⟩
  · omega
  all_goals rw [e] at h2; simp at h2
theorem valid_enc (c : Int) (h : isZ c = true) (t : List UInt8) : validD (encodeRune c ++ t) = validD t := by
  rw [validD_step _ (enc_ne c t), decode_enc c h t, if_neg (enc_not_bad c h)]
  simp
theorem runes_enc (c : Int) (h : isZ c = true) (t : List UInt8) : runesD (encodeRune c ++ t) = c :: runesD t := by
  rw [runesD_step _ (enc_ne c t), decode_enc c h t]
  have := ((isZ_def c).1 h).1
  simp [Int.toNat_of_nonneg this]
theorem encD_cons (c : Int) (l : List Int) : encD (c :: l) = encodeRune c ++ encD l := by simp [encD]
theorem encD_append (a b : List Int) : encD (a ++ b) = encD a ++ encD b := by simp [encD]
theorem valid_encD : ∀ (l : List Int) (t : List UInt8), l.all isZ = true → validD (encD l ++ t) = validD t
  | [], t, _ => rfl
  | c :: l, t, h => by
    simp only [List.all_cons, Bool.and_eq_true] at h
    rw [encD_cons, List.append_assoc, valid_enc c h.1, valid_encD l t h.2]
theorem runes_encD : ∀ (l : List Int) (t : List UInt8), l.all isZ = true → runesD (encD l ++ t) = l ++ runesD t
  | [], t, _ => rfl
  | c :: l, t, h => by
    simp only [List.all_cons, Bool.and_eq_true] at h
    rw [encD_cons, List.append_assoc, runes_enc c h.1, runes_encD l t h.2]
    rfl
theorem valid_encD' (l : List Int) (h : l.all isZ = true) : validD (encD l) = true := by
  have := valid_encD l [] h
  rw [List.append_nil] at this
  rw [this]; rfl
theorem runes_encD' (l : List Int) (h : l.all isZ = true) : runesD (encD l) = l := by
  have := runes_encD l [] h
  simpa [runesD_nil] using this
theorem decode_isZ (l : List UInt8) : isZ ((decodeL l).1 : Int) = true := by
  rw [isZ_def, decodeL_N]
  have k0 := (l.getD 0 0).toNat_lt
  have k1 := (l.getD 1 0).toNat_lt
  have k2 := (l.getD 2 0).toNat_lt
  have k3 := (l.getD 3 0).toNat_lt
  rcases decodeN_shape l.length (l.getD 0 0).toNat (l.getD 1 0).toNat (l.getD 2 0).toNat (l.getD 3 0).toNat with ⟨c, e⟩ | ⟨c1, c2, c3, cv, e⟩ | ⟨c1, c2, c3, c4, cv, cs, e⟩ | ⟨c1, c2, c3, c4, c5, cv, cw, e⟩ | e
  all_goals rw [e]; dsimp only; omega
theorem runesGo_isZ : ∀ (n : Nat) (l : List UInt8), (runesGo n l).all isZ = true
  | 0, l => rfl
  | n + 1, l => by
    unfold runesGo
    by_cases h : l = []
    · rw [if_pos h]; rfl
    · rw [if_neg h, List.all_cons, decode_isZ, runesGo_isZ n]; rfl
theorem runes_isZ (l : List UInt8) : (runesD l).all isZ = true := runesGo_isZ _ _
theorem encD_runesAux : ∀ (n : Nat) (l : List UInt8), l.length ≤ n → validD l = true → encD (runesD l) = l
  | 0, l, h, _ => by have : l = [] := List.length_eq_zero_iff.1 (by omega); subst this; rfl
  | n + 1, l, h, hv => by
    by_cases hl : l = []
    · subst hl; rfl
    · rw [validD_step l hl] at hv
      by_cases hb : (decodeL l).1 = 65533 ∧ (decodeL l).2 = 1
      · rw [if_pos hb] at hv; cases hv
      · rw [if_neg hb] at hv
        have hw := decodeL_width l
        rw [runesD_step l hl, encD_cons, encode_decode l hl hb, encD_runesAux n _ (by rw [List.length_drop]; omega) hv, List.take_append_drop]
theorem encD_runes (l : List UInt8) (h : validD l = true) : encD (runesD l) = l := encD_runesAux l.length l (Nat.le_refl _) h
/-- A character's first byte is no continuation byte; the others are. -/
theorem enc_head (c : Int) (h : isZ c = true) (x : UInt8) (hx : (encodeRune c)[0]? = some x) : x.toNat < 128 ∨ 192 ≤ x.toNat := by
  have hz := (isZ_def c).1 h
  rcases enc_forms c h with ⟨h1, e⟩ | ⟨h1, h2, e⟩ | ⟨h1, h2, e⟩ | ⟨h1, e⟩
  all_goals
    rw [e] at hx
    simp only [List.getElem?_cons_zero, Option.some.injEq] at hx
    subst hx
    rw [byte_nat _ (by omega) (by omega)]
    omega
theorem enc_tail (c : Int) (h : isZ c = true) (j : Nat) (x : UInt8) (hx : (encodeRune c)[j + 1]? = some x) : 128 ≤ x.toNat ∧ x.toNat < 192 := by
  have hz := (isZ_def c).1 h
  rcases enc_forms c h with ⟨h1, e⟩ | ⟨h1, h2, e⟩ | ⟨h1, h2, e⟩ | ⟨h1, e⟩
  · rw [e] at hx; simp at hx
  · rw [e] at hx
    match j, hx with
    | 0, hx => simp only [List.getElem?_cons_succ, List.getElem?_cons_zero, Option.some.injEq] at hx; subst hx; rw [byte_nat _ (by omega) (by omega)]; omega
    | j + 1, hx => simp at hx
  · rw [e] at hx
    match j, hx with
    | 0, hx => simp only [List.getElem?_cons_succ, List.getElem?_cons_zero, Option.some.injEq] at hx; subst hx; rw [byte_nat _ (by omega) (by omega)]; omega
    | 1, hx => simp only [List.getElem?_cons_succ, List.getElem?_cons_zero, Option.some.injEq] at hx; subst hx; rw [byte_nat _ (by omega) (by omega)]; omega
    | j + 2, hx => simp at hx
  · rw [e] at hx
    match j, hx with
    | 0, hx => simp only [List.getElem?_cons_succ, List.getElem?_cons_zero, Option.some.injEq] at hx; subst hx; rw [byte_nat _ (by omega) (by omega)]; omega
    | 1, hx => simp only [List.getElem?_cons_succ, List.getElem?_cons_zero, Option.some.injEq] at hx; subst hx; rw [byte_nat _ (by omega) (by omega)]; omega
    | 2, hx => simp only [List.getElem?_cons_succ, List.getElem?_cons_zero, Option.some.injEq] at hx; subst hx; rw [byte_nat _ (by omega) (by omega)]; omega
    | j + 3, hx => simp at hx
/-- What stands before a text of characters, in a text of characters, is one. -/
theorem before_text : ∀ (l : List Int) (s : List UInt8) (m : List Int), l.all isZ = true → m.all isZ = true → m ≠ [] → s ++ encD m = encD l → ∃ l', l'.all isZ = true ∧ s = encD l'
  | [], s, m, _, _, hm, e => by
    have : encD m = [] := (List.append_eq_nil_iff.1 (show s ++ encD m = [] from e)).2
    cases m with
    | nil => exact absurd rfl hm
    | cons x m => rw [encD_cons] at this; exact absurd this (enc_ne x _)
  | c :: l, s, m, hl, hmz, hm, e => by
    simp only [List.all_cons, Bool.and_eq_true] at hl
    rw [encD_cons] at e
    by_cases hs : s = []
    · exact ⟨[], rfl, hs⟩
    · by_cases hlen : (encodeRune c).length ≤ s.length
      · obtain ⟨s', hs'⟩ : ∃ s', s = encodeRune c ++ s' := by
          refine ⟨s.drop (encodeRune c).length, ?_⟩
          have h1 := congrArg (List.take (encodeRune c).length) e
          rw [List.take_append_of_le_length hlen, List.take_left] at h1
          have h2 := (List.take_append_drop (encodeRune c).length s).symm
          rw [h1] at h2
          exact h2
        subst hs'
        rw [List.append_assoc, List.append_right_inj] at e
        obtain ⟨l', h1, h2⟩ := before_text l s' m hl.2 hmz hm e
        exact ⟨c :: l', by simp [hl.1, h1], by rw [encD_cons, ← h2]⟩
      · exfalso
        cases m with
        | nil => exact hm rfl
        | cons d m =>
          simp only [List.all_cons, Bool.and_eq_true] at hmz
          have hsl : 0 < s.length := List.length_pos_iff.2 hs
          have h1 : (s ++ encD (d :: m))[s.length]? = (encodeRune c ++ encD l)[s.length]? := by rw [e]
          rw [encD_cons, List.getElem?_append_right (Nat.le_refl _), Nat.sub_self, List.getElem?_append_left (enc_len d), List.getElem?_append_left (by omega)] at h1
          obtain ⟨j, hj⟩ : ∃ j, s.length = j + 1 := ⟨s.length - 1, by omega⟩
          obtain ⟨x, hx⟩ : ∃ x, (encodeRune d)[0]? = some x := ⟨_, List.getElem?_eq_getElem (enc_len d)⟩
          have h2 := enc_head d hmz.1 x hx
          rw [hx, hj] at h1
          have h3 := enc_tail c hl.1 j x h1.symm
          omega
/-- If what follows is a text and the whole is one, what stands before is one. -/
theorem valid_before (s t : List UInt8) (ht : validD t = true) (h : validD (s ++ t) = true) : validD s = true := by
  by_cases hn : t = []
  · subst hn; simpa using h
  · have e1 := encD_runes t ht
    have e2 := encD_runes (s ++ t) h
    have hm : runesD t ≠ [] := by
      intro e
      rw [e] at e1
      exact hn e1.symm
    obtain ⟨l', h1, h2⟩ := before_text (runesD (s ++ t)) s (runesD t) (runes_isZ _) (runes_isZ _) hm (by rw [e1, e2])
    rw [h2]
    exact valid_encD' l' h1
theorem valid_append (s t : List UInt8) (hs : validD s = true) : validD (s ++ t) = validD t := by
  rw [← encD_runes s hs, valid_encD _ _ (runes_isZ s)]
theorem runes_append (s t : List UInt8) (hs : validD s = true) : runesD (s ++ t) = runesD s ++ runesD t := by
  conv => lhs; rw [← encD_runes s hs]
  rw [runes_encD _ _ (runes_isZ s)]
end Go.Proofs.YtjajeijeoohpoaaDoor
