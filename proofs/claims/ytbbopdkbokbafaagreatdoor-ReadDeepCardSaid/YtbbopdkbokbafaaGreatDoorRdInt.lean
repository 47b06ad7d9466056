/- Integers in tokens: isInteger and valueOf. Condition of valueOf: strconv.ErrRange holds an error, or nil. -/
import Derived.Test.YtbbopdkbokbafaaGreatDoorRdTok
import Derived.Lib.ParseIntBTie
import Derived.Lib.ParseIntBCases
namespace Go.Proofs.YtbbopdkbokbafaaGreatDoor
open Go.RowKit Go.Lib
def digB (b : UInt8) : Bool := decide (48 ≤ b.toNat) && decide (b.toNat ≤ 57)
def unsB : List UInt8 → List UInt8
  | c :: r => if c.toNat = 43 ∨ c.toNat = 45 then r else c :: r
  | [] => []
def intB (l : List UInt8) : Bool := unsB l != [] && (unsB l).all digB
theorem unsigned_cons (c : Int) (r : List Int) : unsigned (c :: r) = if c = 43 ∨ c = 45 then r else c :: r := rfl
/-- A character's first byte tells whether it is ASCII. -/
theorem enc_first {c : Int} (h : isZ c = true) : (c ≤ 127 ∧ ∃ b : UInt8, encodeRune c = [b] ∧ b.toNat = c.toNat) ∨ (128 ≤ c ∧ ∃ b t, encodeRune c = b :: t ∧ 128 ≤ b.toNat) := by
  have hz := (isZ_def c).1 h
  rcases enc_forms c h with ⟨h1, e⟩ | ⟨h1, h2, e⟩ | ⟨h1, h2, e⟩ | ⟨h1, e⟩
  · exact .inl ⟨h1, _, e, byte_nat c hz.1 (by omega)⟩
  · refine .inr ⟨h1, _, _, e, ?_⟩
    rw [byte_nat _ (by omega) (by omega)]; omega
  · refine .inr ⟨by omega, _, _, e, ?_⟩
    rw [byte_nat _ (by omega) (by omega)]; omega
  · refine .inr ⟨by omega, _, _, e, ?_⟩
    rw [byte_nat _ (by omega) (by omega)]; omega
theorem dig_byte {c : Int} (h : isZ c = true) : (encodeRune c).all digB = isDig c := by
  have hz := (isZ_def c).1 h
  rcases enc_first h with ⟨h1, b, e, hb⟩ | ⟨h1, b, t, e, hb⟩
  · rw [e]
    simp only [List.all_cons, List.all_nil, Bool.and_true, digB, isDig, hb]
    congr 1 <;> (apply decide_eq_decide.2; omega)
  · rw [e]
    have h2 : digB b = false := by simp [digB]; omega
    have h3 : isDig c = false := by simp [isDig]; omega
    rw [List.all_cons, h2, h3]
    rfl
theorem all_dig : ∀ (l : List Int), l.all isZ = true → (encD l).all digB = l.all isDig
  | [], _ => rfl
  | c :: r, h => by
    simp only [List.all_cons, Bool.and_eq_true] at h
    rw [encD_cons, List.all_append, dig_byte h.1, all_dig r h.2]
    rfl
theorem uns_enc (l : List Int) (h : l.all isZ = true) : unsB (encD l) = encD (unsigned l) := by
  cases l with
  | nil => rfl
  | cons c r =>
    simp only [List.all_cons, Bool.and_eq_true] at h
    have hz := (isZ_def c).1 h.1
    rw [encD_cons, unsigned_cons]
    rcases enc_first h.1 with ⟨h1, b, e, hb⟩ | ⟨h1, b, t, e, hb⟩
    · rw [e]
      simp only [List.cons_append, List.nil_append, unsB, hb]
      by_cases hs : c = 43 ∨ c = 45
      · rw [if_pos hs, if_pos (by omega)]
      · rw [if_neg hs, if_neg (by omega), encD_cons, e]
        rfl
    · rw [e, if_neg (show ¬ (c = 43 ∨ c = 45) by omega)]
      simp only [List.cons_append, unsB]
      rw [if_neg (show ¬ (b.toNat = 43 ∨ b.toNat = 45) by omega), encD_cons, e]
      rfl
theorem uns_isZ {l : List Int} (h : l.all isZ = true) : (unsigned l).all isZ = true := by
  cases l with
  | nil => rfl
  | cons c r =>
    rw [unsigned_cons]
    by_cases hs : c = 43 ∨ c = 45
    · rw [if_pos hs]
      simp only [List.all_cons, Bool.and_eq_true] at h
      exact h.2
    · rw [if_neg hs]; exact h
theorem encD_nil {l : List Int} (h : encD l = []) : l = [] := by
  cases l with
  | nil => rfl
  | cons c r =>
    rw [encD_cons] at h
    exact absurd h (enc_ne c _)
theorem int_enc (l : List Int) (h : l.all isZ = true) : intB (encD l) = isIntC l := by
  unfold intB isIntC
  rw [uns_enc l h, all_dig _ (uns_isZ h)]
  congr 1
  by_cases e : unsigned l = []
  · rw [e]; rfl
  · have e2 : encD (unsigned l) ≠ [] := fun x => e (encD_nil x)
    exact (bne_iff_ne.2 e2).trans (bne_iff_ne.2 e).symm
theorem decV_ge : ∀ (l : List Int) (a : Nat), a ≤ decV l a
  | [], a => Nat.le_refl _
  | c :: r, a => by
    have := decV_ge r (a * 10 + (c - 48).toNat)
    unfold decV
    omega
theorem parse_dig : ∀ (l : List Int) (a : Nat), l.all isZ = true → l.all isDig = true → a ≤ 18446744073709551615 → parseUintM 18446744073709551615 a (encD l) = if decV l a ≤ 18446744073709551615 then .ok (decV l a) else .range
  | [], a, _, _, ha => by
    rw [show decV [] a = a from rfl, if_pos ha]
    rfl
  | c :: r, a, hz, hd, ha => by
    simp only [List.all_cons, Bool.and_eq_true] at hz hd
    have hc : 48 ≤ c ∧ c ≤ 57 := by have := hd.1; unfold isDig at this; simpa using this
    rcases enc_first hz.1 with ⟨h1, b, e, hb⟩ | ⟨h1, b, t, e, hb⟩
    · rw [encD_cons, e]
      simp only [List.cons_append, List.nil_append, parseUintM, hb]
      have hge := decV_ge r (a * 10 + (c - 48).toNat)
      have hdv : decV (c :: r) a = decV r (a * 10 + (c - 48).toNat) := rfl
      rw [hdv]
      rw [show c.toNat - 48 = (c - 48).toNat by omega]
      rw [if_pos (by omega)]
      by_cases k1 : 1844674407370955162 ≤ a
      · rw [if_pos k1, if_neg (by omega)]
      · rw [if_neg k1]
        by_cases k2 : 18446744073709551615 < a * 10 + (c - 48).toNat
        · rw [if_pos k2, if_neg (by omega)]
        · rw [if_neg k2]
          exact parse_dig r _ hz.2 hd.2 (by omega)
    · omega
/-- What ParseInt answers to a token that is an integer. -/
theorem parse_int {l : List Int} (hz : l.all isZ = true) (hi : isIntC l = true) : parseIntB 64 (encD l) = .ok (intV l) ∨ (parseIntB 64 (encD l) = .range ∧ (intV l < -9223372036854775808 ∨ 9223372036854775807 < intV l)) := by
  unfold isIntC at hi
  simp only [Bool.and_eq_true, bne_iff_ne, ne_eq] at hi
  obtain ⟨hne, hd⟩ := hi
  have hp := parse_dig (unsigned l) 0 (uns_isZ hz) hd (by decide)
  have hu : parseUintB 64 (encD (unsigned l)) = if decV (unsigned l) 0 ≤ 18446744073709551615 then .ok (decV (unsigned l) 0) else .range := by
    unfold parseUintB
    rw [if_neg (fun e => hne (encD_nil e))]
    exact hp
  clear hp
  cases l with
  | nil => exact absurd rfl hne
  | cons c r =>
    simp only [List.all_cons, Bool.and_eq_true] at hz
    have hc := (isZ_def c).1 hz.1
    by_cases hm : c = 45
    · subst hm
      have e1 : unsigned (45 :: r) = r := rfl
      rw [e1] at hu
      have e2 : intV (45 :: r) = -(decV r 0 : Int) := by unfold intV; rw [e1]; rfl
      have e3 : encD (45 :: r) = 45 :: encD r := by rw [encD_cons]; rfl
      rw [e2, e3, parseIntB_minus, hu]
      by_cases k : decV r 0 ≤ 18446744073709551615
      · rw [if_pos k]
        unfold signedC
        simp only
        by_cases k2 : 2 ^ (64 - 1) < decV r 0
        · rw [if_pos k2]; exact .inr ⟨rfl, .inl (by omega)⟩
        · rw [if_neg k2]; exact .inl rfl
      · rw [if_neg k]; exact .inr ⟨rfl, .inl (by omega)⟩
    · have e2 : intV (c :: r) = (decV (unsigned (c :: r)) 0 : Int) := by
        unfold intV
        rw [if_neg (by simpa using hm)]
      rw [e2]
      have key : parseIntB 64 (encD (c :: r)) = signlessC (2 ^ (64 - 1)) (parseUintB 64 (encD (unsigned (c :: r)))) := by
        by_cases hp : c = 43
        · subst hp
          have e3 : encD (43 :: r) = 43 :: encD r := by rw [encD_cons]; rfl
          rw [e3, parseIntB_plus]
          rfl
        · have e1 : unsigned (c :: r) = c :: r := by rw [unsigned_cons, if_neg (by omega)]
          rw [e1, encD_cons]
          rcases enc_first hz.1 with ⟨h1, b, e, hb⟩ | ⟨h1, b, t, e, hb⟩
          · rw [e]; exact parseIntB_plain 64 b _ (by omega) (by omega)
          · rw [e]; exact parseIntB_plain 64 b _ (by omega) (by omega)
      rw [key, hu]
      by_cases k : decV (unsigned (c :: r)) 0 ≤ 18446744073709551615
      · rw [if_pos k]
        unfold signlessC
        simp only
        by_cases k2 : 2 ^ (64 - 1) ≤ decV (unsigned (c :: r)) 0
        · rw [if_pos k2]; exact .inr ⟨rfl, .inr (by omega)⟩
        · rw [if_neg k2]; exact .inl rfl
      · rw [if_neg k]; exact .inr ⟨rfl, .inr (by omega)⟩
theorem dropWhile_all {α : Type} (p : α → Bool) : ∀ l : List α, l.dropWhile p = [] ↔ l.all p = true
  | [] => by simp
  | c :: r => by
    have ih := dropWhile_all p r
    by_cases h : p c = true
    · rw [List.dropWhile_cons, if_pos h, ih, List.all_cons, h, Bool.true_and]
    · rw [List.dropWhile_cons, if_neg h, List.all_cons]
      simp [h]
def digS : ByteArray := ⟨#[48, 49, 50, 51, 52, 53, 54, 55, 56, 57]⟩
theorem digS_all : ∀ n : Fin 256, digS.data.toList.contains (UInt8.ofNat n.val) = digB (UInt8.ofNat n.val) := by decide +kernel
theorem digS_has (b : UInt8) : digS.data.toList.contains b = digB b := by
  have := digS_all ⟨b.toNat, b.toNat_lt⟩
  simpa using this
/-- Trimming the digits leaves nothing just of digits. -/
theorem trim_digits (l : List UInt8) : trimS l digS.data.toList = [] ↔ l.all digB = true := by
  have hf : (fun b => digS.data.toList.contains b) = digB := funext digS_has
  unfold trimS trimLeftS trimRightS
  rw [hf]
  constructor
  · intro h
    have h1 := (dropWhile_all digB _).1 h
    cases hd : l.reverse.dropWhile digB with
    | nil =>
      have := (dropWhile_all digB _).1 hd
      simpa using this
    | cons c r =>
      have hn := List.head?_dropWhile_not digB l.reverse
      rw [hd] at hn h1
      simp at hn h1
      exact absurd h1.2 (by rw [hn]; decide)
  · intro h
    have : l.reverse.dropWhile digB = [] := (dropWhile_all digB _).2 (by simpa using h)
    rw [this]
    rfl
/-- strconv.ErrRange holds an error, or nil. -/
def Errs (w : World) : Prop := ∃ ev, w.cell? ⟨4, 0, none⟩ = some ev ∧ (ev = .nilIface ∨ ∃ te pe, ev = .iface te pe)
theorem Errs.below {B : Nat} {w w' : World} (h : Errs w) (hb : Below B w w') (hB : w.heap.size ≤ B) : Errs w' := by
  obtain ⟨ev, h1, h2⟩ := h
  refine ⟨ev, ?_, h2⟩
  rw [hb.cell]
  · exact h1
  · have := World.block_lt_of_cell? _ _ h1
    simp only at this ⊢
    omega
theorem trim_any (s cs : ByteArray) (w : World) (hs : s.size ≤ 9223372036854775807) (hcs : cs.size < 4294967281) (ha : ∀ (j : Nat) b, cs.data.toList[j]? = some b → b.toNat < 128) :
    Calls Tryz.prog 229 #[.string s, .string cs] w fun e w' => e = .returned (.string ⟨(trimS s.data.toList cs.data.toList).toArray⟩) ∧ Below w.heap.size w w' :=
  Any.strings_Trim_laid Tryz.lays160 (by kernel_rfl) s cs w hs hcs ha
theorem digS_ascii : ∀ (j : Nat) b, digS.data.toList[j]? = some b → b.toNat < 128 := Go.Proofs.ascii_of_all (by decide)
theorem int_trim (s d : ByteArray) (hu : unsB s.data.toList = d.data.toList) : intB s.data.toList = (!d.toList.isEmpty && (trimS d.data.toList digS.data.toList).isEmpty) := by
  unfold intB
  rw [hu, ByteArray.toList_eq]
  have h := trim_digits d.data.toList
  generalize trimS d.data.toList digS.data.toList = b at *
  congr 1
  · cases d.data.toList <;> rfl
  · cases hb : d.data.toList.all digB with
    | true => rw [h.2 hb]; rfl
    | false =>
      cases b with
      | nil => exact absurd (h.1 rfl) (by rw [hb]; decide)
      | cons c r => rfl
theorem uns_of {l : List UInt8} {c : UInt8} (h : hasPrefix l [c] = true) (hc : c = 43 ∨ c = 45) : ∃ r, l = c :: r ∧ unsB l = r := by
  cases l with
  | nil => cases h
  | cons x r =>
    have : c = x := by simpa [hasPrefix] using h
    subst this
    refine ⟨r, rfl, ?_⟩
    unfold unsB
    rcases hc with rfl | rfl <;> rfl
theorem uns_no {l : List UInt8} (h : hasPrefix l [43] = false) (h2 : hasPrefix l [45] = false) : unsB l = l := by
  cases l with
  | nil => rfl
  | cons x r =>
    have e1 : ¬ x.toNat = 43 := fun e => by
      have : x = 43 := UInt8.toNat_inj.1 e
      subst this
      simp [hasPrefix] at h
    have e2 : ¬ x.toNat = 45 := fun e => by
      have : x = 45 := UInt8.toNat_inj.1 e
      subst this
      simp [hasPrefix] at h2
    unfold unsB
    simp only
    rw [if_neg (by omega)]
theorem extract_one (s : ByteArray) {c : UInt8} {r : List UInt8} (h : s.data.toList = c :: r) : (s.extract 1 s.size).data.toList = r := by
  have hs : s.size = r.length + 1 := by
    have := congrArg List.length h
    simpa using this
  rw [ByteArray.data_extract]
  simp [Array.toList_extract, List.extract, h, hs]
set_option maxHeartbeats 1000000 in
theorem isInteger_any (s : ByteArray) (w : World) (hs : s.size ≤ 1000000) :
    Calls Tryz.prog 169 #[.string s] w fun e w' => e = .returned (.bool (intB s.data.toList)) ∧ Below w.heap.size w w' := by
  have cP := fun p W => Tryz.strings_HasPrefix s p W
  by_cases h1 : hasPrefix s.data.toList [43] = true
  · obtain ⟨r, e1, e2⟩ := uns_of h1 (.inl rfl)
    have hu : unsB s.data.toList = (s.extract 1 s.size).data.toList := by rw [e2, extract_one s e1]
    have hz : 1 ≤ (s.size : Int) := by have := congrArg List.length e1; simp at this; omega
    have hsz : (s.extract 1 s.size).size ≤ 9223372036854775807 := by simp [ByteArray.size_extract]; omega
    have h1k := h1
    clear e1 e2
    rw [int_trim s (s.extract 1 s.size) hu]
    have cT := fun W => trim_any (s.extract 1 s.size) digS W (hsz) (by decide) digS_ascii
    by_cases h3 : ((s.extract 1 s.size)).toList = []
    · rw [h3]
      clear hu h1k
      go_enter Tryz.func169, Tryz.ntmps169
      go_wp2_with (first | (go_at_call 228; ((with_reducible refine (cP _ _).mono ?_); rintro e w' ⟨rfl, rfl⟩)) | (go_at_call 229; refine (cT _).mono ?_; rintro e W ⟨rfl, hb⟩))
      go_ret
      exact ⟨rfl, Below.refl _ _⟩
    · generalize trimS ((s.extract 1 s.size)).data.toList digS.data.toList = b at *
      clear hu h1k
      go_enter Tryz.func169, Tryz.ntmps169
      go_wp2_with (first | (go_at_call 228; ((with_reducible refine (cP _ _).mono ?_); rintro e w' ⟨rfl, rfl⟩)) | (go_at_call 229; refine (cT _).mono ?_; rintro e W ⟨rfl, hb⟩))
      go_ret
      exact ⟨by simp, hb⟩
  · have h1' : hasPrefix s.data.toList [43] = false := by simpa using h1
    by_cases h2 : hasPrefix s.data.toList [45] = true
    · obtain ⟨r, e1, e2⟩ := uns_of h2 (.inr rfl)
      have hu : unsB s.data.toList = (s.extract 1 s.size).data.toList := by rw [e2, extract_one s e1]
      have hz : 1 ≤ (s.size : Int) := by have := congrArg List.length e1; simp at this; omega
      have hsz : (s.extract 1 s.size).size ≤ 9223372036854775807 := by simp [ByteArray.size_extract]; omega
      clear e1 e2
      rw [int_trim s (s.extract 1 s.size) hu]
      have cT := fun W => trim_any (s.extract 1 s.size) digS W (hsz) (by decide) digS_ascii
      by_cases h3 : ((s.extract 1 s.size)).toList = []
      · rw [h3]
        clear hu h1
        go_enter Tryz.func169, Tryz.ntmps169
        go_wp2_with (first | (go_at_call 228; ((with_reducible refine (cP _ _).mono ?_); rintro e w' ⟨rfl, rfl⟩)) | (go_at_call 229; refine (cT _).mono ?_; rintro e W ⟨rfl, hb⟩))
        go_ret
        exact ⟨rfl, Below.refl _ _⟩
      · generalize trimS ((s.extract 1 s.size)).data.toList digS.data.toList = b at *
        clear hu h1
        go_enter Tryz.func169, Tryz.ntmps169
        go_wp2_with (first | (go_at_call 228; ((with_reducible refine (cP _ _).mono ?_); rintro e w' ⟨rfl, rfl⟩)) | (go_at_call 229; refine (cT _).mono ?_; rintro e W ⟨rfl, hb⟩))
        go_ret
        exact ⟨by simp, hb⟩
    · have h2' : hasPrefix s.data.toList [45] = false := by simpa using h2
      have hu : unsB s.data.toList = s.data.toList := uns_no h1' h2'
      clear h2
      rw [int_trim s s hu]
      have cT := fun W => trim_any s digS W (by omega) (by decide) digS_ascii
      by_cases h3 : (s).toList = []
      · rw [h3]
        clear hu h1
        go_enter Tryz.func169, Tryz.ntmps169
        go_wp2_with (first | (go_at_call 228; ((with_reducible refine (cP _ _).mono ?_); rintro e w' ⟨rfl, rfl⟩)) | (go_at_call 229; refine (cT _).mono ?_; rintro e W ⟨rfl, hb⟩))
        go_ret
        exact ⟨rfl, Below.refl _ _⟩
      · generalize trimS (s).data.toList digS.data.toList = b at *
        clear hu h1
        go_enter Tryz.func169, Tryz.ntmps169
        go_wp2_with (first | (go_at_call 228; ((with_reducible refine (cP _ _).mono ?_); rintro e w' ⟨rfl, rfl⟩)) | (go_at_call 229; refine (cT _).mono ?_; rintro e W ⟨rfl, hb⟩))
        go_ret
        exact ⟨by simp, hb⟩
end Go.Proofs.YtbbopdkbokbafaaGreatDoor
