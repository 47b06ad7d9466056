/- Plain laws on the tables of runes and of the reference: they give the same numbers; the laws of case. -/
import Derived.Test.YtjajeijeoohpoaaDoorRef3
import Derived.Test.YtjajeijeoohpoaaDoorChars2
namespace Go.Proofs.YtjajeijeoohpoaaDoor
open Go.RowKit Go.Lib
def upZ (c : Int) : Int := c - (findL spansUp c).1
def downZ (c : Int) : Int := c + (findL spansDown c).1
def foldZ (c : Int) : Int := downZ (upZ c)
def wordZ (c : Int) : Bool := (findL spansWord c).2
def widZ (c : Int) : Int := if isZ c = true then (if (findL spansWidth c).2 = true then (findL spansWidth c).1 else 1) else 0
theorem up_small (c : Int) : upZ c = (smallZ c).1 := by
  unfold upZ smallZ
  simp only [spansUp, findL]
  repeat' split
  all_goals dsimp only at *
  all_goals omega
theorem up_cases (c : Int) : (upZ c = c ∧ (findL spansUp c).1 = 0) ∨ (97 ≤ c ∧ c ≤ 1119 ∧ 0 ≤ (findL spansUp c).1 ∧ (findL spansUp c).1 ≤ 80) := by
  unfold upZ
  simp only [spansUp, findL]
  repeat' split
  all_goals dsimp only at *
  all_goals omega
theorem down_cases (c : Int) : (downZ c = c ∧ (findL spansDown c).1 = 0) ∨ (65 ≤ c ∧ c ≤ 1071 ∧ 0 ≤ (findL spansDown c).1 ∧ (findL spansDown c).1 ≤ 80) := by
  unfold downZ
  simp only [spansDown, findL]
  repeat' split
  all_goals dsimp only at *
  all_goals omega
theorem smallZ_two (c : Int) : ((smallZ c).2 = true) ↔ ((97 ≤ c ∧ c ≤ 122) ∨ (224 ≤ c ∧ c ≤ 254 ∧ c ≠ 247) ∨ (945 ≤ c ∧ c ≤ 969 ∧ c ≠ 962) ∨ (1072 ≤ c ∧ c ≤ 1103)) ∨ (1104 ≤ c ∧ c ≤ 1119) ∨ c = 962 := by
  unfold smallZ
  repeat' split
  all_goals simp only [true_iff, Bool.false_eq_true, false_iff]
  all_goals omega
theorem smallZ_val (c : Int) : (smallZ c).1 = if (97 ≤ c ∧ c ≤ 122) ∨ (224 ≤ c ∧ c ≤ 254 ∧ c ≠ 247) ∨ (945 ≤ c ∧ c ≤ 969 ∧ c ≠ 962) ∨ (1072 ≤ c ∧ c ≤ 1103) then c - 32 else if 1104 ≤ c ∧ c ≤ 1119 then c - 80 else if c = 962 then 931 else c := by
  unfold smallZ
  repeat' split
  all_goals rfl
theorem downR_out' (c : Int) (h : c < 65 ∨ 1200 ≤ c) : downR c = c := by
  unfold downR
  by_cases h1 : c < 0 ∨ 1114111 < c
  · rw [if_pos h1]
  · rw [if_neg h1, if_neg (by rw [smallZ_two]; omega), if_neg (by rw [smallZ_two, smallZ_val]; omega)]
set_option maxRecDepth 100000 in
theorem down_same_in : ∀ c : Fin 1200, downZ (c.val : Int) = downR (c.val : Int) := by decide +kernel
theorem down_same (c : Int) : downZ c = downR c := by
  by_cases h : 0 ≤ c ∧ c < 1200
  · have := down_same_in ⟨c.toNat, by omega⟩
    simpa [Int.toNat_of_nonneg h.1] using this
  · rw [downR_out' c (by omega)]
    rcases down_cases c with h' | h'
    · exact h'.1
    · omega
/-- One after another, and apart. -/
theorem findL_in (n : Int → Bool) : ∀ (l : List (Int × Int × Int)) (c : Int), l.Pairwise (fun x y => x.2.1 < y.1) → l.all (fun x => decide (x.1 ≤ x.2.1)) = true → inL ((l.filter (fun x => n x.2.2)).map fun x => (x.1, x.2.1)) c = ((findL l c).2 && n (findL l c).1)
  | [], c, _, _ => by simp [inL, findL]
  | x :: l, c, hp, ha => by
    obtain ⟨hx, hp'⟩ := List.pairwise_cons.1 hp
    simp only [List.all_cons, Bool.and_eq_true, decide_eq_true_eq] at ha
    have ih := findL_in n l c hp' ha.2
    by_cases hc : c ≤ x.2.1
    · have hr : inL ((l.filter (fun x => n x.2.2)).map fun x => (x.1, x.2.1)) c = false := by
        have : ∀ (m : List (Int × Int × Int)), (∀ y ∈ m, c < y.1) → inL (m.map fun x => (x.1, x.2.1)) c = false := by
          intro m
          induction m with
          | nil => intro _; rfl
          | cons y m ihm =>
            intro hm
            have h1 := hm y (by simp)
            have h2 := ihm (fun z hz => hm z (by simp [hz]))
            simp only [List.map_cons, inL, h2, Bool.or_false, Bool.and_eq_false_iff, decide_eq_false_iff_not]
            omega
        refine this _ (fun y hy => ?_)
        have := hx y (List.mem_filter.1 hy).1
        omega
      rw [findL, if_pos hc]
      by_cases hf : c < x.1
      · rw [if_pos hf]
        have hd : (decide (x.1 ≤ c) && decide (c ≤ x.2.1)) = false := by simp; omega
        cases hn : n x.2.2 <;> simp [hn, inL, hr, hd]
      · rw [if_neg hf]
        have hd : (decide (x.1 ≤ c) && decide (c ≤ x.2.1)) = true := by simp; omega
        cases hn : n x.2.2 <;> simp [hn, inL, hr, hd]
    · rw [findL, if_neg hc, ← ih]
      have hd : (decide (x.1 ≤ c) && decide (c ≤ x.2.1)) = false := by simp; omega
      cases hn : n x.2.2 <;> simp [hn, inL, hd]
theorem findL_mem : ∀ (l : List (Int × Int × Int)) (c : Int), (findL l c).2 = true → (findL l c).1 ∈ l.map (fun x => x.2.2)
  | [], c, h => by simp [findL] at h
  | x :: l, c, h => by
    rw [findL] at h ⊢
    by_cases hc : c ≤ x.2.1
    · rw [if_pos hc] at h ⊢
      by_cases hf : c < x.1
      · rw [if_pos hf] at h; simp at h
      · rw [if_neg hf]; simp
    · rw [if_neg hc] at h ⊢
      exact List.mem_cons_of_mem _ (findL_mem l c h)
theorem word_same (c : Int) : wordZ c = inL wordR c := by
  have h := findL_in (fun _ => true) spansWord c (by decide) (by decide)
  rw [show ((spansWord.filter (fun _ => true)).map fun x => (x.1, x.2.1)) = wordR by decide] at h
  rw [h]; simp [wordZ]
theorem width_same (c : Int) : widZ c = widR c := by
  have h0 := findL_in (fun m => decide (m = 0)) spansWidth c (by decide) (by decide)
  have h2 := findL_in (fun m => decide (m = 2)) spansWidth c (by decide) (by decide)
  rw [show ((spansWidth.filter (fun x => decide (x.2.2 = 0))).map fun x => (x.1, x.2.1)) = noneR by decide] at h0
  rw [show ((spansWidth.filter (fun x => decide (x.2.2 = 2))).map fun x => (x.1, x.2.1)) = twoR by decide] at h2
  have hv : (findL spansWidth c).2 = true → (findL spansWidth c).1 = 0 ∨ (findL spansWidth c).1 = 2 := by
    intro h
    have := findL_mem spansWidth c h
    revert this
    generalize (findL spansWidth c).1 = m
    simp [spansWidth]
    omega
  unfold widZ widR
  rw [h0, h2]
  generalize findL spansWidth c = r at hv ⊢
  obtain ⟨m, f⟩ := r
  dsimp only at hv ⊢
  cases isZ c <;> cases f
  · simp
  · simp
  · simp
  · rcases hv rfl with h | h <;> subst h <;> simp
theorem wid_bd (c : Int) : 0 ≤ widZ c ∧ widZ c ≤ 2 := by
  rw [width_same]; unfold widR
  repeat' split
  all_goals omega
/-- What RunesFolds says of a character. -/
def foldsZ (c : Int) : Bool :=
  decide (upZ (upZ c) = upZ c) && decide (downZ (downZ c) = downZ c) && decide (foldZ (foldZ c) = foldZ c) && decide (foldZ (upZ c) = foldZ c) && decide (foldZ (downZ c) = foldZ c)
  && isZ (upZ c) && isZ (downZ c) && decide (wordZ (upZ c) = wordZ c) && decide (wordZ (downZ c) = wordZ c) && decide (widZ (upZ c) = widZ c) && decide (widZ (downZ c) = widZ c)
set_option maxRecDepth 100000 in
theorem folds_in : ∀ c : Fin 1200, foldsZ (c.val : Int) = true := by decide +kernel
theorem up_out (c : Int) (h : c < 65 ∨ 1200 ≤ c) : upZ c = c := by
  rcases up_cases c with h' | h'
  · exact h'.1
  · omega
theorem down_out (c : Int) (h : c < 65 ∨ 1200 ≤ c) : downZ c = c := by
  rcases down_cases c with h' | h'
  · exact h'.1
  · omega
theorem folds_all (c : Int) (hc : isZ c = true) : foldsZ c = true := by
  by_cases h : 0 ≤ c ∧ c < 1200
  · have := folds_in ⟨c.toNat, by omega⟩
    simpa [Int.toNat_of_nonneg h.1] using this
  · have hu := up_out c (by omega)
    have hd := down_out c (by omega)
    simp [foldsZ, foldZ, hu, hd, hc]
theorem isZ_iff (c : Int) : isZ c = true ↔ 0 ≤ c ∧ c ≤ 1114111 ∧ (c < 55296 ∨ 57343 < c) := by
  unfold isZ; simp; omega
theorem not_char (c : Int) (hc : isZ c = false) : upZ c = c ∧ downZ c = c ∧ foldZ c = c ∧ widZ c = 0 ∧ wordZ c = false := by
  have h1 : ¬ (0 ≤ c ∧ c ≤ 1114111 ∧ (c < 55296 ∨ 57343 < c)) := by rw [← isZ_iff, hc]; simp
  have hu := up_out c (by omega)
  have hd := down_out c (by omega)
  refine ⟨hu, hd, by rw [foldZ, hu, hd], by simp [widZ, hc], ?_⟩
  rw [word_same]
  simp only [wordR, inL]
  simp
  omega
end Go.Proofs.YtjajeijeoohpoaaDoor
