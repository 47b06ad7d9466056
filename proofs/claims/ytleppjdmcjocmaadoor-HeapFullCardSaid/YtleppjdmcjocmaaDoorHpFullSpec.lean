/- HeapFull as plain data: what is collected, what takes its place. -/
import Derived.Test.YtleppjdmcjocmaaDoorHpFullInv
import Derived.Test.YtleppjdmcjocmaaDoorHpColSpec
namespace Go.Proofs.YtleppjdmcjocmaaDoor
open Go.RowKit Go.Lib
theorem fm_at (n j : Nat) (h : j < n) : (fm n n).obs[j]? = some (fob j) := by simp [fm, h]
theorem fm_find_cons (n j : Nat) (h : j < n) : (fm n n).find (2, (j : Int)) = some (.pair (0, (j : Int)) (1, 0)) := by
  unfold Hp.find
  simp only [Int.natCast_nonneg, if_true, Int.toNat_natCast, fm_at n j h, fob]
  rfl
theorem fm_find_kind (n : Nat) (x : Wd) (o : Ob) (h : (fm n n).find x = some o) : x.1 = 2 := by
  have h2 := Hp.find_at h
  have hl := (List.getElem?_eq_some_iff.1 h2).1
  rw [fm_length] at hl
  rw [fm_at n _ hl] at h2
  have ho : o = .pair (0, ((x.2.toNat : Nat) : Int)) (1, 0) := by cases h2; rfl
  unfold Hp.find at h
  by_cases h0 : 0 ≤ x.2
  · rw [if_pos h0, fm_at n _ hl] at h
    simp only [fob] at h
    by_cases hk : (2 : Int) = x.1
    · exact hk.symm
    · rw [if_neg (show ¬ (Ob.pair (0, ((x.2.toNat : Nat) : Int)) (1, 0)).kind = x.1 from hk)] at h
      cases h
  · rw [if_neg h0] at h; cases h
theorem fw_at (n j : Nat) (h : j < n) : (fw n)[j]? = some (2, (j : Int)) := by simp [fw, h]
/-- What the roots reach. -/
theorem reach_fm (n k j : Nat) (hk : k < n) : (fm n n).Reach ((fw n).take k ++ (fw n).drop (k + 1)) j ↔ j < n ∧ j ≠ k := by
  constructor
  · intro h
    have hfin : ∀ (x : Wd) (o : Ob), (fm n n).find x = some o → x.2.toNat < n := fun x o h => by
      have := (List.getElem?_eq_some_iff.1 (Hp.find_at h)).1
      rwa [fm_length] at this
    induction h with
    | root x o h1 h2 =>
      refine ⟨hfin x o h2, ?_⟩
      rcases List.mem_append.1 h1 with h1 | h1
      · obtain ⟨i, hi⟩ := List.mem_iff_getElem?.1 h1
        have hil := (List.getElem?_eq_some_iff.1 hi).1
        simp [fw_length] at hil
        rw [List.getElem?_take_of_lt (by omega), fw_at n i (by omega)] at hi
        cases hi
        simp; omega
      · obtain ⟨i, hi⟩ := List.mem_iff_getElem?.1 h1
        have hil := (List.getElem?_eq_some_iff.1 hi).1
        simp [fw_length] at hil
        rw [List.getElem?_drop, fw_at n _ (by omega)] at hi
        cases hi
        simp only; omega
    | step i o x o' _ h2 h3 h4 ih =>
      have hil := (List.getElem?_eq_some_iff.1 h2).1
      rw [fm_length] at hil
      rw [fm_at n i hil] at h2
      have ho : o = .pair (0, (i : Int)) (1, 0) := by cases h2; rfl
      subst ho
      have hk2 := fm_find_kind n x o' h4
      simp [Ob.words] at h3
      rcases h3 with rfl | rfl <;> simp at hk2
  · rintro ⟨hj, hjk⟩
    have hx : ((2 : Int), (j : Int)) ∈ (fw n).take k ++ (fw n).drop (k + 1) := by
      rw [List.mem_append]
      by_cases h : j < k
      · exact .inl (List.mem_iff_getElem?.2 ⟨j, by rw [List.getElem?_take_of_lt h]; exact fw_at n j hj⟩)
      · refine .inr (List.mem_iff_getElem?.2 ⟨j - (k + 1), ?_⟩)
        rw [List.getElem?_drop, show k + 1 + (j - (k + 1)) = j by omega]
        exact fw_at n j hj
    have := Hp.Reach.root (m := fm n n) _ _ hx (fm_find_cons n j hj)
    simpa using this
theorem gone_fm (n k : Nat) (b : List Bool) (hb : ∀ j : Nat, b[j]? = some true ↔ j < n ∧ j ≠ k) (j : Nat) (hj : j < n) : (fm n n).gone b j = decide (j = k) := by
  simp only [Hp.gone, fm_at n j hj, fob]
  by_cases h : j = k
  · have : ¬ b[j]? = some true := fun h2 => ((hb j).1 h2).2 h
    simp [h] at this ⊢
    exact this
  · have := (hb j).2 ⟨hj, h⟩
    simp [h, this]
theorem sweep_fm (n k : Nat) (b : List Bool) (_hk : k < n) (hb : ∀ j : Nat, b[j]? = some true ↔ j < n ∧ j ≠ k) (i : Nat) (hi : i ≤ n) :
    (fm n n).sweep b i = (if k < i then (fm n n).drop k else fm n n) ∧ (fm n n).many b i = if k < i then 1 else 0 := by
  induction i with
  | zero => simp [Hp.sweep, Hp.many]
  | succ i ih =>
    obtain ⟨h1, h2⟩ := ih (by omega)
    have hg := gone_fm n k b hb i (by omega)
    simp only [Hp.sweep, Hp.many, hg, h1, h2]
    by_cases e : i = k
    · subst e
      simp
    · simp only [e, decide_false, Bool.false_eq_true, if_false]
      by_cases h : k < i
      · rw [if_pos h, if_pos h, if_pos (by omega), if_pos (by omega)]; exact ⟨rfl, rfl⟩
      · rw [if_neg h, if_neg h, if_neg (by omega), if_neg (by omega)]; exact ⟨rfl, rfl⟩
theorem pushL_one (x : Int) : pushL [] x = [x] := by
  unfold pushL
  rw [upL, dif_pos (Or.inl (show ([] : List Int).length = 0 from rfl))]
  rfl
theorem leastL_one (x : Int) : leastL [x] = x ∧ restL [x] = [] := by
  have h : downL (swapL [x] 0 ([x].length - 1)) 0 ([x].length - 1) = [x] := by
    rw [downL, dif_pos (Or.inl (by simp))]
    simp [swapL]
  constructor
  · unfold leastL; rw [h]; rfl
  · unfold restL; rw [h]; rfl
/-- The heap behind the collection and the new vector. -/
def fv (n k : Nat) : Hp := ⟨n, (fm n n).obs.set k (some (.vec [])), []⟩
theorem drop_addOld (n k : Nat) (_hk : k < n) : ((fm n n).drop k).addOld (.vec []) = fv n k := by
  have h1 : ((fm n n).drop k).free = [(k : Int)] := pushL_one k
  unfold Hp.addOld
  rw [h1, (leastL_one k).1, (leastL_one k).2]
  simp [Hp.drop, fv, fm]
theorem adds_fv {hb : Nat} {G : Nat → Nat} {n k : Nat} (hk : k < n) : AddsTo hb G ((fm n n).drop k) (fv n k) (.vec []) (4, (k : Int)) 0 := by
  have h1 : ((fm n n).drop k).free = [(k : Int)] := pushL_one k
  have ht : total ((fm n n).drop k).obs = 0 := by
    have := total_none (fm n n).obs k _ (fm_at n k hk)
    rw [fm_total] at this
    simp only [Hp.drop]
    omega
  have h := adds_old (hb := hb) (G := G) (m := (fm n n).drop k) (o := .vec []) (by rw [h1]; simp) (by rw [ht]; simp [Ob.size])
  rw [drop_addOld n k hk, h1, (leastL_one k).1] at h
  exact h
theorem fv_car (n k j : Nat) (hk : k < n) (hj : j < n) : (fv n k).car (2, (j : Int)) = if j = k then ((0, 0), 6) else ((0, (j : Int)), 0) := by
  unfold Hp.car
  rw [if_neg (by simp)]
  have hf : (fv n k).find (2, (j : Int)) = if j = k then none else some (.pair (0, (j : Int)) (1, 0)) := by
    unfold Hp.find
    simp only [Int.natCast_nonneg, if_true, Int.toNat_natCast, fv]
    by_cases h : j = k
    · subst h
      rw [List.getElem?_set_self (by rw [fm_length]; exact hk)]
      simp [Ob.kind]
    · rw [List.getElem?_set_ne (Ne.symm h), fm_at n j hj]
      simp [fob, Ob.kind, h]
  rw [hf]
  by_cases h : j = k
  · simp [h]
  · simp [h]
theorem fv_many (n k : Nat) : ((fv n k).obs.length : Int) - (fv n k).free.length = n := by simp [fv, fm]
/-- The number behind k, round about. -/
theorem pick_next (n k : Nat) (hk : k < n) (h60 : n ≤ 60) : ∃ j : Nat, pickZ ((k : Int) + 1) n = (j : Int) ∧ j < n ∧ (j = k ↔ n = 1) := by
  have hin := pickZ_in ((k : Int) + 1) n (by omega)
  refine ⟨(pickZ ((k : Int) + 1) n).toNat, by omega, by omega, ?_⟩
  have hp : pickZ ((k : Int) + 1) n = if k + 1 < n then (k : Int) + 1 else 0 := by
    unfold pickZ
    rw [if_neg (by omega), Int.tmod_eq_emod_of_nonneg (by omega)]
    by_cases h : k + 1 < n
    · rw [if_pos h, Int.emod_eq_of_lt (by omega) (by omega), if_neg (by omega)]
    · rw [if_neg h, show (k : Int) + 1 = n by omega, Int.emod_self, if_neg (by omega)]
  rw [hp]
  by_cases h : k + 1 < n
  · rw [if_pos h]; omega
  · rw [if_neg h]; omega
theorem own_up {w : World} {D : Nat → Nat} {L e size n B : Nat} {v : Value} {xs : List Value} (h : Row w D L e size v n xs) (hB : ∀ k, D k = L → B ≤ k) : w.ownsRow B e size v n xs := by
  obtain ⟨⟨h1, h2⟩, h3⟩ := h
  refine ⟨h1, h2.imp id ?_⟩
  rintro ⟨g, cap, cur, hv, _, hr⟩
  exact ⟨g, cap, cur, hv, hB g (h3 g (by rw [hv]; rfl)), hr⟩
end Go.Proofs.YtleppjdmcjocmaaDoor
