/- The values in their order, in plain terms. -/
import Derived.Test.YtgkblfegjmeolaaVaVal
namespace Go.Proofs.Ytgkblfegjmeolaa
open Go.RowKit Go.Lib Go.Shelf
abbrev Tri := Nat × Nat × Wd
def Tri.lt (s t : Tri) : Prop := s.1 < t.1 ∨ s.1 = t.1 ∧ s.2.1 < t.2.1
/-- l: the values of the set cells in A, by scopes and variables. -/
def Tr (C : Nat → Nat → Option Cl) (A : Nat → Nat → Prop) (l : List Wd) : Prop := ∃ T : List Tri, T.Pairwise Tri.lt ∧ (∀ t : Tri, t ∈ T ↔ A t.1 t.2.1 ∧ C t.1 t.2.1 = some (t.2.2, true)) ∧ l = T.map fun t => t.2.2
theorem Tr.nil (C : Nat → Nat → Option Cl) : Tr C (fun _ _ => False) [] := ⟨[], List.Pairwise.nil, fun t => by simp, rfl⟩
theorem Tr.ext {C : Nat → Nat → Option Cl} {A A' : Nat → Nat → Prop} {l : List Wd} (h : Tr C A l) (e : ∀ k n, C k n ≠ none → (A k n ↔ A' k n)) : Tr C A' l := by
  obtain ⟨T, h1, h2, h3⟩ := h
  refine ⟨T, h1, fun t => (h2 t).trans ⟨fun q => ⟨(e _ _ (by rw [q.2]; simp)).1 q.1, q.2⟩, fun q => ⟨(e _ _ (by rw [q.2]; simp)).2 q.1, q.2⟩⟩, h3⟩
theorem Tr.step {C : Nat → Nat → Option Cl} {A : Nat → Nat → Prop} {l : List Wd} (h : Tr C A l) (k n : Nat) (hlt : ∀ k' n', A k' n' → k' < k ∨ k' = k ∧ n' < n) : Tr C (fun k' n' => A k' n' ∨ k' = k ∧ n' = n) (addC ((C k n).getD ((0, 0), false)) l) := by
  obtain ⟨T, h1, h2, h3⟩ := h
  have skip : (∀ x, C k n ≠ some (x, true)) → Tr C (fun k' n' => A k' n' ∨ k' = k ∧ n' = n) l := fun hx => by
    refine ⟨T, h1, fun t => (h2 t).trans ⟨fun q => ⟨.inl q.1, q.2⟩, fun q => ⟨?_, q.2⟩⟩, h3⟩
    rcases q.1 with q1 | ⟨q1, q2⟩
    · exact q1
    · exfalso
      have := q.2
      rw [q1, q2] at this
      exact hx _ this
  cases hC : C k n with
  | none => exact skip fun x e => by rw [hC] at e; cases e
  | some c =>
    obtain ⟨x, s⟩ := c
    cases s with
    | false => exact skip fun y e => by rw [hC] at e; cases e
    | true =>
      show Tr C _ (l ++ [x])
      refine ⟨T ++ [(k, n, x)], List.pairwise_append.2 ⟨h1, List.pairwise_singleton _ _, fun a ha b hb => ?_⟩, fun t => ?_, by rw [h3, List.map_append]; rfl⟩
      · rw [List.mem_singleton] at hb
        subst hb
        exact hlt _ _ ((h2 a).1 ha).1
      · rw [List.mem_append, List.mem_singleton, h2]
        constructor
        · rintro (q | rfl)
          · exact ⟨.inl q.1, q.2⟩
          · exact ⟨.inr ⟨rfl, rfl⟩, hC⟩
        · rintro ⟨q | ⟨q1, q2⟩, q3⟩
          · exact .inl ⟨q, q3⟩
          · refine .inr ?_
            obtain ⟨a, b, c⟩ := t
            simp only at q1 q2 q3
            subst q1; subst q2
            rw [hC] at q3
            cases q3
            rfl
theorem tri_same : ∀ {T T' : List Tri}, T.Pairwise Tri.lt → T'.Pairwise Tri.lt → (∀ t, t ∈ T ↔ t ∈ T') → T = T' := by
  have irr : ∀ s t : Tri, Tri.lt s t → ¬ Tri.lt t s := fun s t h g => by
    unfold Tri.lt at h g; omega
  have ne : ∀ s t : Tri, Tri.lt s t → s ≠ t := fun s t h e => by subst e; exact irr _ _ h h
  intro T
  induction T with
  | nil =>
    intro T' _ _ h
    cases T' with
    | nil => rfl
    | cons a T' => exact absurd ((h a).2 (by simp)) (by simp)
  | cons a T ih =>
    intro T' h1 h2 h
    cases T' with
    | nil => exact absurd ((h a).1 (by simp)) (by simp)
    | cons b T' =>
      obtain ⟨ha, g1⟩ := List.pairwise_cons.1 h1
      obtain ⟨hb, g2⟩ := List.pairwise_cons.1 h2
      have e : a = b := by
        rcases List.mem_cons.1 ((h a).1 (by simp)) with e | e
        · exact e
        · rcases List.mem_cons.1 ((h b).2 (by simp)) with e' | e'
          · exact e'.symm
          · exact absurd (ha b e') (irr _ _ (hb a e))
      subst e
      refine congrArg (a :: ·) (ih g1 g2 fun t => ?_)
      constructor
      · intro ht
        rcases List.mem_cons.1 ((h t).1 (List.mem_cons_of_mem _ ht)) with e | e
        · exact absurd e.symm (ne _ _ (ha t ht))
        · exact e
      · intro ht
        rcases List.mem_cons.1 ((h t).2 (List.mem_cons_of_mem _ ht)) with e | e
        · exact absurd e.symm (ne _ _ (hb t ht))
        · exact e
/-- Cells that contain the same values have the same list of values. -/
theorem Tr.same {C C' : Nat → Nat → Option Cl} {l l' : List Wd} (h : Tr C (fun _ _ => True) l) (h' : Tr C' (fun _ _ => True) l') (e : ∀ k n x, C k n = some (x, true) ↔ C' k n = some (x, true)) : l = l' := by
  obtain ⟨T, h1, h2, h3⟩ := h
  obtain ⟨T', g1, g2, g3⟩ := h'
  rw [h3, g3, tri_same h1 g1 fun t => by rw [h2, g2, e]]
end Go.Proofs.Ytgkblfegjmeolaa
