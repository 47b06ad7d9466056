/- VarsUndone, in plain terms: Unbind restores. -/
import Derived.Test.YtgkblfegjmeolaaVaDo2
import Derived.Test.YtgkblfegjmeolaaVaTr
namespace Go.Proofs.Ytgkblfegjmeolaa
open Go.RowKit Go.Lib Go.Shelf
def homeAt (C : Nat → Nat → Option Cl) (s n : Nat) : Nat := if (C s n).isSome then s else 0
theorem home_at (m : Vs) (n : Nat) : m.home n = homeAt m.cells m.scope n := rfl
/-- What the first binding of (k, n) recorded. -/
def first : List (Nat × Nat × Cl) → Nat → Nat → Option Cl
  | [], _, _ => none
  | e :: E, k, n => if e.1 = k ∧ e.2.1 = n then some e.2.2 else first E k n
theorem first_snoc (E : List (Nat × Nat × Cl)) (k n : Nat) (c : Cl) (k' n' : Nat) : first (E ++ [(k, n, c)]) k' n' = match first E k' n' with
    | some d => some d
    | none => if k = k' ∧ n = n' then some c else none := by
  induction E with
  | nil => simp only [List.nil_append, first]
  | cons e E ih =>
    simp only [List.cons_append, first]
    split
    · rfl
    · exact ih
theorem rest_some (m : Vs) (b : Nat × Nat × Cl) (k n : Nat) : ((m.rest b).cells k n).isSome = (m.cells k n).isSome := by
  unfold Vs.rest
  split
  · rename_i h
    show (upd m.cells b.1 b.2.1 (some b.2.2) k n).isSome = _
    unfold upd
    split
    · rename_i e
      rw [e.1, e.2, h]
      rfl
    · rfl
  · rfl
/-- What the bindings taken back leave. -/
theorem rest_first (E : List (Nat × Nat × Cl)) : ∀ m : Vs, (∀ e ∈ E, (m.cells e.1 e.2.1).isSome = true) → ∀ k n, ((m.restAll E.reverse).cells k n = match first E k n with
    | some c => some c
    | none => m.cells k n) ∧ ((m.restAll E.reverse).cells k n).isSome = (m.cells k n).isSome := by
  induction E with
  | nil => exact fun m _ k n => ⟨rfl, rfl⟩
  | cons e E ih =>
    intro m h k n
    have ih' := fun k n => ih m (fun x hx => h x (List.mem_cons_of_mem _ hx)) k n
    rw [List.reverse_cons, Vs.restAll_snoc]
    refine ⟨?_, (rest_some _ e k n).trans (ih' k n).2⟩
    have he : ((m.restAll E.reverse).cells e.1 e.2.1).isSome = true := (ih' e.1 e.2.1).2.trans (h e (List.mem_cons_self ..))
    unfold Vs.rest
    rw [if_pos he]
    show upd _ e.1 e.2.1 (some e.2.2) k n = _
    unfold upd
    simp only [first]
    by_cases q : k = e.1 ∧ n = e.2.1
    · rw [if_pos q, if_pos ⟨q.1.symm, q.2.symm⟩]
    · rw [if_neg q, if_neg (fun r => q ⟨r.1.symm, r.2.symm⟩)]
      exact (ih' k n).1
/-- What the second round of calls keeps; bnd: the variables bound and the scopes in which they were. -/
structure Und (m0 m : Vs) (E : List (Nat × Nat × Cl)) (bnd : List (Nat × Nat)) : Prop where
  binds : m.binds = m0.binds ++ E
  here : ∀ e ∈ E, (m.cells e.1 e.2.1).isSome = true
  not : ∀ k n, first E k n = none → m.cells k n = m0.cells k n
  yes : ∀ k n c, first E k n = some c → c = m0.at k n
  took : ∀ p ∈ bnd, ∃ c, first E (homeAt m0.cells p.2 p.1) p.1 = some c
  loc : ∀ k n, 1 ≤ k → (m.cells k n).isSome = (m0.cells k n).isSome
theorem Und.start (m : Vs) : Und m m [] [] := ⟨(List.append_nil _).symm, fun e h => by simp at h, fun _ _ _ => rfl, fun _ _ _ h => by simp [first] at h, fun p h => by simp at h, fun _ _ _ => rfl⟩
theorem Und.scope {m0 m : Vs} {E : List (Nat × Nat × Cl)} {bnd : List (Nat × Nat)} (h : Und m0 m E bnd) (s : Nat) : Und m0 { m with scope := s } E bnd := ⟨h.binds, h.here, h.not, h.yes, h.took, h.loc⟩
theorem Und.home {m0 m : Vs} {E : List (Nat × Nat × Cl)} {bnd : List (Nat × Nat)} (h : Und m0 m E bnd) (n : Nat) : homeAt m0.cells m.scope n = m.home n := by
  unfold homeAt Vs.home
  rcases Nat.eq_zero_or_pos m.scope with e | e
  · rw [e]; simp
  · rw [h.loc _ n e]
theorem home_pos {m : Vs} {n : Nat} (h : 1 ≤ m.home n) : (m.cells (m.home n) n).isSome = true := by
  unfold Vs.home at h ⊢
  split
  · rename_i q; exact q
  · rename_i q; rw [if_neg q] at h; omega
theorem upd_some (C : Nat → Nat → Option Cl) (k n : Nat) (c : Cl) (k' n' : Nat) (h : (C k' n').isSome = true) : (upd C k n (some c) k' n').isSome = true := by
  unfold upd
  split
  · rfl
  · exact h
theorem upd_loc {m : Vs} (n : Nat) (c : Cl) (k' n' : Nat) (hk : 1 ≤ k') : (upd m.cells (m.home n) n (some c) k' n').isSome = (m.cells k' n').isSome := by
  unfold upd
  split
  · rename_i e
    have := home_pos (m := m) (n := n) (by omega)
    rw [e.1, e.2, this]
    rfl
  · rfl
theorem Und.put {m0 m : Vs} {E : List (Nat × Nat × Cl)} {bnd : List (Nat × Nat)} (h : Und m0 m E bnd) (n : Nat) (hb : (n, m.scope) ∈ bnd) (c : Cl) : Und m0 (m.put (m.home n) n c) E bnd := by
  obtain ⟨d, hd⟩ := h.took _ hb
  rw [h.home n] at hd
  refine ⟨h.binds, fun e he => upd_some _ _ _ _ _ _ (h.here e he), fun k' n' hf => ?_, h.yes, h.took, fun k' n' hk => (upd_loc n c k' n' hk).trans (h.loc k' n' hk)⟩
  show upd m.cells (m.home n) n (some c) k' n' = _
  unfold upd
  rw [if_neg (fun e => by rw [e.1, e.2, hd] at hf; cases hf)]
  exact h.not k' n' hf
theorem Und.bind {m0 m : Vs} {E : List (Nat × Nat × Cl)} {bnd : List (Nat × Nat)} (h : Und m0 m E bnd) (n : Nat) (c : Cl) : Und m0 ((m.bound (m.home n) n).put (m.home n) n c) (E ++ [(m.home n, n, m.at (m.home n) n)]) (bnd ++ [(n, m.scope)]) := by
  refine ⟨?_, fun e he => ?_, fun k' n' hf => ?_, fun k' n' d hf => ?_, fun p hp => ?_, fun k' n' hk => (upd_loc n c k' n' hk).trans (h.loc k' n' hk)⟩
  · show m.binds ++ [_] = _
    rw [h.binds, List.append_assoc]
  · show (upd m.cells (m.home n) n (some c) e.1 e.2.1).isSome = true
    rcases List.mem_append.1 he with q | q
    · exact upd_some _ _ _ _ _ _ (h.here e q)
    · rw [List.mem_singleton] at q
      subst q
      unfold upd
      rw [if_pos ⟨rfl, rfl⟩]
      rfl
  · rw [first_snoc] at hf
    cases hE : first E k' n' with
    | some d => rw [hE] at hf; cases hf
    | none =>
      rw [hE] at hf
      show upd m.cells (m.home n) n (some c) k' n' = _
      unfold upd
      by_cases q : m.home n = k' ∧ n = n'
      · simp only [if_pos q] at hf; cases hf
      · rw [if_neg (fun r => q ⟨r.1.symm, r.2.symm⟩)]
        exact h.not k' n' hE
  · rw [first_snoc] at hf
    cases hE : first E k' n' with
    | some d2 =>
      rw [hE] at hf
      cases hf
      exact h.yes k' n' _ hE
    | none =>
      rw [hE] at hf
      by_cases q : m.home n = k' ∧ n = n'
      · simp only [if_pos q, Option.some.injEq] at hf
        rw [← hf, q.1, ← q.2]
        unfold Vs.at
        rw [← q.2] at hE
        rw [h.not k' n hE]
      · simp only [if_neg q] at hf; cases hf
  · have keep : ∀ (k' n' : Nat) (d : Cl), first E k' n' = some d → first (E ++ [(m.home n, n, m.at (m.home n) n)]) k' n' = some d := fun k' n' d hd => by rw [first_snoc, hd]
    rcases List.mem_append.1 hp with q | q
    · obtain ⟨d, hd⟩ := h.took p q
      exact ⟨d, keep _ _ _ hd⟩
    · rw [List.mem_singleton] at q
      subst q
      show ∃ c, first _ (homeAt m0.cells m.scope n) n = some c
      rw [h.home n, first_snoc]
      cases hE : first E (m.home n) n with
      | some d => exact ⟨d, rfl⟩
      | none => exact ⟨_, if_pos ⟨rfl, rfl⟩⟩
/-- Unbind restores. -/
theorem Und.back {m0 m : Vs} {E : List (Nat × Nat × Cl)} {bnd : List (Nat × Nat)} (h : Und m0 m E bnd) : (m.unbind m0.binds.length).binds = m0.binds ∧ (∀ k n, (m.unbind m0.binds.length).at k n = m0.at k n) ∧ ∀ k n, 1 ≤ k → ((m.unbind m0.binds.length).cells k n).isSome = (m0.cells k n).isSome := by
  have hd : m.binds.drop m0.binds.length = E := by rw [h.binds]; simp
  have ht : m.binds.take m0.binds.length = m0.binds := by rw [h.binds]; simp
  have hr := fun k n => rest_first E m h.here k n
  refine ⟨ht, fun k n => ?_, fun k n hk => ?_⟩
  · show (((m.restAll (m.binds.drop m0.binds.length).reverse).cells k n).getD noC) = _
    rw [hd, (hr k n).1]
    cases hE : first E k n with
    | some c => rw [h.yes k n c hE]; rfl
    | none => show (m.cells k n).getD noC = _; rw [h.not k n hE]; rfl
  · show ((m.restAll (m.binds.drop m0.binds.length).reverse).cells k n).isSome = _
    rw [hd, (hr k n).2, h.loc k n hk]
/-- Then the values are the same. -/
theorem at_same {m m0 : Vs} (h : ∀ k n, m.at k n = m0.at k n) (k n : Nat) (x : Wd) : m.cells k n = some (x, true) ↔ m0.cells k n = some (x, true) := by
  have key : ∀ a : Vs, a.cells k n = some (x, true) ↔ a.at k n = (x, true) := fun a => by
    unfold Vs.at
    cases a.cells k n with
    | none => simp
    | some c => simp
  rw [key, key, h]
/-- And so is what Get says. -/
theorem home_same {m m0 : Vs} (h : ∀ k n, 1 ≤ k → (m.cells k n).isSome = (m0.cells k n).isSome) (e : m.scope = m0.scope) (n : Nat) : m.home n = m0.home n := by
  unfold Vs.home
  rw [e]
  rcases Nat.eq_zero_or_pos m0.scope with q | q
  · rw [q]; simp
  · rw [h _ n q]
end Go.Proofs.Ytgkblfegjmeolaa
