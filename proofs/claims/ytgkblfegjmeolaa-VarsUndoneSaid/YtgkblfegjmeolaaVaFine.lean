/- What every call keeps: the cells' scopes are scopes; the counts. -/
import Derived.Test.YtgkblfegjmeolaaVaUndSpec
namespace Go.Proofs.Ytgkblfegjmeolaa
open Go.RowKit Go.Lib Go.Shelf
structure Fine (m : Vs) : Prop where
  scope : m.scope ≤ 65536
  cells : ∀ k n, (m.cells k n).isSome = true → k ≤ 65536
/-- A call keeps that, and makes at most one binding and two entries. -/
structure Step1 (m m' : Vs) : Prop where
  fine : Fine m'
  cnt : m'.cnt ≤ m.cnt + 2
  binds : m'.binds.length ≤ m.binds.length + 1
theorem Fine.step {m : Vs} (h : Fine m) : Step1 m m := ⟨h, by omega, by omega⟩
theorem Fine.home {m : Vs} (h : Fine m) (n : Nat) : m.home n ≤ 65536 := by
  have := h.scope
  unfold Vs.home
  split <;> omega
theorem upd_fine {C : Nat → Nat → Option Cl} (h : ∀ k n, (C k n).isSome = true → k ≤ 65536) (k n : Nat) (hk : k ≤ 65536) (c : Option Cl) : ∀ k' n', (upd C k n c k' n').isSome = true → k' ≤ 65536 := by
  intro k' n' hs
  unfold upd at hs
  split at hs
  · omega
  · exact h _ _ hs
theorem Fine.put {m : Vs} (h : Fine m) (k n : Nat) (hk : k ≤ 65536) (c : Cl) : Step1 m (m.put k n c) := ⟨⟨h.scope, upd_fine h.cells k n hk _⟩, Nat.le_refl _, Nat.le_succ _⟩
theorem Fine.bind {m : Vs} (h : Fine m) (k n : Nat) (hk : k ≤ 65536) (c : Cl) : Step1 m ((m.bound k n).put k n c) := ⟨⟨h.scope, upd_fine h.cells k n hk _⟩, Nat.le_refl _, by
  show (m.binds ++ [_]).length ≤ _
  rw [List.length_append]
  exact Nat.le_refl _⟩
theorem restAll_some (l : List (Nat × Nat × Cl)) : ∀ (m : Vs) (k n : Nat), ((m.restAll l).cells k n).isSome = (m.cells k n).isSome := by
  induction l with
  | nil => exact fun m k n => rfl
  | cons e l ih => exact fun m k n => (ih (m.rest e) k n).trans (rest_some m e k n)
theorem Fine.unbind {m : Vs} (h : Fine m) (d : Nat) : Step1 m (m.unbind d) := by
  obtain ⟨_, e2, _, e4⟩ := Vs.restAll_same (m.binds.drop d).reverse m
  refine ⟨⟨?_, fun k n hs => h.cells k n ?_⟩, ?_, ?_⟩
  · show (m.restAll (m.binds.drop d).reverse).scope ≤ _
    rw [e2]; exact h.scope
  · rw [← restAll_some (m.binds.drop d).reverse m k n]; exact hs
  · show (m.restAll (m.binds.drop d).reverse).cnt ≤ _
    rw [e4]; omega
  · show (m.binds.take d).length ≤ _
    rw [List.length_take]; omega
theorem Fine.to {m : Vs} (h : Fine m) (s : Nat) (hs : s ≤ 65536) : Step1 m { m with scope := s } := ⟨⟨hs, h.cells⟩, Nat.le_add_right _ _, Nat.le_add_right _ _⟩
theorem Fine.chgd {m : Vs} (h : Fine m) (n : Int) {r : Vs × Int} (hr : Step1 m r.1) : Step1 m (chg m n r).1 := by
  unfold chg
  split
  · exact h.step
  · split
    · exact h.step
    · exact hr
theorem inS_le {k : Int} (h : inS k = true) : k.toNat ≤ 65536 := by
  unfold inS at h
  obtain ⟨_, h2⟩ := Bool.and_eq_true_iff.1 h
  exact Int.toNat_le.2 (of_decide_eq_true h2)
theorem ite1 {m : Vs} {c : Prop} [Decidable c] {a b : Vs × Int} (h1 : c → Step1 m a.1) (h2 : ¬ c → Step1 m b.1) : Step1 m (if c then a else b).1 := by
  by_cases h : c
  · rw [if_pos h]; exact h1 h
  · rw [if_neg h]; exact h2 h
theorem Fine.act {m : Vs} (h : Fine m) (a : AW) : Step1 m (m.act a).1 := by
  have s0 : Step1 m m := h.step
  unfold Vs.act Vs.actK
  refine ite1 (fun _ => h.chgd _ (h.put _ _ (h.home _) _)) fun _ => ?_
  refine ite1 (fun _ => h.chgd _ (h.put _ _ (h.home _) _)) fun _ => ?_
  refine ite1 (fun _ => ite1 (fun _ => s0) fun _ => ⟨⟨h.scope, h.cells⟩, Nat.le_refl _, Nat.le_succ _⟩) fun _ => ?_
  refine ite1 (fun _ => ite1 (fun _ => s0) fun _ => ⟨⟨h.scope, h.cells⟩, Nat.le_refl _, Nat.le_succ _⟩) fun _ => ?_
  refine ite1 (fun _ => h.chgd _ (ite1 (fun _ => s0) fun _ => h.bind _ _ (h.home _) _)) fun _ => ?_
  refine ite1 (fun _ => ite1 (fun _ => s0) fun _ => h.unbind _) fun _ => ?_
  refine ite1 (fun _ => ite1 (fun _ => h.to 0 (Nat.zero_le _)) fun _ => ite1 (fun _ => s0) fun q => h.to _ (inS_le (Decidable.not_not.1 q))) fun _ => ?_
  refine ite1 (fun _ => h.chgd _ (ite1 (fun _ => s0) fun _ => ?_)) fun _ => ?_
  · show Step1 m (m.makeLocal _)
    unfold Vs.makeLocal
    split
    · exact s0
    · exact h.put _ _ h.scope _
  refine ite1 (fun _ => ite1 (fun _ => s0) fun _ => ite1 (fun _ => s0) fun _ => ⟨⟨h.scope, upd_fine h.cells _ _ h.scope none⟩, Nat.le_add_right _ _, Nat.le_add_right _ _⟩) fun _ => ?_
  refine ite1 (fun _ => ite1 (fun _ => s0) fun _ => ite1 (fun _ => s0) fun q => ite1 (fun _ => s0) fun _ => h.put _ _ (inS_le (Decidable.not_not.1 q)) _) fun _ => ?_
  refine ite1 (fun _ => h.chgd _ (h.put 0 _ (Nat.zero_le _) _)) fun _ => ?_
  refine ite1 (fun _ => ite1 (fun _ => s0) fun _ => ⟨⟨?_, fun k n hs => ?_⟩, Nat.le_add_right _ _, Nat.le_add_right _ _⟩) fun _ => s0
  · show (if m.scope = a.k.toNat then 0 else m.scope) ≤ _
    have := h.scope
    split
    · exact Nat.zero_le _
    · exact this
  · have hs2 : (updS m.cells a.k.toNat k n).isSome = true := hs
    unfold updS at hs2
    split at hs2
    · cases hs2
    · exact h.cells _ _ hs2
end Go.Proofs.Ytgkblfegjmeolaa
