/- VarsDeep: the plain part. -/
import Derived.Test.YtgkblfegjmeolaaVaUnb
import Derived.Test.YtgkblfegjmeolaaVaGet
import Derived.Test.YtgkblfegjmeolaaVaNew
namespace Go.Proofs.Ytgkblfegjmeolaa
open Go.RowKit Go.Lib Go.Shelf
/-- The variables behind i bindings of n. -/
def dp (n : Nat) : Nat → Vs
  | 0 => vsN
  | i + 1 => ((dp n i).bound 0 n).put 0 n ((0, (i : Int)), true)
def dc : Nat → Cl
  | 0 => noC
  | i + 1 => ((0, (i : Int)), true)
theorem dp_scope (n : Nat) : ∀ i, (dp n i).scope = 0
  | 0 => rfl
  | i + 1 => dp_scope n i
theorem home_zero {m : Vs} (h : m.scope = 0) (n : Nat) : m.home n = 0 := by
  unfold Vs.home
  rw [h]
  split <;> rfl
theorem dp_marks (n : Nat) : ∀ i, (dp n i).marks = vsN.marks
  | 0 => rfl
  | i + 1 => dp_marks n i
theorem dp_const (n : Nat) (hn : 2 ≤ n) (i : Nat) : hasC ((dp n i).marks n) = false := by
  rw [dp_marks]
  have h : vsN.marks n = 0 := by
    have h1 : n ≠ 1 := by omega
    have h0 : n ≠ 0 := by omega
    simp [vsN, vs1, vs0, Vs.mark, Vs.put, h1, h0]
  rw [h]
  rfl
theorem dp_cnt (n : Nat) : ∀ i, (dp n i).cnt = vsN.cnt + 2 * i
  | 0 => rfl
  | i + 1 => by
    show (dp n i).cnt + 2 = _
    rw [dp_cnt n i]
    omega
theorem dp_cells (n : Nat) (i : Nat) : (dp n (i + 1)).cells 0 n = some (dc (i + 1)) := by
  show upd _ 0 n _ 0 n = _
  simp [upd, dc]
theorem dp_at (n : Nat) (hn : 2 ≤ n) : ∀ i, (dp n i).at 0 n = dc i
  | 0 => by
    have h : vsN.cells 0 n = none := by
      have h1 : n ≠ 1 := by omega
      have h0 : n ≠ 0 := by omega
      simp [vsN, vs1, vs0, Vs.mark, Vs.put, upd, h1, h0]
    show (vsN.cells 0 n).getD noC = noC
    rw [h]
    rfl
  | i + 1 => by
    unfold Vs.at
    rw [dp_cells]
    rfl
theorem dp_binds (n : Nat) (hn : 2 ≤ n) : ∀ i, (dp n i).binds = (List.range i).map fun j => (0, n, dc j)
  | 0 => rfl
  | i + 1 => by
    show (dp n i).binds ++ [(0, n, (dp n i).at 0 n)] = _
    rw [dp_binds n hn i, dp_at n hn i, List.range_succ, List.map_append]
    rfl
theorem dp_len (n : Nat) (hn : 2 ≤ n) (i : Nat) : (dp n i).binds.length = i := by
  rw [dp_binds n hn]
  simp
theorem restAll_head (n : Nat) (m : Vs) (hm : (m.cells 0 n).isSome = true) : ∀ l : List (Nat × Nat × Cl), (∀ b ∈ l, b.1 = 0 ∧ b.2.1 = n) → (m.restAll l.reverse).cells 0 n = (match l with | [] => m.cells 0 n | b :: _ => some b.2.2)
  | [], _ => rfl
  | b :: l, h => by
    rw [List.reverse_cons, Vs.restAll_snoc]
    have ih := restAll_head n m hm l (fun b hb => h b (List.mem_cons_of_mem _ hb))
    have hs : ((m.restAll l.reverse).cells 0 n).isSome = true := by
      rw [ih]
      split
      · exact hm
      · rfl
    obtain ⟨h1, h2⟩ := h b List.mem_cons_self
    unfold Vs.rest
    rw [h1, h2, if_pos hs]
    simp [upd]
theorem dp_undone (n : Nat) (hn : 2 ≤ n) (i k : Nat) (hk : k ≤ i) (hi : 0 < i) : ((dp n i).unbind k).at 0 n = dc k := by
  obtain ⟨i, rfl⟩ : ∃ j, i = j + 1 := ⟨i - 1, by omega⟩
  unfold Vs.at Vs.unbind
  have hm : ((dp n (i + 1)).cells 0 n).isSome = true := by rw [dp_cells]; rfl
  show (((dp n (i + 1)).restAll ((dp n (i + 1)).binds.drop k).reverse).cells 0 n).getD noC = _
  rw [restAll_head n _ hm _ (fun b hb => by
    have hb := List.mem_of_mem_drop hb
    rw [dp_binds n hn] at hb
    obtain ⟨j, _, rfl⟩ := List.mem_map.1 hb
    exact ⟨rfl, rfl⟩)]
  rcases Nat.lt_or_ge k (i + 1) with h | h
  · have e : (dp n (i + 1)).binds.drop k = (0, n, dc k) :: (dp n (i + 1)).binds.drop (k + 1) := by
      have hl : k < (dp n (i + 1)).binds.length := by rw [dp_len n hn]; exact h
      rw [List.drop_eq_getElem_cons hl]
      congr 1
      simp [dp_binds n hn]
    rw [e]
    rfl
  · obtain rfl : k = i + 1 := by omega
    rw [List.drop_of_length_le (by rw [dp_len n hn]; exact Nat.le_refl _)]
    show ((dp n (i + 1)).cells 0 n).getD noC = _
    rw [dp_cells]
    rfl
theorem unbind_scope (m : Vs) (k : Nat) : (m.unbind k).scope = m.scope := (m.restAll_same _).2.1
end Go.Proofs.Ytgkblfegjmeolaa
