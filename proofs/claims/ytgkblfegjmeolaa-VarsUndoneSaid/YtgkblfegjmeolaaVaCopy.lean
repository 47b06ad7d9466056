/- Copy of variables. -/
import Derived.Test.YtgkblfegjmeolaaVaClone
import Derived.Test.YtgkblfegjmeolaaVaDel
import Derived.Laws.AppendOwnNone
import Derived.Lib.SliceRun
namespace Go.Proofs.Ytgkblfegjmeolaa
open Go.RowKit Go.Lib Go.Shelf
/-- A new row of bindings behind w. -/
def BNew (w w' : World) (v : Value) (bs : List Bd) : Prop :=
  Below w.heap.size w w' ∧ ∃ Gn : Nat → Nat, (∀ j, Gn j ≠ 0 → w.heap.size ≤ j ∧ j < w'.heap.size) ∧ Row w' Gn 4 68 4 v bs.length (bcells bs)
theorem BNew.slice {w w' : World} {v : Value} {bs : List Bd} (h : BNew w w' v bs) : ∃ a c, v = .slice a bs.length c := by
  obtain ⟨_, _, _, h3⟩ := h
  exact h3.slice
theorem Wsz {w : World} {o : Obj} : (w.alloc o).heap.size = w.heap.size + 1 := by simp
set_option maxHeartbeats 2000000 in
set_option maxRecDepth 100000 in
theorem slclone_any {w : World} {G : Nat → Nat} {a : Option Addr} {c : Nat} {bs : List Bd} (hrow : Row w G 4 68 4 (.slice a bs.length c) bs.length (bcells bs)) (hl : bs.length ≤ 2000) :
    Calls Try.prog 54 #[.slice a bs.length c] w fun e w' => ∃ v, e = .returned v ∧ BNew w w' v bs := by
  rcases hrow.own.2 with ⟨e1, e2⟩ | ⟨g, cap, cur, e1, _⟩
  · obtain rfl : bs = [] := List.eq_nil_of_length_eq_zero e2
    cases e1
    have hq := Go.Lib.run_eql_slice_nil w 56 68 none 0 0 0 0 Try.underlying56
    go_enter Try.func54, Try.ntmps54
    go_wp2
    go_ret
    exact ⟨_, rfl, Below.refl _ _, fun _ => 0, fun j hj => absurd rfl hj, Row.nil _ _ _ _ _⟩
  · cases e1
    have hcs := hrow.own.cells (g := g) rfl
    obtain ⟨i0, hi0, hz0, hz1, hz2⟩ := info_parts info_bind
    have ha := alloc_at w (.cells #[] 68)
    have hwb : Below w.heap.size w (w.alloc (.cells #[] 68)) := (Below.refl _ _).alloc (Nat.le_refl _) _
    have hr0 : Row (w.alloc (.cells #[] 68)) (fun j => if j = w.heap.size then 4 else 0) 4 68 4 (.slice (some ⟨w.heap.size, 0, none⟩) 0 0) 0 [] :=
      ⟨⟨rfl, .inr ⟨w.heap.size, 0, #[], rfl, Nat.zero_le _, ha, Nat.le_refl _, Nat.zero_le _, rfl, rfl⟩⟩, fun k hk => by
        simp only [Value.ownBlock, Option.some.injEq] at hk
        exact if_pos hk.symm⟩
    have hgl : g < w.heap.size := by
      obtain ⟨_, hh, _⟩ := ‹_ ∧ _›
      exact lt_at hh
    have hcs2 : ∀ j u, (bcells bs)[j]? = some u → (w.alloc (.cells #[] 68)).cell? ((⟨g, 0, none⟩ : Addr).add j) = some u := fun j u hj => (hwb.cell (p := (⟨g, 0, none⟩ : Addr).add j) (by unfold Addr.add; split <;> exact hgl)).trans (hcs j u hj)
    have hone : ∀ u ∈ bcells bs, u.oneCell' = true := by
      intro u hu
      simp only [bcells, List.mem_flatMap, List.mem_cons, List.not_mem_nil, or_false] at hu
      obtain ⟨b, _, h | h | h | h⟩ := hu <;> subst h <;> rfl
    have hb1 : 0 + bs.length ≤ maxLen := by simp only [maxLen]; omega
    have hb2 : (0 + bs.length) * 32 ≤ 140737488355328 := by omega
    have hfin : ∀ v' w', Row w' (fun k => if k < (w.alloc (.cells #[] 68)).heap.size then (fun j => if j = w.heap.size then 4 else 0) k else 4) 4 68 4 v' (0 + bs.length) ([] ++ bcells bs) → (w.alloc (.cells #[] 68)).grownBy w' (some w.heap.size) → BNew w w' v' bs := by
      intro v' w' hr hgr
      rw [Nat.zero_add, List.nil_append] at hr
      refine ⟨hwb.grown hgr hwb.size (fun k e => by cases e; exact Nat.le_refl _), fun j => if w.heap.size ≤ j ∧ j < w'.heap.size then 4 else 0, fun j hj => ?_, hr.own, fun k hk => ?_⟩
      · by_cases e : w.heap.size ≤ j ∧ j < w'.heap.size
        · exact e
        · simp only [if_neg e] at hj; exact absurd rfl hj
      · have h1 := hr.lab k hk
        have h2 := hr.lt k hk
        have h3 : w.heap.size ≤ k := by
          rcases Nat.lt_or_ge k w.heap.size with h | h
          · simp only [Wsz, if_pos (show k < w.heap.size + 1 by omega), if_neg (show ¬ k = w.heap.size by omega)] at h1
            omega
          · exact h
        exact if_pos ⟨h3, h2⟩
    have hl2 := bcells_length bs
    have HN := Lib.hid (And.intro hr0 (And.intro hl2 (And.intro hcs2 (And.intro hone (And.intro hb1 (And.intro hb2 hfin))))))
    clear hr0 hcs hcs2 hone hb1 hb2 hfin hwb ha hl hl2 hgl hrow
    generalize bs.length = n at *
    have hq := Go.Lib.run_eql_slice_nil w 56 68 (some ⟨g, 0, none⟩) n c 0 0 Try.underlying56
    go_enter Try.func54, Try.ntmps54
    go_wp2_with (at_builtin; refine wpList_append_row _ rfl _ _ 56 rfl 68 i0 (.agg #[.int .i64 0, .int .i64 0, .bool false, .nilFunc]) 4 32 Try.underlying56 hi0 hz0 hz1 hz2 rfl (by decide) (.slice (some ⟨w.heap.size, 0, none⟩) 0 0) 0 [] rfl (fun j => if j = w.heap.size then 4 else 0) 4 HN.out.1 ⟨g, 0, none⟩ n _ (bcells bs) rfl HN.out.2.1 HN.out.2.2.1 HN.out.2.2.2.1 HN.out.2.2.2.2.1 HN.out.2.2.2.2.2.1 ?_; intro v1' w1 hrow1 hgr1 _; have HQ := Lib.hid (HN.out.2.2.2.2.2.2 v1' w1 hrow1 hgr1); clear hrow1 hgr1)
    go_ret
    exact ⟨_, rfl, HQ.out⟩
end Go.Proofs.Ytgkblfegjmeolaa
