/- setProp of a cell: the first name, a name behind all others; a name that is there. -/
import Derived.Test.YtponbhhkccpbfaaDoorNmProp2
namespace Go.Proofs.YtponbhhkccpbfaaDoor
open Go.RowKit Go.Lib Go.Shelf
theorem info_prop : (Tryd.prog.info? 66).map (fun i => (i.zero, i.size, i.bytes)) = some (some (.agg #[.int .i64 0, .int .i64 0, .int .i64 0]), 3, 24) := by kernel_rfl
set_option maxHeartbeats 4000000 in
set_option maxRecDepth 100000 in
/-- slices.Insert at the end of a row. -/
theorem insert_end {w : World} {G : Nat → Nat} {L n : Nat} {v : Value} {xs : List Value} (hrow : Row w G L 66 3 v n xs) (hn : n ≤ 20000) (b2 : Nat) (news : List Value) (hl : news.length = 3) (hnews : ∀ j u, news[j]? = some u → w.cell? ((⟨b2, 0, none⟩ : Addr).add j) = some u) (h1 : ∀ u ∈ news, u.oneCell' = true) :
    Calls Tryd.prog 74 #[v, .int .i64 n, .slice (some ⟨b2, 0, none⟩) 1 1] w fun e w' => ∃ v', e = .returned v' ∧ Row w' (fun k => if k < w.heap.size then G k else L) L 66 3 v' (n + 1) (xs ++ news) ∧ w.grownBy w' v.ownBlock := by
  obtain ⟨a, c, rfl⟩ := hrow.slice
  obtain ⟨i1, hj, hj0, hj1, hj2⟩ := info_parts info_prop
  have hr := hrow.own.2
  have hcap : n ≤ c := by
    rcases hr with ⟨e, h⟩ | ⟨g, cap, cur, e, _, _, h, _⟩
    · omega
    · cases e; exact h
  have hcI : (n : Int) ≤ (c : Int) := by omega
  have HN := Lib.hid (And.intro hrow (And.intro hl (And.intro hnews h1)))
  have hb1 : n + 1 ≤ maxLen := by simp only [maxLen]; omega
  have hb2 : (n + 1) * 24 ≤ 140737488355328 := by omega
  have HB := Lib.hid (And.intro hb1 hb2)
  clear hrow hl hnews h1 hr hb1 hb2
  go_enter Tryd.func74, Tryd.ntmps74
  go_wp2_with (at_builtin; refine wpList_append_row _ rfl _ _ 67 rfl 66 i1 (.agg #[.int .i64 0, .int .i64 0, .int .i64 0]) 3 24 Tryd.underlying67 hj hj0 hj1 hj2 rfl (by decide) _ _ _ rfl G L HN.out.1 ⟨b2, 0, none⟩ 1 1 news rfl (by rw [HN.out.2.1]) HN.out.2.2.1 HN.out.2.2.2 HB.out.1 HB.out.2 ?_; intro v1' w1 hrow1 hgr1 _; have HQ := Lib.hid (And.intro hrow1 (show w.grownBy w1 (Value.slice a n c).ownBlock from hgr1)); clear hrow1 hgr1)
  all_goals (go_ret; first | exact ⟨_, rfl, HQ.out.1, HQ.out.2⟩ | exact ⟨_, rfl, HQ.out.1, by cases a <;> exact HQ.out.2⟩)
theorem pcells_length (l : List (Int × Wd)) : (pcells l).length = l.length * 3 := by
  induction l with
  | nil => rfl
  | cons p l ih => simp only [pcells, List.flatMap_cons, List.length_append, List.length_cons, List.length_nil] at ih ⊢; omega
theorem pcells_cons (p : Int × Wd) (l : List (Int × Wd)) : pcells (p :: l) = [.int .i64 p.1, .int .i64 p.2.1, .int .i64 p.2.2] ++ pcells l := by simp [pcells]
theorem pcells_append (l r : List (Int × Wd)) : pcells (l ++ r) = pcells l ++ pcells r := by simp [pcells]
theorem pcells_at (l : List (Int × Wd)) (k : Nat) (p : Int × Wd) (h : l[k]? = some p) (j : Nat) (hj : j < 3) : (pcells l)[k * 3 + j]? = [Value.int .i64 p.1, .int .i64 p.2.1, .int .i64 p.2.2][j]? := by
  induction l generalizing k with
  | nil => simp at h
  | cons q l ih =>
    rw [pcells_cons]
    cases k with
    | zero =>
      simp at h
      subst h
      rw [List.getElem?_append_left (by simp; omega)]
      simp
    | succ k =>
      simp at h
      rw [List.getElem?_append_right (by simp; omega), show (k + 1) * 3 + j - [Value.int .i64 q.1, .int .i64 q.2.1, .int .i64 q.2.2].length = k * 3 + j by simp; omega]
      exact ih k h
theorem Row.pat {w : World} {G : Nat → Nat} {L : Nat} {a : Option Addr} {c : Nat} {ps : List (Int × Wd)} (h : Row w G L 66 3 (.slice a ps.length c) ps.length (pcells ps)) (hn : 0 < ps.length) : ∃ b, a = some ⟨b, 0, none⟩ ∧ b < w.heap.size ∧ PAt w b ps := by
  obtain ⟨g, cap, cur, e, hG, hg, _⟩ := h.at hn
  cases e
  refine ⟨g, rfl, lt_at hg, fun k p hk => ⟨h.cell (i := k * 3) ?_, h.cell (i := k * 3 + 1) ?_, h.cell (i := k * 3 + 2) ?_⟩⟩
  · have := pcells_at ps k p hk 0 (by decide); simpa using this
  · rw [pcells_at ps k p hk 1 (by decide)]; rfl
  · rw [pcells_at ps k p hk 2 (by decide)]; rfl
/-- A name behind all others: place says so. -/
theorem PPlace.end {ps : List (Int × Wd)} {key : Int} {i : Nat} {f : Bool} (h : PPlace ps key i f) (hk : ∀ p ∈ ps, p.1 < key) : i = ps.length ∧ f = false := by
  refine ⟨?_, h.no fun p hp => by have := hk p hp; omega⟩
  rcases Nat.lt_or_ge i ps.length with h1 | h1
  · obtain ⟨q, hq⟩ : ∃ q, ps[i]? = some q := ⟨_, List.getElem?_eq_getElem h1⟩
    have h2 := h.hi i q hq (Nat.le_refl _)
    have h3 := hk q (List.mem_of_getElem? hq)
    omega
  · have := h.le; omega
end Go.Proofs.YtponbhhkccpbfaaDoor
