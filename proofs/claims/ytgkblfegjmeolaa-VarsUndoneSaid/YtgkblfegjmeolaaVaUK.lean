/- VarsUndone's invariants: the variables, their copy, the list of what was bound; arguments that are slices of acts. -/
import Derived.Test.YtgkblfegjmeolaaVaFine
import Derived.Test.YtgkblfegjmeolaaVaSame
import Derived.Test.YtgkblfegjmeolaaVaNew
import Derived.Test.YtgkblfegjmeolaaVaCopyW
namespace Go.Proofs.Ytgkblfegjmeolaa
open Go.RowKit Go.Lib Go.Shelf
/-- A slice of acts, as it came in. -/
def SlA (w : World) (v : Value) (l : List AW) : Prop := ∃ a c, v = .slice a l.length c ∧ ∀ (i : Nat) (x : AW), l[i]? = some x → ∃ b off, a = some ⟨b, off, none⟩ ∧ b < w.heap.size ∧ w.cell? ⟨b, off + i * 5, none⟩ = some (.int .i64 x.kind) ∧ w.cell? ⟨b, off + i * 5 + 1, none⟩ = some (.int .i64 x.n) ∧ w.cell? ⟨b, off + i * 5 + 2, none⟩ = some (.int .i64 x.k) ∧
  w.cell? ⟨b, off + i * 5 + 3, none⟩ = some (.int .i64 x.w.1) ∧ w.cell? ⟨b, off + i * 5 + 4, none⟩ = some (.int .i64 x.w.2)
theorem SlA.below {w w' : World} {v : Value} {l : List AW} (h : SlA w v l) (hb : Below w.heap.size w w') : SlA w' v l := by
  obtain ⟨a, c, h1, h2⟩ := h
  refine ⟨a, c, h1, fun i x hx => ?_⟩
  obtain ⟨b, off, g1, g2, g3, g4, g5, g6, g7⟩ := h2 i x hx
  have k : ∀ (o : Nat) (u : Value), w.cell? ⟨b, o, none⟩ = some u → w'.cell? ⟨b, o, none⟩ = some u := fun o u hu => (hb.cell (p := ⟨b, o, none⟩) g2).trans hu
  exact ⟨b, off, g1, Nat.lt_of_lt_of_le g2 hb.size, k _ _ g3, k _ _ g4, k _ _ g5, k _ _ g6, k _ _ g7⟩
/-- What was bound, as the law lists it. -/
def acells (l : List (Nat × Nat)) : List Value := l.flatMap fun p => [.int .i64 0, .int .i64 (p.1 : Int), .int .i64 (p.2 : Int), .int .i64 0, .int .i64 0]
theorem acells_append (l r : List (Nat × Nat)) : acells (l ++ r) = acells l ++ acells r := by simp [acells]
theorem acells_at : ∀ (l : List (Nat × Nat)) (i : Nat) (b : Nat × Nat), l[i]? = some b → ∀ j, j < 5 → (acells l)[i * 5 + j]? = [Value.int .i64 0, .int .i64 (b.1 : Int), .int .i64 (b.2 : Int), .int .i64 0, .int .i64 0][j]?
  | [], i, b, h, _, _ => by simp at h
  | x :: l, 0, b, h, j, hj => by
    simp only [List.getElem?_cons_zero, Option.some.injEq] at h
    subst h
    show ([Value.int .i64 0, .int .i64 (x.1 : Int), .int .i64 (x.2 : Int), .int .i64 0, .int .i64 0] ++ acells l)[0 * 5 + j]? = _
    rw [Nat.zero_mul, Nat.zero_add, List.getElem?_append_left (by simpa using hj)]
  | x :: l, i + 1, b, h, j, hj => by
    simp only [List.getElem?_cons_succ] at h
    show ([Value.int .i64 0, .int .i64 (x.1 : Int), .int .i64 (x.2 : Int), .int .i64 0, .int .i64 0] ++ acells l)[(i + 1) * 5 + j]? = _
    rw [List.getElem?_append_right (by simp; omega)]
    have := acells_at l i b h j hj
    rw [← this]
    congr 1
    simp
    omega
/-- The variables and their copy, in memory of the call's own. -/
structure UK (w wr : World) (vb : Nat) (G : Nat → Nat) (m : Vs) (vb2 : Nat) (F : Nat → Nat) (m2 : Vs) (bv : Value) (bnd : List (Nat × Nat)) : Prop where
  below : Below w.heap.size w wr
  vars : VarsAt wr vb G m
  low : ∀ k, k < w.heap.size → G k = 0
  copy : VarsW wr vb2 F m2
  old : ∀ k, k < w.heap.size → F k = 0
  apart : ∀ k, F k ≠ 0 → G k = 0
  row : wr.ownsRow 0 41 5 bv bnd.length (acells bnd)
  own : ∀ k, bv.ownBlock = some k → w.heap.size ≤ k ∧ G k = 0 ∧ F k = 0
theorem row_move {w w' : World} {e : TypeId} {size n : Nat} {v : Value} {xs : List Value} (h : w.ownsRow 0 e size v n xs) (hb : ∀ k, v.ownBlock = some k → w'.heap[k]? = w.heap[k]?) : w'.ownsRow 0 e size v n xs := by
  obtain ⟨h1, h2⟩ := h
  refine ⟨h1, ?_⟩
  rcases h2 with h2 | ⟨g, cap, cur, hv, hg0, hh, hr⟩
  · exact .inl h2
  · exact .inr ⟨g, cap, cur, hv, hg0, (hb g (by rw [hv]; rfl)).trans hh, hr⟩
theorem UK.junk {w wr wr' : World} {vb : Nat} {G : Nat → Nat} {m : Vs} {vb2 : Nat} {F : Nat → Nat} {m2 : Vs} {bv : Value} {bnd : List (Nat × Nat)} (h : UK w wr vb G m vb2 F m2 bv bnd) (hw : Below wr.heap.size wr wr') : UK w wr' vb G m vb2 F m2 bv bnd :=
  ⟨h.below.trans (hw.mono h.below.size), h.vars.below hw, h.low, h.copy.below hw, h.old, h.apart, row_move h.row fun k hk => hw.block k (World.ownsRow.lt h.row k hk).2, h.own⟩
theorem UK.went {w wr w' : World} {vb : Nat} {G : Nat → Nat} {m m' : Vs} {vb2 : Nat} {F : Nat → Nat} {m2 : Vs} {bv : Value} {bnd : List (Nat × Nat)} (h : UK w wr vb G m vb2 F m2 bv bnd) (hw : VWent wr w' vb G m') : ∃ G', UK w w' vb G' m' vb2 F m2 bv bnd := by
  obtain ⟨hk, G', h1, h2⟩ := hw
  have hF : ∀ k, F k ≠ 0 → k < wr.heap.size := fun k e => Nat.lt_of_not_le fun q => e (h.copy.new k q)
  refine ⟨G', h.below.trans (hk.below h.below.size h.low), h1, fun k hk' => (h2 k (Nat.lt_of_lt_of_le hk' h.below.size)).2 (h.low k hk'), h.copy.keep fun k hk' e => hk.block k hk' (h.apart k e), h.old, fun k e => (h2 k (hF k e)).2 (h.apart k e), ?_, fun k hk' => ?_⟩
  · exact row_move h.row fun k hk' => hk.block k (World.ownsRow.lt h.row k hk').2 (h.own k hk').2.1
  · obtain ⟨a1, a2, a3⟩ := h.own k hk'
    exact ⟨a1, (h2 k (World.ownsRow.lt h.row k hk').2).2 a2, a3⟩
/-- The list with one more. -/
theorem UK.more {w wr w1 w' : World} {vb : Nat} {G : Nat → Nat} {m : Vs} {vb2 : Nat} {F : Nat → Nat} {m2 : Vs} {bv bv' : Value} {bnd : List (Nat × Nat)} (h : UK w wr vb G m vb2 F m2 bv bnd) (hb : Below wr.heap.size wr w1) (p : Nat × Nat) (hg : Grew w1 w' bv bv') (hr : w'.ownsRow 0 41 5 bv' (bnd.length + 1) (acells bnd ++ acells [p])) : UK w w' vb G m vb2 F m2 bv' (bnd ++ [p]) := by
  obtain ⟨g1, g2, g3, g4⟩ := hg.ahead hb
  have hs := h.below.size
  have hGn : ∀ k, G k ≠ 0 → k < wr.heap.size := fun k e => Nat.lt_of_not_le fun q => e (h.vars.new k q)
  have hF : ∀ k, F k ≠ 0 → k < wr.heap.size := fun k e => Nat.lt_of_not_le fun q => e (h.copy.new k q)
  refine ⟨h.below.trans (g4 _ hs fun k hk => (h.own k hk).1), h.vars.keep fun k hk e => g3 k hk fun q => e (h.own k q).2.1, h.low, h.copy.keep fun k hk e => g3 k hk fun q => e (h.own k q).2.2, h.old, h.apart, ?_, fun k hk => ?_⟩
  · rw [List.length_append, acells_append]
    exact hr
  · rcases g2 k hk with e | e
    · exact h.own k e
    · refine ⟨by omega, ?_, ?_⟩
      · exact h.vars.new k e
      · exact h.copy.new k e
theorem UK.start {w wr w' : World} {vb vb2 : Nat} {G F : Nat → Nat} {m m2 : Vs} (h : VK w wr vb G m []) (hW : VarsW w' vb2 F m2) (hF : ∀ j, j < wr.heap.size → F j = 0) (hb : Below wr.heap.size wr w') : UK w w' vb G m vb2 F m2 (.slice none 0 0) [] :=
  ⟨h.below.trans (hb.mono h.below.size), h.vars.below hb, h.low, hW, fun k hk => hF k (Nat.lt_of_lt_of_le hk h.below.size), fun k e => h.vars.new k (Nat.le_of_not_lt fun q => e (hF k q)), World.ownsRow_nil _ 0 _ _, fun k hk => (by cases hk)⟩
theorem info_act : (Try.prog.info? 41).map (fun i => (i.zero, i.size, i.bytes)) = some (some (.agg #[.int .i64 0, .int .i64 0, .int .i64 0, .int .i64 0, .int .i64 0]), 5, 40) := by kernel_rfl
theorem Grew.of_row {w w' : World} {e : TypeId} {size n : Nat} {v v' : Value} {xs : List Value} (hr : Row w' (fun k => if k < w.heap.size then (fun j => if v.ownBlock = some j then 4 else 0) k else 4) 4 e size v' n xs) (hg : w.grownBy w' v.ownBlock) : Grew w w' v v' := by
  refine ⟨hg.size, fun k hk => ?_, fun j hj hv => hg.block j hj (fun e => hv e.symm), fun B hB hv => (Below.refl B _).grown hg hB hv⟩
  have h1 := hr.lab k hk
  rcases Nat.lt_or_ge k w.heap.size with h2 | h2
  · rw [if_pos h2] at h1
    by_cases e : v.ownBlock = some k
    · exact .inl e
    · simp only [if_neg e] at h1; omega
  · exact .inr h2
abbrev aobj (k s : Nat) : Obj := .cells #[.int .i64 0, .int .i64 (k : Int), .int .i64 (s : Int), .int .i64 0, .int .i64 0] 41
abbrev anew (k s : Nat) : List Value := [.int .i64 0, .int .i64 (k : Int), .int .i64 (s : Int), .int .i64 0, .int .i64 0]
/-- What the append to the list needs, and what it leaves. -/
theorem UK.addA {w X : World} {vb : Nat} {G : Nat → Nat} {m : Vs} {vb2 : Nat} {F : Nat → Nat} {m2 : Vs} {bv : Value} {bnd : List (Nat × Nat)} (h : UK w X vb G m vb2 F m2 bv bnd) (k s : Nat) :
    Row (X.alloc (aobj k s)) (fun j => if bv.ownBlock = some j then 4 else 0) 4 41 5 bv bnd.length (acells bnd) ∧
    (∀ (j : Nat) (u : Value), (anew k s)[j]? = some u → (X.alloc (aobj k s)).cell? ((⟨X.heap.size, 0, none⟩ : Addr).add j) = some u) ∧
    ∀ v' w', Row w' (fun k' => if k' < (X.alloc (aobj k s)).heap.size then (fun j => if bv.ownBlock = some j then 4 else 0) k' else 4) 4 41 5 v' (bnd.length + 1) (acells bnd ++ anew k s) → (X.alloc (aobj k s)).grownBy w' bv.ownBlock → UK w w' vb G m vb2 F m2 v' (bnd ++ [(k, s)]) := by
  have hb : Below X.heap.size X (X.alloc (aobj k s)) := (Below.refl _ _).alloc (Nat.le_refl _) _
  have ha := alloc_at X (aobj k s)
  refine ⟨⟨row_move h.row fun j hj => hb.block j (World.ownsRow.lt h.row j hj).2, fun j hj => if_pos hj⟩, fun j u hj => ?_, fun v' w' hr hg => ?_⟩
  · match j, hj with
    | 0, hj => cases hj; exact cell_at ha
    | 1, hj => cases hj; exact cell_at ha
    | 2, hj => cases hj; exact cell_at ha
    | 3, hj => cases hj; exact cell_at ha
    | 4, hj => cases hj; exact cell_at ha
  · refine h.more hb (k, s) (.of_row hr hg) ?_
    have : acells [(k, s)] = anew k s := rfl
    rw [this]
    exact hr.own
end Go.Proofs.Ytgkblfegjmeolaa
