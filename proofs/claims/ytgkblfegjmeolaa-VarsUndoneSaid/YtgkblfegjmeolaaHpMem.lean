/- Memory that a heap object owns: blocks with labels, and what a call leaves of the others. -/
import Derived.Below
import Derived.OneCell
import Derived.WalkKit
import Derived.Deep.Draws
import Derived.Lib.Hide
namespace Go.Proofs.Ytgkblfegjmeolaa
open Go.RowKit Go.Lib
/-- A word: its kind and its number. -/
abbrev Wd := Int × Int
def wcells (l : List Wd) : List Value := l.flatMap fun x => [.int .i64 x.1, .int .i64 x.2]
theorem wcells_nil : wcells [] = [] := rfl
theorem wcells_cons (x : Wd) (l : List Wd) : wcells (x :: l) = .int .i64 x.1 :: .int .i64 x.2 :: wcells l := by simp [wcells]
theorem wcells_append (l r : List Wd) : wcells (l ++ r) = wcells l ++ wcells r := by simp [wcells]
theorem wcells_length (l : List Wd) : (wcells l).length = l.length * 2 := by
  induction l with
  | nil => rfl
  | cons x l ih => rw [wcells_cons]; simp only [List.length_cons, ih]; omega
theorem wcells_fst (l : List Wd) (i : Nat) (x : Wd) (h : l[i]? = some x) : (wcells l)[i * 2]? = some (.int .i64 x.1) := by
  induction l generalizing i with
  | nil => simp at h
  | cons y l ih =>
    rw [wcells_cons]
    cases i with
    | zero => simp at h; subst h; rfl
    | succ i => simp at h; rw [show (i + 1) * 2 = i * 2 + 2 from by omega]; simpa using ih i h
theorem wcells_snd (l : List Wd) (i : Nat) (x : Wd) (h : l[i]? = some x) : (wcells l)[i * 2 + 1]? = some (.int .i64 x.2) := by
  induction l generalizing i with
  | nil => simp at h
  | cons y l ih =>
    rw [wcells_cons]
    cases i with
    | zero => simp at h; subst h; rfl
    | succ i => simp at h; rw [show (i + 1) * 2 + 1 = i * 2 + 1 + 2 from by omega]; simpa using ih i h
theorem wcells_one (l : List Wd) : ∀ u ∈ wcells l, u.oneCell' = true := by
  intro u hu
  simp only [wcells, List.mem_flatMap] at hu
  obtain ⟨x, _, hx⟩ := hu
  simp at hx
  rcases hx with rfl | rfl <;> rfl
theorem wcells_set (l : List Wd) (i : Nat) (x : Wd) (h : i < l.length) : wcells (l.set i x) = ((wcells l).set (i * 2) (.int .i64 x.1)).set (i * 2 + 1) (.int .i64 x.2) := by
  induction l generalizing i with
  | nil => simp at h
  | cons y l ih =>
    cases i with
    | zero => simp [wcells_cons]
    | succ i =>
      simp only [List.length_cons] at h
      rw [List.set_cons_succ, wcells_cons, wcells_cons, ih i (by omega), show (i + 1) * 2 + 1 = i * 2 + 1 + 1 + 1 from by omega, show (i + 1) * 2 = i * 2 + 1 + 1 from by omega]
      rfl
/-- What a call leaves: the blocks that bear no label are as they were. -/
structure Keeps (G : Nat → Nat) (w w' : World) : Prop where
  os : w'.os = w.os
  tape : w'.tape = w.tape
  output : w'.output = w.output
  size : w.heap.size ≤ w'.heap.size
  block : ∀ k, k < w.heap.size → G k = 0 → w'.heap[k]? = w.heap[k]?
theorem Keeps.refl (G : Nat → Nat) (w : World) : Keeps G w w := ⟨rfl, rfl, rfl, Nat.le_refl _, fun _ _ _ => rfl⟩
theorem Keeps.trans {G G' : Nat → Nat} {a b c : World} (h : Keeps G a b) (k : Keeps G' b c) (hg : ∀ i, i < a.heap.size → G i = 0 → G' i = 0) : Keeps G a c :=
  ⟨k.os.trans h.os, k.tape.trans h.tape, k.output.trans h.output, Nat.le_trans h.size k.size, fun i hi hz => (k.block i (Nat.lt_of_lt_of_le hi h.size) (hg i hi hz)).trans (h.block i hi hz)⟩
theorem Keeps.of_below {G : Nat → Nat} {w w' : World} (h : Below w.heap.size w w') : Keeps G w w' := ⟨h.os, h.tape, h.output, h.size, fun k hk _ => h.block k hk⟩
theorem Keeps.mono {G G' : Nat → Nat} {w w' : World} (h : Keeps G w w') (hg : ∀ k, k < w.heap.size → G' k = 0 → G k = 0) : Keeps G' w w' := ⟨h.os, h.tape, h.output, h.size, fun k hk hz => h.block k hk (hg k hk hz)⟩
theorem Keeps.below {G : Nat → Nat} {B : Nat} {w w' : World} (h : Keeps G w w') (hB : B ≤ w.heap.size) (hg : ∀ k, k < B → G k = 0) : Below B w w' :=
  ⟨h.os, h.tape, h.output, h.size, fun k hk => h.block k (by omega) (hg k hk)⟩
theorem Keeps.alloc {G : Nat → Nat} {a w : World} (h : Keeps G a w) (o : Obj) : Keeps G a (w.alloc o) :=
  ⟨h.os, h.tape, h.output, by have := h.size; simp; omega, fun k hk hz => by rw [Below.heap_alloc _ _ _ (Nat.lt_of_lt_of_le hk h.size)]; exact h.block k hk hz⟩
theorem Keeps.setCell {G : Nat → Nat} {a w : World} (h : Keeps G a w) {p : Addr} (hp : p.block < a.heap.size → G p.block ≠ 0) (u : Value) : Keeps G a (w.setCell p u) :=
  ⟨h.os, h.tape, h.output, by have := h.size; simp [World.setCell]; omega, fun k hk hz => by rw [Below.heap_setCell _ _ _ _ (by intro e; subst e; exact hp hk hz)]; exact h.block k hk hz⟩
theorem Keeps.drew {G : Nat → Nat} {a w : World} (h : Keeps G a w) : Keeps G a w.drew := ⟨h.os, h.tape, h.output, h.size, h.block⟩
theorem Keeps.drewN {G : Nat → Nat} {a w : World} (h : Keeps G a w) (n : Nat) : Keeps G a (w.drewN n) := ⟨h.os, h.tape, h.output, h.size, h.block⟩
theorem Keeps.grown {G : Nat → Nat} {a w w' : World} {row : Option Nat} (h : Keeps G a w) (hg : w.grownBy w' row) (hr : ∀ k, row = some k → k < a.heap.size → G k ≠ 0) : Keeps G a w' :=
  ⟨hg.os.trans h.os, hg.tape.trans h.tape, hg.output.trans h.output, Nat.le_trans h.size hg.size,
    fun k hk hz => (hg.block k (Nat.lt_of_lt_of_le hk h.size) (fun e => hr k e.symm hk hz)).trans (h.block k hk hz)⟩
/-- Some cells of one block written. -/
theorem setCell_at {w : World} {b i : Nat} {cs : Array Value} {T : TypeId} {fz : Nat × Nat} (h : w.heap[b]? = some (.cells cs T fz)) (v : Value) : (w.setCell ⟨b, i, none⟩ v).heap[b]? = some (.cells (cs.setIfInBounds i v) T fz) := by
  simp only [World.setCell, Array.getElem?_modify]
  rw [h]; rfl
theorem setCell_off {w : World} {p : Addr} {k : Nat} (v : Value) (h : k ≠ p.block) : (w.setCell p v).heap[k]? = w.heap[k]? := Below.heap_setCell w p v k h
theorem cell_at {w : World} {b i : Nat} {cs : Array Value} {T : TypeId} {fz : Nat × Nat} (h : w.heap[b]? = some (.cells cs T fz)) : w.cell? ⟨b, i, none⟩ = cs[i]? := by
  simp [World.cell?, h]
theorem frozen_at {w : World} {b i : Nat} {cs : Array Value} {T : TypeId} (h : w.heap[b]? = some (.cells cs T (0, 0))) : w.frozen? ⟨b, i, none⟩ = false := by
  simp [World.frozen?, h]
theorem lt_at {w : World} {b : Nat} {o : Obj} (h : w.heap[b]? = some o) : b < w.heap.size := (Array.getElem?_eq_some_iff.1 h).1
/-- A row of cells, its block labelled n. -/
structure Row (w : World) (G : Nat → Nat) (L : Nat) (e : TypeId) (size : Nat) (v : Value) (n : Nat) (xs : List Value) : Prop where
  own : w.ownsRow 0 e size v n xs
  lab : ∀ k, v.ownBlock = some k → G k = L
theorem Row.move {w w' : World} {G G' : Nat → Nat} {L L' : Nat} {e : TypeId} {size : Nat} {v : Value} {n : Nat} {xs : List Value} (h : Row w G L e size v n xs)
    (hb : ∀ k, k < w.heap.size → G k = L → w'.heap[k]? = w.heap[k]?) (hg : ∀ k, k < w.heap.size → G k = L → G' k = L') : Row w' G' L' e size v n xs := by
  obtain ⟨⟨h1, h2⟩, h3⟩ := h
  rcases h2 with h2 | ⟨g, cap, cur, hv, hg0, hh, hr⟩
  · exact ⟨⟨h1, .inl h2⟩, fun k hk => by rw [h2.1] at hk; cases hk⟩
  · have hl := lt_at hh
    have e3 := h3 g (by rw [hv]; rfl)
    exact ⟨⟨h1, .inr ⟨g, cap, cur, hv, hg0, (hb g hl e3).trans hh, hr⟩⟩, fun k hk => by rw [hv] at hk; cases hk; exact hg g hl e3⟩
theorem Row.keep {w w' : World} {G G' : Nat → Nat} {L : Nat} {e : TypeId} {size : Nat} {v : Value} {n : Nat} {xs : List Value} (h : Row w G L e size v n xs)
    (hb : ∀ k, k < w.heap.size → G k = L → w'.heap[k]? = w.heap[k]?) (hg : ∀ k, k < w.heap.size → G k = L → G' k = L) : Row w' G' L e size v n xs := h.move hb hg
theorem Row.lt {w : World} {G : Nat → Nat} {L : Nat} {e : TypeId} {size : Nat} {v : Value} {n : Nat} {xs : List Value} (h : Row w G L e size v n xs) : ∀ k, v.ownBlock = some k → k < w.heap.size := fun k hk => (h.own.lt k hk).2
theorem Row.nil (w : World) (G : Nat → Nat) (L : Nat) (e : TypeId) (size : Nat) : Row w G L e size (.slice none 0 0) 0 [] := ⟨World.ownsRow_nil w 0 e size, fun k hk => by cases hk⟩
end Go.Proofs.Ytgkblfegjmeolaa
