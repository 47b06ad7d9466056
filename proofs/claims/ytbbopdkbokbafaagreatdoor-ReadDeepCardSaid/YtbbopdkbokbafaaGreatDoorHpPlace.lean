import Derived.Below
import Derived.OneCell
import Derived.WalkKit
import Derived.Deep.Draws
import Derived.Lib.Hide
import Derived.Test.YtbbopdkbokbafaaGreatDoorChecked
import Derived.Laws.Small
import Derived.KernelRfl
import Derived.WalkSpells
import Derived.WalkLawsBesides
import Derived.RegionTactic
import Derived.Deep.QuietTactic
import Derived.BigQuiet
import Derived.Outline
import Derived.IntWalk
import Derived.OwnWalk
import Derived.Laws.OwnMore
/- Memory that a heap object owns: blocks with labels, and what a call leaves of the others. -/
namespace Go.Proofs.YtbbopdkbokbafaaGreatDoor
open Go.RowKit Go.Lib
/-- A word: its kind and its number. -/
abbrev Wd := Int × Int
def wcells (l : List Wd) : List Value := l.flatMap fun x => [.int .i64 x.1, .int .i64 x.2]
theorem wcells_nil : wcells [] = [] := rfl
theorem wcells_cons (x : Wd) (l : List Wd) : wcells (x :: l) = .int .i64 x.1 :: .int .i64 x.2 :: wcells l := by simp [wcells]
theorem wcells_append (l r : List Wd) : wcells (l ++ r) = wcells l ++ wcells r := by simp [wcells]
theorem wcells_length (l : List Wd) : (wcells l).length = l.length * 2 := by
  induction l with
  | nil => rfl
  | cons x l ih => rw [wcells_cons]; simp only [List.length_cons, ih]; omega
theorem wcells_fst (l : List Wd) (i : Nat) (x : Wd) (h : l[i]? = some x) : (wcells l)[i * 2]? = some (.int .i64 x.1) := by
  induction l generalizing i with
  | nil => simp at h
  | cons y l ih =>
    rw [wcells_cons]
    cases i with
    | zero => simp at h; subst h; rfl
    | succ i => simp at h; rw [show (i + 1) * 2 = i * 2 + 2 from by omega]; simpa using ih i h
theorem wcells_snd (l : List Wd) (i : Nat) (x : Wd) (h : l[i]? = some x) : (wcells l)[i * 2 + 1]? = some (.int .i64 x.2) := by
  induction l generalizing i with
  | nil => simp at h
  | cons y l ih =>
    rw [wcells_cons]
    cases i with
    | zero => simp at h; subst h; rfl
    | succ i => simp at h; rw [show (i + 1) * 2 + 1 = i * 2 + 1 + 2 from by omega]; simpa using ih i h
theorem wcells_one (l : List Wd) : ∀ u ∈ wcells l, u.oneCell' = true := by
  intro u hu
  simp only [wcells, List.mem_flatMap] at hu
  obtain ⟨x, _, hx⟩ := hu
  simp at hx
  rcases hx with rfl | rfl <;> rfl
theorem wcells_set (l : List Wd) (i : Nat) (x : Wd) (h : i < l.length) : wcells (l.set i x) = ((wcells l).set (i * 2) (.int .i64 x.1)).set (i * 2 + 1) (.int .i64 x.2) := by
  induction l generalizing i with
  | nil => simp at h
  | cons y l ih =>
    cases i with
    | zero => simp [wcells_cons]
    | succ i =>
      simp only [List.length_cons] at h
      rw [List.set_cons_succ, wcells_cons, wcells_cons, ih i (by omega), show (i + 1) * 2 + 1 = i * 2 + 1 + 1 + 1 from by omega, show (i + 1) * 2 = i * 2 + 1 + 1 from by omega]
      rfl
/-- What a call leaves: the blocks that bear no label are as they were. -/
structure Keeps (G : Nat → Nat) (w w' : World) : Prop where
  os : w'.os = w.os
  tape : w'.tape = w.tape
  output : w'.output = w.output
  size : w.heap.size ≤ w'.heap.size
  block : ∀ k, k < w.heap.size → G k = 0 → w'.heap[k]? = w.heap[k]?
theorem Keeps.refl (G : Nat → Nat) (w : World) : Keeps G w w := ⟨rfl, rfl, rfl, Nat.le_refl _, fun _ _ _ => rfl⟩
theorem Keeps.trans {G G' : Nat → Nat} {a b c : World} (h : Keeps G a b) (k : Keeps G' b c) (hg : ∀ i, i < a.heap.size → G i = 0 → G' i = 0) : Keeps G a c :=
  ⟨k.os.trans h.os, k.tape.trans h.tape, k.output.trans h.output, Nat.le_trans h.size k.size, fun i hi hz => (k.block i (Nat.lt_of_lt_of_le hi h.size) (hg i hi hz)).trans (h.block i hi hz)⟩
theorem Keeps.of_below {G : Nat → Nat} {w w' : World} (h : Below w.heap.size w w') : Keeps G w w' := ⟨h.os, h.tape, h.output, h.size, fun k hk _ => h.block k hk⟩
theorem Keeps.mono {G G' : Nat → Nat} {w w' : World} (h : Keeps G w w') (hg : ∀ k, k < w.heap.size → G' k = 0 → G k = 0) : Keeps G' w w' := ⟨h.os, h.tape, h.output, h.size, fun k hk hz => h.block k hk (hg k hk hz)⟩
theorem Keeps.below {G : Nat → Nat} {B : Nat} {w w' : World} (h : Keeps G w w') (hB : B ≤ w.heap.size) (hg : ∀ k, k < B → G k = 0) : Below B w w' :=
  ⟨h.os, h.tape, h.output, h.size, fun k hk => h.block k (by omega) (hg k hk)⟩
theorem Keeps.alloc {G : Nat → Nat} {a w : World} (h : Keeps G a w) (o : Obj) : Keeps G a (w.alloc o) :=
  ⟨h.os, h.tape, h.output, by have := h.size; simp; omega, fun k hk hz => by rw [Below.heap_alloc _ _ _ (Nat.lt_of_lt_of_le hk h.size)]; exact h.block k hk hz⟩
theorem Keeps.setCell {G : Nat → Nat} {a w : World} (h : Keeps G a w) {p : Addr} (hp : p.block < a.heap.size → G p.block ≠ 0) (u : Value) : Keeps G a (w.setCell p u) :=
  ⟨h.os, h.tape, h.output, by have := h.size; simp [World.setCell]; omega, fun k hk hz => by rw [Below.heap_setCell _ _ _ _ (by intro e; subst e; exact hp hk hz)]; exact h.block k hk hz⟩
theorem Keeps.drew {G : Nat → Nat} {a w : World} (h : Keeps G a w) : Keeps G a w.drew := ⟨h.os, h.tape, h.output, h.size, h.block⟩
theorem Keeps.drewN {G : Nat → Nat} {a w : World} (h : Keeps G a w) (n : Nat) : Keeps G a (w.drewN n) := ⟨h.os, h.tape, h.output, h.size, h.block⟩
theorem Keeps.grown {G : Nat → Nat} {a w w' : World} {row : Option Nat} (h : Keeps G a w) (hg : w.grownBy w' row) (hr : ∀ k, row = some k → k < a.heap.size → G k ≠ 0) : Keeps G a w' :=
  ⟨hg.os.trans h.os, hg.tape.trans h.tape, hg.output.trans h.output, Nat.le_trans h.size hg.size,
    fun k hk hz => (hg.block k (Nat.lt_of_lt_of_le hk h.size) (fun e => hr k e.symm hk hz)).trans (h.block k hk hz)⟩
/-- Some cells of one block written. -/
theorem setCell_at {w : World} {b i : Nat} {cs : Array Value} {T : TypeId} {fz : Nat × Nat} (h : w.heap[b]? = some (.cells cs T fz)) (v : Value) : (w.setCell ⟨b, i, none⟩ v).heap[b]? = some (.cells (cs.setIfInBounds i v) T fz) := by
  simp only [World.setCell, Array.getElem?_modify]
  rw [h]; rfl
theorem setCell_off {w : World} {p : Addr} {k : Nat} (v : Value) (h : k ≠ p.block) : (w.setCell p v).heap[k]? = w.heap[k]? := Below.heap_setCell w p v k h
theorem cell_at {w : World} {b i : Nat} {cs : Array Value} {T : TypeId} {fz : Nat × Nat} (h : w.heap[b]? = some (.cells cs T fz)) : w.cell? ⟨b, i, none⟩ = cs[i]? := by
  simp [World.cell?, h]
theorem frozen_at {w : World} {b i : Nat} {cs : Array Value} {T : TypeId} (h : w.heap[b]? = some (.cells cs T (0, 0))) : w.frozen? ⟨b, i, none⟩ = false := by
  simp [World.frozen?, h]
theorem lt_at {w : World} {b : Nat} {o : Obj} (h : w.heap[b]? = some o) : b < w.heap.size := (Array.getElem?_eq_some_iff.1 h).1
/-- A row of cells, its block labelled n. -/
structure Row (w : World) (G : Nat → Nat) (L : Nat) (e : TypeId) (size : Nat) (v : Value) (n : Nat) (xs : List Value) : Prop where
  own : w.ownsRow 0 e size v n xs
  lab : ∀ k, v.ownBlock = some k → G k = L
theorem Row.move {w w' : World} {G G' : Nat → Nat} {L L' : Nat} {e : TypeId} {size : Nat} {v : Value} {n : Nat} {xs : List Value} (h : Row w G L e size v n xs)
    (hb : ∀ k, k < w.heap.size → G k = L → w'.heap[k]? = w.heap[k]?) (hg : ∀ k, k < w.heap.size → G k = L → G' k = L') : Row w' G' L' e size v n xs := by
  obtain ⟨⟨h1, h2⟩, h3⟩ := h
  rcases h2 with h2 | ⟨g, cap, cur, hv, hg0, hh, hr⟩
  · exact ⟨⟨h1, .inl h2⟩, fun k hk => by rw [h2.1] at hk; cases hk⟩
  · have hl := lt_at hh
    have e3 := h3 g (by rw [hv]; rfl)
    exact ⟨⟨h1, .inr ⟨g, cap, cur, hv, hg0, (hb g hl e3).trans hh, hr⟩⟩, fun k hk => by rw [hv] at hk; cases hk; exact hg g hl e3⟩
theorem Row.keep {w w' : World} {G G' : Nat → Nat} {L : Nat} {e : TypeId} {size : Nat} {v : Value} {n : Nat} {xs : List Value} (h : Row w G L e size v n xs)
    (hb : ∀ k, k < w.heap.size → G k = L → w'.heap[k]? = w.heap[k]?) (hg : ∀ k, k < w.heap.size → G k = L → G' k = L) : Row w' G' L e size v n xs := h.move hb hg
theorem Row.lt {w : World} {G : Nat → Nat} {L : Nat} {e : TypeId} {size : Nat} {v : Value} {n : Nat} {xs : List Value} (h : Row w G L e size v n xs) : ∀ k, v.ownBlock = some k → k < w.heap.size := fun k hk => (h.own.lt k hk).2
theorem Row.nil (w : World) (G : Nat → Nat) (L : Nat) (e : TypeId) (size : Nat) : Row w G L e size (.slice none 0 0) 0 [] := ⟨World.ownsRow_nil w 0 e size, fun k hk => by cases hk⟩
end Go.Proofs.YtbbopdkbokbafaaGreatDoor

/- What a heap object holds, as plain data, and how it lies in memory. -/
namespace Go.Proofs.YtbbopdkbokbafaaGreatDoor
open Go.RowKit Go.Lib
/-- An object of a heap. -/
inductive Ob where
  | pair (a d : Wd)
  | text (s : ByteArray) (n : Nat)
  | vec (l : List Wd)
  | code (le mo de : Int) (bs : List UInt8) (cs : List Wd)
def Ob.kind : Ob → Int
  | .pair .. => 2
  | .text .. => 3
  | .vec .. => 4
  | .code .. => 6
def Ob.size : Ob → Nat
  | .pair .. => 0
  | .text _ n => n
  | .vec l => l.length
  | .code _ _ _ bs cs => bs.length + cs.length
/-- How an object lies: what its interface value is, its blocks labelled L. -/
def ObAt (w : World) (G : Nat → Nat) (L : Nat) (v : Value) : Ob → Prop
  | .pair a d => ∃ b, v = .iface 93 (.pointer (some ⟨b, 0, none⟩)) ∧ G b = L ∧ w.heap[b]? = some (.cells #[.int .i64 a.1, .int .i64 a.2, .int .i64 d.1, .int .i64 d.2] 99 (0, 0))
  | .text s n => ∃ b, v = .iface 140 (.pointer (some ⟨b, 0, none⟩)) ∧ G b = L ∧ w.heap[b]? = some (.cells #[.string s, .int .i64 n] 143 (0, 0))
  | .vec l => ∃ b sv, v = .iface 206 (.pointer (some ⟨b, 0, none⟩)) ∧ G b = L ∧ w.heap[b]? = some (.cells #[sv] 214 (0, 0)) ∧ Row w (fun k => if k = b then 0 else G k) L 28 2 sv l.length (wcells l)
  | .code le mo de bs cs => ∃ b sv cv, v = .iface 215 (.pointer (some ⟨b, 0, none⟩)) ∧ G b = L ∧ w.heap[b]? = some (.cells #[.int .i64 le, .int .i64 mo, .int .i64 de, sv, cv] 219 (0, 0)) ∧
      Row w G L 5 1 sv bs.length (bs.map fun x => Value.int .u8 x.toNat) ∧ Row w G L 28 2 cv cs.length (wcells cs)
theorem ObAt.move {w w' : World} {G G' : Nat → Nat} {L L' : Nat} {v : Value} {o : Ob} (hL : L ≠ 0) (h : ObAt w G L v o)
    (hb : ∀ k, k < w.heap.size → G k = L → w'.heap[k]? = w.heap[k]?) (hg : ∀ k, k < w.heap.size → G k = L → G' k = L') : ObAt w' G' L' v o := by
  cases o with
  | pair a d => obtain ⟨b, h1, h2, h3⟩ := h; exact ⟨b, h1, hg b (lt_at h3) h2, (hb b (lt_at h3) h2).trans h3⟩
  | text s n => obtain ⟨b, h1, h2, h3⟩ := h; exact ⟨b, h1, hg b (lt_at h3) h2, (hb b (lt_at h3) h2).trans h3⟩
  | vec l =>
    obtain ⟨b, sv, h1, h2, h3, h4⟩ := h
    refine ⟨b, sv, h1, hg b (lt_at h3) h2, (hb b (lt_at h3) h2).trans h3, h4.move (fun k hk e => ?_) (fun k hk e => ?_)⟩
    · by_cases hkb : k = b
      · rw [if_pos hkb] at e; exact absurd e.symm hL
      · rw [if_neg hkb] at e; exact hb k hk e
    · by_cases hkb : k = b
      · rw [if_pos hkb] at e; exact absurd e.symm hL
      · rw [if_neg hkb] at e; simp only [if_neg hkb]; exact hg k hk e
  | code le mo de bs cs =>
    obtain ⟨b, sv, cv, h1, h2, h3, h4, h5⟩ := h
    exact ⟨b, sv, cv, h1, hg b (lt_at h3) h2, (hb b (lt_at h3) h2).trans h3, h4.move hb hg, h5.move hb hg⟩
theorem ObAt.keep {w w' : World} {G G' : Nat → Nat} {L : Nat} {v : Value} {o : Ob} (hL : L ≠ 0) (h : ObAt w G L v o)
    (hb : ∀ k, k < w.heap.size → G k = L → w'.heap[k]? = w.heap[k]?) (hg : ∀ k, k < w.heap.size → G k = L → G' k = L) : ObAt w' G' L v o := h.move hL hb hg
/-- The cell of a number: nothing, or an object. -/
def OpAt (w : World) (G : Nat → Nat) (L : Nat) (v : Value) : Option Ob → Prop
  | none => v = .nilIface
  | some o => ObAt w G L v o
theorem OpAt.keep {w w' : World} {G G' : Nat → Nat} {L : Nat} {v : Value} {o : Option Ob} (hL : L ≠ 0) (h : OpAt w G L v o)
    (hb : ∀ k, k < w.heap.size → G k = L → w'.heap[k]? = w.heap[k]?) (hg : ∀ k, k < w.heap.size → G k = L → G' k = L) : OpAt w' G' L v o := by
  cases o with
  | none => exact h
  | some o => exact ObAt.keep hL h hb hg
def osize : Option Ob → Nat
  | none => 0
  | some o => o.size
def total (l : List (Option Ob)) : Nat := (l.map osize).sum
/-- A heap as plain data: the greatest number of objects, the objects by their numbers, the free numbers as they lie. -/
structure Hp where
  lim : Nat
  obs : List (Option Ob)
  free : List Int
/-- What holds of every heap. -/
structure Hp.Ok (m : Hp) : Prop where
  lim1 : 1 ≤ m.lim
  lim2 : m.lim ≤ 65536
  len : m.obs.length ≤ m.lim
  store : total m.obs ≤ 1048576
  free : ∀ i : Int, i ∈ m.free ↔ ∃ n : Nat, i = n ∧ m.obs[n]? = some none
  once : m.free.Nodup
/-- How a heap lies: its own block labelled 1, its row of objects 2, its row of free numbers 3, object i's blocks 4 + i; nothing else is labelled. -/
structure HeapAt (w : World) (hb : Nat) (G : Nat → Nat) (m : Hp) : Prop where
  ok : m.Ok
  new : ∀ k, w.heap.size ≤ k → G k = 0
  lab : G hb = 1
  lies : ∃ vo vf xs, w.heap[hb]? = some (.cells #[.int .i64 m.lim, vo, vf, .int .i64 (total m.obs)] 135 (0, 0)) ∧
    Row w G 2 96 1 vo m.obs.length xs ∧ Row w G 3 3 1 vf m.free.length (m.free.map (Value.int .i64)) ∧
    ∀ i o, m.obs[i]? = some o → ∃ v, xs[i]? = some v ∧ OpAt w G (4 + i) v o
theorem HeapAt.lt {w : World} {hb : Nat} {G : Nat → Nat} {m : Hp} (h : HeapAt w hb G m) : hb < w.heap.size := by
  obtain ⟨vo, vf, xs, h1, _⟩ := h.lies; exact lt_at h1
/-- A heap stands while its blocks stand. -/
theorem HeapAt.keep {w w' : World} {hb : Nat} {G : Nat → Nat} {m : Hp} (h : HeapAt w hb G m) (hb' : ∀ k, k < w.heap.size → G k ≠ 0 → w'.heap[k]? = w.heap[k]?) : HeapAt w' hb G m := by
  obtain ⟨ok, new, lab, vo, vf, xs, h1, h2, h3, h4⟩ := h
  refine ⟨ok, fun k hk => ?_, lab, vo, vf, xs, (hb' hb (lt_at h1) (by omega)).trans h1, h2.keep (fun k hk e => hb' k hk (by omega)) (fun _ _ e => e), h3.keep (fun k hk e => hb' k hk (by omega)) (fun _ _ e => e), fun i o ho => ?_⟩
  · by_cases hk' : w.heap.size ≤ k
    · exact new k hk'
    · by_cases hz : G k = 0
      · exact hz
      · have h5 := hb' k (by omega) hz
        rw [Array.getElem?_eq_none (by omega), Array.getElem?_eq_getElem (by omega)] at h5
        cases h5
  · obtain ⟨v, e1, e2⟩ := h4 i o ho
    exact ⟨v, e1, e2.keep (by omega) (fun k hk e => hb' k hk (by omega)) (fun _ _ e => e)⟩
theorem HeapAt.below {w w' : World} {hb : Nat} {G : Nat → Nat} {m : Hp} (h : HeapAt w hb G m) (hw : Below w.heap.size w w') : HeapAt w' hb G m := h.keep fun k hk _ => hw.block k hk
/-- What a call on a heap leaves: the heap, and all that bore no label. -/
structure Went (w w' : World) (hb : Nat) (G : Nat → Nat) (m' : Hp) : Prop where
  keeps : Keeps G w w'
  heap : ∃ G', HeapAt w' hb G' m' ∧ ∀ k, k < w.heap.size → (G' k = 0 ↔ G k = 0)
/-- The object that a word refers to. -/
def Hp.find (m : Hp) (x : Wd) : Option Ob :=
  if 0 ≤ x.2 then
    match m.obs[x.2.toNat]? with
    | some (some o) => if o.kind = x.1 then some o else none
    | _ => none
  else none
end Go.Proofs.YtbbopdkbokbafaaGreatDoor

/- What a type assertion on an object of a heap comes to. -/
namespace Go.Proofs.YtbbopdkbokbafaaGreatDoor
open Go
theorem as_pair_pair (v : Value) (w : World) : (Instr.typeAssert (.iface 93 v) 96 93 true).run Tryz.prog w = .ok (.tuple #[v, .bool true]) w := by kernel_rfl
theorem as_pair_text (v : Value) (w : World) : (Instr.typeAssert (.iface 93 v) 96 140 true).run Tryz.prog w = .ok (.tuple #[.pointer none, .bool false]) w := by kernel_rfl
theorem as_pair_vector (v : Value) (w : World) : (Instr.typeAssert (.iface 93 v) 96 206 true).run Tryz.prog w = .ok (.tuple #[.pointer none, .bool false]) w := by kernel_rfl
theorem as_pair_code (v : Value) (w : World) : (Instr.typeAssert (.iface 93 v) 96 215 true).run Tryz.prog w = .ok (.tuple #[.pointer none, .bool false]) w := by kernel_rfl
theorem as_text_pair (v : Value) (w : World) : (Instr.typeAssert (.iface 140 v) 96 93 true).run Tryz.prog w = .ok (.tuple #[.pointer none, .bool false]) w := by kernel_rfl
theorem as_text_text (v : Value) (w : World) : (Instr.typeAssert (.iface 140 v) 96 140 true).run Tryz.prog w = .ok (.tuple #[v, .bool true]) w := by kernel_rfl
theorem as_text_vector (v : Value) (w : World) : (Instr.typeAssert (.iface 140 v) 96 206 true).run Tryz.prog w = .ok (.tuple #[.pointer none, .bool false]) w := by kernel_rfl
theorem as_text_code (v : Value) (w : World) : (Instr.typeAssert (.iface 140 v) 96 215 true).run Tryz.prog w = .ok (.tuple #[.pointer none, .bool false]) w := by kernel_rfl
theorem as_vector_pair (v : Value) (w : World) : (Instr.typeAssert (.iface 206 v) 96 93 true).run Tryz.prog w = .ok (.tuple #[.pointer none, .bool false]) w := by kernel_rfl
theorem as_vector_text (v : Value) (w : World) : (Instr.typeAssert (.iface 206 v) 96 140 true).run Tryz.prog w = .ok (.tuple #[.pointer none, .bool false]) w := by kernel_rfl
theorem as_vector_vector (v : Value) (w : World) : (Instr.typeAssert (.iface 206 v) 96 206 true).run Tryz.prog w = .ok (.tuple #[v, .bool true]) w := by kernel_rfl
theorem as_vector_code (v : Value) (w : World) : (Instr.typeAssert (.iface 206 v) 96 215 true).run Tryz.prog w = .ok (.tuple #[.pointer none, .bool false]) w := by kernel_rfl
theorem as_code_pair (v : Value) (w : World) : (Instr.typeAssert (.iface 215 v) 96 93 true).run Tryz.prog w = .ok (.tuple #[.pointer none, .bool false]) w := by kernel_rfl
theorem as_code_text (v : Value) (w : World) : (Instr.typeAssert (.iface 215 v) 96 140 true).run Tryz.prog w = .ok (.tuple #[.pointer none, .bool false]) w := by kernel_rfl
theorem as_code_vector (v : Value) (w : World) : (Instr.typeAssert (.iface 215 v) 96 206 true).run Tryz.prog w = .ok (.tuple #[.pointer none, .bool false]) w := by kernel_rfl
theorem as_code_code (v : Value) (w : World) : (Instr.typeAssert (.iface 215 v) 96 215 true).run Tryz.prog w = .ok (.tuple #[v, .bool true]) w := by kernel_rfl
theorem as_nil_pair (w : World) : (Instr.typeAssert .nilIface 96 93 true).run Tryz.prog w = .ok (.tuple #[.pointer none, .bool false]) w := by kernel_rfl
theorem as_nil_text (w : World) : (Instr.typeAssert .nilIface 96 140 true).run Tryz.prog w = .ok (.tuple #[.pointer none, .bool false]) w := by kernel_rfl
theorem as_nil_vector (w : World) : (Instr.typeAssert .nilIface 96 206 true).run Tryz.prog w = .ok (.tuple #[.pointer none, .bool false]) w := by kernel_rfl
theorem as_nil_code (w : World) : (Instr.typeAssert .nilIface 96 215 true).run Tryz.prog w = .ok (.tuple #[.pointer none, .bool false]) w := by kernel_rfl
theorem mt_size_pair (b : Nat) (w : World) : (method 418 93 (.pointer (some ⟨b, 0, none⟩)) "copyist/heap.size").run Tryz.prog w = .ok (324, .pointer (some ⟨b, 0, none⟩)) w := by kernel_rfl
theorem mt_clone_pair (b : Nat) (w : World) : (method 418 93 (.pointer (some ⟨b, 0, none⟩)) "copyist/heap.clone").run Tryz.prog w = .ok (342, .pointer (some ⟨b, 0, none⟩)) w := by kernel_rfl
theorem mt_size_text (b : Nat) (w : World) : (method 418 140 (.pointer (some ⟨b, 0, none⟩)) "copyist/heap.size").run Tryz.prog w = .ok (329, .pointer (some ⟨b, 0, none⟩)) w := by kernel_rfl
theorem mt_clone_text (b : Nat) (w : World) : (method 418 140 (.pointer (some ⟨b, 0, none⟩)) "copyist/heap.clone").run Tryz.prog w = .ok (328, .pointer (some ⟨b, 0, none⟩)) w := by kernel_rfl
theorem mt_size_vector (b : Nat) (w : World) : (method 418 206 (.pointer (some ⟨b, 0, none⟩)) "copyist/heap.size").run Tryz.prog w = .ok (334, .pointer (some ⟨b, 0, none⟩)) w := by kernel_rfl
theorem mt_clone_vector (b : Nat) (w : World) : (method 418 206 (.pointer (some ⟨b, 0, none⟩)) "copyist/heap.clone").run Tryz.prog w = .ok (333, .pointer (some ⟨b, 0, none⟩)) w := by kernel_rfl
theorem mt_size_code (b : Nat) (w : World) : (method 418 215 (.pointer (some ⟨b, 0, none⟩)) "copyist/heap.size").run Tryz.prog w = .ok (336, .pointer (some ⟨b, 0, none⟩)) w := by kernel_rfl
theorem mt_clone_code (b : Nat) (w : World) : (method 418 215 (.pointer (some ⟨b, 0, none⟩)) "copyist/heap.clone").run Tryz.prog w = .ok (335, .pointer (some ⟨b, 0, none⟩)) w := by kernel_rfl
end Go.Proofs.YtbbopdkbokbafaaGreatDoor

/- The contracts of the small functions of package heap: valid, kindOf, the sizes, Many, Room, Limit. -/
namespace Go.Proofs.YtbbopdkbokbafaaGreatDoor
open Go.RowKit Go.Lib
/-- A call that only reads, met in a region that draws behind another draw. -/
theorem q_more {P : Program} {f : FuncId} {args : Array Value} {w : World} {a n : Nat} {v : Value}
    (h : Calls P f args (w.drewN (a + n)) fun e w' => e = .returned v ∧ ∃ m, w' = (w.drewN (a + n)).drewN m) : Calls P f args (w.drewN (a + n)) fun e w'' => e = .returned v ∧ ∃ k, w'' = w.drewN (a + k) :=
  h.mono fun _ _ ⟨he, m, hm⟩ => ⟨he, n + m, by rw [hm, World.drewN_drewN, Nat.add_assoc]⟩
theorem q_more_same {P : Program} {f : FuncId} {args : Array Value} {w : World} {a n : Nat} {v : Value}
    (h : Calls P f args (w.drewN (a + n)) fun e w' => e = .returned v ∧ w' = w.drewN (a + n)) : Calls P f args (w.drewN (a + n)) fun e w'' => e = .returned v ∧ ∃ k, w'' = w.drewN (a + k) :=
  h.mono fun _ _ ⟨he, hm⟩ => ⟨he, n, hm⟩
abbrev hptr (hb : Nat) : Value := .pointer (some ⟨hb, 0, none⟩)
theorem valid_any (hb : Nat) (lim : Int) (w : World) (hl : 1 ≤ lim) (hc : w.cell? ⟨hb, 0, none⟩ = some (.int .i64 lim)) :
    Calls Tryz.prog 68 #[hptr hb] w fun e w' => e = .returned (.bool true) ∧ w' = w := by
  have h0 : 0 < lim := by omega
  go_enter Tryz.func68, Tryz.ntmps68
  go_wp2
  go_ret
  exact ⟨rfl, rfl⟩
theorem valid_nil (w : World) : Calls Tryz.prog 68 #[.pointer none] w fun e w' => e = .returned (.bool false) ∧ w' = w := by
  go_enter Tryz.func68, Tryz.ntmps68
  go_wp2
  go_ret
  exact ⟨rfl, rfl⟩
theorem kind_pair (b : Nat) (w : World) : Calls Tryz.prog 115 #[.iface 93 (.pointer (some ⟨b, 0, none⟩))] w fun e w' => e = .returned (.int .i64 2) ∧ w' = w := by
  have h_pair := as_pair_pair
  go_enter Tryz.func115, Tryz.ntmps115
  go_wp2
  go_ret
  exact ⟨rfl, rfl⟩
theorem kind_text (b : Nat) (w : World) : Calls Tryz.prog 115 #[.iface 140 (.pointer (some ⟨b, 0, none⟩))] w fun e w' => e = .returned (.int .i64 3) ∧ w' = w := by
  have h_pair := as_text_pair
  have h_text := as_text_text
  go_enter Tryz.func115, Tryz.ntmps115
  go_wp2
  go_ret
  exact ⟨rfl, rfl⟩
theorem kind_vec (b : Nat) (w : World) : Calls Tryz.prog 115 #[.iface 206 (.pointer (some ⟨b, 0, none⟩))] w fun e w' => e = .returned (.int .i64 4) ∧ w' = w := by
  have h_pair := as_vector_pair
  have h_text := as_vector_text
  have h_vector := as_vector_vector
  go_enter Tryz.func115, Tryz.ntmps115
  go_wp2
  go_ret
  exact ⟨rfl, rfl⟩
theorem kind_code (b : Nat) (w : World) : Calls Tryz.prog 115 #[.iface 215 (.pointer (some ⟨b, 0, none⟩))] w fun e w' => e = .returned (.int .i64 6) ∧ w' = w := by
  have h_pair := as_code_pair
  have h_text := as_code_text
  have h_vector := as_code_vector
  go_enter Tryz.func115, Tryz.ntmps115
  go_wp2
  go_ret
  exact ⟨rfl, rfl⟩
theorem many_any (hb : Nat) (lim st : Int) (ao af : Option Addr) (n k co cf : Nat) (T : TypeId) (w : World) (hl : 1 ≤ lim)
    (hh : w.heap[hb]? = some (.cells #[.int .i64 lim, .slice ao n co, .slice af k cf, .int .i64 st] T (0, 0))) (hn : n ≤ 65536) (hk : k ≤ n) :
    Calls Tryz.prog 35 #[hptr hb] w fun e w' => e = .returned (.int .i64 ((n : Int) - k)) ∧ ∃ d, w' = w.drewN d := by
  have c0 : w.cell? ⟨hb, 0, none⟩ = some (.int .i64 lim) := cell_at hh
  have c1 : w.cell? ⟨hb, 1, none⟩ = some (.slice ao n co) := cell_at hh
  have c2 : w.cell? ⟨hb, 2, none⟩ = some (.slice af k cf) := cell_at hh
  clear hh
  have cV := valid_any hb lim w hl c0
  go_enter Tryz.func35, Tryz.ntmps35
  go_wp2_with (go_at_call 68; ((with_reducible refine cV.mono ?_); rintro e w' ⟨rfl, rfl⟩))
  go_quiet (fail)
  go_wp2
  go_ret
  exact ⟨rfl, _, rfl⟩
theorem room_any (hb : Nat) (lim st : Int) (vo vf : Value) (T : TypeId) (w : World) (hl : 1 ≤ lim)
    (hh : w.heap[hb]? = some (.cells #[.int .i64 lim, vo, vf, .int .i64 st] T (0, 0))) (h0 : 0 ≤ st) (h1 : st ≤ 1048576) :
    Calls Tryz.prog 145 #[hptr hb] w fun e w' => e = .returned (.int .i64 (1048576 - st)) ∧ w' = w := by
  have c0 : w.cell? ⟨hb, 0, none⟩ = some (.int .i64 lim) := cell_at hh
  have c3 : w.cell? ⟨hb, 3, none⟩ = some (.int .i64 st) := cell_at hh
  clear hh
  have cV := valid_any hb lim w hl c0
  go_enter Tryz.func145, Tryz.ntmps145
  go_wp2_with (go_at_call 68; ((with_reducible refine cV.mono ?_); rintro e w' ⟨rfl, rfl⟩))
  go_ret
  exact ⟨rfl, rfl⟩
theorem limit_any (hb : Nat) (lim : Int) (w : World) (hl : 1 ≤ lim) (c0 : w.cell? ⟨hb, 0, none⟩ = some (.int .i64 lim)) :
    Calls Tryz.prog 109 #[hptr hb] w fun e w' => e = .returned (.int .i64 lim) ∧ w' = w := by
  have cV := valid_any hb lim w hl c0
  go_enter Tryz.func109, Tryz.ntmps109
  go_wp2_with (go_at_call 68; ((with_reducible refine cV.mono ?_); rintro e w' ⟨rfl, rfl⟩))
  go_ret
  exact ⟨rfl, rfl⟩
theorem size_pair (b : Nat) (w : World) : Calls Tryz.prog 324 #[.pointer (some ⟨b, 0, none⟩)] w fun e w' => e = .returned (.int .i64 0) ∧ w' = w := by
  go_enter Tryz.func324, Tryz.ntmps324
  go_wp2
  go_ret
  exact ⟨rfl, rfl⟩
theorem size_text (b : Nat) (n : Int) (w : World) (h : w.cell? ⟨b, 1, none⟩ = some (.int .i64 n)) : Calls Tryz.prog 329 #[.pointer (some ⟨b, 0, none⟩)] w fun e w' => e = .returned (.int .i64 n) ∧ w' = w := by
  go_enter Tryz.func329, Tryz.ntmps329
  go_wp2
  go_ret
  exact ⟨rfl, rfl⟩
theorem size_vec (b n c : Nat) (a : Option Addr) (w : World) (h : w.cell? ⟨b, 0, none⟩ = some (.slice a n c)) : Calls Tryz.prog 334 #[.pointer (some ⟨b, 0, none⟩)] w fun e w' => e = .returned (.int .i64 n) ∧ w' = w := by
  go_enter Tryz.func334, Tryz.ntmps334
  go_wp2
  go_ret
  exact ⟨rfl, rfl⟩
theorem size_code (b n c n' c' : Nat) (a a' : Option Addr) (w : World) (h : w.cell? ⟨b, 3, none⟩ = some (.slice a n c)) (h' : w.cell? ⟨b, 4, none⟩ = some (.slice a' n' c')) (h1 : n ≤ 1048576) (h2 : n' ≤ 1048576) :
    Calls Tryz.prog 336 #[.pointer (some ⟨b, 0, none⟩)] w fun e w' => e = .returned (.int .i64 ((n : Int) + n')) ∧ ∃ d, w' = w.drewN d := by
  go_enter Tryz.func336, Tryz.ntmps336
  go_wp2
  go_quiet (fail)
  go_wp2
  go_ret
  exact ⟨rfl, _, rfl⟩
end Go.Proofs.YtbbopdkbokbafaaGreatDoor

/- The contract of find: the object that a word refers to, if there is one. -/
namespace Go.Proofs.YtbbopdkbokbafaaGreatDoor
open Go.RowKit Go.Lib
abbrev wv (x : Wd) : Value := .agg #[.int .i64 x.1, .int .i64 x.2]
/-- A row that is not empty lies in a block. -/
theorem Row.at {w : World} {G : Nat → Nat} {L : Nat} {e : TypeId} {size : Nat} {v : Value} {n : Nat} {xs : List Value} (h : Row w G L e size v n xs) (hn : 0 < n) :
    ∃ g cap cur, v = .slice (some ⟨g, 0, none⟩) n cap ∧ G g = L ∧ w.heap[g]? = some (.cells cur e (0, 0)) ∧ n ≤ cap ∧ cap ≤ maxLen ∧ cur.size = cap * size ∧ cur.toList.take (n * size) = xs := by
  obtain ⟨⟨h1, h2⟩, h3⟩ := h
  rcases h2 with h2 | ⟨g, cap, cur, hv, _, hh, hr⟩
  · omega
  · exact ⟨g, cap, cur, hv, h3 g (by rw [hv]; rfl), hh, hr⟩
theorem Row.slice {w : World} {G : Nat → Nat} {L : Nat} {e : TypeId} {size : Nat} {v : Value} {n : Nat} {xs : List Value} (h : Row w G L e size v n xs) : ∃ a cap, v = .slice a n cap := by
  obtain ⟨⟨h1, h2⟩, h3⟩ := h
  rcases h2 with ⟨rfl, rfl⟩ | ⟨g, cap, cur, hv, _⟩
  · exact ⟨none, 0, rfl⟩
  · exact ⟨_, cap, hv⟩
theorem Row.length {w : World} {G : Nat → Nat} {L : Nat} {e : TypeId} {size : Nat} {v : Value} {n : Nat} {xs : List Value} (h : Row w G L e size v n xs) : xs.length = n * size := h.own.1
/-- The cells of a row. -/
theorem Row.cell {w : World} {G : Nat → Nat} {L : Nat} {e : TypeId} {size : Nat} {n g cap : Nat} {xs : List Value} (h : Row w G L e size (.slice (some ⟨g, 0, none⟩) n cap) n xs) {i : Nat} {u : Value} (hx : xs[i]? = some u) : w.cell? ⟨g, i, none⟩ = some u := by
  obtain ⟨⟨h1, h2⟩, h3⟩ := h
  rcases h2 with ⟨h2, _⟩ | ⟨g', cap', cur, hv, _, hh, _, _, _, ht⟩
  · cases h2
  · cases hv
    rw [cell_at hh]
    rw [← ht] at hx
    have hi := (List.getElem?_eq_some_iff.1 hx).1
    simp only [List.length_take] at hi
    rw [List.getElem?_take_of_lt (by omega)] at hx
    simpa using hx
theorem _root_.Go.RowKit.Below.drewN {B : Nat} {a w : World} (h : Below B a w) (n : Nat) : Below B a (w.drewN n) := ⟨h.os, h.tape, h.output, h.size, h.block⟩
set_option maxHeartbeats 400000 in
theorem find_low (hb : Nat) (x : Wd) (w : World) (h : x.2 < 0) : Calls Tryz.prog 70 #[hptr hb, wv x] w fun e w' => e = .returned .nilIface ∧ Below w.heap.size w w' := by
  go_enter Tryz.func70, Tryz.ntmps70
  go_wp2
  go_quiet (fail)
  go_wp2
  go_ret
  exact ⟨rfl, ((Below.refl _ _).alloc (Nat.le_refl _) _).drewN _⟩
set_option maxHeartbeats 400000 in
theorem find_high (hb : Nat) (x : Wd) (n c : Nat) (a : Option Addr) (w : World) (hbl : hb < w.heap.size) (c1 : w.cell? ⟨hb, 1, none⟩ = some (.slice a n c)) (h0 : 0 ≤ x.2) (h : (n : Int) ≤ x.2) :
    Calls Tryz.prog 70 #[hptr hb, wv x] w fun e w' => e = .returned .nilIface ∧ Below w.heap.size w w' := by
  have hd : decide (x.2 < 0) = false := by simpa using h0
  clear h0
  go_enter Tryz.func70, Tryz.ntmps70
  go_wp2
  go_quiet (fail)
  go_wp2
  go_ret
  exact ⟨rfl, ((Below.refl _ _).alloc (Nat.le_refl _) _).drewN _⟩
set_option maxHeartbeats 400000 in
theorem find_free (hb : Nat) (k : Int) (i n c g : Nat) (w : World) (hbl : hb < w.heap.size) (c1 : w.cell? ⟨hb, 1, none⟩ = some (.slice (some ⟨g, 0, none⟩) n c)) (hi : i < n)
    (hg : g < w.heap.size) (cg : w.cell? ⟨g, i, none⟩ = some .nilIface) :
    Calls Tryz.prog 70 #[hptr hb, wv (k, i)] w fun e w' => e = .returned .nilIface ∧ Below w.heap.size w w' := by
  have hd : decide ((i : Int) < 0) = false := by simp
  have hd2 : decide ((n : Int) ≤ (i : Int)) = false := by simpa using hi
  go_enter Tryz.func70, Tryz.ntmps70
  go_wp2
  go_quiet (fail)
  go_wp2
  go_quiet (fail)
  go_wp2
  go_quiet (fail)
  go_wp2
  go_ret
  exact ⟨rfl, ((((Below.refl _ _).alloc (Nat.le_refl _) _).drewN _).drewN _).drewN _⟩
set_option maxHeartbeats 400000 in
theorem find_at (hb : Nat) (k : Int) (i n c g : Nat) (T : TypeId) (p : Value) (kd : Int) (w : World) (hbl : hb < w.heap.size) (c1 : w.cell? ⟨hb, 1, none⟩ = some (.slice (some ⟨g, 0, none⟩) n c)) (hi : i < n)
    (hg : g < w.heap.size) (cg : w.cell? ⟨g, i, none⟩ = some (.iface T p))
    (cK : ∀ W, Calls Tryz.prog 115 #[.iface T p] W fun e w' => e = .returned (.int .i64 kd) ∧ w' = W) (b : Bool) (hk : (kd != k) = b) :
    Calls Tryz.prog 70 #[hptr hb, wv (k, i)] w fun e w' => e = .returned (if b then .nilIface else .iface T p) ∧ Below w.heap.size w w' := by
  have hd : decide ((i : Int) < 0) = false := by simp
  have hd2 : decide ((n : Int) ≤ (i : Int)) = false := by simpa using hi
  have CK := Lib.hid cK
  clear cK
  cases b
  · have hk' : (kd == k) = true := by simpa using hk
    go_enter Tryz.func70, Tryz.ntmps70
    go_wp2
    go_quiet (fail)
    go_wp2
    go_quiet (fail)
    go_wp2
    go_quiet ((go_at_call 115; exact q_more_same (CK.out _)))
    go_wp2
    go_ret
    exact ⟨rfl, ((Below.refl _ _).alloc (Nat.le_refl _) _).drewN _⟩
  · have hk' : (kd == k) = false := by simpa using hk
    go_enter Tryz.func70, Tryz.ntmps70
    go_wp2
    go_quiet (fail)
    go_wp2
    go_quiet (fail)
    go_wp2
    go_quiet ((go_at_call 115; exact q_more_same (CK.out _)))
    go_wp2
    go_ret
    exact ⟨rfl, ((Below.refl _ _).alloc (Nat.le_refl _) _).drewN _⟩
theorem ObAt.iface {w : World} {G : Nat → Nat} {L : Nat} {v : Value} {o : Ob} (h : ObAt w G L v o) : ∃ T b, v = .iface T (.pointer (some ⟨b, 0, none⟩)) ∧ G b = L := by
  cases o with
  | pair a d => obtain ⟨b, h1, h2, _⟩ := h; exact ⟨_, b, h1, h2⟩
  | text s n => obtain ⟨b, h1, h2, _⟩ := h; exact ⟨_, b, h1, h2⟩
  | vec l => obtain ⟨b, sv, h1, h2, _⟩ := h; exact ⟨_, b, h1, h2⟩
  | code le mo de bs cs => obtain ⟨b, sv, cv, h1, h2, _⟩ := h; exact ⟨_, b, h1, h2⟩
/-- kindOf looks at the interface value alone. -/
theorem kind_v {w : World} {G : Nat → Nat} {L : Nat} {v : Value} {o : Ob} (h : ObAt w G L v o) (W : World) : Calls Tryz.prog 115 #[v] W fun e w' => e = .returned (.int .i64 o.kind) ∧ w' = W := by
  cases o with
  | pair a d => obtain ⟨b, rfl, _⟩ := h; exact kind_pair b W
  | text s n => obtain ⟨b, rfl, _⟩ := h; exact kind_text b W
  | vec l => obtain ⟨b, sv, rfl, _⟩ := h; exact kind_vec b W
  | code le mo de bs cs => obtain ⟨b, sv, cv, rfl, _⟩ := h; exact kind_code b W
theorem find_none {w : World} {hb : Nat} {G : Nat → Nat} {m : Hp} (h : HeapAt w hb G m) (x : Wd) (hx : m.find x = none) :
    Calls Tryz.prog 70 #[hptr hb, wv x] w fun e w' => e = .returned .nilIface ∧ Below w.heap.size w w' := by
  have hlt := h.lt
  obtain ⟨ok, new, lab, vo, vf, xs, h1, h2, h3, h4⟩ := h
  by_cases h0 : x.2 < 0
  · exact find_low hb x w h0
  · obtain ⟨a, c, rfl⟩ := h2.slice
    have c1 : w.cell? ⟨hb, 1, none⟩ = some (.slice a m.obs.length c) := cell_at h1
    by_cases hn : (m.obs.length : Int) ≤ x.2
    · exact find_high hb x _ c a w hlt c1 (by omega) hn
    · obtain ⟨k, i⟩ := x
      obtain ⟨i, rfl⟩ := Int.eq_ofNat_of_zero_le (a := i) (by simpa using h0)
      have hi : i < m.obs.length := by simpa using hn
      obtain ⟨g, cap, cur, hv, hg, hh, _⟩ := h2.at (by omega)
      cases hv
      obtain ⟨o, ho⟩ : ∃ o, m.obs[i]? = some o := ⟨_, List.getElem?_eq_getElem hi⟩
      obtain ⟨v, hv1, hv2⟩ := h4 i o ho
      have cg := h2.cell hv1
      cases o with
      | none => rw [show v = .nilIface from hv2] at cg; exact find_free hb k i _ c g w hlt c1 hi (lt_at hh) cg
      | some o =>
        have hk : o.kind ≠ k := by
          intro e
          simp [Hp.find, ho, e] at hx
        have hv2 : ObAt w G (4 + i) v o := hv2
        obtain ⟨T, b, rfl, _⟩ := hv2.iface
        exact find_at hb k i _ c g T _ o.kind w hlt c1 hi (lt_at hh) cg (kind_v hv2) true (by simpa using hk)
theorem find_some {w : World} {hb : Nat} {G : Nat → Nat} {m : Hp} (h : HeapAt w hb G m) (x : Wd) (o : Ob) (hx : m.find x = some o) :
    ∃ v, m.obs[x.2.toNat]? = some (some o) ∧ ObAt w G (4 + x.2.toNat) v o ∧ Calls Tryz.prog 70 #[hptr hb, wv x] w fun e w' => e = .returned v ∧ Below w.heap.size w w' := by
  have hlt := h.lt
  obtain ⟨ok, new, lab, vo, vf, xs, h1, h2, h3, h4⟩ := h
  obtain ⟨k, i⟩ := x
  unfold Hp.find at hx
  by_cases h0 : 0 ≤ i
  · rw [if_pos h0] at hx
    obtain ⟨i, rfl⟩ := Int.eq_ofNat_of_zero_le h0
    simp only [Int.toNat_natCast] at hx ⊢
    cases ho : m.obs[i]? with
    | none => rw [ho] at hx; cases hx
    | some o' =>
      cases o' with
      | none => rw [ho] at hx; cases hx
      | some o' =>
        rw [ho] at hx
        simp only at hx
        by_cases hk : o'.kind = k
        · rw [if_pos hk] at hx
          have ho2 := Option.some.inj hx
          subst ho2
          have hi : i < m.obs.length := (List.getElem?_eq_some_iff.1 ho).1
          obtain ⟨a, c, rfl⟩ := h2.slice
          have c1 : w.cell? ⟨hb, 1, none⟩ = some (.slice a m.obs.length c) := cell_at h1
          obtain ⟨g, cap, cur, hv, hg, hh, _⟩ := h2.at (by omega)
          cases hv
          obtain ⟨v, hv1, hv2⟩ := h4 i _ ho
          have cg := h2.cell hv1
          have hv2 : ObAt w G (4 + i) v o' := hv2
          obtain ⟨T, b, rfl, _⟩ := hv2.iface
          exact ⟨_, rfl, hv2, find_at hb k i _ c g T _ o'.kind w hlt c1 hi (lt_at hh) cg (kind_v hv2) false (by simpa using hk)⟩
        · rw [if_neg hk] at hx; cases hx
  · rw [if_neg h0] at hx; cases hx
end Go.Proofs.YtbbopdkbokbafaaGreatDoor

/- append to a row of one's own: where the new row lies. -/
namespace Go.Proofs.YtbbopdkbokbafaaGreatDoor
open Go.RowKit Go.Lib
section
variable {P : Program} (w : World)
theorem run_append_row (t ty e : TypeId) (i : TypeInfo) (z : Value) (size bytes : Nat) (ht : P.underlying t = some (.slice e)) (hi : P.info? e = some i) (hz : i.zero = some z)
    (hsize : i.size = size) (hby : i.bytes = bytes) (hzs : z.cells.size = size) (hsz : 0 < size)
    (v : Value) (n : Nat) (xs : List Value) (hown : w.ownsRow 0 e size v n xs)
    (a : Addr) (m c : Nat) (news : List Value) (hl : news.length = m * size) (hnews : ∀ j u, news[j]? = some u → w.cell? (a.add j) = some u) (h1 : ∀ u ∈ news, u.oneCell' = true)
    (h63 : n + m ≤ maxLen) (hbytes : (n + m) * bytes ≤ 140737488355328) :
    ∃ v' w', (Builtin.append_ #[t, t] ty #[v, .slice (some a) m c]).run P w = .ok v' w' ∧ w'.ownsRow 0 e size v' (n + m) (xs ++ news) ∧ w.grownBy w' v.ownBlock ∧
      (v' = .slice none 0 0 ↔ v = .slice none 0 0 ∧ m = 0) ∧ ∀ k, v'.ownBlock = some k → v.ownBlock = some k ∨ w.heap.size ≤ k := by
  obtain ⟨v', w', hr, h2, h3, h4⟩ := run_append_own w 0 t ty e i z size bytes ht hi hz hsize hby hzs hsz v n xs hown a m c news hl hnews h1 h63 hbytes (Nat.zero_le _)
  refine ⟨v', w', hr, h2, h3, h4, ?_⟩
  rcases hown.2 with ⟨hv, hn⟩ | ⟨g, cap, cur, hv, hbg, hg, hnc, hcm, hcs, htake⟩
  · obtain ⟨v2, w2, hr2, g2, _, _⟩ := run_append_own w w.heap.size t ty e i z size bytes ht hi hz hsize hby hzs hsz v n xs ⟨hown.1, .inl ⟨hv, hn⟩⟩ a m c news hl hnews h1 h63 hbytes (Nat.le_refl _)
    rw [hr] at hr2
    cases hr2
    intro k hk
    exact .inr (g2.lt k hk).1
  · subst hv
    by_cases hroom : n + m ≤ cap
    · have hfit : n * i.size + news.length ≤ cur.size := by rw [hl, hcs, hsize, ← Nat.add_mul]; exact Nat.mul_le_mul_right _ hroom
      have hr2 := run_append_room (P := P) w t ty e i ht hi g n cap cur hg a m c news (by rw [hsize]; exact hl) hnews h1 hroom hfit
      rw [hr] at hr2
      cases hr2
      intro k hk
      exact .inl hk
    · have holds : ∀ j u, xs[j]? = some u → w.cell? ((⟨g, 0, none⟩ : Addr).add j) = some u := hown.cells (g := g) rfl
      have hsmall : n + m ≤ 9223372036854775807 := by simp only [maxLen] at h63; omega
      have hr2 := run_append_grow (P := P) w t ty e i z ht hi hz ⟨g, 0, none⟩ n cap xs (by rw [hsize]; exact hown.1) holds a m c news (by rw [hsize]; exact hl) hnews (by omega) (by omega) (growslice_fits (by omega) (by rw [hby]; exact hbytes))
      rw [hr] at hr2
      cases hr2
      intro k hk
      simp only [Value.ownBlock, Option.some.injEq] at hk
      exact .inr (by omega)
theorem wpList_append_row {ops : Array Oper} {rest : List Oper} {o : Oper} {a : Act} {Q : Exit → Act → World → Prop} (hgd : o.guard = none) (s x : Operand) (t : TypeId)
    (ho : o.op = .call { callee := .builtin .append, args := #[s, x], argTypes := #[t, t] })
    (e : TypeId) (i : TypeInfo) (z : Value) (size bytes : Nat) (ht : P.underlying t = some (.slice e)) (hi : P.info? e = some i) (hz : i.zero = some z)
    (hsize : i.size = size) (hby : i.bytes = bytes) (hzs : z.cells.size = size) (hsz : 0 < size)
    (v : Value) (n : Nat) (xs : List Value) (hs : a.eval s = v) (G : Nat → Nat) (L : Nat) (hrow : Row w G L e size v n xs)
    (ad : Addr) (m c : Nat) (news : List Value) (hx : a.eval x = .slice (some ad) m c) (hl : news.length = m * size) (hnews : ∀ j u, news[j]? = some u → w.cell? (ad.add j) = some u) (h1 : ∀ u ∈ news, u.oneCell' = true)
    (h63 : n + m ≤ maxLen) (hbytes : (n + m) * bytes ≤ 140737488355328)
    (h : ∀ v' w', Row w' (fun k => if k < w.heap.size then G k else L) L e size v' (n + m) (xs ++ news) → w.grownBy w' v.ownBlock → (v' = .slice none 0 0 ↔ v = .slice none 0 0 ∧ m = 0) → wpList P ops Q rest (a.put o.dst v') w') : wpList P ops Q (o :: rest) a w :=
  wpList_plain hgd fun _ hK => by
    obtain ⟨v', w', hr, h2, h3, h4, h5⟩ := run_append_row (P := P) w t o.type e i z size bytes ht hi hz hsize hby hzs hsz v n xs hrow.own ad m c news hl hnews h1 h63 hbytes
    have hfin := hK _ _ (h v' w' ⟨h2, fun k hk => by
      rcases h5 k hk with h6 | h6
      · have := hrow.lt k h6
        rw [if_pos this]; exact hrow.lab k h6
      · rw [if_neg (by omega)]⟩ h3 h4)
    unfold Oper.wp execOp
    simp only [ho, resolve, invoke, builtin, Sem.run_bind, Sem.run_pure, Result.andThen_ok, List.map_toArray, List.map_cons, List.map_nil, hs, hx, hr]
    exact hfin
end
end Go.Proofs.YtbbopdkbokbafaaGreatDoor

/- The contract of place where no number is free: the row of objects grows by one. -/
namespace Go.Proofs.YtbbopdkbokbafaaGreatDoor
open Go.RowKit Go.Lib
theorem info_ob : (Tryz.prog.info? 96).map (fun i => (i.zero, i.size, i.bytes)) = some (some .nilIface, 1, 16) := by kernel_rfl
set_option maxHeartbeats 1000000 in
theorem place_new (hb n cf : Nat) (lim st : Int) (vo x : Value) (af : Option Addr) (xs : List Value) (G : Nat → Nat) (T : TypeId) (p : Value) (w : World)
    (hh : w.heap[hb]? = some (.cells #[.int .i64 lim, vo, .slice af 0 cf, .int .i64 st] 135 (0, 0))) (hr : Row w G 2 96 1 vo n xs) (hG : G hb = 1) (hn : n < 65536) (hx : x = .iface T p) :
    Calls Tryz.prog 146 #[hptr hb, x] w fun e w' => e = .returned (.int .i64 n) ∧ ∃ vo', w'.heap[hb]? = some (.cells #[.int .i64 lim, vo', .slice af 0 cf, .int .i64 st] 135 (0, 0)) ∧
      Row w' (fun k => if k < w.heap.size then G k else 2) 2 96 1 vo' (n + 1) (xs ++ [x]) ∧ w'.os = w.os ∧ w'.tape = w.tape ∧ w'.output = w.output ∧ w.heap.size ≤ w'.heap.size ∧
      ∀ k, k < w.heap.size → G k ≠ 1 → G k ≠ 2 → w'.heap[k]? = w.heap[k]? := by
  subst hx
  obtain ⟨i0, hi, hz0, hz1, hz2⟩ := info_parts info_ob
  have hbl := lt_at hh
  have hr2 : Row (w.alloc (.cells #[.iface T p] 96)) G 2 96 1 vo n xs := hr.keep (fun k hk _ => Below.heap_alloc _ _ _ hk) (fun _ _ e => e)
  have hlab : ∀ k, vo.ownBlock = some k → k ≠ hb ∧ G k = 2 := fun k hk => ⟨(fun e => by have := hr.lab k hk; rw [e, hG] at this; omega), hr.lab k hk⟩
  obtain ⟨ao, co, rfl⟩ := hr.slice
  have c1 : w.cell? ⟨hb, 1, none⟩ = some (.slice ao n co) := cell_at hh
  have c2 : w.cell? ⟨hb, 2, none⟩ = some (.slice af 0 cf) := cell_at hh
  have f1 : w.frozen? ⟨hb, 1, none⟩ = false := frozen_at hh
  have HH := Lib.hid hh
  have HL := Lib.hid hlab
  clear hh hr hlab
  go_enter Tryz.func146, Tryz.ntmps146
  go_wp2_with (at_builtin; refine wpList_append_row _ rfl _ _ 132 rfl 96 i0 .nilIface 1 16 Tryz.underlying132 hi hz0 hz1 hz2 rfl (by decide) _ _ _ rfl G 2 hr2 ⟨w.heap.size, 0, none⟩ 1 1 [.iface T p] rfl rfl ?c1 ?c2 ?c3 ?c4 ?_)
  case c1 =>
    intro j u hj
    match j, hj with
    | 0, hj => simp at hj; subst hj; simp [Addr.add]
    | (j + 1), hj => simp at hj
  case c2 => intro u hu; simp at hu; subst hu; rfl
  case c3 => unfold maxLen; omega
  case c4 => omega
  intro v' w1 hrow hgr _
  obtain ⟨g, cap', _, rfl, hg2, _⟩ := hrow.at (by omega)
  have hb1 : w1.heap[hb]? = w.heap[hb]? := by
    rw [hgr.block hb (by simp; omega) (fun e => (HL.out hb e.symm).1 rfl), Below.heap_alloc _ _ _ hbl]
  have hh1 := hb1.trans HH.out
  have d1 : w1.cell? ⟨hb, 1, none⟩ = some (.slice ao n co) := cell_at hh1
  have d2 : w1.cell? ⟨hb, 2, none⟩ = some (.slice af 0 cf) := cell_at hh1
  have e1 : w1.frozen? ⟨hb, 1, none⟩ = false := frozen_at hh1
  have hs1 := hgr.size
  have hK : Keeps (fun k => if G k = 1 then 1 else if G k = 2 then 2 else 0) w w1 := ((Keeps.refl _ _).alloc _).grown hgr (fun k hk _ => by rw [(HL.out k hk).2]; simp)
  have HZ := Lib.hid (And.intro hh1 (And.intro hrow (And.intro hK hg2)))
  clear hb1 hh1 hrow hgr hK hg2 hr2 c1 c2 f1
  go_wp2
  go_ret
  obtain ⟨hh1, hrow, hK, hg2⟩ := HZ.out
  have hne : g ≠ hb := by
    intro e
    subst e
    have hg3 : (if g < w.heap.size + 1 then G g else 2) = 2 := by simpa using hg2
    rw [if_pos (by omega)] at hg3
    omega
  refine ⟨rfl, _, setCell_at hh1 _, ?_, hK.os, hK.tape, hK.output, by simpa [World.setCell] using hK.size, fun k hk n1 n2 => ?_⟩
  · refine hrow.keep (fun k hk e => setCell_off _ ?_) (fun k hk e => ?_)
    · intro e2
      simp only at e2
      subst e2
      have e3 : (if k < w.heap.size + 1 then G k else 2) = 2 := by simpa using e
      rw [if_pos (by omega)] at e3
      omega
    · by_cases h3 : k < w.heap.size
      · have e3 : (if k < w.heap.size + 1 then G k else 2) = 2 := by simpa using e
        rw [if_pos (by omega)] at e3
        simp only [if_pos h3]
        exact e3
      · simp only [if_neg h3]
  · rw [setCell_off _ (by intro e; subst e; exact n1 hG)]
    exact hK.block k hk (by simp [n1, n2])
end Go.Proofs.YtbbopdkbokbafaaGreatDoor

