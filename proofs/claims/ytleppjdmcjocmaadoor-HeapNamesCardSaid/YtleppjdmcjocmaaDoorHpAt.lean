/- What a heap object holds, as plain data, and how it lies in memory. -/
import Derived.Test.YtleppjdmcjocmaaDoorHpMem
namespace Go.Proofs.YtleppjdmcjocmaaDoor
open Go.RowKit Go.Lib
/-- An object of a heap. -/
inductive Ob where
  | pair (a d : Wd)
  | text (s : ByteArray) (n : Nat)
  | vec (l : List Wd)
  | code (le mo de : Int) (bs : List UInt8) (cs : List Wd)
def Ob.kind : Ob → Int
  | .pair .. => 2
  | .text .. => 3
  | .vec .. => 4
  | .code .. => 6
def Ob.size : Ob → Nat
  | .pair .. => 0
  | .text _ n => n
  | .vec l => l.length
  | .code _ _ _ bs cs => bs.length + cs.length
/-- How an object lies: what its interface value is, its blocks labelled L. -/
def ObAt (w : World) (G : Nat → Nat) (L : Nat) (v : Value) : Ob → Prop
  | .pair a d => ∃ b, v = .iface 69 (.pointer (some ⟨b, 0, none⟩)) ∧ G b = L ∧ w.heap[b]? = some (.cells #[.int .i64 a.1, .int .i64 a.2, .int .i64 d.1, .int .i64 d.2] 71 (0, 0))
  | .text s n => ∃ b, v = .iface 74 (.pointer (some ⟨b, 0, none⟩)) ∧ G b = L ∧ w.heap[b]? = some (.cells #[.string s, .int .i64 n] 77 (0, 0))
  | .vec l => ∃ b sv, v = .iface 82 (.pointer (some ⟨b, 0, none⟩)) ∧ G b = L ∧ w.heap[b]? = some (.cells #[sv] 84 (0, 0)) ∧ Row w (fun k => if k = b then 0 else G k) L 28 2 sv l.length (wcells l)
  | .code le mo de bs cs => ∃ b sv cv, v = .iface 94 (.pointer (some ⟨b, 0, none⟩)) ∧ G b = L ∧ w.heap[b]? = some (.cells #[.int .i64 le, .int .i64 mo, .int .i64 de, sv, cv] 97 (0, 0)) ∧
      Row w G L 5 1 sv bs.length (bs.map fun x => Value.int .u8 x.toNat) ∧ Row w G L 28 2 cv cs.length (wcells cs)
theorem ObAt.move {w w' : World} {G G' : Nat → Nat} {L L' : Nat} {v : Value} {o : Ob} (hL : L ≠ 0) (h : ObAt w G L v o)
    (hb : ∀ k, k < w.heap.size → G k = L → w'.heap[k]? = w.heap[k]?) (hg : ∀ k, k < w.heap.size → G k = L → G' k = L') : ObAt w' G' L' v o := by
  cases o with
  | pair a d => obtain ⟨b, h1, h2, h3⟩ := h; exact ⟨b, h1, hg b (lt_at h3) h2, (hb b (lt_at h3) h2).trans h3⟩
  | text s n => obtain ⟨b, h1, h2, h3⟩ := h; exact ⟨b, h1, hg b (lt_at h3) h2, (hb b (lt_at h3) h2).trans h3⟩
  | vec l =>
    obtain ⟨b, sv, h1, h2, h3, h4⟩ := h
    refine ⟨b, sv, h1, hg b (lt_at h3) h2, (hb b (lt_at h3) h2).trans h3, h4.move (fun k hk e => ?_) (fun k hk e => ?_)⟩
    · by_cases hkb : k = b
      · rw [if_pos hkb] at e; exact absurd e.symm hL
      · rw [if_neg hkb] at e; exact hb k hk e
    · by_cases hkb : k = b
      · rw [if_pos hkb] at e; exact absurd e.symm hL
      · rw [if_neg hkb] at e; simp only [if_neg hkb]; exact hg k hk e
  | code le mo de bs cs =>
    obtain ⟨b, sv, cv, h1, h2, h3, h4, h5⟩ := h
    exact ⟨b, sv, cv, h1, hg b (lt_at h3) h2, (hb b (lt_at h3) h2).trans h3, h4.move hb hg, h5.move hb hg⟩
theorem ObAt.keep {w w' : World} {G G' : Nat → Nat} {L : Nat} {v : Value} {o : Ob} (hL : L ≠ 0) (h : ObAt w G L v o)
    (hb : ∀ k, k < w.heap.size → G k = L → w'.heap[k]? = w.heap[k]?) (hg : ∀ k, k < w.heap.size → G k = L → G' k = L) : ObAt w' G' L v o := h.move hL hb hg
/-- The cell of a number: nothing, or an object. -/
def OpAt (w : World) (G : Nat → Nat) (L : Nat) (v : Value) : Option Ob → Prop
  | none => v = .nilIface
  | some o => ObAt w G L v o
theorem OpAt.keep {w w' : World} {G G' : Nat → Nat} {L : Nat} {v : Value} {o : Option Ob} (hL : L ≠ 0) (h : OpAt w G L v o)
    (hb : ∀ k, k < w.heap.size → G k = L → w'.heap[k]? = w.heap[k]?) (hg : ∀ k, k < w.heap.size → G k = L → G' k = L) : OpAt w' G' L v o := by
  cases o with
  | none => exact h
  | some o => exact ObAt.keep hL h hb hg
def osize : Option Ob → Nat
  | none => 0
  | some o => o.size
def total (l : List (Option Ob)) : Nat := (l.map osize).sum
/-- A heap as plain data: the greatest number of objects, the objects by their numbers, the free numbers as they lie. -/
structure Hp where
  lim : Nat
  obs : List (Option Ob)
  free : List Int
/-- What holds of every heap. -/
structure Hp.Ok (m : Hp) : Prop where
  lim1 : 1 ≤ m.lim
  lim2 : m.lim ≤ 65536
  len : m.obs.length ≤ m.lim
  store : total m.obs ≤ 1048576
  free : ∀ i : Int, i ∈ m.free ↔ ∃ n : Nat, i = n ∧ m.obs[n]? = some none
  once : m.free.Nodup
/-- How a heap lies: its own block labelled 1, its row of objects 2, its row of free numbers 3, object i's blocks 4 + i; nothing else is labelled. -/
structure HeapAt (w : World) (hb : Nat) (G : Nat → Nat) (m : Hp) : Prop where
  ok : m.Ok
  new : ∀ k, w.heap.size ≤ k → G k = 0
  lab : G hb = 1
  lies : ∃ vo vf xs, w.heap[hb]? = some (.cells #[.int .i64 m.lim, vo, vf, .int .i64 (total m.obs)] 67 (0, 0)) ∧
    Row w G 2 80 1 vo m.obs.length xs ∧ Row w G 3 3 1 vf m.free.length (m.free.map (Value.int .i64)) ∧
    ∀ i o, m.obs[i]? = some o → ∃ v, xs[i]? = some v ∧ OpAt w G (4 + i) v o
theorem HeapAt.lt {w : World} {hb : Nat} {G : Nat → Nat} {m : Hp} (h : HeapAt w hb G m) : hb < w.heap.size := by
  obtain ⟨vo, vf, xs, h1, _⟩ := h.lies; exact lt_at h1
/-- A heap stands while its blocks stand. -/
theorem HeapAt.keep {w w' : World} {hb : Nat} {G : Nat → Nat} {m : Hp} (h : HeapAt w hb G m) (hb' : ∀ k, k < w.heap.size → G k ≠ 0 → w'.heap[k]? = w.heap[k]?) : HeapAt w' hb G m := by
  obtain ⟨ok, new, lab, vo, vf, xs, h1, h2, h3, h4⟩ := h
  refine ⟨ok, fun k hk => ?_, lab, vo, vf, xs, (hb' hb (lt_at h1) (by omega)).trans h1, h2.keep (fun k hk e => hb' k hk (by omega)) (fun _ _ e => e), h3.keep (fun k hk e => hb' k hk (by omega)) (fun _ _ e => e), fun i o ho => ?_⟩
  · by_cases hk' : w.heap.size ≤ k
    · exact new k hk'
    · by_cases hz : G k = 0
      · exact hz
      · have h5 := hb' k (by omega) hz
        rw [Array.getElem?_eq_none (by omega), Array.getElem?_eq_getElem (by omega)] at h5
        cases h5
  · obtain ⟨v, e1, e2⟩ := h4 i o ho
    exact ⟨v, e1, e2.keep (by omega) (fun k hk e => hb' k hk (by omega)) (fun _ _ e => e)⟩
theorem HeapAt.below {w w' : World} {hb : Nat} {G : Nat → Nat} {m : Hp} (h : HeapAt w hb G m) (hw : Below w.heap.size w w') : HeapAt w' hb G m := h.keep fun k hk _ => hw.block k hk
/-- What a call on a heap leaves: the heap, and all that bore no label. -/
structure Went (w w' : World) (hb : Nat) (G : Nat → Nat) (m' : Hp) : Prop where
  keeps : Keeps G w w'
  heap : ∃ G', HeapAt w' hb G' m' ∧ ∀ k, k < w.heap.size → (G' k = 0 ↔ G k = 0)
/-- The object that a word refers to. -/
def Hp.find (m : Hp) (x : Wd) : Option Ob :=
  if 0 ≤ x.2 then
    match m.obs[x.2.toNat]? with
    | some (some o) => if o.kind = x.1 then some o else none
    | _ => none
  else none
end Go.Proofs.YtleppjdmcjocmaaDoor
