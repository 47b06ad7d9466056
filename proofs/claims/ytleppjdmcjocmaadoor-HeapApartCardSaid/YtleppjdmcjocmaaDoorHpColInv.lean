/- The law HeapCollect: what holds of its memory. -/
import Derived.Test.YtleppjdmcjocmaaDoorHpColSpec
import Derived.Test.YtleppjdmcjocmaaDoorHpHolds2
import Derived.Test.YtleppjdmcjocmaaDoorHpLive
namespace Go.Proofs.YtleppjdmcjocmaaDoor
open Go.RowKit Go.Lib
/-- A slice of ints that came in. -/
def ArgI (w : World) (v : Value) (L : List Int) : Prop :=
  (v = .slice none 0 0 ∧ L = []) ∨ (∃ a c, v = .slice (some a) 0 c ∧ L = []) ∨
    (0 < L.length ∧ ∃ b o c, v = .slice (some ⟨b, o, none⟩) L.length c ∧ b < w.heap.size ∧ ∀ j a, L[j]? = some a → w.cell? ⟨b, o + j, none⟩ = some (.int .i64 a))
theorem ArgI.slice {w : World} {v : Value} {L : List Int} (h : ArgI w v L) : ∃ a c, v = .slice a L.length c := by
  rcases h with ⟨rfl, rfl⟩ | ⟨a, c, rfl, rfl⟩ | ⟨_, b, o, c, rfl, _⟩
  · exact ⟨none, 0, rfl⟩
  · exact ⟨_, c, rfl⟩
  · exact ⟨_, c, rfl⟩
/-- The element of an argument. -/
theorem ArgI.elem {w : World} {a0 : Option Addr} {c0 k : Nat} {L : List Int} {a : Int} (h : ArgI w (.slice a0 L.length c0) L) (ha : L[k]? = some a) : ∃ b o, a0 = some ⟨b, o, none⟩ ∧ b < w.heap.size ∧ w.cell? ⟨b, o + k, none⟩ = some (.int .i64 a) := by
  have hl := (List.getElem?_eq_some_iff.1 ha).1
  rcases h with ⟨_, e⟩ | ⟨_, _, _, e⟩ | ⟨_, b, o, c, e, hb, hc⟩
  · rw [e] at hl; simp at hl
  · rw [e] at hl; simp at hl
  · cases e
    exact ⟨b, o, rfl, hb, hc k a ha⟩
/-- The law's heap, and its inputs. -/
structure LHeap (w wr : World) (hb : Nat) (G : Nat → Nat) (m : Hp) : Prop where
  below : Below w.heap.size w wr
  heap : HeapAt wr hb G m
  low : ∀ k, k < w.heap.size → G k = 0
theorem LHeap.junk {w wr wr' : World} {hb : Nat} {G : Nat → Nat} {m : Hp} (h : LHeap w wr hb G m) (hw : Below wr.heap.size wr wr') : LHeap w wr' hb G m := ⟨h.below.trans (hw.mono h.below.size), h.heap.below hw, h.low⟩
theorem LHeap.went {w wr w' : World} {hb : Nat} {G : Nat → Nat} {m m' : Hp} (h : LHeap w wr hb G m) (hw : Went wr w' hb G m') : ∃ G', LHeap w w' hb G' m' ∧ ∀ k, k < wr.heap.size → (G' k = 0 ↔ G k = 0) := by
  obtain ⟨hk, G', h1, h2⟩ := hw
  exact ⟨G', ⟨h.below.trans (hk.below h.below.size h.low), h1, fun k hk' => (h2 k (Nat.lt_of_lt_of_le hk' h.below.size)).2 (h.low k hk')⟩, h2⟩
/-- The law's own rows: what it has met, what is to do, its roots. -/
structure LRows (w wr : World) (G D : Nat → Nat) (mv : Value) (met : List Bool) (tv : Value) (todo : List Int) (fv : Value) (R : List Wd) : Prop where
  met : Row wr D 1 4 1 mv 41 (bools met)
  todo : Row wr D 2 3 1 tv todo.length (ints todo)
  roots : Row wr D 3 28 2 fv R.length (wcells R)
  sep : ∀ k, D k ≠ 0 → k < wr.heap.size → w.heap.size ≤ k ∧ G k = 0
theorem LRows.junk {w wr wr' : World} {G D : Nat → Nat} {mv tv fv : Value} {met : List Bool} {todo : List Int} {R : List Wd} (h : LRows w wr G D mv met tv todo fv R) (hw : Below wr.heap.size wr wr') :
    LRows w wr' G (fun k => if k < wr.heap.size then D k else 0) mv met tv todo fv R :=
  ⟨h.met.keep (fun k hk _ => hw.block k hk) (fun k hk e => (if_pos hk).trans e), h.todo.keep (fun k hk _ => hw.block k hk) (fun k hk e => (if_pos hk).trans e), h.roots.keep (fun k hk _ => hw.block k hk) (fun k hk e => (if_pos hk).trans e), fun k hk _ => by
    by_cases h1 : k < wr.heap.size
    · rw [if_pos h1] at hk; exact h.sep k hk h1
    · rw [if_neg h1] at hk; exact absurd rfl hk⟩
/-- A call on the heap leaves the rows. -/
theorem LRows.went {w wr w' : World} {hb : Nat} {G G' D : Nat → Nat} {m' : Hp} {mv tv fv : Value} {met : List Bool} {todo : List Int} {R : List Wd} (h : LRows w wr G D mv met tv todo fv R) (hw : Went wr w' hb G m') (hg : ∀ k, k < wr.heap.size → (G' k = 0 ↔ G k = 0)) :
    LRows w w' G' (fun k => if k < wr.heap.size then D k else 0) mv met tv todo fv R :=
  ⟨h.met.keep (fun k hk e => hw.keeps.block k hk (h.sep k (by omega) hk).2) (fun k hk e => (if_pos hk).trans e), h.todo.keep (fun k hk e => hw.keeps.block k hk (h.sep k (by omega) hk).2) (fun k hk e => (if_pos hk).trans e),
    h.roots.keep (fun k hk e => hw.keeps.block k hk (h.sep k (by omega) hk).2) (fun k hk e => (if_pos hk).trans e), fun k hk _ => by
    by_cases h1 : k < wr.heap.size
    · rw [if_pos h1] at hk
      exact ⟨(h.sep k hk h1).1, (hg k h1).2 (h.sep k hk h1).2⟩
    · rw [if_neg h1] at hk; exact absurd rfl hk⟩
theorem row_slim {w : World} {D : Nat → Nat} {L e size n : Nat} {v : Value} {xs : List Value} (h : Row w D L e size v n xs) : ∀ D' : Nat → Nat, (∀ k, v.ownBlock = some k → D' k = L) → Row w D' L e size v n xs := fun _ hd => ⟨h.own, hd⟩
/-- The stack grows. -/
theorem LRows.pushT {w wr W w' : World} {G D : Nat → Nat} {mv tv tv' fv : Value} {met : List Bool} {todo todo' : List Int} {R : List Wd} (h : LRows w wr G D mv met tv todo fv R) (hz : w.heap.size ≤ wr.heap.size) (hG : ∀ k, wr.heap.size ≤ k → G k = 0) (hW : Below wr.heap.size wr W)
    (hrow : Row w' (fun k => if k < W.heap.size then D k else 2) 2 3 1 tv' todo'.length (ints todo')) (hgr : W.grownBy w' tv.ownBlock) :
    LRows w w' G (fun k => if tv'.ownBlock = some k then 2 else if k < wr.heap.size then D k else 0) mv met tv' todo' fv R := by
  have hzW := hW.size
  have hblk : ∀ k, k < wr.heap.size → D k ≠ 2 → w'.heap[k]? = wr.heap[k]? := fun k hk n => (hgr.block k (by omega) (fun e => n (h.todo.lab k e.symm))).trans (hW.block k hk)
  have hlab : ∀ k, k < wr.heap.size → D k ≠ 2 → tv'.ownBlock ≠ some k := fun k hk n e => by
    have := hrow.lab k e
    rw [if_pos (by omega)] at this
    exact n this
  refine ⟨h.met.keep (fun k hk e => hblk k hk (by omega)) (fun k hk e => ?_), row_slim hrow _ (fun k hk => if_pos hk), h.roots.keep (fun k hk e => hblk k hk (by omega)) (fun k hk e => ?_), fun k hk hkz => ?_⟩
  · exact (if_neg (hlab k hk (by omega))).trans ((if_pos hk).trans e)
  · exact (if_neg (hlab k hk (by omega))).trans ((if_pos hk).trans e)
  · by_cases h1 : k < wr.heap.size
    · refine h.sep k ?_ h1
      by_cases h2 : tv'.ownBlock = some k
      · have := hrow.lab k h2
        rw [if_pos (by omega)] at this
        omega
      · rw [if_neg h2, if_pos h1] at hk
        exact hk
    · exact ⟨by omega, hG k (by omega)⟩
/-- The roots grow. -/
theorem LRows.pushF {w wr W w' : World} {G D : Nat → Nat} {mv tv fv fv' : Value} {met : List Bool} {todo : List Int} {R R' : List Wd} (h : LRows w wr G D mv met tv todo fv R) (hz : w.heap.size ≤ wr.heap.size) (hG : ∀ k, wr.heap.size ≤ k → G k = 0) (hW : Below wr.heap.size wr W)
    (hrow : Row w' (fun k => if k < W.heap.size then D k else 3) 3 28 2 fv' R'.length (wcells R')) (hgr : W.grownBy w' fv.ownBlock) :
    LRows w w' G (fun k => if fv'.ownBlock = some k then 3 else if k < wr.heap.size then D k else 0) mv met tv todo fv' R' := by
  have hzW := hW.size
  have hblk : ∀ k, k < wr.heap.size → D k ≠ 3 → w'.heap[k]? = wr.heap[k]? := fun k hk n => (hgr.block k (by omega) (fun e => n (h.roots.lab k e.symm))).trans (hW.block k hk)
  have hlab : ∀ k, k < wr.heap.size → D k ≠ 3 → fv'.ownBlock ≠ some k := fun k hk n e => by
    have := hrow.lab k e
    rw [if_pos (by omega)] at this
    exact n this
  refine ⟨h.met.keep (fun k hk e => hblk k hk (by omega)) (fun k hk e => ?_), h.todo.keep (fun k hk e => hblk k hk (by omega)) (fun k hk e => ?_), row_slim hrow _ (fun k hk => if_pos hk), fun k hk hkz => ?_⟩
  · exact (if_neg (hlab k hk (by omega))).trans ((if_pos hk).trans e)
  · exact (if_neg (hlab k hk (by omega))).trans ((if_pos hk).trans e)
  · by_cases h1 : k < wr.heap.size
    · refine h.sep k ?_ h1
      by_cases h2 : fv'.ownBlock = some k
      · have := hrow.lab k h2
        rw [if_pos (by omega)] at this
        omega
      · rw [if_neg h2, if_pos h1] at hk
        exact hk
    · exact ⟨by omega, hG k (by omega)⟩
/-- The heap where the law's rows grow. -/
theorem LHeap.grown {w wr W w' : World} {hb : Nat} {G : Nat → Nat} {m : Hp} {v : Value} (h : LHeap w wr hb G m) (hW : Below wr.heap.size wr W) (hgr : W.grownBy w' v.ownBlock) (hv : ∀ k, v.ownBlock = some k → w.heap.size ≤ k ∧ G k = 0) : LHeap w w' hb G m := by
  have hzW := hW.size
  have hz := h.below.size
  have hzg := hgr.size
  have hblk : ∀ k, k < wr.heap.size → v.ownBlock ≠ some k → w'.heap[k]? = wr.heap[k]? := fun k hk n => (hgr.block k (by omega) (fun e => n e.symm)).trans (hW.block k hk)
  refine ⟨⟨hgr.os.trans (hW.os.trans h.below.os), hgr.tape.trans (hW.tape.trans h.below.tape), hgr.output.trans (hW.output.trans h.below.output), by omega, fun k hk => (hblk k (by omega) (fun e => by have := (hv k e).1; omega)).trans (h.below.block k hk)⟩, h.heap.keep (fun k hk hz => hblk k hk (fun e => hz (hv k e).2)), h.low⟩
/-- A cell of the marks is set. -/
theorem LRows.mark {w wr : World} {G D : Nat → Nat} {g c k : Nat} {tv fv : Value} {met : List Bool} {todo : List Int} {R : List Wd} (h : LRows w wr G D (.slice (some ⟨g, 0, none⟩) 41 c) met tv todo fv R) : LRows w (wr.setCell ⟨g, k, none⟩ (.bool true)) G D (.slice (some ⟨g, 0, none⟩) 41 c) (met.set k true) tv todo fv R := by
  have lg := h.met.lab g rfl
  refine ⟨⟨?_, h.met.lab⟩, h.todo.keep (fun j _ e => setCell_off _ (fun e2 => by have e3 : j = g := e2; rw [e3] at e; omega)) (fun _ _ e => e), h.roots.keep (fun j _ e => setCell_off _ (fun e2 => by have e3 : j = g := e2; rw [e3] at e; omega)) (fun _ _ e => e), fun j hj hjz => h.sep j hj (by simpa [World.setCell] using hjz)⟩
  have := (World.ownsRow.stored h.met.own k (.bool true)).1
  simpa [bools, List.map_set] using this
theorem LHeap.mark {w wr : World} {hb g : Nat} {G : Nat → Nat} {m : Hp} {k : Nat} (h : LHeap w wr hb G m) (hg : w.heap.size ≤ g ∧ G g = 0) : LHeap w (wr.setCell ⟨g, k, none⟩ (.bool true)) hb G m :=
  ⟨h.below.setCell (p := ⟨g, k, none⟩) hg.1 _, h.heap.keep (fun j _ hz => setCell_off _ (fun e => by have e2 : j = g := e; rw [e2] at hz; exact hz hg.2)), h.low⟩
/-- The stack's value with its last taken away. -/
theorem LRows.popT {w wr : World} {G D : Nat → Nat} {g c n : Nat} {mv fv : Value} {met : List Bool} {todo : List Int} {k : Int} {R : List Wd} (h : LRows w wr G D mv met (.slice (some ⟨g, 0, none⟩) n c) (todo ++ [k]) fv R) : LRows w wr G D mv met (.slice (some ⟨g, 0, none⟩) todo.length c) todo fv R := by
  have lg := h.todo.lab g rfl
  refine ⟨h.met, ⟨?_, fun j hj => by cases hj; exact lg⟩, h.roots, h.sep⟩
  obtain ⟨h1, h2⟩ := h.todo.own
  simp only [List.length_append, List.length_cons, List.length_nil, Nat.zero_add] at h2
  rcases h2 with ⟨e, _⟩ | ⟨g', cap, cur, e, _, hh, hnc, hcm, hcs, htk⟩
  · cases e
  cases e
  refine ⟨by simp [ints], .inr ⟨g, c, cur, rfl, Nat.zero_le _, hh, by omega, hcm, hcs, ?_⟩⟩
  have e2 : ints todo = (ints (todo ++ [k])).take todo.length := by simp [ints]
  rw [e2, ← htk, List.take_take]
  congr 1
  omega
theorem news_two (W : World) (u v : Value) (T : TypeId) : ∀ (j : Nat) (x : Value), [u, v][j]? = some x → (W.alloc (.cells #[u, v] T)).cell? ((⟨W.heap.size, 0, none⟩ : Addr).add j) = some x := by
  intro j x hj
  match j, hj with
  | 0, hj => simp at hj; subst hj; simp [Addr.add]
  | 1, hj => simp at hj; subst hj; simp [Addr.add]
  | (j + 2), hj => simp at hj
theorem seven_keep {w w' : World} (h : Below w.heap.size w w') {p0 p1 p2 p3 p4 p5 p6 : Addr} {v0 v1 v2 v3 v4 v5 v6 : Value} (z0 : p0.block < w.heap.size) (z1 : p1.block < w.heap.size) (z2 : p2.block < w.heap.size) (z3 : p3.block < w.heap.size) (z4 : p4.block < w.heap.size) (z5 : p5.block < w.heap.size) (z6 : p6.block < w.heap.size)
    (h0 : w.cell? p0 = some v0) (h1 : w.cell? p1 = some v1) (h2 : w.cell? p2 = some v2) (h3 : w.cell? p3 = some v3) (h4 : w.cell? p4 = some v4) (h5 : w.cell? p5 = some v5) (h6 : w.cell? p6 = some v6) :
    w'.cell? p0 = some v0 ∧ w'.cell? p1 = some v1 ∧ w'.cell? p2 = some v2 ∧ w'.cell? p3 = some v3 ∧ w'.cell? p4 = some v4 ∧ w'.cell? p5 = some v5 ∧ w'.cell? p6 = some v6 :=
  ⟨(h.cell z0).trans h0, (h.cell z1).trans h1, (h.cell z2).trans h2, (h.cell z3).trans h3, (h.cell z4).trans h4, (h.cell z5).trans h5, (h.cell z6).trans h6⟩
/-- The law's rows at their start. -/
theorem start_rows {w wr : World} {hb : Nat} {G : Nat → Nat} {m : Hp} (h : LHeap w wr hb G m) : LRows w (wr.alloc (.cells (madeCells #[.bool false] 41) 4)) G (fun k => if k = wr.heap.size then 1 else 0) (.slice (some ⟨wr.heap.size, 0, none⟩) 41 41) (List.replicate 41 false) (.slice none 0 0) [] (.slice none 0 0) [] := by
  refine ⟨⟨⟨by simp [bools], .inr ⟨_, _, _, rfl, Nat.zero_le _, alloc_at wr _, Nat.le_refl _, by decide, by simp [size_madeCells], ?_⟩⟩, fun k hk => ?_⟩, Row.nil _ _ _ _ _, Row.nil _ _ _ _ _, fun k hk _ => ?_⟩
  · rw [toList_madeCells_one]; simp [bools]
  · cases hk; exact if_pos rfl
  · have hk2 : k = wr.heap.size := Classical.byContradiction fun e => hk (if_neg e)
    subst hk2
    exact ⟨h.below.size, h.heap.new _ (Nat.le_refl _)⟩
end Go.Proofs.YtleppjdmcjocmaaDoor
