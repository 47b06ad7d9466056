/- What variables hold, as plain data, and how the cells lie in memory. -/
import Derived.Test.YtgkblfegjmeolaaVaMap
import Derived.Laws.OwnMore
namespace Go.Proofs.Ytgkblfegjmeolaa
open Go.RowKit Go.Lib
theorem alloc_at (w : World) (o : Obj) : (w.alloc o).heap[w.heap.size]? = some o := (MapKept.heap_alloc w o).1
abbrev wv (x : Wd) : Value := .agg #[.int .i64 x.1, .int .i64 x.2]
/-- What a cell contains: a word, and whether it is set. -/
abbrev Cl := Wd × Bool
abbrev cobj (c : Cl) : Obj := .cells #[.int .i64 c.1.1, .int .i64 c.1.2, .bool c.2] 61
abbrev cag (c : Cl) : Value := .agg #[.int .i64 c.1.1, .int .i64 c.1.2, .bool c.2]
abbrev lS (k : Nat) : Nat := 6 + 2 * k
abbrev lC (k n : Nat) : Nat := 7 + 2 * (k * 16384 + n)
theorem lC_inj {k n k' n' : Nat} (hn : n < 16384) (hn' : n' < 16384) (h : lC k n = lC k' n') : k = k' ∧ n = n' := by
  unfold lC at h; omega
/-- The cells: the map of scopes is block cm (labelled 2); scope k's map is sc k (labelled lS k); the cell of variable n in it is cb k n (labelled lC k n). -/
structure CellsAt (w : World) (G : Nat → Nat) (C : Nat → Nat → Option Cl) (c cm : Nat) (sc : Nat → Option Nat) (cb : Nat → Nat → Option Nat) : Prop where
  lab : G cm = 2
  outer : MapF w mapE cm c (fun k => (sc k).map hmap)
  inner : ∀ k b, sc k = some b → G b = lS k ∧ MapF w ptrE b c (fun n => (cb k n).map hptr)
  nos : ∀ k n, sc k = none → cb k n = none
  cell : ∀ k n b, cb k n = some b → n < 16384 ∧ G b = lC k n ∧ ∃ x, C k n = some x ∧ w.heap[b]? = some (cobj x)
  free : ∀ k n, cb k n = .none → C k n = .none
/-- No scope's map is empty. -/
def Full (sc : Nat → Option Nat) (cb : Nat → Nat → Option Nat) : Prop := ∀ k b, sc k = some b → ∃ n, (cb k n).isSome = true
theorem CellsAt.keep {w w' : World} {G G' : Nat → Nat} {C : Nat → Nat → Option Cl} {c cm : Nat} {sc : Nat → Option Nat} {cb : Nat → Nat → Option Nat} (h : CellsAt w G C c cm sc cb)
    (hb : ∀ j, j < w.heap.size → (G j = 2 ∨ 6 ≤ G j) → w'.heap[j]? = w.heap[j]?) (hg : ∀ j, j < w.heap.size → (G j = 2 ∨ 6 ≤ G j) → G' j = G j) : CellsAt w' G' C c cm sc cb := by
  refine ⟨(hg cm h.outer.lt (.inl h.lab)).trans h.lab, h.outer.move (hb cm h.outer.lt (.inl h.lab)), fun k b hk => ?_, h.nos, fun k n b hk => ?_, h.free⟩
  · obtain ⟨h1, h2⟩ := h.inner k b hk
    have h3 : G b = 2 ∨ 6 ≤ G b := .inr (by rw [h1]; simp only [lS]; omega)
    exact ⟨(hg b h2.lt h3).trans h1, h2.move (hb b h2.lt h3)⟩
  · obtain ⟨h0, h1, x, h2, h4⟩ := h.cell k n b hk
    have h3 : G b = 2 ∨ 6 ≤ G b := .inr (by rw [h1]; simp only [lC]; omega)
    exact ⟨h0, (hg b (lt_at h4) h3).trans h1, x, h2, (hb b (lt_at h4) h3).trans h4⟩
theorem CellsAt.below {w w' : World} {G : Nat → Nat} {C : Nat → Nat → Option Cl} {c cm : Nat} {sc : Nat → Option Nat} {cb : Nat → Nat → Option Nat} (h : CellsAt w G C c cm sc cb) (hw : Below w.heap.size w w') : CellsAt w' G C c cm sc cb :=
  h.keep (fun j hj _ => hw.block j hj) (fun _ _ _ => rfl)
theorem zeroM (w : World) : (zeroValue 84).run Try.prog w = .ok (.map none) w := by kernel_rfl
theorem zeroP (w : World) : (zeroValue 85).run Try.prog w = .ok (.pointer none) w := by kernel_rfl
abbrev mval (o : Option Nat) : Value := .map o
abbrev pval (o : Option Nat) : Value := .pointer (o.map fun b => ⟨b, 0, none⟩)
/-- x[k]. -/
theorem CellsAt.look1 {w : World} {G : Nat → Nat} {C : Nat → Nat → Option Cl} {c cm : Nat} {sc : Nat → Option Nat} {cb : Nat → Nat → Option Nat} (h : CellsAt w G C c cm sc cb) (k : Nat) (hk : k ≤ 65536) :
    (Instr.lookup 54 (.map (some cm)) (.int .i64 (k : Int)) false).run Try.prog w = .ok (mval (sc k)) w := by
  rw [h.outer.look map_tell Try.underlying54 (zeroM w) (zd := .lit (.int .i64 (-1))) (zp := []) rfl k (by omega)]
  cases sc k <;> rfl
/-- x[k][n]. -/
theorem CellsAt.look2 {w : World} {G : Nat → Nat} {C : Nat → Nat → Option Cl} {c cm : Nat} {sc : Nat → Option Nat} {cb : Nat → Nat → Option Nat} (h : CellsAt w G C c cm sc cb) (k n : Nat) (hn : n < 16384) :
    (Instr.lookup 84 (mval (sc k)) (.int .i64 (n : Int)) false).run Try.prog w = .ok (pval (cb k n)) w := by
  cases hs : sc k with
  | none =>
    rw [h.nos k n hs]
    exact Maps.look_nil false ikey Try.underlying84 (zeroP w) (keyI n (by omega))
  | some b =>
    rw [(h.inner k b hs).2.look ptr_tell Try.underlying84 (zeroP w) (zd := .lit (.int .i64 (-1))) (zp := []) rfl n (by omega)]
    cases cb k n <;> rfl
theorem CellsAt.look2y {w : World} {G : Nat → Nat} {C : Nat → Nat → Option Cl} {c cm : Nat} {sc : Nat → Option Nat} {cb : Nat → Nat → Option Nat} (h : CellsAt w G C c cm sc cb) (k n : Nat) {b : Nat} (hb : cb k n = some b) (hn : n < 16384) :
    (Instr.lookup 84 (mval (sc k)) (.int .i64 (n : Int)) false).run Try.prog w = .ok (.pointer (some ⟨b, 0, .none⟩)) w := by
  have := h.look2 k n hn
  rw [hb] at this
  exact this
theorem CellsAt.look2n {w : World} {G : Nat → Nat} {C : Nat → Nat → Option Cl} {c cm : Nat} {sc : Nat → Option Nat} {cb : Nat → Nat → Option Nat} (h : CellsAt w G C c cm sc cb) (k n : Nat) (hb : cb k n = .none) (hn : n < 16384) :
    (Instr.lookup 84 (mval (sc k)) (.int .i64 (n : Int)) false).run Try.prog w = .ok (.pointer .none) w := by
  have := h.look2 k n hn
  rw [hb] at this
  exact this
theorem mapE_some (b : Nat) : mapE (hmap b) = some (.lit (.int .i64 (b : Int)), []) := rfl
theorem ptrE_some (b : Nat) : ptrE (hptr b) = some (.lit (.int .i64 (b : Int)), []) := rfl
/-- has. -/
theorem has_any {w : World} {G : Nat → Nat} {C : Nat → Nat → Option Cl} {c cm : Nat} {sc : Nat → Option Nat} {cb : Nat → Nat → Option Nat} (h : CellsAt w G C c cm sc cb) (k n : Nat) (hk : k ≤ 65536) (hn : n < 16384) :
    Calls Try.prog 42 #[.map (some cm), .int .i64 k, .int .i64 n] w fun e w' => e = .returned (.bool (cb k n).isSome) ∧ w' = w := by
  have l1 := h.look1 k hk
  have l2 := h.look2 k n hn
  generalize sc k = s at *
  generalize cb k n = p at *
  clear h
  cases p
  all_goals
    go_enter Try.func42, Try.ntmps42
    go_wp2
    go_ret
    exact ⟨rfl, rfl⟩
end Go.Proofs.Ytgkblfegjmeolaa
