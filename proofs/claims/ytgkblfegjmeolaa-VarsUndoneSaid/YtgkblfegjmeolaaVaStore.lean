/- store: a cell is written, or made. -/
import Derived.Test.YtgkblfegjmeolaaVaAt
namespace Go.Proofs.Ytgkblfegjmeolaa
open Go.RowKit Go.Lib
def upd (C : Nat → Nat → Option Cl) (k n : Nat) (x : Option Cl) : Nat → Nat → Option Cl := fun k' n' => if k' = k ∧ n' = n then x else C k' n'
def upn (cb : Nat → Nat → Option Nat) (k n : Nat) (x : Option Nat) : Nat → Nat → Option Nat := fun k' n' => if k' = k ∧ n' = n then x else cb k' n'
def ups (sc : Nat → Option Nat) (k : Nat) (x : Option Nat) : Nat → Option Nat := fun k' => if k' = k then x else sc k'
/-- What a call on the cells leaves. -/
structure CWent (w w' : World) (G G' : Nat → Nat) : Prop where
  os : w'.os = w.os
  tape : w'.tape = w.tape
  output : w'.output = w.output
  size : w.heap.size ≤ w'.heap.size
  block : ∀ j, j < w.heap.size → G j ≠ 2 → G j < 6 → w'.heap[j]? = w.heap[j]?
  lab : ∀ j, j < w.heap.size → G' j = G j
  new : ∀ j, w'.heap.size ≤ j → G' j = 0
  fresh : ∀ j, w.heap.size ≤ j → G' j = 0 ∨ 6 ≤ G' j
def xput (w : World) (b : Nat) (x : Cl) : World := ((w.setCell ⟨b, 0, none⟩ (.int .i64 x.1.1)).setCell ⟨b, 0 + 1, none⟩ (.int .i64 x.1.2)).setCell ⟨b, 0 + 2, none⟩ (.bool x.2)
theorem xput_off {w : World} {b j : Nat} {x : Cl} (h : j ≠ b) : (xput w b x).heap[j]? = w.heap[j]? := by
  unfold xput
  rw [setCell_off _ h, setCell_off _ h, setCell_off _ h]
theorem xput_at {w : World} {b : Nat} {x y : Cl} (h : w.heap[b]? = some (cobj y)) : (xput w b x).heap[b]? = some (cobj x) := by
  unfold xput
  rw [setCell_at (setCell_at (setCell_at h _) _) _]
  rfl
theorem xput_size (w : World) (b : Nat) (x : Cl) : (xput w b x).heap.size = w.heap.size := by simp [xput, World.setCell]
/-- The cell that is there is written. -/
theorem CellsAt.written {w : World} {G : Nat → Nat} {C : Nat → Nat → Option Cl} {c cm : Nat} {sc : Nat → Option Nat} {cb : Nat → Nat → Option Nat} (h : CellsAt w G C c cm sc cb) (hnew : ∀ j, w.heap.size ≤ j → G j = 0) {k n b : Nat} (hb : cb k n = some b) (x : Cl) :
    CellsAt (xput w b x) G (upd C k n (some x)) c cm sc cb ∧ CWent w (xput w b x) G G := by
  obtain ⟨hn, hG, y, hy, hh⟩ := h.cell k n b hb
  have hlt := lt_at hh
  have hoff : ∀ j, G j ≠ lC k n → (xput w b x).heap[j]? = w.heap[j]? := fun j hj => xput_off (fun e => hj (by rw [e, hG]))
  refine ⟨⟨h.lab, h.outer.move (hoff cm (by rw [h.lab]; simp only [lC]; omega)), fun k' b' hk => ?_, h.nos, fun k' n' b' hk => ?_, fun k' n' hk => ?_⟩, ⟨rfl, rfl, rfl, by rw [xput_size]; exact Nat.le_refl _, fun j hj h2 h6 => hoff j (by simp only [lC]; omega), fun _ _ => rfl, fun j hj => hnew j (by rw [xput_size] at hj; exact hj), fun j hj => .inl (hnew j hj)⟩⟩
  · obtain ⟨h1, h2⟩ := h.inner k' b' hk
    exact ⟨h1, h2.move (hoff b' (by rw [h1]; simp only [lC, lS]; omega))⟩
  · obtain ⟨h0, h1, z, h2, h3⟩ := h.cell k' n' b' hk
    refine ⟨h0, h1, ?_⟩
    by_cases e : k' = k ∧ n' = n
    · obtain ⟨rfl, rfl⟩ := e
      rw [hb] at hk
      cases hk
      exact ⟨x, by simp [upd], xput_at hh⟩
    · refine ⟨z, by simp only [upd, if_neg e]; exact h2, (hoff b' ?_).trans h3⟩
      rw [h1]
      exact fun e2 => e (lC_inj h0 hn e2)
  · by_cases e : k' = k ∧ n' = n
    · obtain ⟨rfl, rfl⟩ := e
      rw [hb] at hk
      cases hk
    · simp only [upd, if_neg e]; exact h.free k' n' hk
theorem CellsAt.mono {w : World} {G : Nat → Nat} {C : Nat → Nat → Option Cl} {c c' cm : Nat} {sc : Nat → Option Nat} {cb : Nat → Nat → Option Nat} (h : CellsAt w G C c cm sc cb) (hc : c ≤ c') : CellsAt w G C c' cm sc cb :=
  ⟨h.lab, h.outer.mono hc, fun k b hk => ⟨(h.inner k b hk).1, (h.inner k b hk).2.mono hc⟩, h.nos, h.cell, h.free⟩
theorem CWent.after {w W w' : World} {G G' : Nat → Nat} (hw : Below w.heap.size w W) (h : CWent W w' G G') (hnew : ∀ j, w.heap.size ≤ j → G j = 0) : CWent w w' G G' := by
  have hs := hw.size
  refine ⟨h.os.trans hw.os, h.tape.trans hw.tape, h.output.trans hw.output, by have := h.size; omega, fun j hj h2 h6 => (h.block j (by omega) h2 h6).trans (hw.block j hj), fun j hj => h.lab j (by omega), h.new, fun j hj => ?_⟩
  by_cases e : j < W.heap.size
  · rw [h.lab j e]; exact .inl (hnew j hj)
  · exact h.fresh j (by omega)
set_option maxHeartbeats 1000000 in
set_option maxRecDepth 100000 in
theorem store_old {w : World} {G : Nat → Nat} {C : Nat → Nat → Option Cl} {c cm : Nat} {sc : Nat → Option Nat} {cb : Nat → Nat → Option Nat} (h : CellsAt w G C c cm sc cb) (hnew : ∀ j, w.heap.size ≤ j → G j = 0) (k n : Nat) (hk : k ≤ 65536) (x : Cl) {b : Nat} (hb : cb k n = some b) :
    Calls Try.prog 36 #[.map (some cm), .int .i64 k, .int .i64 n, cag x] w fun e w' => e = .returned (.tuple #[]) ∧ CellsAt w' G (upd C k n (some x)) c cm sc cb ∧ CWent w w' G G := by
  have hbw : Below w.heap.size w (w.alloc (cobj x)) := (Below.refl _ _).alloc (Nat.le_refl _) _
  have h0 := h.below hbw
  have hnew0 : ∀ j, (w.alloc (cobj x)).heap.size ≤ j → G j = 0 := fun j hj => hnew j (by simp at hj; omega)
  obtain ⟨hn, hG, y, hy, hh⟩ := h0.cell k n b hb
  have l1 := h0.look1 k hk
  have l2 := h0.look2y k n hb hn
  generalize sc k = s at l1 l2
  have hr := h0.written hnew0 hb x
  have HR := Lib.hid (And.intro hr.1 (CWent.after hbw hr.2 hnew))
  have a0 := alloc_at w (cobj x)
  have u0 : (w.alloc (cobj x)).cell? ⟨w.heap.size, 0, none⟩ = some (.int .i64 x.1.1) := cell_at a0
  have u1 : (w.alloc (cobj x)).cell? ⟨w.heap.size, 1, none⟩ = some (.int .i64 x.1.2) := cell_at a0
  have u2 : (w.alloc (cobj x)).cell? ⟨w.heap.size, 2, none⟩ = some (.bool x.2) := cell_at a0
  have v0 : (w.alloc (cobj x)).cell? ⟨b, 0, none⟩ = some (.int .i64 y.1.1) := cell_at hh
  have v1 : (w.alloc (cobj x)).cell? ⟨b, 1, none⟩ = some (.int .i64 y.1.2) := cell_at hh
  have v2 : (w.alloc (cobj x)).cell? ⟨b, 2, none⟩ = some (.bool y.2) := cell_at hh
  have f0 : (w.alloc (cobj x)).frozen? ⟨b, 0, none⟩ = false := frozen_at hh
  have f1 : (w.alloc (cobj x)).frozen? ⟨b, 1, none⟩ = false := frozen_at hh
  have f2 : (w.alloc (cobj x)).frozen? ⟨b, 2, none⟩ = false := frozen_at hh
  clear h h0 hnew hnew0 hbw hb hy hh hr hG a0
  go_enter Try.func36, Try.ntmps36
  go_wp2_with fail
  exact bodyPost_ret (v := .tuple #[]) (by simp [results, Try.results36, go_sem]) rfl ⟨rfl, HR.out⟩
end Go.Proofs.Ytgkblfegjmeolaa
