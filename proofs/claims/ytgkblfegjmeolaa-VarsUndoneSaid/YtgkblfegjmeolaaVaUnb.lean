/- Unbind: all bindings but the oldest are undone, the last one first. -/
import Derived.Test.YtgkblfegjmeolaaVaIter
namespace Go.Proofs.Ytgkblfegjmeolaa
open Go.RowKit Go.Lib Go.Shelf
attribute [local go_sem] Oper.semAt_some
def Vs.restAll (m : Vs) (l : List (Nat × Nat × Cl)) : Vs := l.foldl Vs.rest m
theorem Vs.restAll_snoc (m : Vs) (l : List (Nat × Nat × Cl)) (b : Nat × Nat × Cl) : m.restAll (l ++ [b]) = (m.restAll l).rest b := by simp [Vs.restAll]
theorem Vs.rest_same (m : Vs) (b : Nat × Nat × Cl) : (m.rest b).binds = m.binds ∧ (m.rest b).scope = m.scope ∧ (m.rest b).marks = m.marks ∧ (m.rest b).cnt = m.cnt := by
  unfold Vs.rest
  split <;> exact ⟨rfl, rfl, rfl, rfl⟩
theorem Vs.restAll_same (l : List (Nat × Nat × Cl)) : ∀ m : Vs, (m.restAll l).binds = m.binds ∧ (m.restAll l).scope = m.scope ∧ (m.restAll l).marks = m.marks ∧ (m.restAll l).cnt = m.cnt := by
  induction l with
  | nil => exact fun m => ⟨rfl, rfl, rfl, rfl⟩
  | cons b l ih =>
    intro m
    obtain ⟨h1, h2, h3, h4⟩ := ih (m.rest b)
    obtain ⟨g1, g2, g3, g4⟩ := m.rest_same b
    exact ⟨h1.trans g1, h2.trans g2, h3.trans g3, h4.trans g4⟩
def Vs.unbind (m : Vs) (d : Nat) : Vs := { m.restAll (m.binds.drop d).reverse with binds := m.binds.take d }
theorem VarsAt.unb {w : World} {vb : Nat} {G : Nat → Nat} {m : Vs} (h : VarsAt w vb G m) : ∃ cm mm a c bs, w.heap[vb]? = some (.cells #[.map (some cm), .int .i64 m.scope, .map (some mm), .slice a bs.length c] 58 (0, 0)) ∧ bs.map Bd.out = m.binds ∧
    Row w G 4 68 4 (.slice a bs.length c) bs.length (bcells bs) ∧ ∀ b ∈ bs, b.Ok w G := by
  obtain ⟨new, lab, sco, mrk, cm, mm, bv, sc, cb, bs, h1, h2, h3, h4, hF, h5, h6, h7⟩ := h
  obtain ⟨a, c, rfl⟩ := h6.slice
  exact ⟨cm, mm, a, c, bs, h1, h5, h6, h7⟩
theorem VarsAt.cutter {W : World} {vb : Nat} {G : Nat → Nat} {m : Vs} (h : VarsAt W vb G m) : ∃ a c bs, W.cell? ⟨vb, 3, none⟩ = some (.slice a bs.length c) ∧ bs.length = m.binds.length ∧ Row W G 4 68 4 (.slice a bs.length c) bs.length (bcells bs) ∧
    ∀ (d : Nat) (w1 : World) (v' : Value), d ≤ bs.length → Cut W w1 G (.slice a bs.length c) v' d bs → w1.cell? ⟨vb, 3, none⟩ = some (.slice a bs.length c) ∧ w1.frozen? ⟨vb, 3, none⟩ = false ∧ (∀ k, k < W.heap.size → G k ≠ 4 → w1.heap[k]? = W.heap[k]?) ∧
      VarsAt (w1.setCell ⟨vb, 3, none⟩ v') vb G { m with binds := m.binds.take d } := by
  obtain ⟨new, lab, sco, mrk, cm, mm, bv, sc, cb, bs, h1, h2, h3, h4, hF, h5, h6, h7⟩ := h
  obtain ⟨a, c, rfl⟩ := h6.slice
  have hl : bs.length = m.binds.length := by rw [← h5]; simp
  refine ⟨a, c, bs, (cell_at h1).trans rfl, hl, h6, fun d w1 v' hd hC => ?_⟩
  have hst : ∀ k, k < W.heap.size → G k ≠ 4 → w1.heap[k]? = W.heap[k]? := fun k hk e => hC.grown.block k hk (fun e2 => e (h6.lab k e2.symm))
  have hv1 := (hst vb (lt_at h1) (by omega)).trans h1
  have hof : ∀ k, k < W.heap.size → G k ≠ 1 → G k ≠ 4 → (w1.setCell ⟨vb, 3, none⟩ v').heap[k]? = W.heap[k]? := fun k hk n1 n4 => (setCell_off _ (fun e => n1 (by rw [show k = vb from e]; exact lab))).trans (hst k hk n4)
  have hsz : (w1.setCell ⟨vb, 3, none⟩ v').heap.size = W.heap.size := by simp [World.setCell]; exact hC.size
  refine ⟨(cell_at hv1).trans rfl, frozen_at hv1, hst, ⟨fun j hj => new j (by omega), lab, sco, mrk, cm, mm, v', sc, cb, bs.take d, (setCell_at hv1 _).trans rfl, h2, h3.keep (fun k hk e => hof k hk (by omega) (by omega)) (fun _ _ _ => rfl), h4.move (hof mm h4.lt (by omega) (by omega)), hF, by rw [List.map_take, h5], ?_, fun b hb => ?_⟩⟩
  · rw [List.length_take, Nat.min_eq_left hd]
    exact hC.row.keep (fun k hk e => setCell_off _ (fun e2 => by rw [show k = vb from e2, lab] at e; cases e)) (fun _ _ e => e)
  · obtain ⟨a1, a2, a3, a4, a5, a6⟩ := h7 b (List.mem_of_mem_take hb)
    exact ⟨a1, a2, (hof _ (lt_at a3) (by omega) (by omega)).trans a3, (hof _ (lt_at a4) (by omega) (by omega)).trans a4, a5, a6⟩
theorem Row.bat {w : World} {G : Nat → Nat} {g n c : Nat} {bs : List Bd} (h : Row w G 4 68 4 (.slice (some ⟨g, 0, none⟩) n c) n (bcells bs)) : BAt w g 0 bs := by
  have hb : ∀ (l : List Bd) (k : Nat) (b : Bd), l[k]? = some b → (bcells l)[k * 4]? = some (.int .i64 b.c.1.1) ∧ (bcells l)[k * 4 + 1]? = some (.int .i64 b.c.1.2) ∧ (bcells l)[k * 4 + 2]? = some (.bool b.c.2) ∧ (bcells l)[k * 4 + 3]? = some (bfun b) := by
    intro l
    induction l with
    | nil => intro k b hb; simp at hb
    | cons q l ih =>
      intro k b hb
      cases k with
      | zero => simp at hb; subst hb; simp [bcells]
      | succ k =>
        simp at hb
        obtain ⟨h1, h2, h3, h4⟩ := ih k b hb
        have e : ∀ j, (bcells (q :: l))[(k + 1) * 4 + j]? = (bcells l)[k * 4 + j]? := fun j => by
          rw [show bcells (q :: l) = [.int .i64 q.c.1.1, .int .i64 q.c.1.2, .bool q.c.2, bfun q] ++ bcells l from rfl, List.getElem?_append_right (by simp; omega)]
          congr 1
          simp; omega
        exact ⟨(e 0).trans h1, (e 1).trans h2, (e 2).trans h3, (e 3).trans h4⟩
  intro k b hk
  obtain ⟨h1, h2, h3, h4⟩ := hb bs k b hk
  rw [Nat.zero_add]
  exact ⟨h.cell h1, h.cell h2, h.cell h3, h.cell h4⟩
theorem BAt.drop {w : World} {g : Nat} {bs : List Bd} (h : BAt w g 0 bs) (d : Nat) : BAt w g (d * 4) (bs.drop d) := by
  intro k b hb
  rw [List.getElem?_drop] at hb
  have := h (d + k) b hb
  rw [Nat.zero_add, show (d + k) * 4 = d * 4 + k * 4 by omega] at this
  exact this
/-- What stands between two rounds. -/
structure UI (w0 W : World) (vb : Nat) (G : Nat → Nat) (B : Nat) (m : Vs) : Prop where
  vars : VarsAt W vb G m
  kp : Kp G B w0 W
  os : W.os = w0.os
  tape : W.tape = w0.tape
  output : W.output = w0.output
  size : w0.heap.size ≤ W.heap.size
theorem UI.own {α : Type} (w0 : World) (vb : Nat) (G : Nat → Nat) (B : Nat) (hG : ∀ j, B ≤ j → G j = 0) (hB0 : B ≤ w0.heap.size) (f : α → Vs) : OwnFrom B (fun s W => UI w0 W vb G B (f s)) := by
  intro s A A' row hs hg hr
  have hb : ∀ k, k < A.heap.size → k < B → A'.heap[k]? = A.heap[k]? := fun k hk hB => hg.block k hk (fun e => by have := (hr k e.symm).1; omega)
  refine ⟨hs.vars.keep (fun k hk e => hb k hk (by rcases Nat.lt_or_ge k B with h | h; exact h; exact absurd (hG k h) e)), fun k hk h2 h6 => ?_, hg.os.trans hs.os, hg.tape.trans hs.tape, hg.output.trans hs.output, Nat.le_trans hs.size hg.size⟩
  exact (hb k (by have := hs.size; omega) hk).trans (hs.kp k hk h2 h6)
end Go.Proofs.Ytgkblfegjmeolaa
