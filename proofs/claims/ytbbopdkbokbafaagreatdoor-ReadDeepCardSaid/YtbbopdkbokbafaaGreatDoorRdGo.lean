/- What a function of the reader holds of its own while it calls the others: blocks that nobody else writes. -/
import Derived.Test.YtbbopdkbokbafaaGreatDoorRdToken2
namespace Go.Proofs.YtbbopdkbokbafaaGreatDoor
open Go.RowKit Go.Lib
/-- Since w the reader has gone on to wr; the blocks O are the call's own. -/
structure GoR (w0 w wr : World) (O : Nat → Prop) (r : Rd) (F : Nat → Nat) (s1 : Rs) : Prop where
  keeps : Keeps (fun k => if k = r.pb then 1 else F k) w wr
  rd : ∃ F', RdAt w0 wr r F' s1 ∧ (∀ k, k < w.heap.size → (F' k = 0 ↔ F k = 0)) ∧ ∀ k, O k → F' k = 0 ∧ k < wr.heap.size ∧ w.heap.size ≤ k
section
variable {w0 w w1 w2 : World} {O : Nat → Prop} {r : Rd} {F : Nat → Nat} {s s1 s2 : Rs}
theorem GoR.of (h : RdAt w0 w r F s) (hb : Below w.heap.size w w1) (hO : ∀ k, O k → w.heap.size ≤ k ∧ k < w1.heap.size) : GoR w0 w w1 O r F s :=
  ⟨Keeps.of_below hb, F, h.junk hb, fun _ _ => Iff.rfl, fun k hk => ⟨h.ht.new k (hO k hk).1, (hO k hk).2, (hO k hk).1⟩⟩
theorem GoR.went (g : GoR w0 w w1 O r F s1) : WentR w0 w w1 r F s1 := by
  obtain ⟨hk, F', h1, h2, _⟩ := g
  exact ⟨hk, F', h1, h2⟩
theorem GoR.mono {O' : Nat → Prop} (g : GoR w0 w w1 O r F s1) (h : ∀ k, O' k → O k) : GoR w0 w w1 O' r F s1 := by
  obtain ⟨hk, F', h1, h2, h3⟩ := g
  exact ⟨hk, F', h1, h2, fun k hk' => h3 k (h k hk')⟩
theorem GoR.low (H : RdAt w0 w r F s) (g : GoR w0 w w1 O r F s1) {k : Nat} (hk : O k) : k ≠ r.pb ∧ k ≠ r.g ∧ k ≠ r.rb ∧ w0.heap.size ≤ k := by
  obtain ⟨_, F', h1, h2, h3⟩ := g
  have := (h3 k hk).2.2
  have hpb := H.lt
  obtain ⟨cur0, g0, _⟩ := H.fix.row
  have hg := lt_at g0
  have hr := lt_at H.fix.map
  have hw0 := H.ht.below.size
  exact ⟨by omega, by omega, by omega, by omega⟩
/-- Another call of the reader. -/
theorem GoR.call (g : GoR w0 w w1 O r F s1) (hw : ∀ F1, RdAt w0 w1 r F1 s1 → WentR w0 w1 w2 r F1 s2) : GoR w0 w w2 O r F s2 := by
  obtain ⟨hk, F1, h1, h2, h3⟩ := g
  obtain ⟨kk, F2, k1, k2⟩ := hw F1 h1
  exact ⟨hk.trans kk (foot_step h2), F2, k1, fun i hi => (k2 i (Nat.lt_of_lt_of_le hi hk.size)).trans (h2 i hi), fun k ho => ⟨(k2 k (h3 k ho).2.1).2 (h3 k ho).1, Nat.lt_of_lt_of_le (h3 k ho).2.1 kk.size, (h3 k ho).2.2⟩⟩
theorem GoR.call_bad (g : GoR w0 w w1 O r F s1) (hw : ∀ F1, RdAt w0 w1 r F1 s1 → BadR w0 w1 w2 r F1 s2) : BadR w0 w w2 r F s2 := by
  obtain ⟨hk, F1, h1, h2, h3⟩ := g
  obtain ⟨kk, F2, k1, k2⟩ := hw F1 h1
  exact ⟨hk.trans kk (foot_step h2), F2, k1, fun i hi => (k2 i (Nat.lt_of_lt_of_le hi hk.size)).trans (h2 i hi)⟩
/-- The own blocks stand through such a call. -/
theorem GoR.block (H : RdAt w0 w r F s) (g : GoR w0 w w1 O r F s1) (hw : ∀ F1, RdAt w0 w1 r F1 s1 → Keeps (fun k => if k = r.pb then 1 else F1 k) w1 w2) {k : Nat} (hk : O k) : w2.heap[k]? = w1.heap[k]? := by
  have hl := g.low H hk
  obtain ⟨_, F1, h1, h2, h3⟩ := g
  exact (hw F1 h1).block k (h3 k hk).2.1 (foot_zero.2 ⟨hl.1, (h3 k hk).1⟩)
theorem GoR.junk (g : GoR w0 w w1 O r F s1) (hb : Below w1.heap.size w1 w2) : GoR w0 w w2 O r F s1 := g.call fun _ h => .of_below h hb
/-- Only own blocks turn, and new ones come. -/
theorem GoR.own (H : RdAt w0 w r F s) (g : GoR w0 w w1 O r F s1) (hos : w2.os = w1.os ∧ w2.tape = w1.tape ∧ w2.output = w1.output) (hz : w1.heap.size ≤ w2.heap.size) (hb : ∀ k, k < w1.heap.size → ¬ O k → w2.heap[k]? = w1.heap[k]?) : GoR w0 w w2 O r F s1 := by
  have hl := fun k hk => g.low H (k := k) hk
  obtain ⟨hk, F1, h1, h2, h3⟩ := g
  obtain ⟨cur, q1, q2⟩ := h1.fix.row
  have no : ∀ k, k < w.heap.size → ¬ O k := fun k hk ho => by have := (h3 k ho).2.2; omega
  have hb0 : Below w0.heap.size w0 w2 := ⟨hos.1.trans h1.ht.below.os, hos.2.1.trans h1.ht.below.tape, hos.2.2.trans h1.ht.below.output, Nat.le_trans h1.ht.below.size hz, fun k hk' => (hb k (Nat.lt_of_lt_of_le hk' h1.ht.below.size) fun ho => by have := (hl k ho).2.2.2; omega).trans (h1.ht.below.block k hk')⟩
  refine ⟨⟨hos.1.trans hk.os, hos.2.1.trans hk.tape, hos.2.2.trans hk.output, Nat.le_trans hk.size hz, fun k hk' hz' => (hb k (Nat.lt_of_lt_of_le hk' hk.size) (no k hk')).trans (hk.block k hk' hz')⟩, F1, ⟨h1.ht.keep hb0 fun k hk' hf => hb k hk' fun ho => hf (h3 k ho).1, ⟨h1.fix.base, h1.fix.pb, h1.fix.g, h1.fix.gp, ⟨cur, (hb _ (lt_at q1) fun ho => (hl _ ho).2.1 rfl).trans q1, q2⟩, h1.fix.rb, h1.fix.rp, (hb _ (lt_at h1.fix.map) fun ho => (hl _ ho).2.2.1 rfl).trans h1.fix.map, h1.fix.len, h1.fix.isz⟩, (hb _ h1.lt fun ho => (hl _ ho).1 rfl).trans h1.own, h1.pos, h1.opn⟩, h2, fun k ho => ⟨(h3 k ho).1, Nat.lt_of_lt_of_le (h3 k ho).2.1 hz, (h3 k ho).2.2⟩⟩
theorem GoR.poke (H : RdAt w0 w r F s) (g : GoR w0 w w1 O r F s1) {N : Nat} (hN : O N) (i : Nat) (u : Value) : GoR w0 w (w1.setCell ⟨N, i, none⟩ u) O r F s1 :=
  g.own H ⟨rfl, rfl, rfl⟩ (by simp [World.setCell]) fun k _ ho => setCell_off _ fun e => ho (e ▸ hN)
/-- A new block becomes one's own. -/
theorem GoR.add (g : GoR w0 w w1 O r F s1) (hb : Below w1.heap.size w1 w2) {N : Nat} (h1 : w1.heap.size ≤ N) (h2 : N < w2.heap.size) : GoR w0 w w2 (fun k => O k ∨ k = N) r F s1 := by
  obtain ⟨hk, F1, q1, q2, q3⟩ := g
  refine ⟨hk.trans (Keeps.of_below (G := fun k => if k = r.pb then 1 else F k) hb) fun _ _ e => e, F1, q1.junk hb, q2, fun k ho => ?_⟩
  rcases ho with ho | rfl
  · exact ⟨(q3 k ho).1, Nat.lt_of_lt_of_le (q3 k ho).2.1 hb.size, (q3 k ho).2.2⟩
  · exact ⟨q1.ht.new _ h1, h2, Nat.le_trans hk.size h1⟩
end
end Go.Proofs.YtbbopdkbokbafaaGreatDoor
