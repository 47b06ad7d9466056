/- An own row that grows while the reader works. -/
import Derived.Test.YtbbopdkbokbafaaGreatDoorRdGo
namespace Go.Proofs.YtbbopdkbokbafaaGreatDoor
open Go.RowKit Go.Lib
section
variable {w0 w w1 w2 : World} {O : Nat → Prop} {r : Rd} {F : Nat → Nat} {s s1 s2 : Rs}
/-- An own row grows. -/
theorem GoR.grown (H : RdAt w0 w r F s) (g : GoR w0 w w1 O r F s1) {row : Option Nat} (hg : w1.grownBy w2 row) (hr : ∀ k, row = some k → O k) : GoR w0 w w2 (fun k => O k ∨ (w1.heap.size ≤ k ∧ k < w2.heap.size)) r F s1 := by
  have hl := fun k hk => g.low H (k := k) hk
  have hb : ∀ k, k < w1.heap.size → ¬ O k → w2.heap[k]? = w1.heap[k]? := fun k hk ho => hg.block k hk fun e => ho (hr k e.symm)
  have hz := hg.size
  obtain ⟨hk, F1, h1, h2, h3⟩ := g
  obtain ⟨cur, q1, q2⟩ := h1.fix.row
  have no : ∀ k, k < w.heap.size → ¬ O k := fun k hk ho => by have := (h3 k ho).2.2; omega
  have hb0 : Below w0.heap.size w0 w2 := ⟨hg.os.trans h1.ht.below.os, hg.tape.trans h1.ht.below.tape, hg.output.trans h1.ht.below.output, Nat.le_trans h1.ht.below.size hz, fun k hk' => (hb k (Nat.lt_of_lt_of_le hk' h1.ht.below.size) fun ho => by have := (hl k ho).2.2.2; omega).trans (h1.ht.below.block k hk')⟩
  refine ⟨⟨hg.os.trans hk.os, hg.tape.trans hk.tape, hg.output.trans hk.output, Nat.le_trans hk.size hz, fun k hk' hz' => (hb k (Nat.lt_of_lt_of_le hk' hk.size) (no k hk')).trans (hk.block k hk' hz')⟩, F1, ⟨h1.ht.keep hb0 fun k hk' hf => hb k hk' fun ho => hf (h3 k ho).1, ⟨h1.fix.base, h1.fix.pb, h1.fix.g, h1.fix.gp, ⟨cur, (hb _ (lt_at q1) fun ho => (hl _ ho).2.1 rfl).trans q1, q2⟩, h1.fix.rb, h1.fix.rp, (hb _ (lt_at h1.fix.map) fun ho => (hl _ ho).2.2.1 rfl).trans h1.fix.map, h1.fix.len, h1.fix.isz⟩, (hb _ h1.lt fun ho => (hl _ ho).1 rfl).trans h1.own, h1.pos, h1.opn⟩, h2, fun k ho => ?_⟩
  rcases ho with ho | ⟨ho, ho2⟩
  · exact ⟨(h3 k ho).1, Nat.lt_of_lt_of_le (h3 k ho).2.1 hz, (h3 k ho).2.2⟩
  · exact ⟨h1.ht.new k ho, ho2, Nat.le_trans hk.size ho⟩
end
end Go.Proofs.YtbbopdkbokbafaaGreatDoor
