/- The reader's contracts, met while a call holds blocks of its own. -/
import Derived.Test.YtbbopdkbokbafaaGreatDoorRdForm0
import Derived.Test.YtbbopdkbokbafaaGreatDoorRdChain
namespace Go.Proofs.YtbbopdkbokbafaaGreatDoor
open Go.RowKit Go.Lib
/-- What form does on any reader of these blocks from p on, within n rounds. -/
def FormOk (w0 : World) (r : Rd) (n p : Nat) : Prop := ∀ (F : Nat → Nat) (s : Rs) (w : World), RdAt w0 w r F s → p ≤ s.pos → formO r.L n s ≠ .lost → Calls Tryz.prog 67 #[rp r] w fun e w' => Does w0 w r F (formO r.L n s) e w'
theorem FormOk.mono {w0 : World} {r : Rd} {n p q : Nat} (h : FormOk w0 r n p) (hq : p ≤ q) : FormOk w0 r n q := fun F s w h1 h2 => h F s w h1 (Nat.le_trans hq h2)
/-- What stands of the own blocks behind a call. -/
structure Stood (w0 w W w' : World) (O : Nat → Prop) (r : Rd) (F : Nat → Nat) (s2 : Rs) : Prop where
  go : GoR w0 w w' O r F s2
  block : ∀ k, O k → w'.heap[k]? = W.heap[k]?
  size : W.heap.size ≤ w'.heap.size
/-- How a call that hands back a word ends, the own blocks standing. -/
def DoesG (w0 w W : World) (O : Nat → Prop) (r : Rd) (F : Nat → Nat) (o : Out Wd) (e : Ending) (w' : World) : Prop :=
  match o with
  | .ok x s' => e = .returned (wv x) ∧ Stood w0 w W w' O r F s'
  | .bad er a s' => e = Panics er a ∧ BadR w0 w w' r F s'
  | .lost => True
section
variable {w0 w W : World} {O : Nat → Prop} {r : Rd} {F : Nat → Nat} {s s1 s2 : Rs} {o : Out Wd} {f : FuncId} {args : Array Value}
theorem GoR.step (H : RdAt w0 w r F s) (g : GoR w0 w W O r F s1) : ∃ F1, RdAt w0 W r F1 s1 ∧ (∀ w' s2, WentR w0 W w' r F1 s2 → Stood w0 w W w' O r F s2) ∧ (∀ w' s2, BadR w0 W w' r F1 s2 → BadR w0 w w' r F s2) ∧ ∀ k, O k → F1 k = 0 ∧ k ≠ r.pb ∧ k < W.heap.size := by
  have hlow := fun k hk => g.low H (k := k) hk
  obtain ⟨hk, F1, h1, h2, h3⟩ := g
  refine ⟨F1, h1, fun w' s2 hw => ?_, fun w' s2 hw => ?_, fun k ho => ⟨(h3 k ho).1, (hlow k ho).1, (h3 k ho).2.1⟩⟩
  · obtain ⟨kk, F2, k1, k2⟩ := hw
    exact ⟨⟨hk.trans kk (foot_step h2), F2, k1, fun i hi => (k2 i (Nat.lt_of_lt_of_le hi hk.size)).trans (h2 i hi), fun k ho => ⟨(k2 k (h3 k ho).2.1).2 (h3 k ho).1, Nat.lt_of_lt_of_le (h3 k ho).2.1 kk.size, (h3 k ho).2.2⟩⟩, fun k ho => kk.block k (h3 k ho).2.1 (foot_zero.2 ⟨(hlow k ho).1, (h3 k ho).1⟩), kk.size⟩
  · obtain ⟨kk, F2, k1, k2⟩ := hw
    exact ⟨hk.trans kk (foot_step h2), F2, k1, fun i hi => (k2 i (Nat.lt_of_lt_of_le hi hk.size)).trans (h2 i hi)⟩
theorem does_go (H : RdAt w0 w r F s) (g : GoR w0 w W O r F s1) (hc : ∀ F1, RdAt w0 W r F1 s1 → Calls Tryz.prog f args W fun e w' => Does w0 W r F1 o e w') : Calls Tryz.prog f args W fun e w' => DoesG w0 w W O r F o e w' := by
  obtain ⟨F1, h1, h2, h3, _⟩ := g.step H
  refine (hc F1 h1).mono ?_
  intro e w' hD
  cases o with
  | lost => trivial
  | ok x s' => exact ⟨hD.1, h2 _ _ hD.2⟩
  | bad er a s' => exact ⟨hD.1, h3 _ _ hD.2⟩
theorem mv_go (H : RdAt w0 w r F s) (g : GoR w0 w W O r F s1) {v : Value} (hc : ∀ F1, RdAt w0 W r F1 s1 → Calls Tryz.prog f args W fun e w' => e = .returned v ∧ Mv w0 W w' r F1 s2) : Calls Tryz.prog f args W fun e w' => e = .returned v ∧ Stood w0 w W w' O r F s2 := by
  obtain ⟨F1, h1, h2, _⟩ := g.step H
  refine (hc F1 h1).mono ?_
  rintro e w' ⟨he, hm⟩
  exact ⟨he, h2 _ _ hm.went⟩
theorem bad_go (H : RdAt w0 w r F s) (g : GoR w0 w W O r F s1) {er a : Int} (hc : ∀ F1, RdAt w0 W r F1 s1 → Calls Tryz.prog f args W fun e w' => e = Panics er a ∧ Below W.heap.size W w') : Calls Tryz.prog f args W fun e w' => e = Panics er a ∧ BadR w0 w w' r F s1 := by
  obtain ⟨F1, h1, _, h3, _⟩ := g.step H
  refine (hc F1 h1).mono ?_
  rintro e w' ⟨he, hb⟩
  exact ⟨he, h3 _ _ (WentR.of_below h1 hb).bad⟩
theorem same_go (H : RdAt w0 w r F s) (g : GoR w0 w W O r F s1) {v : Value} (hc : ∀ F1, RdAt w0 W r F1 s1 → Calls Tryz.prog f args W fun e w' => e = .returned v ∧ w' = W) : Calls Tryz.prog f args W fun e w' => e = .returned v ∧ w' = W := by
  obtain ⟨F1, h1, _⟩ := g.step H
  exact hc F1 h1
theorem Stood.junk {w1 w2 : World} (h : Stood w0 w W w1 O r F s2) (hb : Below w1.heap.size w1 w2) : Stood w0 w W w2 O r F s2 :=
  ⟨h.go.junk hb, fun k hk => (hb.block k (by obtain ⟨_, F1, _, _, q⟩ := h.go; exact (q k hk).2.1)).trans (h.block k hk), Nat.le_trans h.size hb.size⟩
theorem chain_go (H : RdAt w0 w r F s) (g : GoR w0 w W O r F s1) {v : Value} {l : List Wd} (hl : l.length ≤ 200000) (last : Wd) (st : Int)
    (hv : ∃ a cap, v = .slice a l.length cap ∧ ∀ (i : Nat) x, l[i]? = some x → ∃ gb off, a = some ⟨gb, off, none⟩ ∧ O gb ∧ W.cell? ⟨gb, off + i * 2, none⟩ = some (.int .i64 x.1) ∧ W.cell? ⟨gb, off + i * 2 + 1, none⟩ = some (.int .i64 x.2)) :
    Calls Tryz.prog 218 #[rp r, .int .i64 st, v, wv last] W fun e w' => DoesG w0 w W O r F (chainO st s1 l.reverse last) e w' := by
  obtain ⟨F1, h1, h2, h3, h4⟩ := g.step H
  obtain ⟨a, cap, rfl, hc⟩ := hv
  refine (chain_any h1 (v := .slice a l.length cap) (l := l) ⟨a, cap, rfl, fun i x hx => ?_⟩ hl last st).mono ?_
  · obtain ⟨gb, off, e1, e2, e3, e4⟩ := hc i x hx
    exact ⟨gb, off, e1, (h4 gb e2).2.2, (h4 gb e2).1, (h4 gb e2).2.1, e3, e4⟩
  · intro e w' hD
    generalize chainO st s1 l.reverse last = o at *
    cases o with
    | lost => trivial
    | ok x s' => exact ⟨hD.1, h2 _ _ hD.2⟩
    | bad er a s' => exact ⟨hD.1, h3 _ _ hD.2⟩
/-- The result's place filled at the end. -/
theorem GoR.fill (H : RdAt w0 w r F s) (g : GoR w0 w W O r F s1) (hO : O w.heap.size) (u v : Value) : WentR w0 w ((W.setCell ⟨w.heap.size, 0, none⟩ u).setCell ⟨w.heap.size, 1, none⟩ v) r F s1 := ((g.poke H hO 0 u).poke H hO 1 v).went
end
end Go.Proofs.YtbbopdkbokbafaaGreatDoor
