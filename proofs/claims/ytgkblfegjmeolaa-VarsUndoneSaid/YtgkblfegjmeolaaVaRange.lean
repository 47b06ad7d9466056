/- A range over a map with int keys, in plain terms. -/
import Derived.Test.YtgkblfegjmeolaaVaMap
import Derived.Maps.RangeWalk
import Derived.Lib.Hide
namespace Go.Proofs.Ytgkblfegjmeolaa
open Go.RowKit Go.Lib
/-- Block r is a range over the map b, which holds f; left: which keys are still to come. -/
def RangeF (w : World) (R : RD) (b r c : Nat) (f : Nat → Option Value) (left : Nat → Bool) (cnt : Nat) : Prop :=
  ∃ D L, w.ranges Try.prog 3 R b r c D L cnt ∧ Looks R D f ∧ ∀ k, left k = L (ikl k)
theorem RangeF.left_eq {w : World} {R : RD} {b r c : Nat} {f : Nat → Option Value} {left : Nat → Bool} {cnt : Nat} (h : RangeF w R b r c f left cnt) : w.rangeLeft b r = cnt := by
  obtain ⟨D, L, h1, _⟩ := h
  exact h1.left_eq
theorem RangeF.mapF {w : World} {R : RD} {b r c : Nat} {f : Nat → Option Value} {left : Nat → Bool} {cnt : Nat} (h : RangeF w R b r c f left cnt) : MapF w R b c f := by
  obtain ⟨D, L, h1, h2, _⟩ := h
  exact ⟨D, h1.owns, h2⟩
theorem RangeF.lt {w : World} {R : RD} {b r c : Nat} {f : Nat → Option Value} {left : Nat → Bool} {cnt : Nat} (h : RangeF w R b r c f left cnt) : r < w.heap.size ∧ b < w.heap.size := by
  obtain ⟨D, L, h1, _⟩ := h
  exact ⟨h1.lt, h1.owns.lt⟩
theorem RangeF.move {w w' : World} {R : RD} {b r c : Nat} {f : Nat → Option Value} {left : Nat → Bool} {cnt : Nat} (h : RangeF w R b r c f left cnt) (hb : w'.heap[b]? = w.heap[b]?) (hr : w'.heap[r]? = w.heap[r]?) : RangeF w' R b r c f left cnt := by
  obtain ⟨D, L, ⟨es, clock, since, seen, c0, g1, g2, g3, g4, g5, g6⟩, h2, h3⟩ := h
  exact ⟨D, L, ⟨es, clock, since, seen, c0, hb.trans g1, g2, g3, g4, hr.trans g5, g6⟩, h2, h3⟩
/-- What comes out of a map is one of its entries. -/
theorem Looks.entry {R : RD} {D : DataW Unit} {f : Nat → Option Value} (h : Looks R D f) (hm : Go.Maps.IsMap D) (hR : Tell R) {x : Int} {v : Value} {d : DataW Unit} {p : List MemPlace} (hv : R v = some (d, p)) (hat : ∀ z, D.atKey (.int .i64 x) z = d) : ∃ k : Nat, x = (k : Int) ∧ f k = some v := by
  have hhas : Go.Maps.has D (.int .i64 x) = true := by
    cases hh : Go.Maps.has D (.int .i64 x) with
    | true => rfl
    | false =>
      have e1 := hat (.lit (.bool true))
      have e2 := hat (.lit (.bool false))
      rw [Go.Maps.atKey_of_not_has hh] at e1 e2
      rw [← e2] at e1
      cases e1
  obtain ⟨l, rfl⟩ := hm
  rw [Go.Maps.has_eq, List.any_eq_true] at hhas
  obtain ⟨q, hq, hs⟩ := hhas
  obtain ⟨k, hk, _⟩ := h.only l rfl q hq
  rw [hk] at hs
  have hx : (k : Int) = x := by simpa [Lit.sameKey] using hs
  subst hx
  refine ⟨k, rfl, ?_⟩
  have hh := h.here k
  cases hf : f k with
  | none =>
    rw [hf] at hh
    have e1 := hat (.lit (.bool true))
    have e2 := hat (.lit (.bool false))
    rw [Go.Maps.atKey_of_not_has hh] at e1 e2
    rw [← e2] at e1
    cases e1
  | some u =>
    rw [hf] at hh
    obtain ⟨_, d', p', hd, hat'⟩ := hh
    have e : d' = d := (hat' (.lit (.bool true))).symm.trans (hat _)
    subst e
    rw [hR u v d' p' p hd hv]
section
variable (w : World) {ops : Array Oper} {rest : List Oper} {o : Oper} {a : Act} {Q : Exit → Act → World → Prop}
theorem wpList_rangeF (hg : o.guard = none) (m : Operand) (t e : TypeId) (hop : o.op = Op.range t m) (ht : Try.prog.underlying t = some (.map 3 e)) (R : RD) (b c : Nat) (f : Nat → Option Value)
    (hm : a.eval m = .map (some b)) (h : MapF w R b c f)
    (hK : ∀ w' cnt, Hid (cnt ≤ c ∧ RangeF w' R b w.heap.size c f (fun k => (f k).isSome) cnt ∧ w.grownBy w' none ∧ w'.heap.size = w.heap.size + 1) → wpList Try.prog ops Q rest (a.put o.dst (.pointer (some ⟨w.heap.size, 0, none⟩))) w') :
    wpList Try.prog ops Q (o :: rest) a w := by
  obtain ⟨D, h1, h2⟩ := h
  refine wpList_range_own w hg m t hop 3 e ikey ht R b c D hm h1 fun w' r1 r2 r3 => ?_
  refine hK w' _ (Lib.hid ⟨h1.size_le, ⟨D, _, r1, h2, fun k => ?_⟩, r2, r3⟩)
  have hk := h2.here k
  show (f k).isSome = _
  cases hf : f k with
  | none => rw [hf] at hk; exact hk.symm
  | some v => rw [hf] at hk; exact hk.1.symm
theorem wpList_nextF {β : Type} (hg : o.guard = none) (it : Operand) (hop : o.op = Op.next it false) (R : RD) (hR : Tell R) (mkV : β → Value) (invV : ∀ v y, R v = some y → ∃ c, v = mkV c) (b r c : Nat) (f : Nat → Option Value) (left : Nat → Bool) (cnt : Nat)
    (hit : a.eval it = .pointer (some ⟨r, 0, none⟩)) (h : RangeF w R b r c f left cnt)
    (hDone : Hid (∀ k, left k = true → False) → wpList Try.prog ops Q rest (a.put o.dst (.tuple #[.bool false])) w)
    (hMore : ∀ (k : Nat) (v : β) (w' : World) (cnt' : Nat), Hid (f k = some (mkV v) ∧ left k = true ∧ RangeF w' R b r c f (fun j => left j && !decide (j = k)) cnt' ∧ cnt' < cnt ∧
      w.grownBy w' (some r) ∧ w'.heap.size = w.heap.size) → (Instr.entry (.pointer (some ⟨r, 0, none⟩))).run Try.prog w' = .ok (.tuple #[.int .i64 k, mkV v]) w' → wpList Try.prog ops Q rest (a.put o.dst (.tuple #[.bool true, .int .i64 k, mkV v])) w') :
    wpList Try.prog ops Q (o :: rest) a w := by
  obtain ⟨D, L, h1, h2, h3⟩ := h
  refine wpList_next_ranges w hg it hop 3 ikey R (Value.int .i64) mkV (fun key kl hkey => by obtain ⟨x, rfl, _⟩ := Maps.keyOf_int_inv Try.underlying3 hkey; exact ⟨x, rfl⟩) invV b r c D L cnt hit h1 (fun _ hl => hDone (Lib.hid fun k hk => by rw [h3, hl] at hk; cases hk)) ?_
  intro x v kl y w' cnt' hkey hlk hv hat hrg hlt hgr hsz hen
  obtain ⟨x', ex, rfl, hwx⟩ := Maps.keyOf_int_inv Try.underlying3 hkey
  cases ex
  obtain ⟨k, rfl, hf⟩ := h2.entry h1.owns.isMap hR (d := y.1) (p := y.2) hv hat
  refine hMore k v w' cnt' (Lib.hid ⟨hf, (h3 k).trans hlk, ⟨D, _, hrg, h2, fun j => ?_⟩, hlt, hgr, hsz⟩) hen
  show (left j && !decide (j = k)) = _
  rw [h3 j]
  have hs : (ikl j).sameKey (.int .i64 (k : Int)) = decide (j = k) := by
    show decide (IntKind.i64 = IntKind.i64 ∧ (j : Int) = (k : Int)) = _
    by_cases e : j = k
    · subst e; simp
    · rw [decide_eq_false e, decide_eq_false (fun h => e (by omega))]
  show (L (ikl j) && !decide (j = k)) = (L (ikl j) && !(ikl j).sameKey (.int .i64 (k : Int)))
  rw [hs]
end
end Go.Proofs.Ytgkblfegjmeolaa
