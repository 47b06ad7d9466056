/- Maps with int keys, as functions: what lies at a key; a store; a delete; the length. -/
import Derived.Test.YtgkblfegjmeolaaHpRow
import Derived.Test.YtgkblfegjmeolaaProg
import Derived.Maps.OwnSet
import Derived.Maps.OwnOps
namespace Go.Proofs.Ytgkblfegjmeolaa
open Go.RowKit Go.Lib
abbrev RD := Value → Option (DataW Unit × List MemPlace)
/-- A reader under which a value can be told from what it reads as. -/
def Tell (R : RD) : Prop := ∀ v v' d p p', R v = some (d, p) → R v' = some (d, p') → v = v'
abbrev hptr (b : Nat) : Value := .pointer (some ⟨b, 0, none⟩)
abbrev hmap (b : Nat) : Value := .map (some b)
/-- How a pointer at a block's start reads; nil. -/
def ptrE : RD := fun v => match v with
  | .pointer none => some (.lit (.int .i64 (-1)), [])
  | .pointer (some ⟨b, 0, none⟩) => some (.lit (.int .i64 (b : Int)), [])
  | _ => none
def mapE : RD := fun v => match v with
  | .map none => some (.lit (.int .i64 (-1)), [])
  | .map (some b) => some (.lit (.int .i64 (b : Int)), [])
  | _ => none
theorem ptrE_inv {v : Value} {d : DataW Unit} {p : List MemPlace} (h : ptrE v = some (d, p)) : (v = .pointer none ∧ d = .lit (.int .i64 (-1))) ∨ ∃ b : Nat, v = hptr b ∧ d = .lit (.int .i64 (b : Int)) := by
  unfold ptrE at h
  split at h
  · cases h; exact .inl ⟨rfl, rfl⟩
  · cases h; exact .inr ⟨_, rfl, rfl⟩
  · cases h
theorem mapE_inv {v : Value} {d : DataW Unit} {p : List MemPlace} (h : mapE v = some (d, p)) : (v = .map none ∧ d = .lit (.int .i64 (-1))) ∨ ∃ b : Nat, v = hmap b ∧ d = .lit (.int .i64 (b : Int)) := by
  unfold mapE at h
  split at h
  · cases h; exact .inl ⟨rfl, rfl⟩
  · cases h; exact .inr ⟨_, rfl, rfl⟩
  · cases h
theorem ptr_tell : Tell ptrE := by
  intro v v' d p p' h h'
  rcases ptrE_inv h with ⟨rfl, rfl⟩ | ⟨b, rfl, rfl⟩ <;> rcases ptrE_inv h' with ⟨rfl, e⟩ | ⟨b', rfl, e⟩
  · rfl
  · injection e with e; injection e with _ e; omega
  · injection e with e; injection e with _ e; omega
  · injection e with e; injection e with _ e
    have : b = b' := by omega
    rw [this]
theorem map_tell : Tell mapE := by
  intro v v' d p p' h h'
  rcases mapE_inv h with ⟨rfl, rfl⟩ | ⟨b, rfl, rfl⟩ <;> rcases mapE_inv h' with ⟨rfl, e⟩ | ⟨b', rfl, e⟩
  · rfl
  · injection e with e; injection e with _ e; omega
  · injection e with e; injection e with _ e; omega
  · injection e with e; injection e with _ e
    have : b = b' := by omega
    rw [this]
/-- How a mark reads. -/
def markE : RD := fun v => match v with
  | .int .u8 a => some (.lit (.int .i64 a), [])
  | _ => none
theorem mark_tell : Tell markE := by
  intro v v' d p p' h h'
  unfold markE at h h'
  split at h
  · split at h'
    · cases h; cases h'; rfl
    · cases h'
  · cases h
theorem ikey : Go.Maps.Keyed Try.prog 3 := Go.Maps.int_keyed Try.underlying3
theorem keyI (k : Nat) (hk : k ≤ 1000000000) : keyOf Try.prog 3 (.int .i64 (k : Int)) = some (.int .i64 (k : Int)) := Go.Maps.keyOf_int_mk Try.underlying3 (Go.WalkArith.wf_i64 (by omega))
abbrev ikl (k : Nat) : Lit := .int .i64 (k : Int)
theorem ikl_ne {j k : Nat} (h : j ≠ k) : ikl j ≠ ikl k := fun e => by injection e with _ e; omega
/-- What a map's datum says at a key. -/
def Looks0 (R : RD) (D : DataW Unit) (f : Nat → Option Value) : Prop := ∀ k : Nat, match f k with
  | some v => Go.Maps.has D (ikl k) = true ∧ ∃ d p, R v = some (d, p) ∧ ∀ z, D.atKey (ikl k) z = d
  | none => Go.Maps.has D (ikl k) = false
structure Looks (R : RD) (D : DataW Unit) (f : Nat → Option Value) : Prop where
  here : Looks0 R D f
  only : ∀ es, D = .map es → ∀ p ∈ es, ∃ k, p.1 = ikl k ∧ f k ≠ none
/-- Block b is a map that holds f's values at f's keys. -/
def MapF (w : World) (R : RD) (b c : Nat) (f : Nat → Option Value) : Prop := ∃ D, w.ownsMap Try.prog 3 R b c D ∧ Looks R D f
theorem MapF.lt {w : World} {R : RD} {b c : Nat} {f : Nat → Option Value} (h : MapF w R b c f) : b < w.heap.size := by
  obtain ⟨D, h1, _⟩ := h; exact h1.lt
theorem MapF.move {w w' : World} {R : RD} {b c : Nat} {f : Nat → Option Value} (h : MapF w R b c f) (hb : w'.heap[b]? = w.heap[b]?) : MapF w' R b c f := by
  obtain ⟨D, ⟨es, clock, h1, h2⟩, h3⟩ := h
  exact ⟨D, ⟨es, clock, hb.trans h1, h2⟩, h3⟩
theorem MapF.mono {w : World} {R : RD} {b c c' : Nat} {f : Nat → Option Value} (h : MapF w R b c f) (hc : c ≤ c') : MapF w R b c' f := by
  obtain ⟨D, h1, h2⟩ := h; exact ⟨D, h1.mono hc, h2⟩
theorem MapF.ext {w : World} {R : RD} {b c : Nat} {f g : Nat → Option Value} (h : MapF w R b c f) (hfg : ∀ k, f k = g k) : MapF w R b c g := by
  obtain rfl : f = g := funext hfg
  exact h
theorem MapF.made (w : World) (R : RD) : MapF (w.alloc (.map #[] 0)) R w.heap.size 0 (fun _ => none) :=
  ⟨_, World.ownsMap_made w _ _ _, fun k => by simp [Go.Maps.has], fun es h p hp => by cases h; cases hp⟩
theorem MapF.look {w : World} {R : RD} {b c : Nat} {f : Nat → Option Value} (h : MapF w R b c f) (hR : Tell R) {t e : TypeId} (ht : Try.prog.underlying t = some (.map 3 e)) {z : Value} (hz : (zeroValue e).run Try.prog w = .ok z w) {zd : DataW Unit} {zp : List MemPlace} (hzr : R z = some (zd, zp)) (k : Nat) (hk : k ≤ 1000000000) :
    (Instr.lookup t (.map (some b)) (.int .i64 (k : Int)) false).run Try.prog w = .ok ((f k).getD z) w := by
  obtain ⟨D, h1, h2⟩ := h
  obtain ⟨v, ps, hrun, hv⟩ := h1.lookup ikey ht hz hzr (keyI k hk)
  rw [hrun]
  have hkk := h2.here k
  cases hf : f k with
  | none =>
    rw [hf] at hkk
    rw [Go.Maps.atKey_of_not_has hkk] at hv
    rw [hR _ _ _ _ _ hv hzr]
    rfl
  | some u =>
    rw [hf] at hkk
    obtain ⟨_, d, p, hd, hat⟩ := hkk
    rw [hat zd] at hv
    rw [hR _ _ _ _ _ hv hd]
    rfl
theorem MapF.isMap {w : World} {R : RD} {b c : Nat} {D : DataW Unit} (h : w.ownsMap Try.prog 3 R b c D) : Go.Maps.IsMap D := h.isMap
theorem Looks0.put {R : RD} {D : DataW Unit} {f : Nat → Option Value} (h : Looks0 R D f) (hm : Go.Maps.IsMap D) (k : Nat) {v : Value} {d : DataW Unit} {p : List MemPlace} (hv : R v = some (d, p)) : Looks0 R (D.put (ikl k) d) (fun j => if j = k then some v else f j) := by
  intro j
  by_cases e : j = k
  · subst e
    simp only [if_true]
    exact ⟨Go.Maps.has_put_same (k := ikl j) hm trivial _, d, p, hv, fun z => Go.Maps.atKey_put_same (k := ikl j) hm trivial _ z⟩
  · have hj := h j
    simp only [if_neg e]
    have hne := ikl_ne e
    cases hf : f j with
    | none =>
      rw [hf] at hj
      simp only
      rw [Go.Maps.has_put_other hne]
      exact hj
    | some u =>
      rw [hf] at hj
      obtain ⟨g1, d', p', g2, g3⟩ := hj
      simp only
      rw [Go.Maps.has_put_other hne]
      exact ⟨g1, d', p', g2, fun z => by rw [Go.Maps.atKey_put_other hne]; exact g3 z⟩
theorem Looks0.del {R : RD} {D : DataW Unit} {f : Nat → Option Value} (h : Looks0 R D f) (k : Nat) : Looks0 R (D.del (ikl k)) (fun j => if j = k then none else f j) := by
  intro j
  by_cases e : j = k
  · subst e
    simp only [if_true]
    exact Go.Maps.has_del_same
  · have hj := h j
    simp only [if_neg e]
    have hne := ikl_ne e
    cases hf : f j with
    | none =>
      rw [hf] at hj
      simp only
      rw [Go.Maps.has_del_other hne]
      exact hj
    | some u =>
      rw [hf] at hj
      obtain ⟨g1, d', p', g2, g3⟩ := hj
      simp only
      rw [Go.Maps.has_del_other hne]
      exact ⟨g1, d', p', g2, fun z => by rw [Go.Maps.atKey_del_other hne]; exact g3 z⟩
theorem Looks.put {R : RD} {D : DataW Unit} {f : Nat → Option Value} (h : Looks R D f) (hm : Go.Maps.IsMap D) (k : Nat) {v : Value} {d : DataW Unit} {p : List MemPlace} (hv : R v = some (d, p)) : Looks R (D.put (ikl k) d) (fun j => if j = k then some v else f j) := by
  refine ⟨h.here.put hm k hv, fun es he q hq => ?_⟩
  obtain ⟨l, rfl⟩ := hm
  rw [DataW.put_eq] at he
  cases he
  unfold ChangeMaps.putKey at hq
  rcases ChangeMaps.mem_insert_iff.1 hq with rfl | hq
  · exact ⟨k, rfl, by simp⟩
  · obtain ⟨j, e, hj⟩ := h.only l rfl q (List.mem_filter.1 hq).1
    refine ⟨j, e, ?_⟩
    split
    · simp
    · exact hj
theorem Looks.del {R : RD} {D : DataW Unit} {f : Nat → Option Value} (h : Looks R D f) (hm : Go.Maps.IsMap D) (k : Nat) : Looks R (D.del (ikl k)) (fun j => if j = k then none else f j) := by
  refine ⟨h.here.del k, fun es he q hq => ?_⟩
  obtain ⟨l, rfl⟩ := hm
  rw [DataW.del_eq] at he
  cases he
  unfold ChangeMaps.delKey at hq
  obtain ⟨hq1, hq2⟩ := List.mem_filter.1 hq
  obtain ⟨j, e, hj⟩ := h.only l rfl q hq1
  refine ⟨j, e, ?_⟩
  rw [if_neg]
  · exact hj
  · intro e2
    unfold ChangeMaps.notKey at hq2
    rw [e, e2, WideAt.sameKey_self (a := ikl k) trivial] at hq2
    cases hq2
theorem turned_size {w w' : World} {b : Nat} (h : w.mapTurned w' b) : w'.heap.size = w.heap.size := by
  obtain ⟨es, clock, es', clock', hb, rfl⟩ := h
  simp [ChangeMaps.setBlock]
theorem MapF.put {w : World} {R : RD} {b c : Nat} {f : Nat → Option Value} (h : MapF w R b c f) {t e : TypeId} (ht : Try.prog.underlying t = some (.map 3 e)) (hc : c ≤ 1000000000) (k : Nat) (hk : k ≤ 1000000000) {v : Value} {d : DataW Unit} {p : List MemPlace} (hv : R v = some (d, p)) :
    ∃ w', (Instr.mapUpdate t (.map (some b)) (.int .i64 (k : Int)) v).run Try.prog w = .ok () w' ∧ MapF w' R b (c + 1) (fun j => if j = k then some v else f j) ∧ w.grownBy w' (some b) ∧ w'.heap.size = w.heap.size := by
  obtain ⟨D, h1, h2⟩ := h
  obtain ⟨w', hrun, h3, h4⟩ := h1.store ikey ht (by unfold maxLen; omega) (keyI k hk) hv
  exact ⟨w', hrun, ⟨_, h3, h2.put h1.isMap k hv⟩, h4.grown, turned_size h4⟩
theorem MapF.drop {w : World} {R : RD} {b c : Nat} {f : Nat → Option Value} (h : MapF w R b c f) {t e : TypeId} (ht : Try.prog.underlying t = some (.map 3 e)) (k : Nat) (hk : k ≤ 1000000000) (ty : TypeId) :
    ∃ w', (Builtin.delete_ #[t, 3] ty #[.map (some b), .int .i64 (k : Int)]).run Try.prog w = .ok (.tuple #[]) w' ∧ MapF w' R b c (fun j => if j = k then none else f j) ∧ w.grownBy w' (some b) ∧ w'.heap.size = w.heap.size := by
  obtain ⟨D, h1, h2⟩ := h
  obtain ⟨w', hrun, h3, h4⟩ := h1.drop ikey ht (keyI k hk) ty
  exact ⟨w', hrun, ⟨_, h3, h2.del h1.isMap k⟩, h4.grown, turned_size h4⟩
theorem MapF.len {w : World} {R : RD} {b c : Nat} {f : Nat → Option Value} (h : MapF w R b c f) {t e : TypeId} (ht : Try.prog.underlying t = some (.map 3 e)) (ty : TypeId) :
    ∃ s : Nat, (Builtin.len_ #[t] ty #[.map (some b)]).run Try.prog w = .ok (.int .i64 (s : Int)) w ∧ s ≤ c ∧ (s = 0 ↔ ∀ k, f k = none) := by
  obtain ⟨D, h1, h2⟩ := h
  obtain ⟨l, rfl⟩ := h1.isMap
  refine ⟨Go.Maps.size (.map l), h1.len ht ty, h1.size_le, fun hs k => ?_, fun hf => ?_⟩
  · have hk := h2.here k
    cases hf : f k with
    | none => rfl
    | some v =>
      rw [hf] at hk
      obtain ⟨g, _⟩ := hk
      simp [Go.Maps.size] at hs
      subst hs
      simp [Go.Maps.has] at g
  · cases l with
    | nil => rfl
    | cons p r =>
      obtain ⟨k, _, hk⟩ := h2.only _ rfl p (by simp)
      exact absurd (hf k) hk
end Go.Proofs.Ytgkblfegjmeolaa
