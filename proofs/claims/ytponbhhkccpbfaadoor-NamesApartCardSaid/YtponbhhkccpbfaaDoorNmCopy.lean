/- A table's copy, as its loop makes it. -/
import Derived.Test.YtponbhhkccpbfaaDoorNmClone
namespace Go.Proofs.YtponbhhkccpbfaaDoor
open Go.RowKit Go.Lib Go.Shelf
theorem tcells_get (l : List (Sy × Value)) (q : Nat) : (tcells l)[q]? = (l[q / 6]?).bind fun p => (scells p.1 p.2)[q % 6]? := by
  cases h : l[q / 6]? with
  | none =>
    have h1 := List.getElem?_eq_none_iff.1 h
    rw [List.getElem?_eq_none_iff.2 (by rw [tcells_length]; omega)]
    rfl
  | some p =>
    have h1 := tcells_at l (q / 6) p h (q % 6) (by omega)
    rw [show q / 6 * 6 + q % 6 = q by omega] at h1
    rw [h1]
    rfl
theorem tcells_put (l : List (Sy × Value)) (i : Nat) (hi : i < l.length) (s : Sy) (v : Value) :
    ((((((tcells l).set (i * 6) (.int .i64 s.f.1)).set (i * 6 + 1) (.int .i64 s.f.2)).set (i * 6 + 2) (.bool s.has)).set (i * 6 + 3) v).set (i * 6 + 4) (.string s.name)).set (i * 6 + 5) (.bool s.intd) = tcells (l.set i (s, v)) := by
  have hl := tcells_length l
  apply List.ext_getElem?
  intro q
  rw [tcells_get (l.set i (s, v))]
  by_cases e : q / 6 = i
  · have h1 : (l.set i (s, v))[q / 6]? = some (s, v) := by rw [e, List.getElem?_set_self hi]
    rw [h1]
    obtain ⟨r, hr, hq⟩ : ∃ r, r < 6 ∧ q = i * 6 + r := ⟨q % 6, by omega, by omega⟩
    subst hq
    have h2 : (i * 6 + r) % 6 = r := by omega
    rw [h2]
    have hc : r = 0 ∨ r = 1 ∨ r = 2 ∨ r = 3 ∨ r = 4 ∨ r = 5 := by omega
    rcases hc with rfl | rfl | rfl | rfl | rfl | rfl <;> simp [List.getElem?_set, hl, scells] <;> omega
  · have h1 : (l.set i (s, v))[q / 6]? = l[q / 6]? := by rw [List.getElem?_set_ne (Ne.symm e)]
    rw [h1, ← tcells_get]
    rw [List.getElem?_set_ne (by omega), List.getElem?_set_ne (by omega), List.getElem?_set_ne (by omega), List.getElem?_set_ne (by omega), List.getElem?_set_ne (by omega), List.getElem?_set_ne (by omega)]
def sy0 : Sy := ⟨(0, 0), false, [], ⟨#[]⟩, false⟩
/-- Symbol i of the row at g is set. -/
def cput (W : World) (g i : Nat) (s : Sy) (v : Value) : World :=
  (((((W.setCell ⟨g, i * 6, none⟩ (.int .i64 s.f.1)).setCell ⟨g, i * 6 + 1, none⟩ (.int .i64 s.f.2)).setCell ⟨g, i * 6 + 2, none⟩ (.bool s.has)).setCell ⟨g, i * 6 + 3, none⟩ v).setCell ⟨g, i * 6 + 4, none⟩ (.string s.name)).setCell ⟨g, i * 6 + 5, none⟩ (.bool s.intd)
theorem cput_off {W : World} {g i j : Nat} {s : Sy} {v : Value} (h : j ≠ g) : (cput W g i s v).heap[j]? = W.heap[j]? := by
  unfold cput
  rw [setCell_off _ h, setCell_off _ h, setCell_off _ h, setCell_off _ h, setCell_off _ h, setCell_off _ h]
theorem cput_size (W : World) (g i : Nat) (s : Sy) (v : Value) : (cput W g i s v).heap.size = W.heap.size := by simp [cput, World.setCell]
theorem cput_at {W : World} {g i : Nat} {s : Sy} {v : Value} {xs : List (Sy × Value)} (h : W.heap[g]? = some (.cells (tcells xs).toArray 80 (0, 0))) (hi : i < xs.length) :
    (cput W g i s v).heap[g]? = some (.cells (tcells (xs.set i (s, v))).toArray 80 (0, 0)) := by
  unfold cput
  rw [setCell_at (setCell_at (setCell_at (setCell_at (setCell_at (setCell_at h _) _) _) _) _) _, ← tcells_put xs i hi s v]
  simp
theorem cput_below {B : Nat} {w W : World} {g i : Nat} {s : Sy} {v : Value} (h : Below B w W) (hg : B ≤ g) : Below B w (cput W g i s v) :=
  ((((((h.setCell hg _).setCell hg _).setCell hg _).setCell hg _).setCell hg _).setCell hg _)
structure CopyT (w W : World) (g : Nat) (G2 : Nat → Nat) (ss : List Sy) (k : Nat) : Prop where
  below : Below w.heap.size w W
  new : ∀ j, W.heap.size ≤ j → G2 j = 0
  old : ∀ j, j < w.heap.size → G2 j = 0
  lab : G2 g = 2
  row : ∃ xs : List (Sy × Value), xs.length = ss.length ∧ W.heap[g]? = some (.cells (tcells xs).toArray 80 (0, 0)) ∧ ∀ i y, ss[i]? = some y → i < k → ∃ v, xs[i]? = some (y, v) ∧ Row W G2 (4 + i) 66 3 v y.ps.length (pcells y.ps)
theorem CopyT.step {w W W2 : World} {g : Nat} {G2 Gn : Nat → Nat} {ss : List Sy} {k : Nat} {y : Sy} {v : Value} (h : CopyT w W g G2 ss k) (hk : ss[k]? = some y) (hW : Below W.heap.size W W2)
    (hGn : ∀ j, Gn j ≠ 0 → W.heap.size ≤ j ∧ j < W2.heap.size) (hrow : Row W2 Gn (4 + k) 66 3 v y.ps.length (pcells y.ps)) :
    CopyT w (cput W2 g k y v) g (fun j => if W.heap.size ≤ j then Gn j else G2 j) ss (k + 1) := by
  obtain ⟨h1, h2, h3, h4, xs, hx, hh, hr⟩ := h
  have hg := lt_at hh
  have hgw : w.heap.size ≤ g := by
    rcases Nat.lt_or_ge g w.heap.size with h | h
    · have := h3 g h; omega
    · exact h
  have hkl := (List.getElem?_eq_some_iff.1 hk).1
  have hs2 := cput_size W2 g k y v
  have hle := hW.size
  refine ⟨cput_below (h1.trans (hW.mono h1.size)) hgw, fun j hj => ?_, fun j hj => ?_, ?_, xs.set k (y, v), by simpa using hx, cput_at ((hW.block g hg).trans hh) (by omega), fun i y2 hy2 hik => ?_⟩
  · rw [if_pos (by omega)]
    rcases Nat.eq_zero_or_pos (Gn j) with h | h
    · exact h
    · have := (hGn j (by omega)).2; omega
  · rw [if_neg (by have := h1.size; omega)]; exact h3 j hj
  · rw [if_neg (by omega)]; exact h4
  · by_cases e : i = k
    · subst e
      rw [hk] at hy2
      cases hy2
      refine ⟨v, by rw [List.getElem?_set_self (by omega)], hrow.keep (fun j hj e2 => cput_off ?_) (fun j hj e2 => ?_)⟩
      · intro e3
        have := (hGn j (by omega)).1
        omega
      · have := (hGn j (by omega)).1
        rw [if_pos this]; exact e2
    · obtain ⟨v2, hv2, hr2⟩ := hr i y2 hy2 (by omega)
      refine ⟨v2, by rw [List.getElem?_set_ne (Ne.symm e)]; exact hv2, hr2.keep (fun j hj e2 => (cput_off ?_).trans (hW.block j hj)) (fun j hj e2 => ?_)⟩
      · intro e3; rw [e3, h4] at e2; omega
      · rw [if_neg (by omega)]; exact e2
/-- The loop is through: the table's own block and the map's copy are laid. -/
theorem CopyT.table {w W W' : World} {g mb tb : Nat} {G2 : Nat → Nat} {m : Tb} (h : CopyT w W g G2 m.syms m.syms.length) (hok : m.Ok) (hpos : 0 < m.syms.length) (hb : Below W.heap.size W W') (hmb : W.heap.size ≤ mb) (htb : W.heap.size ≤ tb) (hne : mb ≠ tb)
    (hm : W'.ownsMap Tryd.prog 9 (Go.plainElem Tryd.prog 3) mb m.syms.length m.D) (ht : W'.heap[tb]? = some (.cells #[.slice (some ⟨g, 0, none⟩) m.syms.length m.syms.length, .map (some mb)] 74 (0, 0))) :
    ∃ G3, TableAt W' tb G3 m ∧ (∀ j, j < w.heap.size → G3 j = 0) ∧ Below w.heap.size w W' := by
  obtain ⟨h1, h2, h3, h4, xs, hx, hh, hr⟩ := h
  have hg := lt_at hh
  have hle := hb.size
  have hmbl := hm.lt
  have htbl := lt_at ht
  have h1s := h1.size
  have hlen := hok.len
  refine ⟨fun j => if j = mb then 3 else if j = tb then 1 else G2 j, ⟨hok, fun k hk => ?_, ?_, .slice (some ⟨g, 0, none⟩) m.syms.length m.syms.length, mb, xs, ht, ?_, ?_, if_pos rfl, hm, fun i s v hi => ?_⟩, fun j hj => ?_, h1.trans (hb.mono h1.size)⟩
  · show (if k = mb then 3 else if k = tb then 1 else G2 k) = 0
    rw [if_neg (by omega), if_neg (by omega)]
    exact h2 k (by omega)
  · show (if tb = mb then 3 else if tb = tb then 1 else G2 tb) = 1
    rw [if_neg (Ne.symm hne), if_pos rfl]
  · apply List.ext_getElem?
    intro i
    rw [List.getElem?_map]
    cases hy : m.syms[i]? with
    | none =>
      have h5 := List.getElem?_eq_none_iff.1 hy
      rw [List.getElem?_eq_none_iff.2 (by omega)]
      rfl
    | some y =>
      obtain ⟨v, hv, _⟩ := hr i y hy (List.getElem?_eq_some_iff.1 hy).1
      rw [hv]
      rfl
  · rw [hx]
    refine ⟨⟨by rw [tcells_length, hx], .inr ⟨g, m.syms.length, (tcells xs).toArray, rfl, Nat.zero_le _, (hb.block g hg).trans hh, Nat.le_refl _, by simp only [maxLen]; omega, by simp [tcells_length, hx], ?_⟩⟩, fun k hk => ?_⟩
    · show List.take (m.syms.length * 6) (tcells xs) = tcells xs
      exact List.take_of_length_le (by rw [tcells_length, hx]; exact Nat.le_refl _)
    · simp only [Value.ownBlock, Option.some.injEq] at hk
      subst hk
      show (if g = mb then 3 else if g = tb then 1 else G2 g) = 2
      rw [if_neg (by omega), if_neg (by omega)]
      exact h4
  · have hil := (List.getElem?_eq_some_iff.1 hi).1
    obtain ⟨y, hy⟩ : ∃ y, m.syms[i]? = some y := ⟨_, List.getElem?_eq_getElem (by omega)⟩
    obtain ⟨v2, hv2, hr2⟩ := hr i y hy (by omega)
    rw [hv2] at hi
    cases hi
    refine hr2.keep (fun j hj e2 => hb.block j hj) (fun j hj e2 => ?_)
    show (if j = mb then 3 else if j = tb then 1 else G2 j) = 4 + i
    rw [if_neg (by omega), if_neg (by omega)]
    exact e2
  · show (if j = mb then 3 else if j = tb then 1 else G2 j) = 0
    rw [if_neg (by omega), if_neg (by omega)]
    exact h3 j hj
end Go.Proofs.YtponbhhkccpbfaaDoor
