/- What a symbol table holds, as plain data, and how it lies in memory. -/
import Derived.Test.YtponbhhkccpbfaaDoorHpMem
import Derived.Test.YtponbhhkccpbfaaDoorHpStr
import Derived.Maps.OwnSet
import Derived.Maps.OwnOps
namespace Go.Proofs.YtponbhhkccpbfaaDoor
open Go.RowKit Go.Lib
theorem Row.slice {w : World} {G : Nat → Nat} {L : Nat} {e : TypeId} {size : Nat} {v : Value} {n : Nat} {xs : List Value} (h : Row w G L e size v n xs) : ∃ a cap, v = .slice a n cap := by
  obtain ⟨⟨h1, h2⟩, h3⟩ := h
  rcases h2 with ⟨rfl, rfl⟩ | ⟨g, cap, cur, hv, _⟩
  · exact ⟨none, 0, rfl⟩
  · exact ⟨_, cap, hv⟩
theorem Row.at {w : World} {G : Nat → Nat} {L : Nat} {e : TypeId} {size : Nat} {v : Value} {n : Nat} {xs : List Value} (h : Row w G L e size v n xs) (hn : 0 < n) :
    ∃ g cap cur, v = .slice (some ⟨g, 0, none⟩) n cap ∧ G g = L ∧ w.heap[g]? = some (.cells cur e (0, 0)) ∧ n ≤ cap ∧ cap ≤ maxLen ∧ cur.size = cap * size ∧ cur.toList.take (n * size) = xs := by
  obtain ⟨⟨h1, h2⟩, h3⟩ := h
  rcases h2 with h2 | ⟨g, cap, cur, hv, _, hh, hr⟩
  · omega
  · exact ⟨g, cap, cur, hv, h3 g (by rw [hv]; rfl), hh, hr⟩
theorem Row.cell {w : World} {G : Nat → Nat} {L : Nat} {e : TypeId} {size : Nat} {n g cap : Nat} {xs : List Value} (h : Row w G L e size (.slice (some ⟨g, 0, none⟩) n cap) n xs) {i : Nat} {u : Value} (hx : xs[i]? = some u) : w.cell? ⟨g, i, none⟩ = some u := by
  obtain ⟨⟨h1, h2⟩, h3⟩ := h
  rcases h2 with ⟨h2, _⟩ | ⟨g', cap', cur, hv, _, hh, _, _, _, ht⟩
  · cases h2
  · cases hv
    rw [cell_at hh]
    rw [← ht] at hx
    have hi := (List.getElem?_eq_some_iff.1 hx).1
    simp only [List.length_take] at hi
    rw [List.getElem?_take_of_lt (by omega)] at hx
    simpa using hx
theorem alloc_at (w : World) (o : Obj) : (w.alloc o).heap[w.heap.size]? = some o := (MapKept.heap_alloc w o).1
theorem own_slice {w : World} {B e size : Nat} {v : Value} {n : Nat} {xs : List Value} (h : w.ownsRow B e size v n xs) : ∃ a c, v = .slice a n c := by
  rcases h.2 with ⟨h1, h2⟩ | ⟨g, cap, cur, h1, _⟩
  · exact ⟨none, 0, by rw [h1, h2]⟩
  · exact ⟨_, cap, h1⟩
theorem own_base {w : World} {B B' e size : Nat} {v : Value} {n : Nat} {xs : List Value} (h : w.ownsRow B e size v n xs) (hB : B' ≤ B) : w.ownsRow B' e size v n xs := by
  obtain ⟨h1, h2⟩ := h
  refine ⟨h1, ?_⟩
  rcases h2 with h2 | ⟨g, cap, cur, hv, hg, hr⟩
  · exact .inl h2
  · exact .inr ⟨g, cap, cur, hv, by omega, hr⟩
/-- A symbol: its function, whether it has one, its properties, its name, whether it is interned. -/
structure Sy where
  f : Wd
  has : Bool
  ps : List (Int × Wd)
  name : ByteArray
  intd : Bool
def pcells (l : List (Int × Wd)) : List Value := l.flatMap fun p => [.int .i64 p.1, .int .i64 p.2.1, .int .i64 p.2.2]
def scells (s : Sy) (pv : Value) : List Value := [.int .i64 s.f.1, .int .i64 s.f.2, .bool s.has, pv, .string s.name, .bool s.intd]
def tcells (l : List (Sy × Value)) : List Value := l.flatMap fun p => scells p.1 p.2
theorem tcells_append (l r : List (Sy × Value)) : tcells (l ++ r) = tcells l ++ tcells r := by simp [tcells]
theorem tcells_cons (p : Sy × Value) (l : List (Sy × Value)) : tcells (p :: l) = scells p.1 p.2 ++ tcells l := by simp [tcells]
theorem tcells_length (l : List (Sy × Value)) : (tcells l).length = l.length * 6 := by
  induction l with
  | nil => rfl
  | cons p l ih => rw [tcells_cons, List.length_append, ih]; simp [scells]; omega
/-- A cell of a symbol. -/
theorem tcells_at (l : List (Sy × Value)) (i : Nat) (p : Sy × Value) (h : l[i]? = some p) (j : Nat) (hj : j < 6) : (tcells l)[i * 6 + j]? = (scells p.1 p.2)[j]? := by
  induction l generalizing i with
  | nil => simp at h
  | cons q l ih =>
    rw [tcells_cons]
    cases i with
    | zero =>
      simp at h
      subst h
      rw [List.getElem?_append_left (by simp [scells]; omega)]
      simp
    | succ i =>
      simp at h
      rw [List.getElem?_append_right (by simp [scells]; omega), show (i + 1) * 6 + j - (scells q.1 q.2).length = i * 6 + j by simp [scells]; omega]
      exact ih i h
/-- A table as plain data: its symbols by their numbers; what its map reads as. -/
structure Tb where
  syms : List Sy
  D : DataW Unit
/-- The key that a name reads as. -/
abbrev nkey (s : ByteArray) : Lit := .string s.data.toList
/-- The interned symbol with a name. -/
def Tb.find (m : Tb) (s : ByteArray) : Option Nat := m.syms.findIdx? fun y => y.intd && decide (y.name.data.toList = s.data.toList)
/-- The map agrees with the symbols. -/
def Tb.Maps (m : Tb) : Prop := ∀ s : ByteArray, match m.find s with
  | some i => Go.Maps.has m.D (nkey s) = true ∧ ∀ z, m.D.atKey (nkey s) z = .lit (.int .i64 i)
  | none => Go.Maps.has m.D (nkey s) = false
structure Tb.Ok (m : Tb) : Prop where
  len : m.syms.length ≤ 16384
  names : ∀ y ∈ m.syms, y.name.size ≤ 281474976710656
  maps : m.Maps
/-- How a table lies: its own block labelled 1, its row of symbols 2, its map 3, symbol i's properties 4 + i; nothing else is labelled. -/
structure TableAt (w : World) (tb : Nat) (G : Nat → Nat) (m : Tb) : Prop where
  ok : m.Ok
  new : ∀ k, w.heap.size ≤ k → G k = 0
  lab : G tb = 1
  lies : ∃ vs mb rs, w.heap[tb]? = some (.cells #[vs, .map (some mb)] 74 (0, 0)) ∧ rs.map Prod.fst = m.syms ∧ Row w G 2 80 6 vs rs.length (tcells rs) ∧
    G mb = 3 ∧ w.ownsMap Tryd.prog 9 (Go.plainElem Tryd.prog 3) mb m.syms.length m.D ∧ ∀ i s v, rs[i]? = some (s, v) → Row w G (4 + i) 66 3 v s.ps.length (pcells s.ps)
theorem TableAt.lt {w : World} {tb : Nat} {G : Nat → Nat} {m : Tb} (h : TableAt w tb G m) : tb < w.heap.size := by
  obtain ⟨vs, mb, rs, h1, _⟩ := h.lies; exact lt_at h1
theorem ownsMap_move {w w' : World} {P : Program} {k : TypeId} {R : Value → Option (DataW Unit × List MemPlace)} {b n : Nat} {D : DataW Unit} (h : w.ownsMap P k R b n D) (hb : w'.heap[b]? = w.heap[b]?) : w'.ownsMap P k R b n D := by
  obtain ⟨es, clock, h1, h2⟩ := h
  exact ⟨es, clock, hb.trans h1, h2⟩
/-- A table stands while its blocks stand. -/
theorem TableAt.keep {w w' : World} {tb : Nat} {G : Nat → Nat} {m : Tb} (h : TableAt w tb G m) (hb : ∀ k, k < w.heap.size → G k ≠ 0 → w'.heap[k]? = w.heap[k]?) : TableAt w' tb G m := by
  obtain ⟨ok, new, lab, vs, mb, rs, h1, h2, h3, h4, h5, h6⟩ := h
  refine ⟨ok, fun k hk => ?_, lab, vs, mb, rs, (hb tb (lt_at h1) (by omega)).trans h1, h2, h3.keep (fun k hk e => hb k hk (by omega)) (fun _ _ e => e), h4, ownsMap_move h5 (hb mb h5.lt (by omega)), fun i s v hi => (h6 i s v hi).keep (fun k hk e => hb k hk (by omega)) (fun _ _ e => e)⟩
  by_cases hk' : w.heap.size ≤ k
  · exact new k hk'
  · by_cases hz : G k = 0
    · exact hz
    · have h7 := hb k (by omega) hz
      rw [Array.getElem?_eq_none (by omega), Array.getElem?_eq_getElem (by omega)] at h7
      cases h7
theorem TableAt.below {w w' : World} {tb : Nat} {G : Nat → Nat} {m : Tb} (h : TableAt w tb G m) (hw : Below w.heap.size w w') : TableAt w' tb G m := h.keep fun k hk _ => hw.block k hk
/-- What a call on a table leaves. -/
structure WentT (w w' : World) (tb : Nat) (G : Nat → Nat) (m' : Tb) : Prop where
  keeps : Keeps G w w'
  table : ∃ G', TableAt w' tb G' m' ∧ ∀ k, k < w.heap.size → (G' k = 0 ↔ G k = 0)
/-- A new symbol is added: its own name is not interned yet, or it is not interned. -/
def Tb.add (m : Tb) (y : Sy) : Tb := ⟨m.syms ++ [y], if y.intd then m.D.put (nkey y.name) (.lit (.int .i64 m.syms.length)) else m.D⟩
theorem Tb.find_add (m : Tb) (y : Sy) (s : ByteArray) : (m.add y).find s = match m.find s with
    | some i => some i
    | none => if y.intd = true ∧ y.name.data.toList = s.data.toList then some m.syms.length else none := by
  unfold Tb.find Tb.add
  simp only [List.findIdx?_append]
  cases h : List.findIdx? (fun y => y.intd && decide (y.name.data.toList = s.data.toList)) m.syms with
  | some i => simp
  | none =>
    simp only [List.findIdx?_cons, List.findIdx?_nil]
    by_cases h2 : y.intd = true ∧ y.name.data.toList = s.data.toList
    · simp [h2.1, h2.2]
    · rw [if_neg h2]
      simp
      exact fun hi e => h2 ⟨hi, by rw [e]⟩
theorem Tb.Maps.add {m : Tb} (h : m.Maps) (hm : Go.Maps.IsMap m.D) (y : Sy) (hy : y.intd = true → m.find y.name = none) : (m.add y).Maps := by
  intro s
  have hs := h s
  rw [Tb.find_add]
  by_cases hi : y.intd = true
  · have hD : (m.add y).D = m.D.put (nkey y.name) (.lit (.int .i64 m.syms.length)) := by simp [Tb.add, hi]
    by_cases e : y.name.data.toList = s.data.toList
    · have hn : m.find s = none := by
        have := hy hi
        unfold Tb.find at this ⊢
        rw [← e]
        exact this
      rw [hn]
      simp only [hi, e, true_and, if_true]
      rw [hD]
      have ek : nkey y.name = nkey s := by simp [nkey, e]
      rw [ek]
      exact ⟨Go.Maps.has_put_same (k := nkey s) hm trivial _, fun z => Go.Maps.atKey_put_same (k := nkey s) hm trivial _ z⟩
    · have hne : nkey s ≠ nkey y.name := fun h2 => e (by injection h2 with h3; exact h3.symm)
      have hne2 : ¬ (y.intd = true ∧ y.name.data.toList = s.data.toList) := fun h2 => e h2.2
      cases hf : m.find s with
      | some i =>
        rw [hf] at hs
        simp only
        rw [hD, Go.Maps.has_put_other hne]
        exact ⟨hs.1, fun z => by rw [Go.Maps.atKey_put_other hne]; exact hs.2 z⟩
      | none =>
        rw [hf] at hs
        simp only [if_neg hne2]
        rw [hD, Go.Maps.has_put_other hne]
        exact hs
  · have hD : (m.add y).D = m.D := by simp [Tb.add, hi]
    have hne2 : ¬ (y.intd = true ∧ y.name.data.toList = s.data.toList) := fun h2 => hi h2.1
    cases hf : m.find s with
    | some i =>
      rw [hf] at hs
      simp only
      rw [hD]
      exact hs
    | none =>
      rw [hf] at hs
      simp only [if_neg hne2]
      rw [hD]
      exact hs
end Go.Proofs.YtponbhhkccpbfaaDoor
