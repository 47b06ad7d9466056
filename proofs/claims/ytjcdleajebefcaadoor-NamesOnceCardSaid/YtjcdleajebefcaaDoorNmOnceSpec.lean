/- The law NamesOnce, plain, and its own row. -/
import Derived.Test.YtjcdleajebefcaaDoorNmGet
import Derived.Test.YtjcdleajebefcaaDoorNmFull
import Derived.Laws.AppendOwnNone
namespace Go.Proofs.YtjcdleajebefcaaDoor
open Go.RowKit Go.Lib Go.Shelf
abbrev intsV (l : List Int) : List Value := l.map (Value.int .i64)
/-- The law's row of ints. -/
structure IRow (w wr : World) (G D : Nat → Nat) (v : Value) (l : List Int) : Prop where
  row : Row wr D 1 3 1 v l.length (intsV l)
  sep : ∀ k, D k ≠ 0 → k < wr.heap.size → w.heap.size ≤ k ∧ G k = 0
theorem IRow.nil {w wr : World} {G : Nat → Nat} : IRow w wr G (fun _ => 0) (.slice none 0 0) [] := ⟨Row.nil _ _ _ _ _, fun _ hk _ => absurd rfl hk⟩
theorem IRow.junk {w wr wr' : World} {G D : Nat → Nat} {v : Value} {l : List Int} (h : IRow w wr G D v l) (hw : Below wr.heap.size wr wr') : IRow w wr' G (fun k => if k < wr.heap.size then D k else 0) v l :=
  ⟨h.row.keep (fun k hk _ => hw.block k hk) (fun k hk e => (if_pos hk).trans e), fun k hk _ => by
    by_cases h1 : k < wr.heap.size
    · rw [if_pos h1] at hk; exact h.sep k hk h1
    · rw [if_neg h1] at hk; exact absurd rfl hk⟩
theorem IRow.went {w wr w' : World} {tb : Nat} {G G' D : Nat → Nat} {m' : Tb} {v : Value} {l : List Int} (h : IRow w wr G D v l) (hw : WentT wr w' tb G m') (hg : ∀ k, k < wr.heap.size → (G' k = 0 ↔ G k = 0)) : IRow w w' G' (fun k => if k < wr.heap.size then D k else 0) v l :=
  ⟨h.row.keep (fun k hk e => hw.keeps.block k hk (h.sep k (by omega) hk).2) (fun k hk e => (if_pos hk).trans e), fun k hk _ => by
    by_cases h1 : k < wr.heap.size
    · rw [if_pos h1] at hk
      exact ⟨(h.sep k hk h1).1, (hg k h1).2 (h.sep k hk h1).2⟩
    · rw [if_neg h1] at hk; exact absurd rfl hk⟩
theorem IRow.push {w wr W w' : World} {G D : Nat → Nat} {v v' : Value} {l l' : List Int} (h : IRow w wr G D v l) (hz : w.heap.size ≤ wr.heap.size) (hG : ∀ k, wr.heap.size ≤ k → G k = 0) (hW : Below wr.heap.size wr W)
    (hrow : Row w' (fun k => if k < W.heap.size then D k else 1) 1 3 1 v' l'.length (intsV l')) : IRow w w' G (fun k => if v'.ownBlock = some k then 1 else 0) v' l' := by
  have hzW := hW.size
  refine ⟨own_slim hrow _ (fun k hk => if_pos hk), fun k hk hkz => ?_⟩
  have h2 : v'.ownBlock = some k := Classical.byContradiction fun e => hk (if_neg e)
  by_cases h1 : k < wr.heap.size
  · refine h.sep k ?_ h1
    have := hrow.lab k h2
    rw [if_pos (by omega)] at this
    omega
  · exact ⟨by omega, hG k (by omega)⟩
/-- The table where the row grows. -/
theorem TInv.grown {w wr W w' : World} {tb : Nat} {G : Nat → Nat} {m : Tb} {v : Value} (h : TInv w wr tb G m) (hW : Below wr.heap.size wr W) (hgr : W.grownBy w' v.ownBlock) (hv : ∀ k, v.ownBlock = some k → w.heap.size ≤ k ∧ G k = 0) : TInv w w' tb G m := by
  have hzW := hW.size
  have hz := h.below.size
  have hzg := hgr.size
  have hblk : ∀ k, k < wr.heap.size → v.ownBlock ≠ some k → w'.heap[k]? = wr.heap[k]? := fun k hk n => (hgr.block k (by omega) (fun e => n e.symm)).trans (hW.block k hk)
  refine ⟨⟨hgr.os.trans (hW.os.trans h.below.os), hgr.tape.trans (hW.tape.trans h.below.tape), hgr.output.trans (hW.output.trans h.below.output), by omega, fun k hk => (hblk k (by omega) (fun e => by have := (hv k e).1; omega)).trans (h.below.block k hk)⟩, h.table.keep (fun k hk hz => hblk k hk (fun e => hz (hv k e).2)), h.low⟩
theorem IRow.lab {w wr : World} {G D : Nat → Nat} {v : Value} {l : List Int} (h : IRow w wr G D v l) : ∀ k, v.ownBlock = some k → w.heap.size ≤ k ∧ G k = 0 := fun k hk => h.sep k (by rw [h.row.lab k hk]; decide) (h.row.lt k hk)
theorem news_int (W : World) (n : Int) : ∀ (j : Nat) (x : Value), [Value.int .i64 n][j]? = some x → (W.alloc (.cells #[.int .i64 n] 3)).cell? ((⟨W.heap.size, 0, none⟩ : Addr).add j) = some x := by
  intro j x hj
  match j, hj with
  | 0, hj => simp at hj; subst hj; simp [Addr.add]
  | (j + 1), hj => simp at hj
/-- What was answered for one name. -/
def Seen (m : Tb) (s : ByteArray) (b : Bool) (a : Int) : Prop := ∃ i : Nat, a = i ∧ (∃ y, m.syms[i]? = some y ∧ y.name = s) ∧ (b = true → m.find s = some i) ∧ (b = false → m.find s ≠ some i)
theorem Seen.add {m : Tb} {s : ByteArray} {b : Bool} {a : Int} (h : Seen m s b a) (y' : Sy) : Seen (m.add y') s b a := by
  obtain ⟨i, e, ⟨y, h1, h2⟩, h3, h4⟩ := h
  have hi := (List.getElem?_eq_some_iff.1 h1).1
  refine ⟨i, e, ⟨y, ?_, h2⟩, fun hb => ?_, fun hb => ?_⟩
  · simp only [Tb.add]
    rw [List.getElem?_append_left hi]
    exact h1
  · rw [Tb.find_add, h3 hb]
  · rw [Tb.find_add]
    cases hf : m.find s with
    | some i' => have := h4 hb; rw [hf] at this; exact this
    | none =>
      simp only
      split
      · intro e; injection e with e; omega
      · intro e; cases e
/-- What holds behind k names. -/
structure Once (L : List ByteArray) (B : List Bool) (k : Nat) (m : Tb) (at' : List Int) : Prop where
  len : at'.length = k
  lo : 62 ≤ m.syms.length
  hi : m.syms.length ≤ 62 + k
  each : ∀ (j : Nat) (s : ByteArray) (b : Bool) (a : Int), L[j]? = some s → B[j]? = some b → at'[j]? = some a → validD s.data.toList = true → Seen m s b a
theorem Once.start (L : List ByteArray) (B : List Bool) : Once L B 0 tbN [] := ⟨rfl, by rw [tbN_length]; decide, by rw [tbN_length]; decide, fun j s b a _ _ h => by cases h⟩
theorem Once.bad {L : List ByteArray} {B : List Bool} {k : Nat} {m : Tb} {at' : List Int} (h : Once L B k m at') {s : ByteArray} (hs : L[k]? = some s) (hv : validD s.data.toList = false) (a : Int) : Once L B (k + 1) m (at' ++ [a]) := by
  refine ⟨by simp [h.len], h.lo, by have := h.hi; omega, fun j s' b' a' h1 h2 h3 h4 => ?_⟩
  by_cases hj : j < k
  · rw [List.getElem?_append_left (by rw [h.len]; exact hj)] at h3
    exact h.each j s' b' a' h1 h2 h3 h4
  · have hj2 := (List.getElem?_eq_some_iff.1 h3).1
    simp [h.len] at hj2
    have : j = k := by omega
    subst this
    rw [hs] at h1
    cases h1
    rw [hv] at h4
    cases h4
theorem Once.put {L : List ByteArray} {B : List Bool} {k : Nat} {m m' : Tb} {at' : List Int} (h : Once L B k m at') {s : ByteArray} {b : Bool} {a : Int} (hs : L[k]? = some s) (hb : B[k]? = some b) (hm : (m' = m) ∨ ∃ y, m' = m.add y) (ha : Seen m' s b a) : Once L B (k + 1) m' (at' ++ [a]) := by
  have hlen : m.syms.length ≤ m'.syms.length ∧ m'.syms.length ≤ m.syms.length + 1 := by
    rcases hm with rfl | ⟨y, rfl⟩
    · omega
    · simp [Tb.add]
  refine ⟨by simp [h.len], by have := h.lo; omega, by have := h.hi; omega, fun j s' b' a' h1 h2 h3 h4 => ?_⟩
  by_cases hj : j < k
  · rw [List.getElem?_append_left (by rw [h.len]; exact hj)] at h3
    have := h.each j s' b' a' h1 h2 h3 h4
    rcases hm with rfl | ⟨y, rfl⟩
    · exact this
    · exact this.add y
  · have hj2 := (List.getElem?_eq_some_iff.1 h3).1
    simp [h.len] at hj2
    have : j = k := by omega
    subst this
    rw [hs] at h1
    rw [hb] at h2
    cases h1
    cases h2
    rw [List.getElem?_append_right (by rw [h.len]; omega)] at h3
    simp [h.len] at h3
    subst h3
    exact ha
theorem find_name {m : Tb} {s : ByteArray} {i : Nat} (h : m.find s = some i) : ∃ y, m.syms[i]? = some y ∧ y.name = s := by
  unfold Tb.find at h
  obtain ⟨hi, h1, _⟩ := List.findIdx?_eq_some_iff_getElem.1 h
  refine ⟨m.syms[i], List.getElem?_eq_getElem hi, ?_⟩
  simp only [Bool.and_eq_true, decide_eq_true_eq] at h1
  have h2 := h1.2
  apply ByteArray.ext
  exact Array.toList_inj.1 h2
theorem seen_found {m : Tb} {s : ByteArray} {i : Nat} (h : m.find s = some i) : Seen m s true i := ⟨i, rfl, find_name h, fun _ => h, fun e => by cases e⟩
theorem seen_new {m : Tb} {s : ByteArray} (h : m.find s = none) : Seen (m.add (fy s true)) s true m.syms.length :=
  ⟨m.syms.length, rfl, ⟨fy s true, by simp [Tb.add], rfl⟩, fun _ => by rw [Tb.find_add, h]; simp, fun e => by cases e⟩
theorem seen_fresh (m : Tb) (s : ByteArray) : Seen (m.add (fy s false)) s false m.syms.length := by
  refine ⟨m.syms.length, rfl, ⟨fy s false, by simp [Tb.add], rfl⟩, (fun e => by cases e), (fun _ => ?_)⟩
  rw [Tb.find_add]
  cases hf : m.find s with
  | some i =>
    obtain ⟨y, hy, _⟩ := find_name hf
    have := (List.getElem?_eq_some_iff.1 hy).1
    simp only
    intro e
    injection e with e
    omega
  | none => simp
theorem ck_bad (s : ByteArray) (hv : validD s.data.toList = false) : ckD s = 5 := by
  unfold ckD
  rw [hv]
  rfl
theorem intern_bad (m : Tb) (s : ByteArray) (hv : validD s.data.toList = false) : m.intern s = (0, 5, m) := by
  unfold Tb.intern
  rw [if_pos (by rw [ck_bad s hv]; decide), ck_bad s hv]
theorem fresh_bad (m : Tb) (s : ByteArray) (hv : validD s.data.toList = false) : m.fresh s = (0, 5, m) := by
  unfold Tb.fresh
  rw [if_pos (by rw [ck_bad s hv]; decide), ck_bad s hv]
theorem intern_none (m : Tb) (s : ByteArray) (hck : ckD s = 0) (hf : m.find s = none) (hl : m.syms.length < 16384) : m.intern s = ((m.syms.length : Int), 0, m.add (fy s true)) := by
  unfold Tb.intern
  rw [if_neg (by rw [hck]; decide), hf]
  simp only [if_neg (show ¬ m.syms.length = 16384 by omega)]
theorem fresh_ok (m : Tb) (s : ByteArray) (hck : ckD s = 0) (hl : m.syms.length < 16384) : m.fresh s = ((m.syms.length : Int), 0, m.add (fy s false)) := by
  unfold Tb.fresh
  rw [if_neg (by rw [hck]; decide), if_neg (by omega)]
end Go.Proofs.YtjcdleajebefcaaDoor
