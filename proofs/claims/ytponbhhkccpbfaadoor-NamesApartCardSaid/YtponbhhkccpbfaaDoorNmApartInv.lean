/- The law NamesApart: its plain part; two tables and some blocks. -/
import Derived.Test.YtponbhhkccpbfaaDoorNmCells0
import Derived.Test.YtponbhhkccpbfaaDoorNmSetOld2
import Derived.Test.YtponbhhkccpbfaaDoorNmCopyW
namespace Go.Proofs.YtponbhhkccpbfaaDoor
open Go.RowKit Go.Lib Go.Shelf
/-- Two tables, and blocks of the law's own beside them. -/
structure BTab (w wr : World) (tb : Nat) (G : Nat → Nat) (m : Tb) (tc : Nat) (F : Nat → Nat) (n : Tb) (ks : List (Nat × Obj)) : Prop where
  below : Below w.heap.size w wr
  one : TableAt wr tb G m
  two : TableAt wr tc F n
  low : ∀ k, k < w.heap.size → G k = 0 ∧ F k = 0
  sep : ∀ k, G k ≠ 0 → F k = 0
  has : ∀ p ∈ ks, wr.heap[p.1]? = some p.2 ∧ G p.1 = 0 ∧ F p.1 = 0
theorem KTab.copied {w wr wr' : World} {tb tc : Nat} {G F : Nat → Nat} {m n : Tb} {ks : List (Nat × Obj)} (h : KTab w wr tb G m ks) (hw : Below wr.heap.size wr wr') (h2 : TableAt wr' tc F n) (hF : ∀ k, k < wr.heap.size → F k = 0) : BTab w wr' tb G m tc F n ks := by
  have hs := h.t.below.size
  refine ⟨h.t.below.trans (hw.mono hs), h.t.table.below hw, h2, fun k hk => ⟨h.t.low k hk, hF k (by omega)⟩, fun k hk => ?_, fun p hp => ?_⟩
  · by_cases h1 : k < wr.heap.size
    · exact hF k h1
    · exact absurd (h.t.table.new k (by omega)) hk
  · obtain ⟨h1, h3⟩ := h.has p hp
    exact ⟨(hw.block _ (lt_at h1)).trans h1, h3, hF _ (lt_at h1)⟩
theorem BTab.junk {w wr wr' : World} {tb tc : Nat} {G F : Nat → Nat} {m n : Tb} {ks : List (Nat × Obj)} (h : BTab w wr tb G m tc F n ks) (hw : Below wr.heap.size wr wr') : BTab w wr' tb G m tc F n ks :=
  ⟨h.below.trans (hw.mono h.below.size), h.one.below hw, h.two.below hw, h.low, h.sep, fun p hp => by obtain ⟨h1, h2⟩ := h.has p hp; exact ⟨(hw.block _ (lt_at h1)).trans h1, h2⟩⟩
theorem BTab.add {w wr wr' : World} {tb tc b : Nat} {G F : Nat → Nat} {m n : Tb} {ks : List (Nat × Obj)} {o : Obj} (h : BTab w wr tb G m tc F n ks) (hw : Below wr.heap.size wr wr') (hb1 : wr.heap.size ≤ b) (ho : wr'.heap[b]? = some o) : BTab w wr' tb G m tc F n ((b, o) :: ks) :=
  ⟨h.below.trans (hw.mono h.below.size), h.one.below hw, h.two.below hw, h.low, h.sep, fun p hp => by
    rcases List.mem_cons.1 hp with rfl | hp
    · exact ⟨ho, h.one.new _ hb1, h.two.new _ hb1⟩
    · exact (h.junk hw).has p hp⟩
theorem BTab.went2 {w wr w' : World} {tb tc : Nat} {G F : Nat → Nat} {m n n' : Tb} {ks : List (Nat × Obj)} (h : BTab w wr tb G m tc F n ks) (hw : WentT wr w' tc F n') : ∃ F', BTab w w' tb G m tc F' n' ks := by
  obtain ⟨hk, F', h1, h2⟩ := hw
  have hs := h.below.size
  refine ⟨F', h.below.trans (hk.below hs (fun k hk => (h.low k hk).2)), h.one.keep (fun k hk1 hz => hk.block k hk1 (h.sep k hz)), h1, fun k hk' => ⟨(h.low k hk').1, (h2 k (by omega)).2 (h.low k hk').2⟩, fun k hz => ?_, fun p hp => ?_⟩
  · by_cases h3 : k < wr.heap.size
    · exact (h2 k h3).2 (h.sep k hz)
    · exact absurd (h.one.new k (by omega)) hz
  · obtain ⟨e1, e2, e3⟩ := h.has p hp
    exact ⟨(hk.block _ (lt_at e1) e3).trans e1, e2, (h2 _ (lt_at e1)).2 e3⟩
/-- Interning leaves what is there. -/
theorem intern_pre (m : Tb) (s : ByteArray) (k : Nat) (hk : k < m.syms.length) : (m.intern s).2.2.syms[k]? = m.syms[k]? := by
  unfold Tb.intern
  split
  · rfl
  · split
    · rfl
    · split
      · rfl
      · show (m.syms ++ [fy s true])[k]? = m.syms[k]?
        rw [List.getElem?_append_left hk]
theorem intern_len (m : Tb) (s : ByteArray) : m.syms.length ≤ (m.intern s).2.2.syms.length := by
  unfold Tb.intern
  split
  · exact Nat.le_refl _
  · split
    · exact Nat.le_refl _
    · split
      · exact Nat.le_refl _
      · show m.syms.length ≤ (m.syms ++ [fy s true]).length
        simp
theorem intern_find (m : Tb) (u s : ByteArray) (i : Nat) (h : m.find s = some i) : (m.intern u).2.2.find s = some i := by
  unfold Tb.intern
  split
  · exact h
  · split
    · exact h
    · split
      · exact h
      · show (m.add (fy u true)).find s = some i
        rw [Tb.find_add, h]
theorem intern_ok (m : Tb) (s : ByteArray) (X E : Int) (m' : Tb) (h : m.intern s = (X, E, m')) (hE : E = 0) : ckD s = 0 ∧ ∃ i : Nat, X = (i : Int) ∧ m'.find s = some i := by
  unfold Tb.intern at h
  split at h
  · rename_i hc
    cases h
    exact absurd hE hc
  · rename_i hc
    refine ⟨by simpa using hc, ?_⟩
    split at h
    · rename_i i hf
      cases h
      exact ⟨i, rfl, hf⟩
    · rename_i hf
      split at h
      · cases h
        cases hE
      · cases h
        refine ⟨m.syms.length, rfl, ?_⟩
        rw [Tb.find_add, hf]
        simp
theorem intern_there (m : Tb) (s : ByteArray) (i : Nat) (hc : ckD s = 0) (h : m.find s = some i) : m.intern s = ((i : Int), 0, m) := by
  unfold Tb.intern
  rw [if_neg (by simp [hc]), h]
theorem find_lt (m : Tb) (s : ByteArray) (i : Nat) (h : m.find s = some i) : i < m.syms.length := by
  unfold Tb.find at h
  exact (List.findIdx?_eq_some_iff_getElem.1 h).1
theorem found_same (m : Tb) (u : ByteArray) (Y F M : Int) (n : Tb) (hi : m.intern u = (Y, F, n)) (hf : m.found u = (M, true)) (hF : F = 0) : M = Y ∧ Y < (m.syms.length : Int) := by
  have hc : ckD u = 0 := (intern_ok m u Y F n hi hF).1
  unfold Tb.found at hf
  cases h : m.find u with
  | none => rw [h] at hf; cases hf
  | some i =>
    rw [h] at hf
    cases hf
    rw [intern_there m u i hc h] at hi
    cases hi
    have := find_lt m u i h
    exact ⟨rfl, by omega⟩
def Few (m : Tb) : Prop := ∀ y ∈ m.syms, y.ps.length ≤ 1
theorem few_tbN : Few tbN := by
  intro y hy
  unfold tbN at hy
  rw [addAll_syms] at hy
  obtain ⟨s, _, rfl⟩ := List.mem_map.1 (by simpa [tb0] using hy)
  show (0 : Nat) ≤ 1
  decide
theorem Few.intern {m : Tb} (h : Few m) (s : ByteArray) : Few (m.intern s).2.2 := by
  unfold Tb.intern
  split
  · exact h
  · split
    · exact h
    · split
      · exact h
      · intro y hy
        rcases List.mem_append.1 (show y ∈ m.syms ++ [fy s true] from hy) with hy | hy
        · exact h y hy
        · rw [List.mem_singleton.1 hy]; exact Nat.zero_le _
theorem Few.setSy {m : Tb} (h : Few m) (i : Nat) (y : Sy) (hy : y.ps.length ≤ 1) : Few (m.setSy i y) := by
  intro z hz
  rcases List.mem_or_eq_of_mem_set hz with hz | rfl
  · exact h z hz
  · exact hy
structure ASpec (s u : ByteArray) (k : Nat) (v x : Wd) (nm : ByteArray) (X E Y F Z I M : Int) (fd : Bool) (m1 m2 m3 n1 n2 n3 n4 : Tb) : Prop where
  i1 : tbN.intern s = (X, E, m1)
  a0 : m1.syms[k]? = some ⟨(0, 0), false, [], nm, true⟩
  e1 : m1.setSy k ⟨v, true, [], nm, true⟩ = m2
  a1 : m2.syms[k]? = some ⟨v, true, [], nm, true⟩
  l2 : 5 < m2.syms.length
  e2 : m2.setSy k ⟨v, true, [((5 : Nat), v)], nm, true⟩ = m3
  a2 : m3.syms[k]? = some ⟨v, true, [((5 : Nat), v)], nm, true⟩
  l3 : 0 < m3.syms.length
  few : ∀ y ∈ m3.syms, y.ps.length ≤ 20000
  i2 : m3.intern u = (Y, F, n1)
  a3 : n1.syms[k]? = some ⟨v, true, [((5 : Nat), v)], nm, true⟩
  e3 : n1.setSy k ⟨x, true, [((5 : Nat), v)], nm, true⟩ = n2
  a4 : n2.syms[k]? = some ⟨x, true, [((5 : Nat), v)], nm, true⟩
  l4 : 5 < n2.syms.length
  e4 : n2.setSy k ⟨x, true, [((5 : Nat), x)], nm, true⟩ = n3
  a5 : n3.syms[k]? = some ⟨x, true, [((5 : Nat), x)], nm, true⟩
  l5 : 0 < n3.syms.length
  i3 : n3.intern s = (Z, I, n4)
  f3 : m3.found u = (M, fd)
  one : E = 0 → I = 0 ∧ Z = X
  two : fd = true → F = 0 → M = Y ∧ Y < (m3.syms.length : Int)
theorem apart_spec (s u : ByteArray) (k : Nat) (v x : Wd) (hk : k < 62) : ∃ (nm : ByteArray) (X E Y F Z I M : Int) (fd : Bool) (m1 m2 m3 n1 n2 n3 n4 : Tb), ASpec s u k v x nm X E Y F Z I M fd m1 m2 m3 n1 n2 n3 n4 := by
  obtain ⟨nm, hnm⟩ := tbN_sym k hk
  obtain ⟨m1, hm1⟩ : ∃ m1, (tbN.intern s).2.2 = m1 := ⟨_, rfl⟩
  have h1 := intern_pre tbN s k (by rw [tbN_length]; exact hk)
  have g1 := intern_len tbN s
  have w1 := few_tbN.intern s
  rw [hm1] at h1 g1 w1
  rw [tbN_length] at g1
  have a0 : m1.syms[k]? = some ⟨(0, 0), false, [], nm, true⟩ := h1.trans hnm
  obtain ⟨m2, hm2⟩ : ∃ m2, m1.setSy k ⟨v, true, [], nm, true⟩ = m2 := ⟨_, rfl⟩
  have g2 : m2.syms.length = m1.syms.length := by rw [← hm2, Tb.setSy_length]
  have a1 : m2.syms[k]? = some ⟨v, true, [], nm, true⟩ := by rw [← hm2, Tb.setSy_at _ _ _ (by omega), if_pos rfl]
  have w2 : Few m2 := hm2 ▸ w1.setSy k _ (Nat.zero_le _)
  obtain ⟨m3, hm3⟩ : ∃ m3, m2.setSy k ⟨v, true, [((5 : Nat), v)], nm, true⟩ = m3 := ⟨_, rfl⟩
  have g3 : m3.syms.length = m2.syms.length := by rw [← hm3, Tb.setSy_length]
  have a2 : m3.syms[k]? = some ⟨v, true, [((5 : Nat), v)], nm, true⟩ := by rw [← hm3, Tb.setSy_at _ _ _ (by omega), if_pos rfl]
  have w3 : Few m3 := hm3 ▸ w2.setSy k _ (by simp)
  obtain ⟨n1, hn1⟩ : ∃ n1, (m3.intern u).2.2 = n1 := ⟨_, rfl⟩
  have h4 := intern_pre m3 u k (by omega)
  have g4 := intern_len m3 u
  rw [hn1] at h4 g4
  have a3 := h4.trans a2
  obtain ⟨n2, hn2⟩ : ∃ n2, n1.setSy k ⟨x, true, [((5 : Nat), v)], nm, true⟩ = n2 := ⟨_, rfl⟩
  have g5 : n2.syms.length = n1.syms.length := by rw [← hn2, Tb.setSy_length]
  have a4 : n2.syms[k]? = some ⟨x, true, [((5 : Nat), v)], nm, true⟩ := by rw [← hn2, Tb.setSy_at _ _ _ (by omega), if_pos rfl]
  obtain ⟨n3, hn3⟩ : ∃ n3, n2.setSy k ⟨x, true, [((5 : Nat), x)], nm, true⟩ = n3 := ⟨_, rfl⟩
  have g6 : n3.syms.length = n2.syms.length := by rw [← hn3, Tb.setSy_length]
  have a5 : n3.syms[k]? = some ⟨x, true, [((5 : Nat), x)], nm, true⟩ := by rw [← hn3, Tb.setSy_at _ _ _ (by omega), if_pos rfl]
  refine ⟨nm, (tbN.intern s).1, (tbN.intern s).2.1, (m3.intern u).1, (m3.intern u).2.1, (n3.intern s).1, (n3.intern s).2.1, (m3.found u).1, (m3.found u).2, m1, m2, m3, n1, n2, n3, (n3.intern s).2.2,
    by rw [← hm1], a0, hm2, a1, by omega, hm3, a2, by omega, fun y hy => by have := w3 y hy; omega, by rw [← hn1], a3, hn2, a4, by omega, hn3, a5, by omega, rfl, rfl, fun hE => ?_, fun hf hF => ?_⟩
  · obtain ⟨hc, i, hX, hf⟩ := intern_ok tbN s (tbN.intern s).1 (tbN.intern s).2.1 m1 (by rw [← hm1]) hE
    have f2 : m2.find s = some i := by rw [← hm2]; exact (Tb.find_setSy m1 k ⟨v, true, [], nm, true⟩ _ a0 rfl rfl s).trans hf
    have f3 : m3.find s = some i := by rw [← hm3]; exact (Tb.find_setSy m2 k ⟨v, true, [((5 : Nat), v)], nm, true⟩ _ a1 rfl rfl s).trans f2
    have f4 : n1.find s = some i := by rw [← hn1]; exact intern_find m3 u s i f3
    have f5 : n2.find s = some i := by rw [← hn2]; exact (Tb.find_setSy n1 k ⟨x, true, [((5 : Nat), v)], nm, true⟩ _ a3 rfl rfl s).trans f4
    have f6 : n3.find s = some i := by rw [← hn3]; exact (Tb.find_setSy n2 k ⟨x, true, [((5 : Nat), x)], nm, true⟩ _ a4 rfl rfl s).trans f5
    rw [intern_there n3 s i hc f6]
    exact ⟨rfl, hX.symm⟩
  · exact found_same m3 u _ _ _ n1 (by rw [← hn1]) (by rw [← hf]) hF
end Go.Proofs.YtponbhhkccpbfaaDoor
