/- The law HeapApart: what holds of its memory: one heap and some blocks, or two heaps and some blocks. -/
import Derived.Test.YtleppjdmcjocmaaDoorHpCopyAny
import Derived.Test.YtleppjdmcjocmaaDoorHpSame
import Derived.Test.YtleppjdmcjocmaaDoorHpHolds2
import Derived.Test.YtleppjdmcjocmaaDoorHpColSpec
import Derived.Test.YtleppjdmcjocmaaDoorHpOwn
namespace Go.Proofs.YtleppjdmcjocmaaDoor
open Go.RowKit Go.Lib
/-- One heap; blocks whose content is known, outside it and new since w. -/
structure AInv (w wr : World) (hb : Nat) (G : Nat → Nat) (m : Hp) (ks : List (Nat × Obj)) : Prop where
  below : Below w.heap.size w wr
  heap : HeapAt wr hb G m
  low : ∀ k, k < w.heap.size → G k = 0
  has : ∀ p ∈ ks, wr.heap[p.1]? = some p.2 ∧ G p.1 = 0 ∧ w.heap.size ≤ p.1
theorem AInv.add {w wr wr' : World} {hb b : Nat} {G : Nat → Nat} {m : Hp} {ks : List (Nat × Obj)} {o : Obj} (h : AInv w wr hb G m ks) (hw : Below wr.heap.size wr wr') (hb1 : wr.heap.size ≤ b) (ho : wr'.heap[b]? = some o) : AInv w wr' hb G m ((b, o) :: ks) :=
  ⟨h.below.trans (hw.mono h.below.size), h.heap.below hw, h.low, fun p hp => by
    rcases List.mem_cons.1 hp with rfl | hp
    · exact ⟨ho, h.heap.new _ hb1, Nat.le_trans h.below.size hb1⟩
    · obtain ⟨h1, h2, h3⟩ := h.has p hp
      exact ⟨(hw.block _ (lt_at h1)).trans h1, h2, h3⟩⟩
theorem AInv.junk {w wr wr' : World} {hb : Nat} {G : Nat → Nat} {m : Hp} {ks : List (Nat × Obj)} (h : AInv w wr hb G m ks) (hw : Below wr.heap.size wr wr') : AInv w wr' hb G m ks :=
  ⟨h.below.trans (hw.mono h.below.size), h.heap.below hw, h.low, fun p hp => by
    obtain ⟨h1, h2, h3⟩ := h.has p hp
    exact ⟨(hw.block _ (lt_at h1)).trans h1, h2, h3⟩⟩
theorem AInv.alloc {w wr : World} {hb : Nat} {G : Nat → Nat} {m : Hp} {ks : List (Nat × Obj)} (h : AInv w wr hb G m ks) (o : Obj) : AInv w (wr.alloc o) hb G m ((wr.heap.size, o) :: ks) :=
  h.add ((Below.refl _ _).alloc (Nat.le_refl _) o) (Nat.le_refl _) (alloc_at wr o)
theorem AInv.went {w wr w' : World} {hb : Nat} {G : Nat → Nat} {m m' : Hp} {ks : List (Nat × Obj)} (h : AInv w wr hb G m ks) (hw : Went wr w' hb G m') : ∃ G', AInv w w' hb G' m' ks := by
  obtain ⟨hk, G', h1, h2⟩ := hw
  refine ⟨G', h.below.trans (hk.below h.below.size h.low), h1, fun k hk' => (h2 k (Nat.lt_of_lt_of_le hk' h.below.size)).2 (h.low k hk'), fun p hp => ?_⟩
  obtain ⟨e1, e2, e3⟩ := h.has p hp
  exact ⟨(hk.block _ (lt_at e1) e2).trans e1, (h2 _ (lt_at e1)).2 e2, e3⟩
theorem AInv.poke {w wr : World} {hb b : Nat} {G : Nat → Nat} {m : Hp} {ks ks' : List (Nat × Obj)} (h : AInv w wr hb G m ks) (hb1 : G b = 0 ∧ w.heap.size ≤ b) (hs : ∀ p ∈ ks', p ∈ ks ∧ p.1 ≠ b) (i : Nat) (u : Value) : AInv w (wr.setCell ⟨b, i, none⟩ u) hb G m ks' := by
  obtain ⟨e2, e3⟩ := hb1
  refine ⟨h.below.setCell (p := ⟨b, i, none⟩) e3 u, h.heap.keep (fun k _ hz => setCell_off _ (fun e => hz (by rw [show k = b from e]; exact e2))), h.low, fun p hp => ?_⟩
  obtain ⟨s1, s2⟩ := hs p hp
  obtain ⟨f1, f2, f3⟩ := h.has p s1
  exact ⟨(setCell_off _ s2).trans f1, f2, f3⟩
/-- Two heaps. -/
structure BInv (w wr : World) (hb : Nat) (G : Nat → Nat) (m : Hp) (hc : Nat) (F : Nat → Nat) (n : Hp) (ks : List (Nat × Obj)) : Prop where
  below : Below w.heap.size w wr
  heap : HeapAt wr hb G m
  heap2 : HeapAt wr hc F n
  low : ∀ k, k < w.heap.size → G k = 0 ∧ F k = 0
  sep : ∀ k, G k ≠ 0 → F k = 0
  has : ∀ p ∈ ks, wr.heap[p.1]? = some p.2 ∧ G p.1 = 0 ∧ F p.1 = 0 ∧ w.heap.size ≤ p.1
theorem AInv.copy {w wr wr' : World} {hb hc : Nat} {G F : Nat → Nat} {m n : Hp} {ks : List (Nat × Obj)} (h : AInv w wr hb G m ks) (hw : Below wr.heap.size wr wr') (h2 : HeapAt wr' hc F n) (hF : ∀ k, k < wr.heap.size → F k = 0) : BInv w wr' hb G m hc F n ks :=
  ⟨h.below.trans (hw.mono h.below.size), h.heap.below hw, h2, fun k hk => ⟨h.low k hk, hF k (Nat.lt_of_lt_of_le hk h.below.size)⟩, fun k hk => by
    by_cases h1 : k < wr.heap.size
    · exact hF k h1
    · exact absurd (h.heap.new k (by omega)) hk, fun p hp => by
    obtain ⟨h1, h2, h3⟩ := h.has p hp
    exact ⟨(hw.block _ (lt_at h1)).trans h1, h2, hF _ (lt_at h1), h3⟩⟩
theorem BInv.add {w wr wr' : World} {hb hc b : Nat} {G F : Nat → Nat} {m n : Hp} {ks : List (Nat × Obj)} {o : Obj} (h : BInv w wr hb G m hc F n ks) (hw : Below wr.heap.size wr wr') (hb1 : wr.heap.size ≤ b) (ho : wr'.heap[b]? = some o) : BInv w wr' hb G m hc F n ((b, o) :: ks) :=
  ⟨h.below.trans (hw.mono h.below.size), h.heap.below hw, h.heap2.below hw, h.low, h.sep, fun p hp => by
    rcases List.mem_cons.1 hp with rfl | hp
    · exact ⟨ho, h.heap.new _ hb1, h.heap2.new _ hb1, Nat.le_trans h.below.size hb1⟩
    · obtain ⟨h1, h2, h3⟩ := h.has p hp
      exact ⟨(hw.block _ (lt_at h1)).trans h1, h2, h3⟩⟩
theorem BInv.junk {w wr wr' : World} {hb hc : Nat} {G F : Nat → Nat} {m n : Hp} {ks : List (Nat × Obj)} (h : BInv w wr hb G m hc F n ks) (hw : Below wr.heap.size wr wr') : BInv w wr' hb G m hc F n ks :=
  ⟨h.below.trans (hw.mono h.below.size), h.heap.below hw, h.heap2.below hw, h.low, h.sep, fun p hp => by
    obtain ⟨h1, h2, h3⟩ := h.has p hp
    exact ⟨(hw.block _ (lt_at h1)).trans h1, h2, h3⟩⟩
theorem BInv.alloc {w wr : World} {hb hc : Nat} {G F : Nat → Nat} {m n : Hp} {ks : List (Nat × Obj)} (h : BInv w wr hb G m hc F n ks) (o : Obj) : BInv w (wr.alloc o) hb G m hc F n ((wr.heap.size, o) :: ks) :=
  h.add ((Below.refl _ _).alloc (Nat.le_refl _) o) (Nat.le_refl _) (alloc_at wr o)
theorem BInv.went2 {w wr w' : World} {hb hc : Nat} {G F : Nat → Nat} {m n n' : Hp} {ks : List (Nat × Obj)} (h : BInv w wr hb G m hc F n ks) (hw : Went wr w' hc F n') : ∃ F', BInv w w' hb G m hc F' n' ks := by
  obtain ⟨hk, F', h1, h2⟩ := hw
  refine ⟨F', h.below.trans (hk.below h.below.size (fun k hk => (h.low k hk).2)), h.heap.keep (fun k hk1 hz => hk.block k hk1 (h.sep k hz)), h1, fun k hk' => ⟨(h.low k hk').1, (h2 k (Nat.lt_of_lt_of_le hk' h.below.size)).2 (h.low k hk').2⟩, fun k hz => ?_, fun p hp => ?_⟩
  · by_cases h3 : k < wr.heap.size
    · exact (h2 k h3).2 (h.sep k hz)
    · exact absurd (h.heap.new k (by omega)) hz
  · obtain ⟨e1, e2, e3, e4⟩ := h.has p hp
    exact ⟨(hk.block _ (lt_at e1) e3).trans e1, e2, (h2 _ (lt_at e1)).2 e3, e4⟩
theorem BInv.poke {w wr : World} {hb hc b : Nat} {G F : Nat → Nat} {m n : Hp} {ks ks' : List (Nat × Obj)} (h : BInv w wr hb G m hc F n ks) (hb1 : G b = 0 ∧ F b = 0 ∧ w.heap.size ≤ b) (hs : ∀ p ∈ ks', p ∈ ks ∧ p.1 ≠ b) (i : Nat) (u : Value) : BInv w (wr.setCell ⟨b, i, none⟩ u) hb G m hc F n ks' := by
  obtain ⟨e1, e2, e3⟩ := hb1
  refine ⟨h.below.setCell (p := ⟨b, i, none⟩) e3 u, h.heap.keep (fun k _ hz => setCell_off _ (fun e => hz (by rw [show k = b from e]; exact e1))), h.heap2.keep (fun k _ hz => setCell_off _ (fun e => hz (by rw [show k = b from e]; exact e2))), h.low, h.sep, fun p hp => ?_⟩
  obtain ⟨s1, s2⟩ := hs p hp
  obtain ⟨f1, f2, f3⟩ := h.has p s1
  exact ⟨(setCell_off _ s2).trans f1, f2, f3⟩
/-- The heap of the law: a vector and code. -/
def am (L : List Wd) : Hp := ⟨9, [some (.vec L), some (.code 0 0 0 [1, 2] L)], []⟩
theorem am_adds1 {hb : Nat} {G : Nat → Nat} (L : List Wd) (h : L.length ≤ 60) : AddsTo hb G (Hp.empty 9) ⟨9, [some (.vec L)], []⟩ (.vec L) (4, 0) 0 :=
  adds_new (m := Hp.empty 9) (o := .vec L) rfl (by decide) (by simp [Hp.empty, total, Ob.size]; omega)
theorem am_adds2 {hb : Nat} {G : Nat → Nat} (L : List Wd) (h : L.length ≤ 60) : AddsTo hb G ⟨9, [some (.vec L)], []⟩ (am L) (.code 0 0 0 [1, 2] L) (6, 1) 0 :=
  adds_new (m := ⟨9, [some (.vec L)], []⟩) (o := .code 0 0 0 [1, 2] L) rfl (by show 1 < 9; decide) (by simp [total, osize, Ob.size]; omega)
theorem am_vec (L : List Wd) : (am L).find (4, 0) = some (.vec L) := find_at0 (am L) 0 (.vec L) rfl
theorem am_code (L : List Wd) : (am L).find (6, 1) = some (.code 0 0 0 [1, 2] L) := find_at0 (am L) 1 (.code 0 0 0 [1, 2] L) rfl
theorem am_total (L : List Wd) (h : L.length ≤ 60) : total (am L).obs ≤ 65536 := by simp [am, total, osize, Ob.size]; omega
theorem am_set (L : List Wd) (k : Nat) (x : Wd) : ((am L).set 0 (.vec (L.set k x))) = ⟨9, [some (.vec (L.set k x)), some (.code 0 0 0 [1, 2] L)], []⟩ := rfl
theorem an_vec (L M : List Wd) : (⟨9, [some (.vec M), some (.code 0 0 0 [1, 2] L)], []⟩ : Hp).find (4, 0) = some (.vec M) := find_at0 _ 0 (.vec M) rfl
theorem reach_nil (m : Hp) (j : Nat) : ¬ m.Reach [] j := by
  intro h
  induction h with
  | root x o h1 h2 => cases h1
  | step i o x o' _ h2 h3 h4 ih => exact ih
/-- What a collection without roots leaves of two objects. -/
theorem sweep_two (p q : Ob) (b : List Bool) (hb : ∀ j : Nat, b[j]? = some true ↔ (⟨9, [some p, some q], []⟩ : Hp).Reach [] j) :
    (((⟨9, [some p, some q], []⟩ : Hp).sweep b 2).obs.length : Int) - ((⟨9, [some p, some q], []⟩ : Hp).sweep b 2).free.length = 0 ∧ ((⟨9, [some p, some q], []⟩ : Hp).sweep b 2).lim = 9 := by
  have h0 : ¬ b[0]? = some true := fun h => reach_nil _ _ ((hb 0).1 h)
  have h1 : ¬ b[1]? = some true := fun h => reach_nil _ _ ((hb 1).1 h)
  have g0 : (⟨9, [some p, some q], []⟩ : Hp).gone b 0 = true := by simpa [Hp.gone] using h0
  have g1 : (⟨9, [some p, some q], []⟩ : Hp).gone b 1 = true := by simpa [Hp.gone] using h1
  refine ⟨?_, by simp [Hp.sweep, g0, g1, Hp.drop]⟩
  rw [Hp.sweep_length, sweep_free]
  simp [Hp.many, g0, g1]
/-- A row that is not empty lies in a block. -/
theorem own_some {w : World} {B e size n : Nat} {v : Value} {xs : List Value} (h : w.ownsRow B e size v n xs) (hn : 0 < n) : ∃ g cap cur, v = .slice (some ⟨g, 0, none⟩) n cap ∧ B ≤ g ∧ w.heap[g]? = some (.cells cur e (0, 0)) ∧ n ≤ cap ∧ cap ≤ maxLen ∧ cur.size = cap * size ∧ cur.toList.take (n * size) = xs := by
  rcases h.2 with ⟨_, e2⟩ | h
  · omega
  · exact h
theorem own_cell {n size j : Nat} {cur : Array Value} {xs : List Value} {u : Value} (h : cur.toList.take (n * size) = xs) (hj : xs[j]? = some u) : cur[j]? = some u := by
  rw [← h] at hj
  by_cases hl : j < n * size
  · rw [List.getElem?_take_of_lt hl] at hj; simpa using hj
  · rw [List.getElem?_take_eq_none (by omega)] at hj; cases hj
theorem SlW.of_cells {w : World} {b o c : Nat} {L : List Wd} (h : ∀ j a, L[j]? = some a → w.cell? ⟨b, o + j * 2, none⟩ = some (.int .i64 a.1) ∧ w.cell? ⟨b, o + j * 2 + 1, none⟩ = some (.int .i64 a.2)) : SlW w (.slice (some ⟨b, o, none⟩) L.length c) L :=
  ⟨_, c, rfl, fun i x hx => ⟨b, o, rfl, (h i x hx).1, (h i x hx).2⟩⟩
theorem same_true {w : World} {va vb : Value} {L : List Wd} (ha : SlW w va L) (hb : SlW w vb L) (hn : L.length ≤ 60) :
    Calls Tryd.prog 34 #[va, vb] w fun e w' => e = .returned (.bool true) ∧ Below w.heap.size w w' := by
  have h := same_word ha hb (by omega)
  simpa using h
theorem mem3 {α : Type} {P : α → Prop} {a b c : α} (ha : P a) (hb : P b) (hc : P c) : ∀ p ∈ [a, b, c], P p := by
  intro p hp
  simp only [List.mem_cons, List.not_mem_nil, or_false] at hp
  rcases hp with rfl | rfl | rfl
  · exact ha
  · exact hb
  · exact hc
theorem SlW.of_block {w : World} {g cap : Nat} {cur : Array Value} {L : List Wd} (h : w.heap[g]? = some (.cells cur 28 (0, 0))) (h2 : cur.toList.take (L.length * 2) = wcells L) : SlW w (.slice (some ⟨g, 0, none⟩) L.length cap) L :=
  SlW.of_cells (o := 0) fun j a hj => ⟨(cell_at h).trans (own_cell h2 (by rw [show 0 + j * 2 = j * 2 by omega]; exact wcells_fst L j a hj)), (cell_at h).trans (own_cell h2 (by rw [show 0 + j * 2 + 1 = j * 2 + 1 by omega]; exact wcells_snd L j a hj))⟩
theorem BInv.adds {w wr wr' : World} {hb hc : Nat} {G F : Nat → Nat} {m n : Hp} {ks ns : List (Nat × Obj)} (h : BInv w wr hb G m hc F n ks) (hw : Below wr.heap.size wr wr') (hn : ∀ p ∈ ns, wr.heap.size ≤ p.1 ∧ wr'.heap[p.1]? = some p.2) : BInv w wr' hb G m hc F n (ns ++ ks) :=
  ⟨h.below.trans (hw.mono h.below.size), h.heap.below hw, h.heap2.below hw, h.low, h.sep, fun p hp => by
    rcases List.mem_append.1 hp with hp | hp
    · obtain ⟨h1, h2⟩ := hn p hp
      exact ⟨h2, h.heap.new _ h1, h.heap2.new _ h1, Nat.le_trans h.below.size h1⟩
    · obtain ⟨h1, h2, h3⟩ := h.has p hp
      exact ⟨(hw.block _ (lt_at h1)).trans h1, h2, h3⟩⟩
theorem BInv.put {w wr : World} {hb hc b : Nat} {G F : Nat → Nat} {m n : Hp} {ks : List (Nat × Obj)} {o : Obj} (h : BInv w wr hb G m hc F n ks) (hb1 : G b = 0 ∧ F b = 0 ∧ w.heap.size ≤ b) (ho : wr.heap[b]? = some o) : BInv w wr hb G m hc F n ((b, o) :: ks) :=
  ⟨h.below, h.heap, h.heap2, h.low, h.sep, fun p hp => by
    rcases List.mem_cons.1 hp with rfl | hp
    · exact ⟨ho, hb1⟩
    · exact h.has p hp⟩
/-- Four blocks behind a world. -/
structure KInv (w wr : World) (a b c d : Nat) (oa ob oc od : Obj) : Prop where
  below : Below w.heap.size w wr
  ka : wr.heap[a]? = some oa
  kb : wr.heap[b]? = some ob
  kc : wr.heap[c]? = some oc
  kd : wr.heap[d]? = some od
theorem KInv.junk {w wr wr' : World} {a b c d : Nat} {oa ob oc od : Obj} (h : KInv w wr a b c d oa ob oc od) (hw : Below wr.heap.size wr wr') : KInv w wr' a b c d oa ob oc od :=
  ⟨h.below.trans (hw.mono h.below.size), (hw.block _ (lt_at h.ka)).trans h.ka, (hw.block _ (lt_at h.kb)).trans h.kb, (hw.block _ (lt_at h.kc)).trans h.kc, (hw.block _ (lt_at h.kd)).trans h.kd⟩
theorem far1 {w : World} {g i b o : Nat} {u x : Value} (h : w.cell? ⟨b, o, none⟩ = some x) (n : g ≠ b) : (w.setCell ⟨g, i, none⟩ u).cell? ⟨b, o, none⟩ = some x := (World.cell?_setCell_far w _ _ u n).trans h
theorem far2 {w : World} {g i j b o : Nat} {u v x : Value} (h : w.cell? ⟨b, o, none⟩ = some x) (n : g ≠ b) : ((w.setCell ⟨g, i, none⟩ u).setCell ⟨g, j, none⟩ v).cell? ⟨b, o, none⟩ = some x := far1 (far1 h n) n
/-- Five cells of one block written. -/
theorem five_at {w : World} {b : Nat} {a0 a1 a2 a3 a4 : Value} {T : TypeId} (h : w.heap[b]? = some (.cells #[a0, a1, a2, a3, a4] T (0, 0))) (v0 v1 v2 v3 v4 : Value) :
    (((((w.setCell ⟨b, 0, none⟩ v0).setCell ⟨b, 1, none⟩ v1).setCell ⟨b, 2, none⟩ v2).setCell ⟨b, 3, none⟩ v3).setCell ⟨b, 4, none⟩ v4).heap[b]? = some (.cells #[v0, v1, v2, v3, v4] T (0, 0)) := by
  have := setCell_at (i := 4) (setCell_at (i := 3) (setCell_at (i := 2) (setCell_at (i := 1) (setCell_at (i := 0) h v0) v1) v2) v3) v4
  simpa using this
theorem BInv.poke5 {w wr : World} {hb hc b : Nat} {G F : Nat → Nat} {m n : Hp} {ks ks' : List (Nat × Obj)} {a0 a1 a2 a3 a4 : Value} {T : TypeId} (h : BInv w wr hb G m hc F n ks) (hm : (b, Obj.cells #[a0, a1, a2, a3, a4] T (0, 0)) ∈ ks) (hs : ∀ p ∈ ks', p ∈ ks ∧ p.1 ≠ b) (v0 v1 v2 v3 v4 : Value) :
    BInv w (((((wr.setCell ⟨b, 0, none⟩ v0).setCell ⟨b, 1, none⟩ v1).setCell ⟨b, 2, none⟩ v2).setCell ⟨b, 3, none⟩ v3).setCell ⟨b, 4, none⟩ v4) hb G m hc F n ((b, Obj.cells #[v0, v1, v2, v3, v4] T (0, 0)) :: ks') := by
  obtain ⟨h1, h2⟩ := h.has _ hm
  have hs2 : ∀ p ∈ ks', p ∈ ks' ∧ p.1 ≠ b := fun p hp => ⟨hp, (hs p hp).2⟩
  exact (((((h.poke h2 hs 0 v0).poke h2 hs2 1 v1).poke h2 hs2 2 v2).poke h2 hs2 3 v3).poke h2 hs2 4 v4).put h2 (five_at h1 v0 v1 v2 v3 v4)
end Go.Proofs.YtleppjdmcjocmaaDoor
