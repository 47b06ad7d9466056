/- The walk of the law HeapNames, and what it needs: long texts, a heap that is full of them, the small heap of the examples. Condition: unicode/utf8's two tables hold what the program's text lays. -/
import Derived.Test.YtleppjdmcjocmaaDoorHpCopyAny
import Derived.Test.YtleppjdmcjocmaaDoorHpHolds2
import Derived.Test.YtleppjdmcjocmaaDoorHpColSpec
import Derived.Test.YtleppjdmcjocmaaDoorHpCollect
import Derived.Test.YtleppjdmcjocmaaDoorHpAddOld
import Derived.Test.YtleppjdmcjocmaaDoorHpLives
import Derived.Lib.TrimAscii
import Derived.Deep.LoopGhost
import Derived.Deep.DeepCutAuto
import Derived.Deep.RegionHeld3
namespace Go.Proofs.YtleppjdmcjocmaaDoor
open Go.RowKit Go.Lib
/-- One heap; blocks whose content is known, outside it and new since w. -/
structure AInv (w wr : World) (hb : Nat) (G : Nat → Nat) (m : Hp) (ks : List (Nat × Obj)) : Prop where
  below : Below w.heap.size w wr
  heap : HeapAt wr hb G m
  low : ∀ k, k < w.heap.size → G k = 0
  has : ∀ p ∈ ks, wr.heap[p.1]? = some p.2 ∧ G p.1 = 0 ∧ w.heap.size ≤ p.1
theorem AInv.add {w wr wr' : World} {hb b : Nat} {G : Nat → Nat} {m : Hp} {ks : List (Nat × Obj)} {o : Obj} (h : AInv w wr hb G m ks) (hw : Below wr.heap.size wr wr') (hb1 : wr.heap.size ≤ b) (ho : wr'.heap[b]? = some o) : AInv w wr' hb G m ((b, o) :: ks) :=
  ⟨h.below.trans (hw.mono h.below.size), h.heap.below hw, h.low, fun p hp => by
    rcases List.mem_cons.1 hp with rfl | hp
    · exact ⟨ho, h.heap.new _ hb1, Nat.le_trans h.below.size hb1⟩
    · obtain ⟨h1, h2, h3⟩ := h.has p hp
      exact ⟨(hw.block _ (lt_at h1)).trans h1, h2, h3⟩⟩
theorem AInv.junk {w wr wr' : World} {hb : Nat} {G : Nat → Nat} {m : Hp} {ks : List (Nat × Obj)} (h : AInv w wr hb G m ks) (hw : Below wr.heap.size wr wr') : AInv w wr' hb G m ks :=
  ⟨h.below.trans (hw.mono h.below.size), h.heap.below hw, h.low, fun p hp => by
    obtain ⟨h1, h2, h3⟩ := h.has p hp
    exact ⟨(hw.block _ (lt_at h1)).trans h1, h2, h3⟩⟩
theorem AInv.alloc {w wr : World} {hb : Nat} {G : Nat → Nat} {m : Hp} {ks : List (Nat × Obj)} (h : AInv w wr hb G m ks) (o : Obj) : AInv w (wr.alloc o) hb G m ((wr.heap.size, o) :: ks) :=
  h.add ((Below.refl _ _).alloc (Nat.le_refl _) o) (Nat.le_refl _) (alloc_at wr o)
theorem AInv.went {w wr w' : World} {hb : Nat} {G : Nat → Nat} {m m' : Hp} {ks : List (Nat × Obj)} (h : AInv w wr hb G m ks) (hw : Went wr w' hb G m') : ∃ G', AInv w w' hb G' m' ks := by
  obtain ⟨hk, G', h1, h2⟩ := hw
  refine ⟨G', h.below.trans (hk.below h.below.size h.low), h1, fun k hk' => (h2 k (Nat.lt_of_lt_of_le hk' h.below.size)).2 (h.low k hk'), fun p hp => ?_⟩
  obtain ⟨e1, e2, e3⟩ := h.has p hp
  exact ⟨(hk.block _ (lt_at e1) e2).trans e1, (h2 _ (lt_at e1)).2 e2, e3⟩
theorem AInv.poke {w wr : World} {hb b : Nat} {G : Nat → Nat} {m : Hp} {ks ks' : List (Nat × Obj)} (h : AInv w wr hb G m ks) (hb1 : G b = 0 ∧ w.heap.size ≤ b) (hs : ∀ p ∈ ks', p ∈ ks ∧ p.1 ≠ b) (i : Nat) (u : Value) : AInv w (wr.setCell ⟨b, i, none⟩ u) hb G m ks' := by
  obtain ⟨e2, e3⟩ := hb1
  refine ⟨h.below.setCell (p := ⟨b, i, none⟩) e3 u, h.heap.keep (fun k _ hz => setCell_off _ (fun e => hz (by rw [show k = b from e]; exact e2))), h.low, fun p hp => ?_⟩
  obtain ⟨s1, s2⟩ := hs p hp
  obtain ⟨f1, f2, f3⟩ := h.has p s1
  exact ⟨(setCell_off _ s2).trans f1, f2, f3⟩
theorem pushL_one (x : Int) : pushL [] x = [x] := by
  unfold pushL
  rw [upL, dif_pos (Or.inl (show ([] : List Int).length = 0 from rfl))]
  rfl
theorem leastL_one (x : Int) : leastL [x] = x ∧ restL [x] = [] := by
  have h : downL (swapL [x] 0 ([x].length - 1)) 0 ([x].length - 1) = [x] := by
    rw [downL, dif_pos (Or.inl (by simp))]
    simp [swapL]
  constructor
  · unfold leastL; rw [h]; rfl
  · unfold restL; rw [h]; rfl
/-- A text of n letters a. -/
def rep (n : Nat) : ByteArray := ⟨Array.replicate n 97⟩
theorem rep_size (n : Nat) : (rep n).size = n := by simp [rep, ByteArray.size]
theorem rep_list (n : Nat) : (rep n).data.toList = List.replicate n 97 := by simp [rep]
theorem rep_twice (n : Nat) : rep n ++ rep n = rep (2 * n) := by
  apply ByteArray.ext
  simp [rep, Nat.two_mul]
theorem rep_valid (n : Nat) : validD (rep n).data.toList = true := by
  rw [rep_list]
  induction n with
  | zero => rfl
  | succ n ih => rw [List.replicate_succ, validD_cons _ _ (by decide)]; exact ih
theorem runesD_rep (n : Nat) : (runesD (List.replicate n (97 : UInt8))).length = n := by
  induction n with
  | zero => rfl
  | succ n ih =>
    rw [List.replicate_succ, runesD_step _ (by simp), decodeL_ascii _ _ (by decide)]
    simpa using ih
theorem rep_len (n : Nat) : lenD (rep n).data.toList = n := by
  unfold lenD
  rw [if_pos (rep_valid n), rep_list]
  exact runesD_rep n
/-- k texts of 65,536 characters. -/
def stk (S : ByteArray) (k : Nat) : Hp := ⟨40, List.replicate k (some (.text S 65536)), []⟩
def stV (S : ByteArray) (Z : List Wd) : Hp := ⟨40, List.replicate 15 (some (.text S 65536)) ++ [some (.vec Z)], []⟩
def stE (S : ByteArray) (Z : List Wd) : Hp := ⟨40, List.replicate 15 (some (.text S 65536)) ++ [some (.vec Z), some (.text ⟨#[]⟩ 0)], []⟩
theorem stk_total (S : ByteArray) (k : Nat) : total (stk S k).obs = k * 65536 := by
  simp [stk, total, osize, Ob.size]
theorem tot15 (S : ByteArray) (l : List (Option Ob)) : total (List.replicate 15 (some (.text S 65536)) ++ l) = 983040 + total l := by
  have h := stk_total S 15
  simp only [stk] at h
  rw [total_append, h]
theorem stV_total (S : ByteArray) (Z : List Wd) (hZ : Z.length = 65536) : total (stV S Z).obs = 1048576 := by
  unfold stV
  dsimp only
  rw [tot15]
  simp [total, osize, Ob.size, hZ]
theorem stE_total (S : ByteArray) (Z : List Wd) (hZ : Z.length = 65536) : total (stE S Z).obs = 1048576 := by
  unfold stE
  dsimp only
  rw [tot15]
  simp [total, osize, Ob.size, hZ]
theorem stV_length (S : ByteArray) (Z : List Wd) : (stV S Z).obs.length = 16 := by simp [stV]
theorem stE_length (S : ByteArray) (Z : List Wd) : (stE S Z).obs.length = 17 := by simp [stE]
theorem adds_stk {hb : Nat} {G : Nat → Nat} {S : ByteArray} {k : Nat} (hk : k < 15) : AddsTo hb G (stk S k) (stk S (k + 1)) (.text S 65536) (3, (k : Int)) 0 := by
  have h := adds_new (hb := hb) (G := G) (m := stk S k) (o := .text S 65536) rfl (by simp [stk]; omega) (by rw [stk_total]; simp only [Ob.size]; omega)
  have e : (stk S k).addNew (.text S 65536) = stk S (k + 1) := by simp [stk, Hp.addNew, List.replicate_succ']
  rw [e, show (stk S k).obs.length = k by simp [stk]] at h
  exact h
theorem adds_stV {hb : Nat} {G : Nat → Nat} {S : ByteArray} {Z : List Wd} (hZ : Z.length = 65536) : AddsTo hb G (stk S 15) (stV S Z) (.vec Z) (4, 15) 0 := by
  have h := adds_new (hb := hb) (G := G) (m := stk S 15) (o := .vec Z) rfl (by simp [stk]) (by rw [stk_total]; simp only [Ob.size]; omega)
  rw [show (stk S 15).obs.length = 15 by simp [stk]] at h
  exact h
theorem big_stV {hb : Nat} {G : Nat → Nat} {S : ByteArray} {Z : List Wd} (hZ : Z.length = 65536) {o : Ob} (ho : o.size = 1) : AddsTo hb G (stV S Z) (stV S Z) o (0, 0) 7 :=
  adds_big (by rw [stV_length]; simp [stV]) (by omega) (by rw [stV_total S Z hZ]; omega)
theorem adds_stE {hb : Nat} {G : Nat → Nat} {S : ByteArray} {Z : List Wd} (hZ : Z.length = 65536) : AddsTo hb G (stV S Z) (stE S Z) (.text ⟨#[]⟩ 0) (3, 16) 0 := by
  have h := adds_new (hb := hb) (G := G) (m := stV S Z) (o := .text ⟨#[]⟩ 0) rfl (by rw [stV_length]; show 16 < 40; decide) (by rw [stV_total S Z hZ]; simp [Ob.size])
  rw [stV_length] at h
  have e : (stV S Z).addNew (.text ⟨#[]⟩ 0) = stE S Z := by simp [stV, stE, Hp.addNew]
  rw [e] at h
  exact h
theorem stE_cell (S : ByteArray) (Z : List Wd) (hZ : Z.length = 65536) (i : Nat) (o : Ob) (h : (stE S Z).obs[i]? = some (some o)) : o.size ≤ 65536 := by
  have hm : some o ∈ (stE S Z).obs := List.mem_iff_getElem?.2 ⟨i, h⟩
  simp only [stE, List.mem_append, List.mem_replicate, List.mem_cons, List.not_mem_nil, or_false] at hm
  rcases hm with ⟨_, h⟩ | h | h
  · cases h; simp [Ob.size]
  · cases h; simp [Ob.size, hZ]
  · cases h; simp [Ob.size]
theorem stE_at (S : ByteArray) (Z : List Wd) (j : Nat) : (stE S Z).obs[j]? = if j < 15 then some (some (.text S 65536)) else if j = 15 then some (some (.vec Z)) else if j = 16 then some (some (.text ⟨#[]⟩ 0)) else none := by
  by_cases h : j < 15
  · rw [if_pos h]; simp only [stE]; rw [List.getElem?_append_left (by simp; omega), List.getElem?_replicate, if_pos h]
  · rw [if_neg h]; simp only [stE]; rw [List.getElem?_append_right (by simp; omega)]
    simp only [List.length_replicate]
    by_cases h1 : j = 15
    · subst h1; rfl
    · by_cases h2 : j = 16
      · subst h2; rfl
      · rw [if_neg h1, if_neg h2, List.getElem?_eq_none (by simp; omega)]
theorem stE_find0 (S : ByteArray) (Z : List Wd) : (stE S Z).find (0, 0) = none := by
  unfold Hp.find
  rw [if_pos (by decide)]
  rw [show ((0 : Int), (0 : Int)).2.toNat = 0 from rfl, stE_at S Z 0]
  simp [Ob.kind]
/-- What the vector of zero words reaches. -/
theorem stE_reach (S : ByteArray) (Z : List Wd) (h0 : ∀ z ∈ Z, z = (0, 0)) (j : Nat) : (stE S Z).Reach [(4, 15)] j ↔ j = 15 := by
  constructor
  · intro h
    induction h with
    | root x o h1 h2 =>
      rcases List.mem_singleton.1 h1 with rfl
      rfl
    | step i o x o' _ h2 h3 h4 ih =>
      subst ih
      rw [stE_at S Z 15] at h2
      simp at h2
      subst h2
      rw [h0 x h3, stE_find0] at h4
      cases h4
  · rintro rfl
    have hf : (stE S Z).find (4, 15) = some (.vec Z) := find_at0 _ 15 (.vec Z) (by rw [stE_at]; simp)
    exact Hp.Reach.root (m := stE S Z) _ _ (List.mem_singleton.2 rfl) hf
theorem stE_gone (S : ByteArray) (Z : List Wd) (b : List Bool) (hb : ∀ j : Nat, b[j]? = some true ↔ j = 15) (j : Nat) (hj : j < 17) : (stE S Z).gone b j = decide (j ≠ 15) := by
  have ha := stE_at S Z j
  by_cases h : j = 15
  · have h2 := (hb j).2 h
    subst h
    simp [Hp.gone, ha, h2]
  · have h2 : ¬ b[j]? = some true := fun e => h ((hb j).1 e)
    have h3 : ∃ o, (stE S Z).obs[j]? = some (some o) := by
      rw [ha]
      by_cases h4 : j < 15
      · exact ⟨_, if_pos h4⟩
      · have h5 : j = 16 := by omega
        subst h5
        exact ⟨_, rfl⟩
    obtain ⟨o, ho⟩ := h3
    simp [Hp.gone, ho, h2, h]
theorem stE_swept (S : ByteArray) (Z : List Wd) (hZ : Z.length = 65536) (b : List Bool) (hb : ∀ j : Nat, b[j]? = some true ↔ j = 15) : (stE S Z).many b 17 = 16 ∧ total ((stE S Z).sweep b 17).obs = 65536 := by
  have hg := stE_gone S Z b hb
  constructor
  · simp [Hp.many, hg]
  · have e : ((stE S Z).sweep b 17).obs = List.replicate 15 none ++ [some (.vec Z), none] := by
      apply List.ext_getElem?
      intro j
      by_cases hj : j < 17
      · rw [sweep_at _ _ _ _ hj (by rw [stE_length]; exact hj), hg j hj]
        by_cases h : j < 15
        · rw [List.getElem?_append_left (by simp; omega), List.getElem?_replicate, if_pos h]
          simp; omega
        · rw [List.getElem?_append_right (by simp; omega), stE_at]
          simp only [List.length_replicate]
          by_cases h1 : j = 15
          · subst h1; simp
          · have h2 : j = 16 := by omega
            subst h2; simp
      · rw [List.getElem?_eq_none (by rw [Hp.sweep_length, stE_length]; omega), List.getElem?_eq_none (by simp; omega)]
    rw [e, total_append]
    simp [total, osize, Ob.size, hZ]
theorem madeCells_two (a : Value) (n : Nat) : (madeCells #[a, a] n).toList = List.replicate n a := by
  apply List.ext_getElem
  · simp [size_madeCells]
  · intro i h1 h2
    simp [madeCells]
    have : i % 2 = 0 ∨ i % 2 = 1 := by omega
    rcases this with h | h <;> rw [h] <;> rfl
theorem wcells_zero (n : Nat) : wcells (List.replicate n ((0 : Int), (0 : Int))) = List.replicate (n * 2) (.int .i64 0) := by
  induction n with
  | zero => rfl
  | succ n ih => rw [List.replicate_succ, wcells_cons, ih, show (n + 1) * 2 = n * 2 + 1 + 1 by omega, List.replicate_succ, List.replicate_succ]
theorem make_words (n : Nat) (hn : n ≤ 65536) (w : World) : (Instr.makeSlice 36 (.int .i64 n) (.int .i64 n)).run Tryd.prog w = .ok (.slice (some ⟨w.heap.size, 0, none⟩) n n) (w.alloc (.cells (madeCells #[.int .i64 0, .int .i64 0] (n * 2)) 28)) := by
  obtain ⟨i0, hi0, hz0, hz1, hz2⟩ := info_parts info_word
  have h := run_make (P := Tryd.prog) w 36 28 i0 (.agg #[.int .i64 0, .int .i64 0]) Tryd.underlying36 hi0 hz0 .i64 .i64 n n (by omega) (Int.le_refl _) (by rw [hz2]; omega) (by omega)
  simpa [hz1, Value.cells] using h
theorem zeros_src (W : World) (n : Nat) : Src (W.alloc (.cells (madeCells #[.int .i64 0, .int .i64 0] (n * 2)) 28)) 2 (.slice (some ⟨W.heap.size, 0, none⟩) n n) n (wcells (List.replicate n (0, 0))) := by
  refine .inr ⟨_, n, rfl, by rw [wcells_length]; simp, fun j u hu => ?_⟩
  have e2 : (⟨W.heap.size, 0, none⟩ : Addr).add j = ⟨W.heap.size, j, none⟩ := by by_cases hj : j = 0 <;> simp [Addr.add, hj]
  rw [e2, cell_at (alloc_at W _), ← Array.getElem?_toList, madeCells_two, ← wcells_zero]
  exact hu
/-- Vec of a new row of zero words. -/
theorem zvec_any {w wr : World} {hb : Nat} {G : Nat → Nat} {m m' : Hp} {ks : List (Nat × Obj)} {r : Wd} {er : Int} {b n2 : Nat} (n : Nat) (hn : n ≤ 65536) (hb2 : wr.heap.size = b) (h2' : n * 2 = n2) (h : AInv w wr hb G m ks) (ha : AddsTo hb G m m' (.vec (List.replicate n (0, 0))) r er) :
    Calls Tryd.prog 17 #[hptr hb, .slice (some ⟨b, 0, none⟩) n n] (wr.alloc (.cells (madeCells #[.int .i64 0, .int .i64 0] n2) 28)) fun e w' => e = .returned (.tuple #[wv r, .int .i64 er]) ∧ ∃ G', AInv w w' hb G' m' ks := by
  subst hb2 h2'
  have h2 := h.junk ((Below.refl _ _).alloc (Nat.le_refl _) (.cells (madeCells #[.int .i64 0, .int .i64 0] (n * 2)) 28))
  have hs := zeros_src wr n
  have hl : (List.replicate n ((0 : Int), (0 : Int))).length = n := by simp
  rw [← hl] at hs
  have hc := vec_any (l := List.replicate n (0, 0)) h2.heap (by simpa using hs) (fun k hk => by cases hk; simp) (by simpa using hn) ha
  refine hc.mono ?_
  rintro e w' ⟨he, hw⟩
  exact ⟨he, h2.went hw⟩
theorem valid_e9 : validD (⟨#[195, 169]⟩ : ByteArray).data.toList = true := by decide +kernel
theorem len_e9 : lenD (⟨#[195, 169]⟩ : ByteArray).data.toList = 1 := by decide +kernel
theorem valid_0 : validD (⟨#[]⟩ : ByteArray).data.toList = true := by decide +kernel
theorem len_0 : lenD (⟨#[]⟩ : ByteArray).data.toList = 0 := by decide +kernel
theorem text_e9 {w wr : World} {hb : Nat} {G : Nat → Nat} {ks : List (Nat × Obj)} {S : ByteArray} {Z : List Wd} (h : AInv w wr hb G (stV S Z) ks) (hT : Tabs w) (hZ : Z.length = 65536) :
    Calls Tryd.prog 14 #[hptr hb, .string ⟨#[195, 169]⟩] wr fun e w' => e = .returned (.tuple #[wv (0, 0), .int .i64 7]) ∧ ∃ G', AInv w w' hb G' (stV S Z) ks := by
  have hc := text_any (s := ⟨#[195, 169]⟩) h.heap (hT.below h.below hT.size) (by decide) valid_e9 (by rw [len_e9]; decide) (big_stV hZ (by show lenD _ = 1; exact len_e9))
  refine hc.mono ?_
  rintro e w' ⟨he, hw⟩
  exact ⟨he, h.went hw⟩
theorem text_0 {w wr : World} {hb : Nat} {G : Nat → Nat} {ks : List (Nat × Obj)} {S : ByteArray} {Z : List Wd} (h : AInv w wr hb G (stV S Z) ks) (hT : Tabs w) (hZ : Z.length = 65536) :
    Calls Tryd.prog 14 #[hptr hb, .string ⟨#[]⟩] wr fun e w' => e = .returned (.tuple #[wv (3, 16), .int .i64 0]) ∧ ∃ G', AInv w w' hb G' (stE S Z) ks := by
  have hc := text_any (s := ⟨#[]⟩) h.heap (hT.below h.below hT.size) (by decide) valid_0 (by rw [len_0]; decide) (by rw [len_0]; exact adds_stE hZ)
  refine hc.mono ?_
  rintro e w' ⟨he, hw⟩
  exact ⟨he, h.went hw⟩
theorem code_1 {w wr : World} {hb b : Nat} {G : Nat → Nat} {ks : List (Nat × Obj)} {S : ByteArray} {Z : List Wd} (hb2 : wr.heap.size = b) (h : AInv w wr hb G (stV S Z) ks) (hZ : Z.length = 65536) :
    Calls Tryd.prog 30 #[hptr hb, .agg #[.int .i64 0, .int .i64 0, .int .i64 0, .slice (some ⟨b, 0, none⟩) 1 1, .slice none 0 0]] (wr.alloc (.cells #[.int .u8 1] 5)) fun e w' => e = .returned (.tuple #[wv (0, 0), .int .i64 7]) ∧ ∃ G', AInv w w' hb G' (stV S Z) ks := by
  subst hb2
  have h2 := h.junk ((Below.refl _ _).alloc (Nat.le_refl _) (.cells #[.int .u8 1] 5))
  have hc := code_any (le := 0) (mo := 0) (de := 0) (vb := .slice (some ⟨wr.heap.size, 0, none⟩) 1 1) (bs := [1]) (vc := .slice none 0 0) (cs := []) h2.heap (.inr ⟨_, _, rfl, rfl, fun j u hu => by
      match j, hu with
      | 0, hu => simp [bcells] at hu; subst hu; simp [Addr.add]
      | (j + 1), hu => simp [bcells] at hu⟩) (fun k hk => by cases hk; simp) (by decide) (.inl ⟨rfl, rfl, rfl⟩) (fun k hk => by cases hk) (by decide) (big_stV hZ rfl)
  refine hc.mono ?_
  rintro e w' ⟨he, hw⟩
  exact ⟨he, h2.went hw⟩
theorem argw_one {W : World} {b : Nat} (hb : W.heap.size = b) (x y : Int) : ArgW (W.alloc (.cells #[.int .i64 x, .int .i64 y] 28)) (.slice (some ⟨b, 0, none⟩) 1 1) [(x, y)] := by
  subst hb
  refine .inr (.inr ⟨by simp, _, 0, 1, rfl, by simp, fun j a ha => ?_⟩)
  match j, ha with
  | 0, ha =>
    simp at ha
    subst ha
    exact ⟨cell_at (alloc_at W _), cell_at (alloc_at W _)⟩
  | (j + 1), ha => simp at ha
theorem collect_stE {w wr : World} {hb b : Nat} {G : Nat → Nat} {ks : List (Nat × Obj)} {S : ByteArray} {Z : List Wd} (hb2 : wr.heap.size = b) (h : AInv w wr hb G (stE S Z) ks) (hZ : Z.length = 65536) (h0 : ∀ z ∈ Z, z = (0, 0)) :
    Calls Tryd.prog 15 #[hptr hb, .slice (some ⟨b, 0, none⟩) 1 1] (wr.alloc (.cells #[.int .i64 4, .int .i64 15] 28)) fun e w' => e = .returned (.int .i64 16) ∧ ∃ G' m', AInv w w' hb G' m' ks ∧ total m'.obs = 65536 := by
  have h2 := h.junk ((Below.refl _ _).alloc (Nat.le_refl _) (.cells #[.int .i64 4, .int .i64 15] 28))
  refine (collect_any h2.heap _ [(4, 15)] (by decide) (argw_one hb2 4 15)).mono ?_
  rintro e w' ⟨c, _, hc, he, hw⟩
  obtain ⟨hm, ht⟩ := stE_swept S Z hZ c (fun j => (hc j).trans (stE_reach S Z h0 j))
  rw [stE_length] at he hw
  rw [hm] at he
  obtain ⟨G', h3⟩ := h2.went hw
  exact ⟨he, G', _, h3, ht⟩
set_option maxHeartbeats 60000000 in
set_option maxRecDepth 100000 in
theorem stores_any (w : World) (hT : Tabs w) : Calls Tryd.prog 9 #[] w fun e w' => e = .returned (.bool true) ∧ Below w.heap.size w w' := by
  have HT := Lib.hid hT
  have mk1 : ∀ W : World, (Instr.makeSlice 36 (.int .i64 65536) (.int .i64 65536)).run Tryd.prog W = .ok (.slice (some ⟨W.heap.size, 0, none⟩) 65536 65536) (W.alloc (.cells (madeCells #[.int .i64 0, .int .i64 0] (65536 * 2)) 28)) := fun W => make_words 65536 (by decide) W
  have mk2 : ∀ W : World, (Instr.makeSlice 36 (.int .i64 1) (.int .i64 1)).run Tryd.prog W = .ok (.slice (some ⟨W.heap.size, 0, none⟩) 1 1) (W.alloc (.cells (madeCells #[.int .i64 0, .int .i64 0] (1 * 2)) 28)) := fun W => make_words 1 (by decide) W
  clear hT
  go_enter Tryd.func9, Tryd.ntmps9
  go_wp2_with fail
  refine (new_any 40 _ (by decide) (by decide)).mono ?_
  rintro e W1 ⟨rfl, hb1, hz1, h1⟩
  have ha1 : AInv w W1 w.heap.size (fun k => if k = w.heap.size then 1 else 0) (stk (rep 65536) 0) [] :=
    ⟨hb1, h1, fun k hk => if_neg (by omega), fun p hp => by cases hp⟩
  generalize (fun k : Nat => if k = w.heap.size then 1 else 0) = G1 at *
  have hr := ha1.heap.room
  rw [stk_total] at hr
  have H1 := Lib.hid (And.intro ha1 hr)
  clear hb1 hz1 h1 ha1 hr
  go_wp2_with fail
  refine (H1.out.2 _ (Old.refl _)).mono ?_
  rintro e w' ⟨rfl, d, rfl⟩
  have h2 := H1.out.1.junk ((Below.refl _ _).drewN d)
  have H2 := Lib.hid h2
  clear h2 H1
  go_wp2_with fail
  generalize W1.drewN d = W2 at *
  go_loopg [3] 16 (fun gk sv wr => ∃ (k : Nat) (s : ByteArray), gk = 16 - k ∧ k ≤ 16 ∧ sv = .string s ∧ s = rep (2 ^ k) ∧ wr = W2)
  case atStart => exact ⟨0, _, rfl, by omega, rfl, rfl, rfl⟩
  case round =>
    obtain ⟨k, s, hgk, hk, rfl, hs, rfl⟩ := hrel
    have hsz : s.size = 2 ^ k := by rw [hs, rep_size]
    by_cases hlt : (s.size : Int) < 65536
    · have HS := Lib.hid (And.intro hs (And.intro hgk hsz))
      have hk2 : k < 16 := by
        rcases Nat.lt_or_ge k 16 with h | h
        · exact h
        · have : k = 16 := by omega
          subst this
          rw [hsz] at hlt
          omega
      clear hs hgk hsz
      go_wp2_with fail
      go_roundg (16 - (k + 1))
      case measure => have := HS.out.2.1; omega
      case rel => exact ⟨k + 1, s ++ s, rfl, hk2, rfl, by rw [HS.out.1, rep_twice, Nat.pow_succ, Nat.mul_comm], rfl⟩
    · have hk2 : k = 16 := by
        rcases Nat.lt_or_ge k 16 with h | h
        · have : 2 ^ k ≤ 2 ^ 15 := Nat.pow_le_pow_right (by omega) (by omega)
          rw [hsz] at hlt
          omega
        · omega
      subst hk2
      have hv : validD s.data.toList = true := by rw [hs]; exact rep_valid _
      have hl : lenD s.data.toList = 65536 := by rw [hs]; exact rep_len _
      have h2 : AInv w wr w.heap.size G1 (stk s 0) [] := H2.out
      have HS := Lib.hid (And.intro hv (And.intro hl (And.intro (show s.size ≤ 281474976710656 by rw [hsz]; decide) h2)))
      clear hv hl h2 hs hsz hgk hk H2
      go_wp2_with fail
      go_loopg [4] 15 (fun gk kv wr => ∃ (k : Nat) (G : Nat → Nat), gk = 15 - k ∧ k ≤ 15 ∧ kv = .int .i64 k ∧ AInv w wr w.heap.size G (stk s k) [])
      case atStart => exact ⟨0, G1, rfl, by omega, rfl, HS.out.2.2.2⟩
      case round =>
        obtain ⟨k, G, hgk, hk, rfl, hin⟩ := hrel
        have HIN := Lib.hid hin
        have HGK := Lib.hid hgk
        clear hin hgk
        by_cases hlt2 : (k : Int) < 15
        · have hk15 : k < 15 := by omega
          have hadd : AddsTo w.heap.size G (stk s k) (stk s (k + 1)) (.text s (lenD s.data.toList)) (3, (k : Int)) 0 := by rw [HS.out.2.1]; exact adds_stk hk15
          have CT := Lib.hid (text_any HIN.out.heap (HT.out.below HIN.out.below HT.out.size) HS.out.2.2.1 HS.out.1 (Nat.le_of_eq HS.out.2.1) hadd)
          clear hadd
          go_wp2_with fail
          refine CT.out.mono ?_
          rintro e Wt ⟨rfl, hwt⟩
          obtain ⟨Gt, ht⟩ := HIN.out.went hwt
          have ht2 := ht.junk ((Below.refl Wt.heap.size Wt).alloc (Nat.le_refl _) (wobj (3, (k : Int))))
          have HO := Lib.hid ht2
          clear hwt ht ht2 CT
          go_wp2_with fail
          go_roundg (15 - (k + 1))
          case measure => have := HGK.out; omega
          case rel => exact ⟨k + 1, Gt, rfl, by omega, by go_num, HO.out⟩
        · have hk15 : k = 15 := by omega
          subst hk15
          obtain ⟨Z, hZ⟩ : ∃ Z, Z = List.replicate 65536 ((0 : Int), (0 : Int)) := ⟨_, rfl⟩
          have hZl : Z.length = 65536 := by rw [hZ]; exact List.length_replicate
          have hZ0 : ∀ z ∈ Z, z = (0, 0) := by rw [hZ]; exact fun z hz => List.eq_of_mem_replicate hz
          have cv := zvec_any (b := wr.heap.size) (n2 := 131072) 65536 (by decide) rfl rfl HIN.out (r := (4, 15)) (er := 0) (m' := stV s Z) (by rw [← hZ]; exact adds_stV hZl)
          have CV := Lib.hid cv
          have HZ := Lib.hid (And.intro hZl hZ0)
          clear cv hZ hZl hZ0
          go_wp2_with fail
          refine CV.out.mono ?_
          rintro e Wa ⟨rfl, Ga, ha⟩
          have hA := Lib.hid (ha.alloc (wobj (4, 15)))
          clear ha CV HIN mk1
          go_wp2_with fail
          generalize Wa.alloc (wobj (4, 15)) = Wb at *
          generalize Wa.heap.size = lb at *
          refine (text_e9 hA.out HT.out HZ.out.1).mono ?_
          rintro e Wc ⟨rfl, Gc, hc⟩
          have HC := Lib.hid (hc.junk ((Below.refl Wc.heap.size Wc).alloc (Nat.le_refl _) (wobj (0, 0))))
          clear hc hA
          have cv := zvec_any (b := Wc.heap.size + 1) (n2 := 2) 1 (by decide) (by simp) rfl HC.out (r := (0, 0)) (er := 7) (big_stV HZ.out.1 rfl)
          have CV := Lib.hid cv
          clear cv
          go_wp2_with fail
          refine CV.out.mono ?_
          rintro e Wd ⟨rfl, Gd, hd⟩
          have HD := Lib.hid (hd.junk ((Below.refl Wd.heap.size Wd).alloc (Nat.le_refl _) (wobj (0, 0))))
          clear hd CV HC mk2
          go_wp2_with fail
          have CV := Lib.hid (code_1 (b := Wd.heap.size + 1) (by simp) HD.out HZ.out.1)
          refine CV.out.mono ?_
          rintro e We ⟨rfl, Ge, he⟩
          have HE := Lib.hid (he.junk ((Below.refl We.heap.size We).alloc (Nat.le_refl _) (wobj (0, 0))))
          clear he CV HD
          go_wp2_with fail
          refine (text_0 HE.out HT.out HZ.out.1).mono ?_
          rintro e Wf ⟨rfl, Gf, hf⟩
          have hf2 := hf.junk ((Below.refl Wf.heap.size Wf).alloc (Nat.le_refl _) (wobj (3, 16)))
          have hr := hf2.heap.room
          rw [stE_total s Z HZ.out.1] at hr
          have HF := Lib.hid (And.intro hf2 hr)
          clear hf hf2 hr HE
          go_wp2_with fail
          generalize Wf.alloc (.cells #[.int .i64 3, .int .i64 16] 28) = Wg at *
          refine (HF.out.2 _ (Old.refl _)).mono ?_
          rintro e w' ⟨rfl, d1, rfl⟩
          have HG := Lib.hid (HF.out.1.junk ((Below.refl _ _).drewN d1))
          clear HF
          go_wp2_with fail
          generalize Wg.drewN d1 = Wh at *
          refine (copy_each HG.out.heap (by rw [stE_length]; decide) (stE_cell s Z HZ.out.1)).mono ?_
          rintro e Wi ⟨hc, Fi, rfl, hbi, hci, _⟩
          have hr := hci.room
          rw [stE_total s Z HZ.out.1] at hr
          have HI := Lib.hid (And.intro (HG.out.junk hbi) hr)
          clear hbi hci hr HG
          go_wp2_with fail
          refine (HI.out.2 _ (Old.refl _)).mono ?_
          rintro e w' ⟨rfl, d2, rfl⟩
          have hj := HI.out.1.junk ((Below.refl _ _).drewN d2)
          clear HI
          have HJ := Lib.hid hj
          have q0 : (Wi.drewN d2).cell? ⟨lb, 0, none⟩ = some (.int .i64 4) := cell_at (hj.has _ (.head _)).1
          have q1 : (Wi.drewN d2).cell? ⟨lb, 1, none⟩ = some (.int .i64 15) := cell_at (hj.has _ (.head _)).1
          clear hj
          go_wp2_with fail
          refine (collect_stE rfl HJ.out HZ.out.1 HZ.out.2).mono ?_
          rintro e Wk ⟨rfl, Gk, mk, hk2, htk⟩
          have hr := hk2.heap.room
          rw [htk] at hr
          have HK := Lib.hid (And.intro hk2 hr)
          clear hk2 htk hr HJ q0 q1
          go_wp2_with fail
          refine (HK.out.2 _ (Old.refl _)).mono ?_
          rintro e w' ⟨rfl, d3, rfl⟩
          go_wp2
          go_ret
          exact ⟨rfl, HK.out.1.below.drewN d3⟩
theorem many_nil (w : World) : Calls Tryd.prog 19 #[.pointer none] w fun e w' => e = .returned (.int .i64 0) ∧ w' = w := by
  have cV := valid_nil w
  go_enter Tryd.func19, Tryd.ntmps19
  go_wp2_with (go_at_call 36; ((with_reducible refine cV.mono ?_); rintro e w' ⟨rfl, rfl⟩))
  go_ret
  exact ⟨rfl, rfl⟩
theorem room_nil (w : World) : Calls Tryd.prog 20 #[.pointer none] w fun e w' => e = .returned (.int .i64 0) ∧ w' = w := by
  have cV := valid_nil w
  go_enter Tryd.func20, Tryd.ntmps20
  go_wp2_with (go_at_call 36; ((with_reducible refine cV.mono ?_); rintro e w' ⟨rfl, rfl⟩))
  go_ret
  exact ⟨rfl, rfl⟩
theorem copy_nil (w : World) : Calls Tryd.prog 21 #[.pointer none] w fun e w' => e = .returned (.pointer none) ∧ w' = w := by
  have cV := valid_nil w
  go_enter Tryd.func21, Tryd.ntmps21
  go_wp2_with (go_at_call 36; ((with_reducible refine cV.mono ?_); rintro e w' ⟨rfl, rfl⟩))
  go_ret
  exact ⟨rfl, rfl⟩
theorem cons_nil (a d : Wd) (w : World) : Calls Tryd.prog 11 #[.pointer none, wv a, wv d] w fun e w' => e = .returned (.tuple #[wv ((0 : Int), (0 : Int)), .int .i64 1]) ∧ Below w.heap.size w w' := by
  have cV := fun W => valid_nil W
  go_enter Tryd.func11, Tryd.ntmps11
  go_wp2_with (go_at_call 36; ((with_reducible refine (cV _).mono ?_); rintro e w' ⟨rfl, hw'⟩; obtain rfl : _ = w' := hw'.symm; clear hw'))
  refine bodyPost_ret (v := .tuple #[wv (0, 0), .int .i64 1]) ?_ rfl ⟨rfl, ?_⟩
  · simp [results, Tryd.results11, go_sem]
  exact ((((Below.refl _ _).alloc (Nat.le_refl _) _).alloc (by simp) _).alloc (by simp; omega) _)
def m2c : Hp := m2b.drop 0
def m2d : Hp := ⟨2, [some (.vec []), some (.text ⟨#[97]⟩ 1)], []⟩
theorem m2b_reach (j : Nat) : m2b.Reach [(3, 1)] j ↔ j = 1 := by
  constructor
  · intro h
    induction h with
    | root x o h1 h2 =>
      rcases List.mem_singleton.1 h1 with rfl
      rfl
    | step i o x o' _ h2 h3 h4 ih =>
      subst ih
      have e : o = .text ⟨#[97]⟩ 1 := by
        have h5 : m2b.obs[1]? = some (some (.text ⟨#[97]⟩ 1)) := rfl
        rw [h5] at h2
        cases h2
        rfl
      subst e
      simp [Ob.words] at h3
  · rintro rfl
    exact Hp.Reach.root (m := m2b) (3, 1) (.text ⟨#[97]⟩ 1) (List.mem_singleton.2 rfl) (find_at0 _ 1 (.text ⟨#[97]⟩ 1) rfl)
theorem m2b_swept (b : List Bool) (hb : ∀ j : Nat, b[j]? = some true ↔ j = 1) : m2b.many b 2 = 1 ∧ m2b.sweep b 2 = m2c := by
  have h0 : ¬ b[0]? = some true := fun e => by have := (hb 0).1 e; omega
  have h1 : b[1]? = some true := (hb 1).2 rfl
  have g0 : m2b.gone b 0 = true := by
    have : m2b.obs[0]? = some (some (.pair (0, 1) (1, 0))) := rfl
    simp [Hp.gone, this, h0]
  have g1 : m2b.gone b 1 = false := by
    have : m2b.obs[1]? = some (some (.text ⟨#[97]⟩ 1)) := rfl
    simp [Hp.gone, this, h1]
  exact ⟨by simp [Hp.many, g0, g1], by simp [Hp.sweep, g0, g1, m2c]⟩
theorem collect_m2b {w wr : World} {hb b : Nat} {G : Nat → Nat} {ks : List (Nat × Obj)} (hb2 : wr.heap.size = b) (h : AInv w wr hb G m2b ks) :
    Calls Tryd.prog 15 #[hptr hb, .slice (some ⟨b, 0, none⟩) 1 1] (wr.alloc (.cells #[.int .i64 3, .int .i64 1] 28)) fun e w' => e = .returned (.int .i64 1) ∧ ∃ G', AInv w w' hb G' m2c ks := by
  have h2 := h.junk ((Below.refl _ _).alloc (Nat.le_refl _) (.cells #[.int .i64 3, .int .i64 1] 28))
  refine (collect_any h2.heap _ [(3, 1)] (by decide) (argw_one hb2 3 1)).mono ?_
  rintro e w' ⟨c, _, hc, he, hw⟩
  obtain ⟨hm, ht⟩ := m2b_swept c (fun j => (hc j).trans (m2b_reach j))
  rw [show m2b.obs.length = 2 from rfl] at he hw
  rw [hm] at he
  rw [ht] at hw
  obtain ⟨G', h3⟩ := h2.went hw
  exact ⟨he, G', h3⟩
theorem m2c_free : m2c.free = [(0 : Int)] := pushL_one 0
theorem m2c_add : m2c.addOld (.vec []) = m2d := by
  unfold Hp.addOld
  rw [m2c_free, (leastL_one 0).1, (leastL_one 0).2]
  simp [m2c, m2d, Hp.drop, m2b, m2a, Hp.addNew, Hp.empty]
theorem vec_m2c {w wr : World} {hb : Nat} {G : Nat → Nat} {ks : List (Nat × Obj)} (h : AInv w wr hb G m2c ks) :
    Calls Tryd.prog 17 #[hptr hb, .slice none 0 0] wr fun e w' => e = .returned (.tuple #[wv (4, 0), .int .i64 0]) ∧ ∃ G', AInv w w' hb G' m2d ks := by
  have ha := adds_old (hb := hb) (G := G) (m := m2c) (o := .vec []) (by rw [m2c_free]; simp) (by show total [none, some (.text ⟨#[97]⟩ 1)] + 0 ≤ 1048576; simp [total, osize, Ob.size])
  rw [m2c_add, m2c_free, (leastL_one 0).1] at ha
  refine (vec_any (l := []) h.heap (.inl ⟨rfl, rfl, rfl⟩) (fun k hk => by cases hk) (by decide) ha).mono ?_
  rintro e w' ⟨he, hw⟩
  exact ⟨he, h.went hw⟩
theorem m2d_car : m2d.car (1, 0) = ((1, 0), 0) ∧ m2d.car (0, 5) = ((0, 0), 6) := ⟨rfl, rfl⟩
theorem m2d_find (a d : Wd) : m2d.find (1, 0) ≠ some (.pair a d) := by
  rw [show m2d.find (1, 0) = none from rfl]
  intro e
  cases e
theorem valid_ff : validD (⟨#[255]⟩ : ByteArray).data.toList = false := by decide +kernel
set_option maxHeartbeats 60000000 in
set_option maxRecDepth 100000 in
theorem names_any (w : World) (hT : Tabs w) : Calls Tryd.prog 3 #[] w fun e w' => e = .returned (.bool true) ∧ Below w.heap.size w w' := by
  have HT := Lib.hid hT
  clear hT
  go_enter Tryd.func3, Tryd.ntmps3
  go_wp2_with fail
  refine (lives_any _ HT.out).mono ?_
  rintro e Wa ⟨rfl, hba⟩
  have HA := Lib.hid hba
  clear hba
  go_wp2_with fail
  refine (stores_any _ (HT.out.below HA.out HT.out.size)).mono ?_
  rintro e Wb ⟨rfl, hbb⟩
  have HB := Lib.hid (HA.out.trans (hbb.mono HA.out.size))
  clear hbb HA
  go_wp2_with fail
  refine (new_any 2 _ (by decide) (by decide)).mono ?_
  rintro e W1 ⟨rfl, hb1, hz1, h1⟩
  have ha1 : AInv w W1 Wb.heap.size (fun k => if k = Wb.heap.size then 1 else 0) (Hp.empty 2) [] :=
    ⟨HB.out.trans (hb1.mono HB.out.size), h1, fun k hk => if_neg (by have := HB.out.size; omega), fun p hp => by cases hp⟩
  generalize (fun k : Nat => if k = Wb.heap.size then 1 else 0) = G1 at *
  have H1 := Lib.hid ha1
  clear hb1 hz1 h1 ha1 HB
  go_wp2_with fail
  generalize Wb.heap.size = hb at *
  refine (int_any 1 _).mono ?_
  rintro e Wc ⟨rfl, hbc⟩
  have HC := Lib.hid (H1.out.junk hbc)
  clear hbc H1
  go_wp2_with fail
  refine (nil_any _).mono ?_
  rintro e Wd ⟨rfl, hbd⟩
  have HD := Lib.hid (HC.out.junk hbd)
  clear hbd HC
  go_wp2_with fail
  refine (cons_m2 HD.out.heap).mono ?_
  rintro e We ⟨rfl, hwe⟩
  obtain ⟨Ge, he⟩ := HD.out.went hwe
  have HE := Lib.hid he
  clear hwe he HD
  go_wp2_with fail
  refine (text_m2 HE.out.heap (HT.out.below HE.out.below HT.out.size)).mono ?_
  rintro e Wf ⟨rfl, hwf⟩
  obtain ⟨Gf, hf⟩ := HE.out.went hwf
  have HF := Lib.hid hf
  clear hwf hf HE
  go_wp2_with fail
  refine (word_any 3 1 _).mono ?_
  rintro e Wg ⟨rfl, hbg⟩
  have HG := Lib.hid (HF.out.junk hbg)
  clear hbg HF
  go_wp2_with fail
  refine (collect_m2b rfl HG.out).mono ?_
  rintro e Wh ⟨rfl, Gh, hh⟩
  have HH := Lib.hid hh
  clear hh HG
  go_wp2_with fail
  refine (vec_m2c HH.out).mono ?_
  rintro e Wi ⟨rfl, Gi, hi⟩
  have HI := Lib.hid (hi.alloc (wobj (4, 0)))
  clear hi HH
  go_wp2_with fail
  generalize Wi.alloc (.cells #[.int .i64 4, .int .i64 0] 28) = Wj at *
  generalize Wi.heap.size = vb at *
  refine (nil_any _).mono ?_
  rintro e Wk ⟨rfl, hbk⟩
  have HK := Lib.hid (HI.out.junk hbk)
  clear hbk HI
  go_wp2_with fail
  have hcar := car_any HK.out.heap (1, 0)
  rw [m2d_car.1] at hcar
  refine hcar.mono ?_
  rintro e Wl ⟨rfl, hbl⟩
  have HL := Lib.hid ((HK.out.junk hbl).alloc (wobj (1, 0)))
  clear hbl HK hcar
  go_wp2_with fail
  generalize Wl.alloc (.cells #[.int .i64 1, .int .i64 0] 28) = Wm at *
  generalize Wl.heap.size = nb at *
  refine (int_any 5 _).mono ?_
  rintro e Wn ⟨rfl, hbn⟩
  have HN := Lib.hid (HL.out.junk hbn)
  clear hbn HL
  go_wp2_with fail
  have hcar := car_any HN.out.heap (0, 5)
  rw [m2d_car.2] at hcar
  refine hcar.mono ?_
  rintro e Wo ⟨rfl, hbo⟩
  have HO := Lib.hid ((HN.out.junk hbo).junk ((Below.refl Wo.heap.size Wo).alloc (Nat.le_refl _) (wobj (0, 0))))
  clear hbo HN hcar
  go_wp2_with fail
  generalize Wo.alloc (.cells #[.int .i64 0, .int .i64 0] 28) = Wp at *
  refine (new_bad 0 _ (Or.inl (by decide))).mono ?_
  rintro e w' ⟨rfl, rfl⟩
  go_wp2_with fail
  refine (text_bad_any HO.out.heap (s := ⟨#[255]⟩) (HT.out.below HO.out.below HT.out.size) (by decide) valid_ff).mono ?_
  rintro e Wq ⟨rfl, hbq⟩
  have HQ := Lib.hid ((HO.out.junk hbq).junk ((Below.refl Wq.heap.size Wq).alloc (Nat.le_refl _) (wobj (0, 0))))
  clear hbq HO
  go_wp2_with fail
  generalize Wq.alloc (.cells #[.int .i64 0, .int .i64 0] 28) = Wr at *
  refine (nil_any _).mono ?_
  rintro e Ws ⟨rfl, hbs⟩
  have HS := Lib.hid (HQ.out.junk hbs)
  clear hbs HQ
  go_wp2_with fail
  refine (nil_any _).mono ?_
  rintro e Wt ⟨rfl, hbt⟩
  have HU := Lib.hid (HS.out.junk hbt)
  clear hbt HS
  go_wp2_with fail
  refine (cons_nil (1, 0) (1, 0) _).mono ?_
  rintro e Wu ⟨rfl, hbu⟩
  have HV := Lib.hid ((HU.out.junk hbu).junk ((Below.refl Wu.heap.size Wu).alloc (Nat.le_refl _) (wobj (0, 0))))
  clear hbu HU
  go_wp2_with fail
  generalize Wu.alloc (.cells #[.int .i64 0, .int .i64 0] 28) = Wv at *
  have hH := HV.out.heap
  obtain ⟨_, _, _, k0, _⟩ := hH.lies
  have hlim : Wv.cell? ⟨hb, 0, none⟩ = some (.int .i64 (2 : Nat)) := cell_at k0
  have hlt := hH.lt
  have kn := (HV.out.has _ (.head _)).1
  have kv := (HV.out.has _ (.tail _ (.head _))).1
  have znb := lt_at kn
  have zvb := lt_at kv
  have m0 : Wv.drew.cell? ⟨vb, 0, none⟩ = some (.int .i64 4) := cell_at kv
  have m1 : Wv.drew.cell? ⟨vb, 1, none⟩ = some (.int .i64 0) := cell_at kv
  have m2 : Wv.drew.cell? ⟨nb, 0, none⟩ = some (.int .i64 1) := cell_at kn
  have m3 : Wv.drew.cell? ⟨nb, 1, none⟩ = some (.int .i64 0) := cell_at kn
  have HK := Lib.hid (show Below Wv.heap.size Wv Wv.drew from (Below.refl _ _).drew)
  have HX := Lib.hid (And.intro hH (And.intro hlim (And.intro hlt (And.intro kn kv))))
  have HT2 := Lib.hid (And.intro HV.out.below (And.intro znb zvb))
  clear hH hlim hlt kn kv k0 znb zvb HV
  go_region_held3 (fun w' => w'.cell? ⟨vb, 0, none⟩ = some (.int .i64 4) ∧ w'.cell? ⟨vb, 1, none⟩ = some (.int .i64 0) ∧ w'.cell? ⟨nb, 0, none⟩ = some (.int .i64 1) ∧ w'.cell? ⟨nb, 1, none⟩ = some (.int .i64 0))
    (first | with_reducible exact ⟨d0, d1, d2, d3⟩ | with_reducible exact ⟨m0, m1, m2, m3⟩)
    (first
      | (go_at_call 16; refine (word_any _ _ _).mono ?_; rintro e wq ⟨rfl, hbe⟩
         have HK2 := Lib.hid (HK.out.trans (hbe.mono HK.out.size)); clear HK hbe; have HK := HK2; clear HK2
         have d0 : wq.cell? ⟨vb, 0, none⟩ = some (.int .i64 4) := (HK.out.cell (p := ⟨vb, 0, none⟩) HT2.out.2.2).trans (cell_at HX.out.2.2.2.2)
         have d1 : wq.cell? ⟨vb, 1, none⟩ = some (.int .i64 0) := (HK.out.cell (p := ⟨vb, 1, none⟩) HT2.out.2.2).trans (cell_at HX.out.2.2.2.2)
         have d2 : wq.cell? ⟨nb, 0, none⟩ = some (.int .i64 1) := (HK.out.cell (p := ⟨nb, 0, none⟩) HT2.out.2.1).trans (cell_at HX.out.2.2.2.1)
         have d3 : wq.cell? ⟨nb, 1, none⟩ = some (.int .i64 0) := (HK.out.cell (p := ⟨nb, 1, none⟩) HT2.out.2.1).trans (cell_at HX.out.2.2.2.1))
      | (go_at_call 13; refine (nil_any _).mono ?_; rintro e wq ⟨rfl, hbe⟩
         have HK2 := Lib.hid (HK.out.trans (hbe.mono HK.out.size)); clear HK hbe; have HK := HK2; clear HK2
         have d0 : wq.cell? ⟨vb, 0, none⟩ = some (.int .i64 4) := (HK.out.cell (p := ⟨vb, 0, none⟩) HT2.out.2.2).trans (cell_at HX.out.2.2.2.2)
         have d1 : wq.cell? ⟨vb, 1, none⟩ = some (.int .i64 0) := (HK.out.cell (p := ⟨vb, 1, none⟩) HT2.out.2.2).trans (cell_at HX.out.2.2.2.2)
         have d2 : wq.cell? ⟨nb, 0, none⟩ = some (.int .i64 1) := (HK.out.cell (p := ⟨nb, 0, none⟩) HT2.out.2.1).trans (cell_at HX.out.2.2.2.1)
         have d3 : wq.cell? ⟨nb, 1, none⟩ = some (.int .i64 0) := (HK.out.cell (p := ⟨nb, 1, none⟩) HT2.out.2.1).trans (cell_at HX.out.2.2.2.1))
      | (go_at_call 19; refine (many_nil _).mono ?_; rintro e wq ⟨rfl, rfl⟩)
      | (go_at_call 20; refine (room_nil _).mono ?_; rintro e wq ⟨rfl, rfl⟩)
      | (go_at_call 21; refine (copy_nil _).mono ?_; rintro e wq ⟨rfl, rfl⟩)
      | (go_at_call 22; refine (limit_any hb (2 : Nat) _ (by decide) ((HK.out.cell (p := ⟨hb, 0, none⟩) HX.out.2.2.1).trans HX.out.2.1)).mono ?_; rintro e wq ⟨rfl, rfl⟩)
      | (go_at_call 23; refine (setcar_no (HX.out.1.below HK.out) (1, 0) (4, 0) m2d_find).mono ?_; rintro e wq ⟨rfl, hbe⟩
         have HK2 := Lib.hid (HK.out.trans (hbe.mono HK.out.size)); clear HK hbe; have HK := HK2; clear HK2
         have d0 : wq.cell? ⟨vb, 0, none⟩ = some (.int .i64 4) := (HK.out.cell (p := ⟨vb, 0, none⟩) HT2.out.2.2).trans (cell_at HX.out.2.2.2.2)
         have d1 : wq.cell? ⟨vb, 1, none⟩ = some (.int .i64 0) := (HK.out.cell (p := ⟨vb, 1, none⟩) HT2.out.2.2).trans (cell_at HX.out.2.2.2.2)
         have d2 : wq.cell? ⟨nb, 0, none⟩ = some (.int .i64 1) := (HK.out.cell (p := ⟨nb, 0, none⟩) HT2.out.2.1).trans (cell_at HX.out.2.2.2.1)
         have d3 : wq.cell? ⟨nb, 1, none⟩ = some (.int .i64 0) := (HK.out.cell (p := ⟨nb, 1, none⟩) HT2.out.2.1).trans (cell_at HX.out.2.2.2.1)))
  all_goals (go_wp2_with fail; go_ret; exact ⟨rfl, HT2.out.1.trans (HK.out.mono HT2.out.1.size)⟩)
end Go.Proofs.YtleppjdmcjocmaaDoor
