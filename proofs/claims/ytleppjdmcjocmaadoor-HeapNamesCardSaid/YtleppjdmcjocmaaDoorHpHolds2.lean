/- The law HeapHolds: what holds of memory while it runs. -/
import Derived.Test.YtleppjdmcjocmaaDoorHpHolds1
import Derived.Deep.LoopGhost
import Derived.StillTailTactics
namespace Go.Proofs.YtleppjdmcjocmaaDoor
open Go.RowKit Go.Lib
abbrev wobj (x : Wd) : Obj := .cells #[.int .i64 x.1, .int .i64 x.2] 28 (0, 0)
structure HInv (w wr : World) (hb xb vb tb : Nat) (x vw tw : Wd) (m : Hp) (G : Nat → Nat) (cs : Value) (n : Nat) (l : List Wd) : Prop where
  below : Below w.heap.size w wr
  heap : HeapAt wr hb G m
  low : ∀ j, j < w.heap.size → G j = 0
  gx : G xb = 0
  gv : G vb = 0
  gt : G tb = 0
  kx : wr.heap[xb]? = some (wobj x)
  kv : wr.heap[vb]? = some (wobj vw)
  kt : wr.heap[tb]? = some (wobj tw)
  row : wr.ownsRow w.heap.size 28 2 cs n (wcells l)
  sep : ∀ c, cs.ownBlock = some c → G c = 0 ∧ c ≠ xb ∧ c ≠ vb ∧ c ≠ tb
theorem HInv.junk {w wr w' : World} {hb xb vb tb : Nat} {x vw tw : Wd} {m : Hp} {G : Nat → Nat} {cs : Value} {n : Nat} {l : List Wd} (h : HInv w wr hb xb vb tb x vw tw m G cs n l) (hb' : Below wr.heap.size wr w') :
    HInv w w' hb xb vb tb x vw tw m G cs n l :=
  ⟨h.below.trans (hb'.mono h.below.size), h.heap.below hb', h.low, h.gx, h.gv, h.gt, (hb'.block _ (lt_at h.kx)).trans h.kx, (hb'.block _ (lt_at h.kv)).trans h.kv, (hb'.block _ (lt_at h.kt)).trans h.kt, own_keep h.row hb', h.sep⟩
theorem own_block {w w' : World} {B e size : Nat} {v : Value} {n : Nat} {xs : List Value} (h : w.ownsRow B e size v n xs) (hb : ∀ k, v.ownBlock = some k → w'.heap[k]? = w.heap[k]?) : w'.ownsRow B e size v n xs := by
  obtain ⟨h1, h2⟩ := h
  refine ⟨h1, ?_⟩
  rcases h2 with h2 | ⟨g, cap, cur, hv, hg, hh, hr⟩
  · exact .inl h2
  · exact .inr ⟨g, cap, cur, hv, hg, (hb g (by rw [hv]; rfl)).trans hh, hr⟩
theorem HInv.went {w wr w' : World} {hb xb vb tb : Nat} {x vw tw : Wd} {m m' : Hp} {G : Nat → Nat} {cs : Value} {n : Nat} {l : List Wd} (h : HInv w wr hb xb vb tb x vw tw m G cs n l) (hw : Went wr w' hb G m') :
    ∃ G', HInv w w' hb xb vb tb x vw tw m' G' cs n l := by
  obtain ⟨G', h1, h2⟩ := hw.heap
  have z := fun k hk hz => (h2 k hk).2 hz
  refine ⟨G', h.below.trans (hw.keeps.below h.below.size h.low), h1, fun j hj => z j (Nat.lt_of_lt_of_le hj h.below.size) (h.low j hj), z _ (lt_at h.kx) h.gx, z _ (lt_at h.kv) h.gv, z _ (lt_at h.kt) h.gt,
    (hw.keeps.block _ (lt_at h.kx) h.gx).trans h.kx, (hw.keeps.block _ (lt_at h.kv) h.gv).trans h.kv, (hw.keeps.block _ (lt_at h.kt) h.gt).trans h.kt,
    own_block h.row (fun k hk => hw.keeps.block k (h.row.lt k hk).2 (h.sep k hk).1), fun c hc => ⟨z c (h.row.lt c hc).2 (h.sep c hc).1, (h.sep c hc).2⟩⟩
/-- The row of conses grows. -/
theorem HInv.grow {w wr w' : World} {hb xb vb tb : Nat} {x vw tw : Wd} {m : Hp} {G : Nat → Nat} {cs cs' : Value} {n n' : Nat} {l l' : List Wd} (h : HInv w wr hb xb vb tb x vw tw m G cs n l)
    (hr : Row w' (fun k => if k < wr.heap.size then (if cs.ownBlock = some k then 1 else 0) else 1) 1 28 2 cs' n' (wcells l')) (hg : wr.grownBy w' cs.ownBlock) : HInv w w' hb xb vb tb x vw tw m G cs' n' l' := by
  have hof : ∀ k, k < wr.heap.size → cs.ownBlock ≠ some k → w'.heap[k]? = wr.heap[k]? := fun k hk hne => hg.block k hk (fun e => hne e.symm)
  have hsep : ∀ c, cs'.ownBlock = some c → (cs.ownBlock = some c ∨ wr.heap.size ≤ c) := by
    intro c hc
    have h1 := hr.lab c hc
    by_cases h2 : c < wr.heap.size
    · rw [if_pos h2] at h1
      by_cases h3 : cs.ownBlock = some c
      · exact .inl h3
      · rw [if_neg h3] at h1; cases h1
    · exact .inr (by omega)
  refine ⟨h.below.grown hg h.below.size (fun k hk => (h.row.lt k hk).1), h.heap.keep (fun k hk hz => hof k hk (fun e => hz (h.sep k e).1)), h.low, h.gx, h.gv, h.gt,
    (hof _ (lt_at h.kx) (fun e => (h.sep _ e).2.1 rfl)).trans h.kx, (hof _ (lt_at h.kv) (fun e => (h.sep _ e).2.2.1 rfl)).trans h.kv, (hof _ (lt_at h.kt) (fun e => (h.sep _ e).2.2.2 rfl)).trans h.kt, ?_, fun c hc => ?_⟩
  · obtain ⟨h1, h2⟩ := hr.own
    refine ⟨h1, ?_⟩
    rcases h2 with h2 | ⟨g, cap, cur, hv, hg0, hr2⟩
    · exact .inl h2
    · refine .inr ⟨g, cap, cur, hv, ?_, hr2⟩
      rcases hsep g (by rw [hv]; rfl) with h3 | h3
      · exact (h.row.lt g h3).1
      · exact Nat.le_trans h.below.size h3
  · rcases hsep c hc with h3 | h3
    · exact h.sep c h3
    · have := lt_at h.kx
      have := lt_at h.kv
      have := lt_at h.kt
      exact ⟨h.heap.new c h3, by omega, by omega, by omega⟩
theorem alloc2_a (w : World) (o1 o2 : Obj) : ((w.alloc o1).alloc o2).drew.heap[w.heap.size]? = some o1 := (Below.heap_alloc _ _ _ (by simp)).trans (alloc_at w o1)
theorem alloc2_b (w : World) (o1 o2 : Obj) : ((w.alloc o1).alloc o2).drew.heap[w.heap.size + 1]? = some o2 := by
  have := alloc_at (w.alloc o1) o2
  rw [show (w.alloc o1).heap.size = w.heap.size + 1 from by simp] at this
  exact this
theorem alloc2_below (w : World) (o1 o2 : Obj) : Below w.heap.size w ((w.alloc o1).alloc o2).drew := (((Below.refl _ _).alloc (Nat.le_refl _) _).alloc (by simp) _).drew
/-- Two blocks of two cells written over. -/
theorem over2 {w w' : World} {b1 b2 : Nat} {a c x y : Wd} (h1 : w.heap[b1]? = some (wobj a)) (h2 : w.heap[b2]? = some (wobj c)) (hne : b1 ≠ b2) (B : Nat) (hB1 : B ≤ b1) (hB2 : B ≤ b2)
    (hw : w' = ((((w.setCell ⟨b1, 0, none⟩ (.int .i64 x.1)).setCell ⟨b1, 1, none⟩ (.int .i64 x.2)).setCell ⟨b2, 0, none⟩ (.int .i64 y.1)).setCell ⟨b2, 1, none⟩ (.int .i64 y.2)) ∨
      w' = ((((w.setCell ⟨b2, 0, none⟩ (.int .i64 y.1)).setCell ⟨b2, 1, none⟩ (.int .i64 y.2)).setCell ⟨b1, 0, none⟩ (.int .i64 x.1)).setCell ⟨b1, 1, none⟩ (.int .i64 x.2))) :
    w'.heap[b1]? = some (wobj x) ∧ w'.heap[b2]? = some (wobj y) ∧ Below B w w' := by
  rcases hw with rfl | rfl
  · refine ⟨?_, ?_, ((((Below.refl _ _).setCell hB1 _).setCell hB1 _).setCell hB2 _).setCell hB2 _⟩
    · rw [setCell_off _ hne, setCell_off _ hne]
      exact setCell_at (i := 1) (setCell_at (i := 0) h1 _) _
    · have h3 : ((w.setCell ⟨b1, 0, none⟩ (.int .i64 x.1)).setCell ⟨b1, 1, none⟩ (.int .i64 x.2)).heap[b2]? = some (wobj c) := by rw [setCell_off _ hne.symm, setCell_off _ hne.symm]; exact h2
      exact setCell_at (i := 1) (setCell_at (i := 0) h3 _) _
  · refine ⟨?_, ?_, ((((Below.refl _ _).setCell hB2 _).setCell hB2 _).setCell hB1 _).setCell hB1 _⟩
    · have h3 : ((w.setCell ⟨b2, 0, none⟩ (.int .i64 y.1)).setCell ⟨b2, 1, none⟩ (.int .i64 y.2)).heap[b1]? = some (wobj a) := by rw [setCell_off _ hne, setCell_off _ hne]; exact h1
      exact setCell_at (i := 1) (setCell_at (i := 0) h3 _) _
    · rw [setCell_off _ hne.symm, setCell_off _ hne.symm]
      exact setCell_at (i := 1) (setCell_at (i := 0) h2 _) _
/-- The words of the conses. -/
def cnl (BL k : Nat) : List Wd := (List.range k).map fun j => ((2 : Int), ((BL + j : Nat) : Int))
theorem cnl_at (BL k j : Nat) (h : j < k) : (cnl BL k)[j]? = some (2, ((BL + j : Nat) : Int)) := by
  simp [cnl, List.getElem?_range h]
theorem cells_snoc (BL k : Nat) (cn : Int) (h : ((BL + k : Nat) : Int) = cn) : wcells (cnl BL k) ++ [.int .i64 2, .int .i64 cn] = wcells (cnl BL (k + 1)) := by
  unfold cnl
  rw [List.range_succ, List.map_append, wcells_append, ← h]
  rfl
/-- The heap of HeapHolds behind the two settings. -/
def hpF (B : List (Option Ob)) (L : List Wd) (p : Nat) (x : Wd) : Hp := ⟨200, B.set 0 (some (.vec (L.set p x))) ++ L.mapIdx (fun j a => some (.pair a (if j = p then x else (4, 0)))), []⟩
theorem hpF_nil (B : List (Option Ob)) (p : Nat) (x : Wd) (h : B[0]? = some (some (.vec []))) : hpF B [] p x = hpH B [] 0 := by
  simp only [hpF, hpH, List.set_nil, List.mapIdx_nil, List.take_nil, List.map_nil, List.append_nil]
  congr 1
  exact List.ext_getElem? fun j => by
    by_cases e : 0 = j
    · subst e
      rw [List.getElem?_set_self (List.getElem?_eq_some_iff.1 h).1, h]
    · rw [List.getElem?_set_ne e]
theorem hpH_full (B : List (Option Ob)) (L : List Wd) : hpH B L L.length = ⟨200, B ++ L.map (fun a => some (.pair a (4, 0))), []⟩ := by simp [hpH]
theorem hpF_eq (B : List (Option Ob)) (L : List Wd) (p : Nat) (x a : Wd) (h : L[p]? = some a) (hB : 0 < B.length) : ((hpH B L L.length).set 0 (.vec (L.set p x))).set (B.length + p) (.pair a x) = hpF B L p x := by
  rw [hpH_full]
  obtain ⟨hp, rfl⟩ := List.getElem?_eq_some_iff.1 h
  simp only [Hp.set, hpF]
  congr 1
  refine List.ext_getElem? fun j => ?_
  by_cases hj : j < B.length
  · rw [List.getElem?_set_ne (by omega), List.getElem?_append_left (by simpa using hj)]
    by_cases e : 0 = j
    · subst e
      rw [List.getElem?_set_self (by simp; omega), List.getElem?_set_self hB]
    · rw [List.getElem?_set_ne e, List.getElem?_set_ne e, List.getElem?_append_left hj]
  · obtain ⟨q, rfl⟩ : ∃ q, j = B.length + q := ⟨j - B.length, by omega⟩
    have e1 : (B.set 0 (some (.vec (L.set p x)))).length = B.length := by simp
    rw [List.getElem?_append_right (by rw [e1]; omega), e1, show B.length + q - B.length = q by omega, List.getElem?_mapIdx]
    by_cases e : p = q
    · subst e
      rw [List.getElem?_set_self (by simp; omega)]
      simp [List.getElem?_eq_getElem hp]
    · rw [List.getElem?_set_ne (by omega), List.getElem?_set_ne (by omega), List.getElem?_append_right (by omega), show B.length + q - B.length = q by omega, List.getElem?_map]
      cases hq : L[q]? with
      | none => rfl
      | some b => simp [show ¬ q = p from fun h => e h.symm]
theorem find_at0 (m : Hp) (n : Nat) (o : Ob) (h : m.obs[n]? = some (some o)) : m.find (o.kind, (n : Int)) = some o := by
  simp [Hp.find, h]
theorem hpH_vec (B : List (Option Ob)) (L : List Wd) (k : Nat) (h : B[0]? = some (some (.vec L))) : (hpH B L k).find (4, 0) = some (.vec L) := by
  refine find_at0 _ 0 (.vec L) ?_
  have := (List.getElem?_eq_some_iff.1 h).1
  simp only [hpH]
  rw [List.getElem?_append_left this]; exact h
theorem hpF_vec (B : List (Option Ob)) (L : List Wd) (p : Nat) (x : Wd) (h : 0 < B.length) : (hpF B L p x).find (4, 0) = some (.vec (L.set p x)) := by
  refine find_at0 _ 0 (.vec (L.set p x)) ?_
  simp only [hpF]
  rw [List.getElem?_append_left (by simpa using h), List.getElem?_set_self h]
theorem hpF_pair (B : List (Option Ob)) (L : List Wd) (p j : Nat) (x a : Wd) (h : L[j]? = some a) : (hpF B L p x).find (2, ((B.length + j : Nat) : Int)) = some (.pair a (if j = p then x else (4, 0))) := by
  refine find_at0 _ (B.length + j) (.pair a (if j = p then x else (4, 0))) ?_
  simp only [hpF]
  rw [List.getElem?_append_right (by simp), List.getElem?_mapIdx]
  simp [h]
theorem hpS_pair (B : List (Option Ob)) (L : List Wd) (p : Nat) (x a : Wd) (h : L[p]? = some a) (hB : 0 < B.length) : ((hpH B L L.length).set 0 (.vec (L.set p x))).find (2, ((B.length + p : Nat) : Int)) = some (.pair a (4, 0)) := by
  refine find_at0 _ (B.length + p) (.pair a (4, 0)) ?_
  rw [hpH_full]
  simp only [Hp.set]
  rw [List.getElem?_set_ne (by omega), List.getElem?_append_right (by omega)]
  simp [h]
/-- A cell of a block of the caller's own is written. -/
theorem HInv.poke {w wr : World} {hb xb vb tb : Nat} {x vw tw : Wd} {m : Hp} {G : Nat → Nat} {cs : Value} {n : Nat} {l : List Wd} (h : HInv w wr hb xb vb tb x vw tw m G cs n l) {p : Addr} (u : Value)
    (h0 : w.heap.size ≤ p.block) (hG : G p.block = 0) (h1 : p.block ≠ xb) (h2 : p.block ≠ vb) (h3 : p.block ≠ tb) (h4 : cs.ownBlock ≠ some p.block) : HInv w (wr.setCell p u) hb xb vb tb x vw tw m G cs n l :=
  have hof : ∀ k, k ≠ p.block → (wr.setCell p u).heap[k]? = wr.heap[k]? := fun k hk => setCell_off u hk
  ⟨h.below.setCell h0 u, h.heap.keep (fun k _ hz => hof k (fun e => hz (by rw [e]; exact hG))), h.low, h.gx, h.gv, h.gt, (hof _ h1.symm).trans h.kx, (hof _ h2.symm).trans h.kv, (hof _ h3.symm).trans h.kt,
    own_block h.row (fun k hk => hof k (fun e => h4 (by rw [← e]; exact hk))), h.sep⟩
/-- Cons, in any world behind wr. -/
theorem HInv.cons {w wr : World} {hb xb vb tb : Nat} {x tw a : Wd} {G : Nat → Nat} {cs : Value} {n k : Nat} {l : List Wd} {Bs : List (Option Ob)} {L : List Wd} (h : HInv w wr hb xb vb tb x (4, 0) tw (hpH Bs L k) G cs n l)
    (ha : L[k]? = some a) (hB : Bs.length ≤ 2) (hL : L.length ≤ 60) {cn : Int} (hcn : ((Bs.length + k : Nat) : Int) = cn) (W : World) (hW : Below wr.heap.size wr W) :
    Calls Tryd.prog 11 #[hptr hb, wv a, wv (4, 0)] W fun e w' => e = .returned (.tuple #[wv (2, cn), .int .i64 0]) ∧ ∃ G', HInv w w' hb xb vb tb x (4, 0) tw (hpH Bs L (k + 1)) G' cs n l ∧
      (∀ c, wr.heap.size ≤ c → c < W.heap.size → w'.heap[c]? = W.heap[c]? ∧ G' c = 0) ∧ W.heap.size ≤ w'.heap.size := by
  have h2 := h.junk hW
  subst hcn
  refine (cons_any h2.heap (hpH_adds Bs L k a ha hB hL h2.heap.ok)).mono ?_
  rintro e w' ⟨he, hw⟩
  have hz := fun c hc hc2 => hw.keeps.block c hc hc2
  obtain ⟨G', h1, hg⟩ := hw.heap
  have z := fun k hk hz => (hg k hk).2 hz
  refine ⟨he, G', ⟨h2.below.trans (hw.keeps.below h2.below.size h2.low), h1, fun j hj => z j (Nat.lt_of_lt_of_le hj h2.below.size) (h2.low j hj), z _ (lt_at h2.kx) h2.gx, z _ (lt_at h2.kv) h2.gv, z _ (lt_at h2.kt) h2.gt,
    (hw.keeps.block _ (lt_at h2.kx) h2.gx).trans h2.kx, (hw.keeps.block _ (lt_at h2.kv) h2.gv).trans h2.kv, (hw.keeps.block _ (lt_at h2.kt) h2.gt).trans h2.kt,
    own_block h2.row (fun k hk => hw.keeps.block k (h2.row.lt k hk).2 (h2.sep k hk).1), fun c hc => ⟨z c (h2.row.lt c hc).2 (h2.sep c hc).1, (h2.sep c hc).2⟩⟩, fun c hc hc2 => ?_, hw.keeps.size⟩
  have hgc := h.heap.new c hc
  exact ⟨hz c hc2 hgc, z c hc2 hgc⟩
theorem hpF_car (B : List (Option Ob)) (L : List Wd) (p j : Nat) (x a : Wd) (h : L[j]? = some a) : (hpF B L p x).car (2, ((B.length + j : Nat) : Int)) = (a, 0) := by
  unfold Hp.car
  rw [if_neg (by intro e; cases e), hpF_pair B L p j x a h]
theorem hpF_cdr (B : List (Option Ob)) (L : List Wd) (p j : Nat) (x a : Wd) (h : L[j]? = some a) : (hpF B L p x).cdr (2, ((B.length + j : Nat) : Int)) = (if j = p then x else (4, 0), 0) := by
  unfold Hp.cdr
  rw [if_neg (by intro e; cases e), hpF_pair B L p j x a h]
theorem HInv.toRow {w wr : World} {hb xb vb tb : Nat} {x vw tw : Wd} {m : Hp} {G : Nat → Nat} {cs : Value} {n : Nat} {l : List Wd} (h : HInv w wr hb xb vb tb x vw tw m G cs n l) :
    Row wr (fun k => if cs.ownBlock = some k then 1 else 0) 1 28 2 cs n (wcells l) := ⟨own_base h.row (Nat.zero_le _), fun _ hk => if_pos hk⟩
/-- The two settings. -/
theorem HInv.setat {w wr : World} {hb xb vb tb : Nat} {x tw : Wd} {G : Nat → Nat} {cs : Value} {n : Nat} {l : List Wd} {Bs : List (Option Ob)} {L : List Wd} (h : HInv w wr hb xb vb tb x (4, 0) tw (hpH Bs L L.length) G cs n l)
    (hB : Bs[0]? = some (some (.vec L))) (p : Nat) (hp : p < L.length) (W : World) (hW : Below wr.heap.size wr W) :
    Calls Tryd.prog 25 #[hptr hb, wv (4, 0), .int .i64 p, wv x] W fun e w' => e = .returned (.int .i64 0) ∧ W.heap.size ≤ w'.heap.size ∧ ∃ G', HInv w w' hb xb vb tb x (4, 0) tw ((hpH Bs L L.length).set 0 (.vec (L.set p x))) G' cs n l := by
  have h2 := h.junk hW
  refine (setat_ok h2.heap (4, 0) x p L (hpH_vec Bs L _ hB) hp).mono ?_
  rintro e w' ⟨he, hw⟩
  exact ⟨he, hw.keeps.size, h2.went hw⟩
theorem HInv.setcdr {w wr : World} {hb xb vb tb : Nat} {x tw : Wd} {G : Nat → Nat} {cs : Value} {n : Nat} {l : List Wd} {Bs : List (Option Ob)} {L : List Wd} {p : Nat} {a : Wd} (h : HInv w wr hb xb vb tb x (4, 0) tw ((hpH Bs L L.length).set 0 (.vec (L.set p x))) G cs n l)
    (hB : 0 < Bs.length) (ha : L[p]? = some a) {cn : Int} (hcn : ((Bs.length + p : Nat) : Int) = cn) (W : World) (hW : Below wr.heap.size wr W) :
    Calls Tryd.prog 26 #[hptr hb, wv (2, cn), wv x] W fun e w' => e = .returned (.int .i64 0) ∧ ∃ G', HInv w w' hb xb vb tb x (4, 0) tw (hpF Bs L p x) G' cs n l := by
  have h2 := h.junk hW
  subst hcn
  refine (setcdr_ok h2.heap (2, ((Bs.length + p : Nat) : Int)) x a (4, 0) (hpS_pair Bs L p x a ha hB)).mono ?_
  rintro e w' ⟨he, hw⟩
  rw [show ((2, ((Bs.length + p : Nat) : Int)) : Wd).2.toNat = Bs.length + p from Int.toNat_natCast _, hpF_eq Bs L p x a ha hB] at hw
  exact ⟨he, h2.went hw⟩
theorem HInv.car {w wr : World} {hb xb vb tb : Nat} {x vw tw a : Wd} {G : Nat → Nat} {cs : Value} {n k p : Nat} {l : List Wd} {Bs : List (Option Ob)} {L : List Wd} (h : HInv w wr hb xb vb tb x vw tw (hpF Bs L p x) G cs n l)
    (ha : L[k]? = some a) {cn : Int} (hcn : ((Bs.length + k : Nat) : Int) = cn) (W : World) (hW : Below wr.heap.size wr W) :
    Calls Tryd.prog 18 #[hptr hb, wv (2, cn)] W fun e w' => e = .returned (.tuple #[wv a, .int .i64 0]) ∧ Below W.heap.size W w' := by
  subst hcn
  have h1 := car_any (h.junk hW).heap (2, ((Bs.length + k : Nat) : Int))
  rw [hpF_car Bs L p k x a ha] at h1
  exact h1
theorem HInv.cdr {w wr : World} {hb xb vb tb : Nat} {x vw tw a tail : Wd} {G : Nat → Nat} {cs : Value} {n k p : Nat} {l : List Wd} {Bs : List (Option Ob)} {L : List Wd} (h : HInv w wr hb xb vb tb x vw tw (hpF Bs L p x) G cs n l)
    (ha : L[k]? = some a) (ht : tail = if k = p then x else (4, 0)) {cn : Int} (hcn : ((Bs.length + k : Nat) : Int) = cn) (W : World) (hW : Below wr.heap.size wr W) :
    Calls Tryd.prog 28 #[hptr hb, wv (2, cn)] W fun e w' => e = .returned (.tuple #[wv tail, .int .i64 0]) ∧ Below W.heap.size W w' := by
  subst hcn
  have h1 := cdr_any (h.junk hW).heap (2, ((Bs.length + k : Nat) : Int))
  rw [hpF_cdr Bs L p k x a ha, ← ht] at h1
  exact h1
/-- The cells of the j-th cons. -/
theorem HInv.cellsAt {w wr : World} {hb xb vb tb : Nat} {x vw tw : Wd} {m : Hp} {G : Nat → Nat} {g n c : Nat} {l : List Wd} (h : HInv w wr hb xb vb tb x vw tw m G (.slice (some ⟨g, 0, none⟩) n c) n l) {j : Nat} {a : Wd} (ha : l[j]? = some a) :
    wr.cell? ⟨g, j * 2, none⟩ = some (.int .i64 a.1) ∧ wr.cell? ⟨g, j * 2 + 1, none⟩ = some (.int .i64 a.2) :=
  ⟨h.toRow.cell (wcells_fst l j a ha), h.toRow.cell (wcells_snd l j a ha)⟩
end Go.Proofs.YtleppjdmcjocmaaDoor
