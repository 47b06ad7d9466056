/- The contracts of TextOf, VecOf, At and SetAt on a heap that stands. -/
import Derived.Test.YtleppjdmcjocmaaDoorHpOps
namespace Go.Proofs.YtleppjdmcjocmaaDoor
open Go.RowKit Go.Lib
theorem textof_no {w : World} {hb : Nat} {G : Nat → Nat} {m : Hp} (h : HeapAt w hb G m) (x : Wd) (hf : ∀ s n, m.find x ≠ some (.text s n)) :
    Calls Tryd.prog 29 #[hptr hb, wv x] w fun e w' => e = .returned (.tuple #[.string ⟨#[]⟩, .int .i64 6]) ∧ Below w.heap.size w w' := by
  cases hf2 : m.find x with
  | none => exact textof_not hb x _ w h.valid (h.find_none hf2) as_nil_text
  | some o =>
    obtain ⟨v, _, hv, cF, _⟩ := h.find_some hf2
    exact textof_not hb x _ w h.valid cF (hv.not_text (by
      intro hk
      cases o with
      | pair a d => cases hk
      | text s n => exact hf s n hf2
      | vec l => cases hk
      | code le mo de bs cs => cases hk))
theorem textof_ok {w : World} {hb : Nat} {G : Nat → Nat} {m : Hp} (h : HeapAt w hb G m) (x : Wd) (s : ByteArray) (n : Nat) (hf : m.find x = some (.text s n)) :
    Calls Tryd.prog 29 #[hptr hb, wv x] w fun e w' => e = .returned (.tuple #[.string s, .int .i64 0]) ∧ Below w.heap.size w w' := by
  obtain ⟨v, _, ⟨b, rfl, hG, hh⟩, cF, _⟩ := h.find_some hf
  exact textof_yes hb b x s w h.valid cF (lt_at hh) (cell_at hh)
theorem vecof_no {w : World} {hb : Nat} {G : Nat → Nat} {m : Hp} (h : HeapAt w hb G m) (x : Wd) (hf : ∀ l, m.find x ≠ some (.vec l)) :
    Calls Tryd.prog 27 #[hptr hb, wv x] w fun e w' => e = .returned (.tuple #[.slice none 0 0, .int .i64 6]) ∧ Below w.heap.size w w' := by
  cases hf2 : m.find x with
  | none => exact vecof_not hb x _ w h.valid (h.find_none hf2) as_nil_vector
  | some o =>
    obtain ⟨v, _, hv, cF, _⟩ := h.find_some hf2
    exact vecof_not hb x _ w h.valid cF (hv.not_vec (by
      intro hk
      cases o with
      | pair a d => cases hk
      | text s n => cases hk
      | vec l => exact hf l hf2
      | code le mo de bs cs => cases hk))
theorem Row.src {w : World} {G : Nat → Nat} {L e size n : Nat} {v : Value} {xs : List Value} (h : Row w G L e size v n xs) : Src w size v n xs := Src.of_own h.own
theorem osize_le {l : List (Option Ob)} {i : Nat} {o : Option Ob} (h : l[i]? = some o) : osize o ≤ total l := by
  induction l generalizing i with
  | nil => simp at h
  | cons y l ih =>
    cases i with
    | zero => simp at h; subst h; simp [total]
    | succ i => simp at h; have := ih h; simp [total] at this ⊢; omega
theorem vecof_ok {w : World} {hb : Nat} {G : Nat → Nat} {m : Hp} (h : HeapAt w hb G m) (x : Wd) (l : List Wd) (hl : l.length ≤ 65536) (hf : m.find x = some (.vec l)) :
    Calls Tryd.prog 27 #[hptr hb, wv x] w fun e w' => ∃ v', e = .returned (.tuple #[v', .int .i64 0]) ∧ w'.ownsRow w.heap.size 28 2 v' l.length (wcells l) ∧ Below w.heap.size w w' := by
  obtain ⟨v, _, ⟨b, sv, rfl, hG, hh, hr⟩, cF, _⟩ := h.find_some hf
  obtain ⟨a, c, rfl⟩ := hr.slice
  exact vecof_yes hb b l.length c a (wcells l) x w h.valid cF (lt_at hh) (cell_at hh) fun W hW => copy_word _ _ _ W (hr.src.below hW (fun k hk => hr.lt k hk)) (wcells_one l) (by omega)
/-- What element comes to, in any world in which the blocks of w stand. -/
abbrev ElemIn (w : World) (hb : Nat) (x : Wd) (i : Int) (p : Value) (er : Int) : Prop := ∀ W, Old w W → w.heap.size ≤ W.heap.size → Calls Tryd.prog 48 #[hptr hb, wv x, .int .i64 i] W fun e w' => e = .returned (.tuple #[p, .int .i64 er]) ∧ Below W.heap.size W w'
theorem Old.trans {a b c : World} (h : Old a b) (k : Old b c) (hs : a.heap.size ≤ b.heap.size) : Old a c := fun i hi => (k i (by omega)).trans (h i hi)
theorem ValidIn.old {w W : World} {hb : Nat} (h : ValidIn w hb) (hW : Old w W) (hs : w.heap.size ≤ W.heap.size) : ValidIn W hb := fun V hV => h V (hW.trans hV hs)
theorem FindIn.old {w W : World} {hb : Nat} {x : Wd} {v : Value} (h : FindIn w hb x v) (hW : Old w W) (hs : w.heap.size ≤ W.heap.size) : FindIn W hb x v := fun V hV hs2 => h V (hW.trans hV hs) (by omega)
theorem Old.cell {w W : World} (h : Old w W) {p : Addr} (hp : p.block < w.heap.size) : W.cell? p = w.cell? p := World.cell?_of_block (w := w) (h _ hp)
theorem Old.frozen {w W : World} (h : Old w W) {p : Addr} (hp : p.block < w.heap.size) : W.frozen? p = w.frozen? p := World.frozen?_of_block (w := w) (h _ hp)
theorem HeapAt.elem_no {w : World} {hb : Nat} {G : Nat → Nat} {m : Hp} (h : HeapAt w hb G m) (x : Wd) (i : Int) (hf : ∀ l, m.find x ≠ some (.vec l)) : ElemIn w hb x i (.pointer none) 6 := by
  intro W hW hs
  cases hf2 : m.find x with
  | none => exact elem_not hb x i _ W (h.valid.old hW hs) ((h.find_none hf2).old hW hs) as_nil_vector
  | some o =>
    obtain ⟨v, _, hv, cF, _⟩ := h.find_some hf2
    exact elem_not hb x i _ W (h.valid.old hW hs) (cF.old hW hs) (hv.not_vec (by
      intro hk
      cases o with
      | pair a d => cases hk
      | text s n => cases hk
      | vec l => exact hf l hf2
      | code le mo de bs cs => cases hk))
theorem HeapAt.elem_out {w : World} {hb : Nat} {G : Nat → Nat} {m : Hp} (h : HeapAt w hb G m) (x : Wd) (i : Int) (l : List Wd) (hf : m.find x = some (.vec l)) (hi : i < 0 ∨ (l.length : Int) ≤ i) : ElemIn w hb x i (.pointer none) 3 := by
  intro W hW hs
  obtain ⟨v, _, ⟨b, sv, rfl, hG, hh, hr⟩, cF, _⟩ := h.find_some hf
  obtain ⟨a, c, rfl⟩ := hr.slice
  exact elem_range hb b l.length c a x i W (h.valid.old hW hs) (cF.old hW hs) (by have := lt_at hh; omega) ((hW.cell (lt_at hh)).trans (cell_at hh)) hi
/-- Where element i of a vector lies. -/
theorem HeapAt.elem_in {w : World} {hb : Nat} {G : Nat → Nat} {m : Hp} (h : HeapAt w hb G m) (x : Wd) (i : Nat) (l : List Wd) (hf : m.find x = some (.vec l)) (hi : i < l.length) :
    ∃ b g c cur, m.obs[x.2.toNat]? = some (some (.vec l)) ∧ G b = 4 + x.2.toNat ∧ G g = 4 + x.2.toNat ∧ g ≠ b ∧ w.heap[b]? = some (.cells #[.slice (some ⟨g, 0, none⟩) l.length c] 84 (0, 0)) ∧ w.heap[g]? = some (.cells cur 28 (0, 0)) ∧
      l.length ≤ c ∧ c ≤ maxLen ∧ cur.size = c * 2 ∧ cur.toList.take (l.length * 2) = wcells l ∧ CellIs w hb x.2.toNat (.iface 82 (.pointer (some ⟨b, 0, none⟩))) ∧ ElemIn w hb x i (.pointer (some ⟨g, i * 2, none⟩)) 0 := by
  obtain ⟨v, hob, ⟨b, sv, rfl, hG, hh, hr⟩, cF, hci⟩ := h.find_some hf
  obtain ⟨g, c, cur, rfl, hg2, hgh, h1, h2, h3, h4⟩ := hr.at (by omega)
  have hne : g ≠ b := by
    intro e
    subst e
    rw [if_pos rfl] at hg2
    omega
  rw [if_neg hne] at hg2
  exact ⟨b, g, c, cur, hob, hG, hg2, hne, hh, hgh, h1, h2, h3, h4, hci, fun W hW hs => elem_yes hb b l.length c g i x W (h.valid.old hW hs) (cF.old hW hs) (by have := lt_at hh; omega) ((hW.cell (lt_at hh)).trans (cell_at hh)) hi⟩
set_option maxHeartbeats 1000000 in
theorem setat_err (hb : Nat) (x y : Wd) (i er : Int) (w : World) (he : (er == 0) = false) (cE : ElemIn w hb x i (.pointer none) er) :
    Calls Tryd.prog 25 #[hptr hb, wv x, .int .i64 i, wv y] w fun e w' => e = .returned (.int .i64 er) ∧ Below w.heap.size w w' := by
  have CE := Lib.hid cE
  have he2 : (er != 0) = true := by simpa using he
  clear cE
  go_enter Tryd.func25, Tryd.ntmps25
  go_wp2_with fail
  refine (CE.out _ (((Old.refl _).alloc (Nat.le_refl _) _).alloc (by simp) _) (by simp; omega)).mono ?_
  rintro e W ⟨rfl, hb1⟩
  have hbw : Below w.heap.size w W := (((Below.refl _ _).alloc (Nat.le_refl _) _).alloc (by simp) _).trans (hb1.mono (by simp; omega))
  have HP := Lib.hid hbw
  clear hb1 hbw CE
  go_wp2
  go_ret
  exact ⟨rfl, HP.out⟩
set_option maxHeartbeats 1000000 in
theorem setat_put (hb g i2 : Nat) (x y : Wd) (i u0 u1 : Int) (w : World) (cE : ElemIn w hb x i (.pointer (some ⟨g, i2, none⟩)) 0) (hg : g < w.heap.size)
    (q0 : w.cell? ⟨g, i2, none⟩ = some (.int .i64 u0)) (q1 : w.cell? ⟨g, i2 + 1, none⟩ = some (.int .i64 u1)) (f0 : ∀ j, w.frozen? ⟨g, j, none⟩ = false) :
    Calls Tryd.prog 25 #[hptr hb, wv x, .int .i64 i, wv y] w fun e w' => e = .returned (.int .i64 0) ∧ ∃ W, Below w.heap.size w W ∧ w' = (W.setCell ⟨g, i2, none⟩ (.int .i64 y.1)).setCell ⟨g, i2 + 1, none⟩ (.int .i64 y.2) := by
  have CE := Lib.hid cE
  clear cE
  go_enter Tryd.func25, Tryd.ntmps25
  go_wp2_with fail
  refine (CE.out _ (((Old.refl _).alloc (Nat.le_refl _) _).alloc (by simp) _) (by simp; omega)).mono ?_
  rintro e W ⟨rfl, hb1⟩
  have k1 : W.heap[w.heap.size + 1]? = some (.cells #[.int .i64 y.1, .int .i64 y.2] 28 (0, 0)) := (hb1.block _ (by simp)).trans (by
    have := alloc_at (w.alloc (.cells #[.int .i64 x.1, .int .i64 x.2] 28)) (.cells #[.int .i64 y.1, .int .i64 y.2] 28)
    rw [show (w.alloc (.cells #[.int .i64 x.1, .int .i64 x.2] 28)).heap.size = w.heap.size + 1 from by simp] at this
    exact this)
  have hbw : Below w.heap.size w W := (((Below.refl _ _).alloc (Nat.le_refl _) _).alloc (by simp) _).trans (hb1.mono (by simp; omega))
  have p0 := (hbw.cell (p := ⟨g, i2, none⟩) hg).trans q0
  have p1 := (hbw.cell (p := ⟨g, i2 + 1, none⟩) hg).trans q1
  have g0 := (hbw.frozen (p := ⟨g, i2, none⟩) hg).trans (f0 _)
  have g1 := (hbw.frozen (p := ⟨g, i2 + 1, none⟩) hg).trans (f0 _)
  have c0 : W.cell? ⟨w.heap.size + 1, 0, none⟩ = some (.int .i64 y.1) := cell_at k1
  have c1 : W.cell? ⟨w.heap.size + 1, 1, none⟩ = some (.int .i64 y.2) := cell_at k1
  have HP := Lib.hid hbw
  clear hb1 hbw CE k1 q0 q1 f0
  go_wp2
  go_ret
  exact ⟨rfl, W, HP.out, rfl⟩
theorem setat_no {w : World} {hb : Nat} {G : Nat → Nat} {m : Hp} (h : HeapAt w hb G m) (x y : Wd) (i : Int) (hf : ∀ l, m.find x ≠ some (.vec l)) :
    Calls Tryd.prog 25 #[hptr hb, wv x, .int .i64 i, wv y] w fun e w' => e = .returned (.int .i64 6) ∧ Below w.heap.size w w' := setat_err hb x y i 6 w rfl (h.elem_no x i hf)
theorem setat_out {w : World} {hb : Nat} {G : Nat → Nat} {m : Hp} (h : HeapAt w hb G m) (x y : Wd) (i : Int) (l : List Wd) (hf : m.find x = some (.vec l)) (hi : i < 0 ∨ (l.length : Int) ≤ i) :
    Calls Tryd.prog 25 #[hptr hb, wv x, .int .i64 i, wv y] w fun e w' => e = .returned (.int .i64 3) ∧ Below w.heap.size w w' := setat_err hb x y i 3 w rfl (h.elem_out x i l hf hi)
theorem setat_ok {w : World} {hb : Nat} {G : Nat → Nat} {m : Hp} (h : HeapAt w hb G m) (x y : Wd) (i : Nat) (l : List Wd) (hf : m.find x = some (.vec l)) (hi : i < l.length) :
    Calls Tryd.prog 25 #[hptr hb, wv x, .int .i64 i, wv y] w fun e w' => e = .returned (.int .i64 0) ∧ Went w w' hb G (m.set x.2.toNat (.vec (l.set i y))) := by
  obtain ⟨b, g, c, cur, hob, hG, hG2, hne, hh, hgh, h1, h2, h3, h4, hci, cE⟩ := h.elem_in x i l hf hi
  obtain ⟨old, hold⟩ : ∃ o, l[i]? = some o := ⟨_, List.getElem?_eq_getElem hi⟩
  have e0 : cur.toList[i * 2]? = some (.int .i64 old.1) := by
    have := wcells_fst l i old hold
    rw [← h4, List.getElem?_take_of_lt (by omega)] at this
    exact this
  have e1 : cur.toList[i * 2 + 1]? = some (.int .i64 old.2) := by
    have := wcells_snd l i old hold
    rw [← h4, List.getElem?_take_of_lt (by omega)] at this
    exact this
  refine (setat_put hb g (i * 2) x y i old.1 old.2 w cE (lt_at hgh) ((cell_at hgh).trans (by simpa using e0)) ((cell_at hgh).trans (by simpa using e1)) (fun j => frozen_at hgh)).mono ?_
  rintro e w' ⟨he, W, hW, hw⟩
  refine ⟨he, went_upd h hob (by simp [Ob.size]) hW hG2 rfl rfl hw ?_⟩
  rintro v hc2 _
  cases hc2.same (hci.below hW)
  have hh2 := (hW.block b (lt_at hh)).trans hh
  have hgh2 := (hW.block g (lt_at hgh)).trans hgh
  refine ⟨b, .slice (some ⟨g, 0, none⟩) l.length c, rfl, hG, ?_, ⟨?_, ?_⟩⟩
  · rw [hw, setCell_off _ hne.symm, setCell_off _ hne.symm, hh2]
  · refine ⟨by simp [wcells_length], .inr ⟨g, c, (cur.setIfInBounds (i * 2) (.int .i64 y.1)).setIfInBounds (i * 2 + 1) (.int .i64 y.2), by simp, Nat.zero_le _, ?_, by simpa using h1, h2, ?_, ?_⟩⟩
    · rw [hw]; exact setCell_at (i := i * 2 + 1) (setCell_at (i := i * 2) hgh2 (.int .i64 y.1)) (.int .i64 y.2)
    · simpa using h3
    · rw [wcells_set l i y hi, ← h4]
      simp [List.take_set]
  · intro k hk
    simp only [Value.ownBlock, Option.some.injEq] at hk
    subst hk
    rw [if_neg hne]
    exact hG2
end Go.Proofs.YtleppjdmcjocmaaDoor
