/- The contract of At on a heap that stands. -/
import Derived.Test.YtleppjdmcjocmaaDoorHpOps2
namespace Go.Proofs.YtleppjdmcjocmaaDoor
open Go.RowKit Go.Lib
set_option maxHeartbeats 1000000 in
theorem at_err (hb : Nat) (x : Wd) (i er : Int) (w : World) (he : (er == 0) = false) (cE : ElemIn w hb x i (.pointer none) er) :
    Calls Tryd.prog 35 #[hptr hb, wv x, .int .i64 i] w fun e w' => e = .returned (.tuple #[wv ((0 : Int), (0 : Int)), .int .i64 er]) ∧ Below w.heap.size w w' := by
  have CE := Lib.hid cE
  have he2 : (er != 0) = true := by simpa using he
  clear cE
  go_enter Tryd.func35, Tryd.ntmps35
  go_wp2_with fail
  refine (CE.out _ (((Old.refl _).alloc (Nat.le_refl _) _).alloc (by simp) _) (by simp; omega)).mono ?_
  rintro e W ⟨rfl, hb1⟩
  have k1 : W.heap[w.heap.size + 1]? = some (.cells #[.int .i64 0, .int .i64 0] 28 (0, 0)) := (hb1.block _ (by simp)).trans (by
    have := alloc_at (w.alloc (.cells #[.int .i64 x.1, .int .i64 x.2] 28)) (.cells #[.int .i64 0, .int .i64 0] 28)
    rw [show (w.alloc (.cells #[.int .i64 x.1, .int .i64 x.2] 28)).heap.size = w.heap.size + 1 from by simp] at this
    exact this)
  have hbw : Below w.heap.size w W := (((Below.refl _ _).alloc (Nat.le_refl _) _).alloc (by simp) _).trans (hb1.mono (by simp; omega))
  have HP := Lib.hid (hbw.setCell (p := ⟨w.heap.size + 1, 0, none⟩) (by simp) (.int .i64 0) |>.setCell (p := ⟨w.heap.size + 1, 1, none⟩) (by simp) (.int .i64 0))
  have c0 : W.cell? ⟨w.heap.size + 1, 0, none⟩ = some (.int .i64 0) := cell_at k1
  have c1 : W.cell? ⟨w.heap.size + 1, 1, none⟩ = some (.int .i64 0) := cell_at k1
  have e0 : W.frozen? ⟨w.heap.size + 1, 0, none⟩ = false := frozen_at k1
  have e1 : W.frozen? ⟨w.heap.size + 1, 1, none⟩ = false := frozen_at k1
  clear hb1 hbw CE k1
  go_wp2
  refine bodyPost_ret (v := .tuple #[wv (0, 0), .int .i64 er]) ?_ rfl ⟨rfl, ?_⟩
  · simp [results, Tryd.results35, go_sem, c0, c1]
  · exact HP.out
set_option maxHeartbeats 1000000 in
theorem at_get (hb g i2 : Nat) (x : Wd) (i u0 u1 : Int) (w : World) (cE : ElemIn w hb x i (.pointer (some ⟨g, i2, none⟩)) 0) (hg : g < w.heap.size)
    (q0 : w.cell? ⟨g, i2, none⟩ = some (.int .i64 u0)) (q1 : w.cell? ⟨g, i2 + 1, none⟩ = some (.int .i64 u1)) :
    Calls Tryd.prog 35 #[hptr hb, wv x, .int .i64 i] w fun e w' => e = .returned (.tuple #[wv (u0, u1), .int .i64 0]) ∧ Below w.heap.size w w' := by
  have CE := Lib.hid cE
  clear cE
  go_enter Tryd.func35, Tryd.ntmps35
  go_wp2_with fail
  refine (CE.out _ (((Old.refl _).alloc (Nat.le_refl _) _).alloc (by simp) _) (by simp; omega)).mono ?_
  rintro e W ⟨rfl, hb1⟩
  have k1 : W.heap[w.heap.size + 1]? = some (.cells #[.int .i64 0, .int .i64 0] 28 (0, 0)) := (hb1.block _ (by simp)).trans (by
    have := alloc_at (w.alloc (.cells #[.int .i64 x.1, .int .i64 x.2] 28)) (.cells #[.int .i64 0, .int .i64 0] 28)
    rw [show (w.alloc (.cells #[.int .i64 x.1, .int .i64 x.2] 28)).heap.size = w.heap.size + 1 from by simp] at this
    exact this)
  have hbw : Below w.heap.size w W := (((Below.refl _ _).alloc (Nat.le_refl _) _).alloc (by simp) _).trans (hb1.mono (by simp; omega))
  have p0 := (hbw.cell (p := ⟨g, i2, none⟩) hg).trans q0
  have p1 := (hbw.cell (p := ⟨g, i2 + 1, none⟩) hg).trans q1
  have HP := Lib.hid (hbw.setCell (p := ⟨w.heap.size + 1, 0, none⟩) (by simp) (.int .i64 u0) |>.setCell (p := ⟨w.heap.size + 1, 1, none⟩) (by simp) (.int .i64 u1))
  have c0 : W.cell? ⟨w.heap.size + 1, 0, none⟩ = some (.int .i64 0) := cell_at k1
  have c1 : W.cell? ⟨w.heap.size + 1, 1, none⟩ = some (.int .i64 0) := cell_at k1
  have e0 : W.frozen? ⟨w.heap.size + 1, 0, none⟩ = false := frozen_at k1
  have e1 : W.frozen? ⟨w.heap.size + 1, 1, none⟩ = false := frozen_at k1
  clear hb1 hbw CE k1 q0 q1
  go_wp2
  refine bodyPost_ret (v := .tuple #[wv (u0, u1), .int .i64 0]) ?_ rfl ⟨rfl, ?_⟩
  · simp [results, Tryd.results35, go_sem, c0, c1]
  · exact HP.out
theorem at_no {w : World} {hb : Nat} {G : Nat → Nat} {m : Hp} (h : HeapAt w hb G m) (x : Wd) (i : Int) (hf : ∀ l, m.find x ≠ some (.vec l)) :
    Calls Tryd.prog 35 #[hptr hb, wv x, .int .i64 i] w fun e w' => e = .returned (.tuple #[wv ((0 : Int), (0 : Int)), .int .i64 6]) ∧ Below w.heap.size w w' := at_err hb x i 6 w rfl (h.elem_no x i hf)
theorem at_out {w : World} {hb : Nat} {G : Nat → Nat} {m : Hp} (h : HeapAt w hb G m) (x : Wd) (i : Int) (l : List Wd) (hf : m.find x = some (.vec l)) (hi : i < 0 ∨ (l.length : Int) ≤ i) :
    Calls Tryd.prog 35 #[hptr hb, wv x, .int .i64 i] w fun e w' => e = .returned (.tuple #[wv ((0 : Int), (0 : Int)), .int .i64 3]) ∧ Below w.heap.size w w' := at_err hb x i 3 w rfl (h.elem_out x i l hf hi)
theorem at_ok {w : World} {hb : Nat} {G : Nat → Nat} {m : Hp} (h : HeapAt w hb G m) (x y : Wd) (i : Nat) (l : List Wd) (hf : m.find x = some (.vec l)) (hi : l[i]? = some y) :
    Calls Tryd.prog 35 #[hptr hb, wv x, .int .i64 i] w fun e w' => e = .returned (.tuple #[wv y, .int .i64 0]) ∧ Below w.heap.size w w' := by
  have hl : i < l.length := by
    rcases Nat.lt_or_ge i l.length with h1 | h1
    · exact h1
    · rw [List.getElem?_eq_none h1] at hi; cases hi
  obtain ⟨b, g, c, cur, hob, hG, hG2, hne, hh, hgh, h1, h2, h3, h4, hci, cE⟩ := h.elem_in x i l hf hl
  have e0 : cur.toList[i * 2]? = some (.int .i64 y.1) := by
    have := wcells_fst l i y hi
    rw [← h4, List.getElem?_take_of_lt (by omega)] at this
    exact this
  have e1 : cur.toList[i * 2 + 1]? = some (.int .i64 y.2) := by
    have := wcells_snd l i y hi
    rw [← h4, List.getElem?_take_of_lt (by omega)] at this
    exact this
  exact at_get hb g (i * 2) x i y.1 y.2 w cE (lt_at hgh) ((cell_at hgh).trans (by simpa using e0)) ((cell_at hgh).trans (by simpa using e1))
end Go.Proofs.YtleppjdmcjocmaaDoor
