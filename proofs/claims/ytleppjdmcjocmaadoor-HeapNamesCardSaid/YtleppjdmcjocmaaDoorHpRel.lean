/- release: a number is added to the free ones. -/
import Derived.Test.YtleppjdmcjocmaaDoorHpNum
namespace Go.Proofs.YtleppjdmcjocmaaDoor
open Go.RowKit Go.Lib
theorem upL_length (l : List Int) (j : Nat) : (upL l j).length = l.length := by
  fun_induction upL l j with
  | case1 => rfl
  | case2 l j h ih => rw [ih, swapL_length]
theorem swapL_perm (l : List Int) (i j : Nat) (hi : i < l.length) (hj : j < l.length) : (swapL l i j).Perm l := by
  have h := List.set_set_perm hi hj
  simpa [swapL, List.getD_eq_getElem?_getD, hi, hj] using h
theorem upL_perm (l : List Int) (j : Nat) (hj : j < l.length) : (upL l j).Perm l := by
  fun_induction upL l j with
  | case1 => exact List.Perm.refl _
  | case2 l j h ih =>
    have h0 : j ≠ 0 := fun e => h (.inl e)
    refine (ih (by rw [swapL_length]; omega)).trans (swapL_perm l _ _ (by omega) hj)
/-- A number is added. -/
def pushL (l : List Int) (n : Int) : List Int := upL (l ++ [n]) l.length
theorem pushL_perm (l : List Int) (n : Int) : (pushL l n).Perm (l ++ [n]) := upL_perm _ _ (by simp)
theorem pushL_length (l : List Int) (n : Int) : (pushL l n).length = l.length + 1 := by simp [pushL, upL_length]
theorem Pushed.up {w w1 w2 : World} {hb g cap : Nat} {G : Nat → Nat} {lim vo st : Value} {l l' : List Int} (h : Pushed w w1 hb G lim vo st l) (hh : w1.heap[hb]? = some (.cells #[lim, vo, .slice (some ⟨g, 0, none⟩) l.length cap, st] 67 (0, 0))) (hne : g ≠ hb) (hlab : (if g < w.heap.size then G g else 3) = 3) (hbl : hb < w.heap.size)
    (hl : l'.length = l.length) (hk : Keeps (fun k => if k = g then 1 else 0) w1 w2) (hr : Row w2 (fun k => if k < w.heap.size then G k else 3) 3 3 1 (.slice (some ⟨g, 0, none⟩) l.length cap) l.length (ints l')) : Pushed w w2 hb G lim vo st l' := by
  have hs := h.size
  refine ⟨hk.os.trans h.os, hk.tape.trans h.tape, hk.output.trans h.output, Nat.le_trans h.size hk.size, fun k hk' n1 n3 => ?_, g, cap, ?_, hne, ?_⟩
  · refine (hk.block k (by omega) (if_neg ?_)).trans (h.block k hk' n1 n3)
    intro e
    subst e
    rw [if_pos hk'] at hlab
    exact n3 hlab
  · rw [hl]
    exact (hk.block hb (by omega) (if_neg (Ne.symm hne))).trans hh
  · rw [hl]
    exact hr
set_option maxHeartbeats 2000000 in
set_option maxRecDepth 20000 in
theorem hpush_any (hb : Nat) (n : Int) (l : List Int) (lim vo vf st : Value) (G : Nat → Nat) (w : World) (hh : w.heap[hb]? = some (.cells #[lim, vo, vf, st] 67 (0, 0))) (hG : G hb = 1) (hl : l.length ≤ 65536)
    (hr : Row w G 3 3 1 vf l.length (ints l)) :
    Calls Tryd.prog 57 #[nface hb, .iface 3 (.int .i64 n)] w fun e w' => e = .returned (.tuple #[]) ∧ Pushed w w' hb G lim vo st (pushL l n) := by
  have hmp := mt_push hb
  have H := Lib.hid (And.intro hh (And.intro hr (And.intro hG hl)))
  clear hh hr hG hl
  go_enter Tryd.func57, Tryd.ntmps57
  go_wp2_with fail
  refine (push_any hb n l lim vo vf st G _ H.out.1 H.out.2.2.1 H.out.2.2.2 H.out.2.1).mono ?_
  rintro e w1 ⟨rfl, hp⟩
  obtain ⟨g, cap, hh1, hne, hr1⟩ := hp.lies
  have hc : w1.cell? ⟨hb, 2, none⟩ = some (.slice (some ⟨g, 0, none⟩) (l ++ [n]).length cap) := cell_at hh1
  have hln : (l ++ [n]).length = l.length + 1 := by simp
  have hml := mt_len hc
  have H1 := Lib.hid (And.intro hp (And.intro hh1 (And.intro hne (And.intro hr1 (And.intro hc hln)))))
  rw [hln] at hml
  clear hp hh1 hne hr1 hc hln
  go_wp2_with fail
  refine (len_any _ _ _ _).mono ?_
  rintro e w1' ⟨rfl, rfl⟩
  have hz := H.out.2.2.2
  go_wp2_with fail
  refine (up_any hb g cap l.length (l ++ [n]) (fun k => if k < w.heap.size then G k else 3) w1' (by simp) (by simp; omega) H1.out.2.2.1 (Nat.lt_of_lt_of_le (lt_at H.out.1) H1.out.1.size) H1.out.2.2.2.2.1 H1.out.2.2.2.1).mono ?_
  rintro e w2 ⟨rfl, hk2, hz2, hr2⟩
  have hfin := Pushed.up (l' := pushL l n) H1.out.1 H1.out.2.1 H1.out.2.2.1 (H1.out.2.2.2.1.lab g rfl) (lt_at H.out.1) (by rw [pushL_length, H1.out.2.2.2.2.2]) hk2 hr2
  have HF := Lib.hid hfin
  clear hk2 hz2 hr2 hfin
  go_wp2
  go_end0
  exact ⟨rfl, HF.out⟩
set_option maxHeartbeats 2000000 in
theorem release_any (hb : Nat) (n : Int) (l : List Int) (lim vo vf st : Value) (G : Nat → Nat) (w : World) (hh : w.heap[hb]? = some (.cells #[lim, vo, vf, st] 67 (0, 0))) (hG : G hb = 1) (hl : l.length ≤ 65536)
    (hr : Row w G 3 3 1 vf l.length (ints l)) :
    Calls Tryd.prog 43 #[nptr hb, .int .i64 n] w fun e w' => e = .returned (.tuple #[]) ∧ Pushed w w' hb G lim vo st (pushL l n) := by
  have cP := hpush_any hb n l lim vo vf st G w hh hG hl hr
  have CP := Lib.hid cP
  clear cP hh hG hl hr
  go_enter Tryd.func43, Tryd.ntmps43
  go_wp2_with fail
  refine CP.out.mono ?_
  rintro e w2 ⟨rfl, hk2⟩
  have HF := Lib.hid hk2
  clear hk2
  go_wp2
  go_end0
  exact ⟨rfl, HF.out⟩
end Go.Proofs.YtleppjdmcjocmaaDoor
