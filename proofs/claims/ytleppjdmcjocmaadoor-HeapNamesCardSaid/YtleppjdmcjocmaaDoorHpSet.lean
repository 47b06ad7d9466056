/- The contracts of SetCar, SetCdr, TextOf, VecOf, element: the walks. -/
import Derived.Test.YtleppjdmcjocmaaDoorHpGet
namespace Go.Proofs.YtleppjdmcjocmaaDoor
open Go.RowKit Go.Lib
set_option maxHeartbeats 1000000 in
theorem setcar_not (hb : Nat) (x y : Wd) (v : Value) (w : World) (cV : ValidIn w hb) (cF : FindIn w hb x v) (hA : ∀ W, (Instr.typeAssert v 80 69 true).run Tryd.prog W = .ok (.tuple #[.pointer none, .bool false]) W) :
    Calls Tryd.prog 23 #[hptr hb, wv x, wv y] w fun e w' => e = .returned (.int .i64 6) ∧ Below w.heap.size w w' := by
  have CV := Lib.hid cV
  have CF := Lib.hid cF
  clear cV cF
  go_enter Tryd.func23, Tryd.ntmps23
  go_wp2_with (go_at_call 36; refine (CV.out _ ?_).mono ?_; exact ((Old.refl _).alloc (Nat.le_refl _) _).alloc (by simp) _; rintro e w' ⟨rfl, rfl⟩)
  refine (CF.out _ (((Old.refl _).alloc (Nat.le_refl _) _).alloc (by simp) _) (by simp; omega)).mono ?_
  rintro e W ⟨rfl, hb1⟩
  have hbw : Below w.heap.size w W := (((Below.refl _ _).alloc (Nat.le_refl _) _).alloc (by simp) _).trans (hb1.mono (by simp; omega))
  have HP := Lib.hid hbw
  clear hb1 hbw CV CF
  go_wp2
  go_ret
  exact ⟨rfl, HP.out⟩
set_option maxHeartbeats 1000000 in
theorem setcar_yes (hb b : Nat) (x y : Wd) (u0 u1 : Int) (w : World) (cV : ValidIn w hb) (cF : FindIn w hb x (.iface 69 (.pointer (some ⟨b, 0, none⟩)))) (hbl : b < w.heap.size)
    (q0 : w.cell? ⟨b, 0, none⟩ = some (.int .i64 u0)) (q1 : w.cell? ⟨b, 1, none⟩ = some (.int .i64 u1)) (f0 : w.frozen? ⟨b, 0, none⟩ = false) (f1 : w.frozen? ⟨b, 1, none⟩ = false) :
    Calls Tryd.prog 23 #[hptr hb, wv x, wv y] w fun e w' => e = .returned (.int .i64 0) ∧ ∃ W, Below w.heap.size w W ∧ w' = (W.setCell ⟨b, 0, none⟩ (.int .i64 y.1)).setCell ⟨b, 1, none⟩ (.int .i64 y.2) := by
  have CV := Lib.hid cV
  have CF := Lib.hid cF
  have hA := as_pair_pair (.pointer (some ⟨b, 0, none⟩))
  clear cV cF
  go_enter Tryd.func23, Tryd.ntmps23
  go_wp2_with (go_at_call 36; refine (CV.out _ ?_).mono ?_; exact ((Old.refl _).alloc (Nat.le_refl _) _).alloc (by simp) _; rintro e w' ⟨rfl, rfl⟩)
  refine (CF.out _ (((Old.refl _).alloc (Nat.le_refl _) _).alloc (by simp) _) (by simp; omega)).mono ?_
  rintro e W ⟨rfl, hb1⟩
  have k1 : W.heap[w.heap.size + 1]? = some (.cells #[.int .i64 y.1, .int .i64 y.2] 28 (0, 0)) := (hb1.block _ (by simp)).trans (by
    have := alloc_at (w.alloc (.cells #[.int .i64 x.1, .int .i64 x.2] 28)) (.cells #[.int .i64 y.1, .int .i64 y.2] 28)
    rw [show (w.alloc (.cells #[.int .i64 x.1, .int .i64 x.2] 28)).heap.size = w.heap.size + 1 from by simp] at this
    exact this)
  have hbw : Below w.heap.size w W := (((Below.refl _ _).alloc (Nat.le_refl _) _).alloc (by simp) _).trans (hb1.mono (by simp; omega))
  have p0 := (hbw.cell (p := ⟨b, 0, none⟩) hbl).trans q0
  have p1 := (hbw.cell (p := ⟨b, 1, none⟩) hbl).trans q1
  have g0 := (hbw.frozen (p := ⟨b, 0, none⟩) hbl).trans f0
  have g1 := (hbw.frozen (p := ⟨b, 1, none⟩) hbl).trans f1
  have c0 : W.cell? ⟨w.heap.size + 1, 0, none⟩ = some (.int .i64 y.1) := cell_at k1
  have c1 : W.cell? ⟨w.heap.size + 1, 1, none⟩ = some (.int .i64 y.2) := cell_at k1
  have HP := Lib.hid hbw
  clear hb1 hbw CV CF k1 q0 q1 f0 f1
  go_wp2
  go_ret
  exact ⟨rfl, W, HP.out, rfl⟩
set_option maxHeartbeats 1000000 in
theorem setcdr_not (hb : Nat) (x y : Wd) (v : Value) (w : World) (cV : ValidIn w hb) (cF : FindIn w hb x v) (hA : ∀ W, (Instr.typeAssert v 80 69 true).run Tryd.prog W = .ok (.tuple #[.pointer none, .bool false]) W) :
    Calls Tryd.prog 26 #[hptr hb, wv x, wv y] w fun e w' => e = .returned (.int .i64 6) ∧ Below w.heap.size w w' := by
  have CV := Lib.hid cV
  have CF := Lib.hid cF
  clear cV cF
  go_enter Tryd.func26, Tryd.ntmps26
  go_wp2_with (go_at_call 36; refine (CV.out _ ?_).mono ?_; exact ((Old.refl _).alloc (Nat.le_refl _) _).alloc (by simp) _; rintro e w' ⟨rfl, rfl⟩)
  refine (CF.out _ (((Old.refl _).alloc (Nat.le_refl _) _).alloc (by simp) _) (by simp; omega)).mono ?_
  rintro e W ⟨rfl, hb1⟩
  have hbw : Below w.heap.size w W := (((Below.refl _ _).alloc (Nat.le_refl _) _).alloc (by simp) _).trans (hb1.mono (by simp; omega))
  have HP := Lib.hid hbw
  clear hb1 hbw CV CF
  go_wp2
  go_ret
  exact ⟨rfl, HP.out⟩
set_option maxHeartbeats 1000000 in
theorem setcdr_yes (hb b : Nat) (x y : Wd) (u0 u1 : Int) (w : World) (cV : ValidIn w hb) (cF : FindIn w hb x (.iface 69 (.pointer (some ⟨b, 0, none⟩)))) (hbl : b < w.heap.size)
    (q0 : w.cell? ⟨b, 2, none⟩ = some (.int .i64 u0)) (q1 : w.cell? ⟨b, 3, none⟩ = some (.int .i64 u1)) (f0 : w.frozen? ⟨b, 2, none⟩ = false) (f1 : w.frozen? ⟨b, 3, none⟩ = false) :
    Calls Tryd.prog 26 #[hptr hb, wv x, wv y] w fun e w' => e = .returned (.int .i64 0) ∧ ∃ W, Below w.heap.size w W ∧ w' = (W.setCell ⟨b, 2, none⟩ (.int .i64 y.1)).setCell ⟨b, 3, none⟩ (.int .i64 y.2) := by
  have CV := Lib.hid cV
  have CF := Lib.hid cF
  have hA := as_pair_pair (.pointer (some ⟨b, 0, none⟩))
  clear cV cF
  go_enter Tryd.func26, Tryd.ntmps26
  go_wp2_with (go_at_call 36; refine (CV.out _ ?_).mono ?_; exact ((Old.refl _).alloc (Nat.le_refl _) _).alloc (by simp) _; rintro e w' ⟨rfl, rfl⟩)
  refine (CF.out _ (((Old.refl _).alloc (Nat.le_refl _) _).alloc (by simp) _) (by simp; omega)).mono ?_
  rintro e W ⟨rfl, hb1⟩
  have k1 : W.heap[w.heap.size + 1]? = some (.cells #[.int .i64 y.1, .int .i64 y.2] 28 (0, 0)) := (hb1.block _ (by simp)).trans (by
    have := alloc_at (w.alloc (.cells #[.int .i64 x.1, .int .i64 x.2] 28)) (.cells #[.int .i64 y.1, .int .i64 y.2] 28)
    rw [show (w.alloc (.cells #[.int .i64 x.1, .int .i64 x.2] 28)).heap.size = w.heap.size + 1 from by simp] at this
    exact this)
  have hbw : Below w.heap.size w W := (((Below.refl _ _).alloc (Nat.le_refl _) _).alloc (by simp) _).trans (hb1.mono (by simp; omega))
  have p0 := (hbw.cell (p := ⟨b, 2, none⟩) hbl).trans q0
  have p1 := (hbw.cell (p := ⟨b, 3, none⟩) hbl).trans q1
  have g0 := (hbw.frozen (p := ⟨b, 2, none⟩) hbl).trans f0
  have g1 := (hbw.frozen (p := ⟨b, 3, none⟩) hbl).trans f1
  have c0 : W.cell? ⟨w.heap.size + 1, 0, none⟩ = some (.int .i64 y.1) := cell_at k1
  have c1 : W.cell? ⟨w.heap.size + 1, 1, none⟩ = some (.int .i64 y.2) := cell_at k1
  have HP := Lib.hid hbw
  clear hb1 hbw CV CF k1 q0 q1 f0 f1
  go_wp2
  go_ret
  exact ⟨rfl, W, HP.out, rfl⟩
set_option maxHeartbeats 1000000 in
theorem textof_not (hb : Nat) (x : Wd) (v : Value) (w : World) (cV : ValidIn w hb) (cF : FindIn w hb x v) (hA : ∀ W, (Instr.typeAssert v 80 74 true).run Tryd.prog W = .ok (.tuple #[.pointer none, .bool false]) W) :
    Calls Tryd.prog 29 #[hptr hb, wv x] w fun e w' => e = .returned (.tuple #[.string ⟨#[]⟩, .int .i64 6]) ∧ Below w.heap.size w w' := by
  have CV := Lib.hid cV
  have CF := Lib.hid cF
  clear cV cF
  go_enter Tryd.func29, Tryd.ntmps29
  go_wp2_with (go_at_call 36; refine (CV.out _ ?_).mono ?_; exact (Old.refl _).alloc (Nat.le_refl _) _; rintro e w' ⟨rfl, rfl⟩)
  refine (CF.out _ ((Old.refl _).alloc (Nat.le_refl _) _) (by simp)).mono ?_
  rintro e W ⟨rfl, hb1⟩
  have hbw : Below w.heap.size w W := ((Below.refl _ _).alloc (Nat.le_refl _) _).trans (hb1.mono (by simp))
  have HP := Lib.hid hbw
  clear hb1 hbw CV CF
  go_wp2
  go_ret2
  exact ⟨rfl, HP.out⟩
set_option maxHeartbeats 1000000 in
theorem vecof_not (hb : Nat) (x : Wd) (v : Value) (w : World) (cV : ValidIn w hb) (cF : FindIn w hb x v) (hA : ∀ W, (Instr.typeAssert v 80 82 true).run Tryd.prog W = .ok (.tuple #[.pointer none, .bool false]) W) :
    Calls Tryd.prog 27 #[hptr hb, wv x] w fun e w' => e = .returned (.tuple #[.slice none 0 0, .int .i64 6]) ∧ Below w.heap.size w w' := by
  have CV := Lib.hid cV
  have CF := Lib.hid cF
  clear cV cF
  go_enter Tryd.func27, Tryd.ntmps27
  go_wp2_with (go_at_call 36; refine (CV.out _ ?_).mono ?_; exact (Old.refl _).alloc (Nat.le_refl _) _; rintro e w' ⟨rfl, rfl⟩)
  refine (CF.out _ ((Old.refl _).alloc (Nat.le_refl _) _) (by simp)).mono ?_
  rintro e W ⟨rfl, hb1⟩
  have hbw : Below w.heap.size w W := ((Below.refl _ _).alloc (Nat.le_refl _) _).trans (hb1.mono (by simp))
  have HP := Lib.hid hbw
  clear hb1 hbw CV CF
  go_wp2
  go_ret2
  exact ⟨rfl, HP.out⟩
set_option maxHeartbeats 1000000 in
theorem textof_yes (hb b : Nat) (x : Wd) (s : ByteArray) (w : World) (cV : ValidIn w hb) (cF : FindIn w hb x (.iface 74 (.pointer (some ⟨b, 0, none⟩)))) (hbl : b < w.heap.size) (q0 : w.cell? ⟨b, 0, none⟩ = some (.string s)) :
    Calls Tryd.prog 29 #[hptr hb, wv x] w fun e w' => e = .returned (.tuple #[.string s, .int .i64 0]) ∧ Below w.heap.size w w' := by
  have CV := Lib.hid cV
  have CF := Lib.hid cF
  have hA := as_text_text (.pointer (some ⟨b, 0, none⟩))
  clear cV cF
  go_enter Tryd.func29, Tryd.ntmps29
  go_wp2_with (go_at_call 36; refine (CV.out _ ?_).mono ?_; exact (Old.refl _).alloc (Nat.le_refl _) _; rintro e w' ⟨rfl, rfl⟩)
  refine (CF.out _ ((Old.refl _).alloc (Nat.le_refl _) _) (by simp)).mono ?_
  rintro e W ⟨rfl, hb1⟩
  have hbw : Below w.heap.size w W := ((Below.refl _ _).alloc (Nat.le_refl _) _).trans (hb1.mono (by simp))
  have p0 := (hbw.cell (p := ⟨b, 0, none⟩) hbl).trans q0
  have HP := Lib.hid hbw
  clear hb1 hbw CV CF q0
  go_wp2
  go_ret2
  exact ⟨rfl, HP.out⟩
set_option maxHeartbeats 1000000 in
theorem vecof_yes (hb b n c : Nat) (a : Option Addr) (xs : List Value) (x : Wd) (w : World) (cV : ValidIn w hb) (cF : FindIn w hb x (.iface 82 (.pointer (some ⟨b, 0, none⟩)))) (hbl : b < w.heap.size) (q0 : w.cell? ⟨b, 0, none⟩ = some (.slice a n c))
    (cC : ∀ W, Below w.heap.size w W → Calls Tryd.prog 44 #[.slice a n c] W fun e w' => ∃ v', e = .returned v' ∧ w'.ownsRow W.heap.size 28 2 v' n xs ∧ Below W.heap.size W w') :
    Calls Tryd.prog 27 #[hptr hb, wv x] w fun e w' => ∃ v', e = .returned (.tuple #[v', .int .i64 0]) ∧ w'.ownsRow w.heap.size 28 2 v' n xs ∧ Below w.heap.size w w' := by
  have CV := Lib.hid cV
  have CF := Lib.hid cF
  have CC := Lib.hid cC
  have hA := as_vector_vector (.pointer (some ⟨b, 0, none⟩))
  clear cV cF cC
  go_enter Tryd.func27, Tryd.ntmps27
  go_wp2_with (go_at_call 36; refine (CV.out _ ?_).mono ?_; exact (Old.refl _).alloc (Nat.le_refl _) _; rintro e w' ⟨rfl, rfl⟩)
  refine (CF.out _ ((Old.refl _).alloc (Nat.le_refl _) _) (by simp)).mono ?_
  rintro e W ⟨rfl, hb1⟩
  have hbw : Below w.heap.size w W := ((Below.refl _ _).alloc (Nat.le_refl _) _).trans (hb1.mono (by simp))
  have p0 := (hbw.cell (p := ⟨b, 0, none⟩) hbl).trans q0
  have HP := Lib.hid hbw
  clear hb1 hbw CV CF q0
  go_wp2_with fail
  refine (CC.out _ HP.out).mono ?_
  rintro e W2 ⟨v', rfl, ho, hb2⟩
  obtain ⟨a', c', rfl⟩ := own_slice ho
  have HQ := Lib.hid (And.intro (own_base ho HP.out.size) (HP.out.trans (hb2.mono HP.out.size)))
  clear ho hb2
  go_wp2
  go_ret2
  exact ⟨_, rfl, HQ.out.1, HQ.out.2⟩
set_option maxHeartbeats 1000000 in
theorem elem_not (hb : Nat) (x : Wd) (i : Int) (v : Value) (w : World) (cV : ValidIn w hb) (cF : FindIn w hb x v) (hA : ∀ W, (Instr.typeAssert v 80 82 true).run Tryd.prog W = .ok (.tuple #[.pointer none, .bool false]) W) :
    Calls Tryd.prog 48 #[hptr hb, wv x, .int .i64 i] w fun e w' => e = .returned (.tuple #[.pointer none, .int .i64 6]) ∧ Below w.heap.size w w' := by
  have CV := Lib.hid cV
  have CF := Lib.hid cF
  clear cV cF
  go_enter Tryd.func48, Tryd.ntmps48
  go_wp2_with (go_at_call 36; refine (CV.out _ ?_).mono ?_; exact (Old.refl _).alloc (Nat.le_refl _) _; rintro e w' ⟨rfl, rfl⟩)
  refine (CF.out _ ((Old.refl _).alloc (Nat.le_refl _) _) (by simp)).mono ?_
  rintro e W ⟨rfl, hb1⟩
  have hbw : Below w.heap.size w W := ((Below.refl _ _).alloc (Nat.le_refl _) _).trans (hb1.mono (by simp))
  have HP := Lib.hid hbw
  clear hb1 hbw CV CF
  go_wp2
  go_ret2
  exact ⟨rfl, HP.out⟩
set_option maxHeartbeats 1000000 in
theorem elem_range (hb b n c : Nat) (a : Option Addr) (x : Wd) (i : Int) (w : World) (cV : ValidIn w hb) (cF : FindIn w hb x (.iface 82 (.pointer (some ⟨b, 0, none⟩)))) (hbl : b < w.heap.size) (q0 : w.cell? ⟨b, 0, none⟩ = some (.slice a n c))
    (hi : i < 0 ∨ (n : Int) ≤ i) :
    Calls Tryd.prog 48 #[hptr hb, wv x, .int .i64 i] w fun e w' => e = .returned (.tuple #[.pointer none, .int .i64 3]) ∧ Below w.heap.size w w' := by
  have CV := Lib.hid cV
  have CF := Lib.hid cF
  have hA := as_vector_vector (.pointer (some ⟨b, 0, none⟩))
  clear cV cF
  by_cases h0 : i < 0
  · go_enter Tryd.func48, Tryd.ntmps48
    go_wp2_with (go_at_call 36; refine (CV.out _ ?_).mono ?_; exact (Old.refl _).alloc (Nat.le_refl _) _; rintro e w' ⟨rfl, rfl⟩)
    refine (CF.out _ ((Old.refl _).alloc (Nat.le_refl _) _) (by simp)).mono ?_
    rintro e W ⟨rfl, hb1⟩
    have hbw : Below w.heap.size w W := ((Below.refl _ _).alloc (Nat.le_refl _) _).trans (hb1.mono (by simp))
    have p0 := (hbw.cell (p := ⟨b, 0, none⟩) hbl).trans q0
    have HP := Lib.hid hbw
    clear hb1 hbw CV CF q0
    go_wp2
    go_ret2
    exact ⟨rfl, HP.out⟩
  · have h1 : (n : Int) ≤ i := by omega
    have hd : decide (i < 0) = false := by simpa using h0
    clear hi h0
    go_enter Tryd.func48, Tryd.ntmps48
    go_wp2_with (go_at_call 36; refine (CV.out _ ?_).mono ?_; exact (Old.refl _).alloc (Nat.le_refl _) _; rintro e w' ⟨rfl, rfl⟩)
    refine (CF.out _ ((Old.refl _).alloc (Nat.le_refl _) _) (by simp)).mono ?_
    rintro e W ⟨rfl, hb1⟩
    have hbw : Below w.heap.size w W := ((Below.refl _ _).alloc (Nat.le_refl _) _).trans (hb1.mono (by simp))
    have p0 := (hbw.cell (p := ⟨b, 0, none⟩) hbl).trans q0
    have HP := Lib.hid hbw
    clear hb1 hbw CV CF q0
    go_wp2
    go_ret2
    exact ⟨rfl, HP.out⟩
set_option maxHeartbeats 1000000 in
theorem elem_yes (hb b n c g i : Nat) (x : Wd) (w : World) (cV : ValidIn w hb) (cF : FindIn w hb x (.iface 82 (.pointer (some ⟨b, 0, none⟩)))) (hbl : b < w.heap.size) (q0 : w.cell? ⟨b, 0, none⟩ = some (.slice (some ⟨g, 0, none⟩) n c))
    (hi : i < n) :
    Calls Tryd.prog 48 #[hptr hb, wv x, .int .i64 i] w fun e w' => e = .returned (.tuple #[.pointer (some ⟨g, i * 2, none⟩), .int .i64 0]) ∧ Below w.heap.size w w' := by
  have CV := Lib.hid cV
  have CF := Lib.hid cF
  have hA := as_vector_vector (.pointer (some ⟨b, 0, none⟩))
  have hd : decide ((i : Int) < 0) = false := by simp
  have hd2 : decide ((n : Int) ≤ (i : Int)) = false := by simpa using hi
  clear cV cF
  go_enter Tryd.func48, Tryd.ntmps48
  go_wp2_with (go_at_call 36; refine (CV.out _ ?_).mono ?_; exact (Old.refl _).alloc (Nat.le_refl _) _; rintro e w' ⟨rfl, rfl⟩)
  refine (CF.out _ ((Old.refl _).alloc (Nat.le_refl _) _) (by simp)).mono ?_
  rintro e W ⟨rfl, hb1⟩
  have hbw : Below w.heap.size w W := ((Below.refl _ _).alloc (Nat.le_refl _) _).trans (hb1.mono (by simp))
  have p0 := (hbw.cell (p := ⟨b, 0, none⟩) hbl).trans q0
  have HP := Lib.hid hbw
  clear hb1 hbw CV CF q0
  go_wp2
  go_ret2
  exact ⟨rfl, HP.out⟩
end Go.Proofs.YtleppjdmcjocmaaDoor
