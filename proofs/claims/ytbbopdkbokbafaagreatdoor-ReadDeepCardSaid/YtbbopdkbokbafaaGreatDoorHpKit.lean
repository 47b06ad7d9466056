import Derived.Test.YtbbopdkbokbafaaGreatDoorHpGet
/- The contracts of SetCar, SetCdr, TextOf, VecOf, element: the walks. -/
namespace Go.Proofs.YtbbopdkbokbafaaGreatDoor
open Go.RowKit Go.Lib
set_option maxHeartbeats 1000000 in
theorem setcdr_not (hb : Nat) (x y : Wd) (v : Value) (w : World) (cV : ValidIn w hb) (cF : FindIn w hb x v) (hA : ∀ W, (Instr.typeAssert v 96 93 true).run Tryz.prog W = .ok (.tuple #[.pointer none, .bool false]) W) :
    Calls Tryz.prog 54 #[hptr hb, wv x, wv y] w fun e w' => e = .returned (.int .i64 6) ∧ Below w.heap.size w w' := by
  have CV := Lib.hid cV
  have CF := Lib.hid cF
  clear cV cF
  go_enter Tryz.func54, Tryz.ntmps54
  go_wp2_with (go_at_call 68; refine (CV.out _ ?_).mono ?_; exact ((Old.refl _).alloc (Nat.le_refl _) _).alloc (by simp) _; rintro e w' ⟨rfl, rfl⟩)
  refine (CF.out _ (((Old.refl _).alloc (Nat.le_refl _) _).alloc (by simp) _) (by simp; omega)).mono ?_
  rintro e W ⟨rfl, hb1⟩
  have hbw : Below w.heap.size w W := (((Below.refl _ _).alloc (Nat.le_refl _) _).alloc (by simp) _).trans (hb1.mono (by simp; omega))
  have HP := Lib.hid hbw
  clear hb1 hbw CV CF
  go_wp2
  go_ret
  exact ⟨rfl, HP.out⟩
set_option maxHeartbeats 1000000 in
theorem setcdr_yes (hb b : Nat) (x y : Wd) (u0 u1 : Int) (w : World) (cV : ValidIn w hb) (cF : FindIn w hb x (.iface 93 (.pointer (some ⟨b, 0, none⟩)))) (hbl : b < w.heap.size)
    (q0 : w.cell? ⟨b, 2, none⟩ = some (.int .i64 u0)) (q1 : w.cell? ⟨b, 3, none⟩ = some (.int .i64 u1)) (f0 : w.frozen? ⟨b, 2, none⟩ = false) (f1 : w.frozen? ⟨b, 3, none⟩ = false) :
    Calls Tryz.prog 54 #[hptr hb, wv x, wv y] w fun e w' => e = .returned (.int .i64 0) ∧ ∃ W, Below w.heap.size w W ∧ w' = (W.setCell ⟨b, 2, none⟩ (.int .i64 y.1)).setCell ⟨b, 3, none⟩ (.int .i64 y.2) := by
  have CV := Lib.hid cV
  have CF := Lib.hid cF
  have hA := as_pair_pair (.pointer (some ⟨b, 0, none⟩))
  clear cV cF
  go_enter Tryz.func54, Tryz.ntmps54
  go_wp2_with (go_at_call 68; refine (CV.out _ ?_).mono ?_; exact ((Old.refl _).alloc (Nat.le_refl _) _).alloc (by simp) _; rintro e w' ⟨rfl, rfl⟩)
  refine (CF.out _ (((Old.refl _).alloc (Nat.le_refl _) _).alloc (by simp) _) (by simp; omega)).mono ?_
  rintro e W ⟨rfl, hb1⟩
  have k1 : W.heap[w.heap.size + 1]? = some (.cells #[.int .i64 y.1, .int .i64 y.2] 28 (0, 0)) := (hb1.block _ (by simp)).trans (by
    have := alloc_at (w.alloc (.cells #[.int .i64 x.1, .int .i64 x.2] 28)) (.cells #[.int .i64 y.1, .int .i64 y.2] 28)
    rw [show (w.alloc (.cells #[.int .i64 x.1, .int .i64 x.2] 28)).heap.size = w.heap.size + 1 from by simp] at this
    exact this)
  have hbw : Below w.heap.size w W := (((Below.refl _ _).alloc (Nat.le_refl _) _).alloc (by simp) _).trans (hb1.mono (by simp; omega))
  have p0 := (hbw.cell (p := ⟨b, 2, none⟩) hbl).trans q0
  have p1 := (hbw.cell (p := ⟨b, 3, none⟩) hbl).trans q1
  have g0 := (hbw.frozen (p := ⟨b, 2, none⟩) hbl).trans f0
  have g1 := (hbw.frozen (p := ⟨b, 3, none⟩) hbl).trans f1
  have c0 : W.cell? ⟨w.heap.size + 1, 0, none⟩ = some (.int .i64 y.1) := cell_at k1
  have c1 : W.cell? ⟨w.heap.size + 1, 1, none⟩ = some (.int .i64 y.2) := cell_at k1
  have HP := Lib.hid hbw
  clear hb1 hbw CV CF k1 q0 q1 f0 f1
  go_wp2
  go_ret
  exact ⟨rfl, W, HP.out, rfl⟩
set_option maxHeartbeats 1000000 in
theorem textof_not (hb : Nat) (x : Wd) (v : Value) (w : World) (cV : ValidIn w hb) (cF : FindIn w hb x v) (hA : ∀ W, (Instr.typeAssert v 96 140 true).run Tryz.prog W = .ok (.tuple #[.pointer none, .bool false]) W) :
    Calls Tryz.prog 42 #[hptr hb, wv x] w fun e w' => e = .returned (.tuple #[.string ⟨#[]⟩, .int .i64 6]) ∧ Below w.heap.size w w' := by
  have CV := Lib.hid cV
  have CF := Lib.hid cF
  clear cV cF
  go_enter Tryz.func42, Tryz.ntmps42
  go_wp2_with (go_at_call 68; refine (CV.out _ ?_).mono ?_; exact (Old.refl _).alloc (Nat.le_refl _) _; rintro e w' ⟨rfl, rfl⟩)
  refine (CF.out _ ((Old.refl _).alloc (Nat.le_refl _) _) (by simp)).mono ?_
  rintro e W ⟨rfl, hb1⟩
  have hbw : Below w.heap.size w W := ((Below.refl _ _).alloc (Nat.le_refl _) _).trans (hb1.mono (by simp))
  have HP := Lib.hid hbw
  clear hb1 hbw CV CF
  go_wp2
  go_ret2
  exact ⟨rfl, HP.out⟩
set_option maxHeartbeats 1000000 in
theorem vecof_not (hb : Nat) (x : Wd) (v : Value) (w : World) (cV : ValidIn w hb) (cF : FindIn w hb x v) (hA : ∀ W, (Instr.typeAssert v 96 206 true).run Tryz.prog W = .ok (.tuple #[.pointer none, .bool false]) W) :
    Calls Tryz.prog 126 #[hptr hb, wv x] w fun e w' => e = .returned (.tuple #[.slice none 0 0, .int .i64 6]) ∧ Below w.heap.size w w' := by
  have CV := Lib.hid cV
  have CF := Lib.hid cF
  clear cV cF
  go_enter Tryz.func126, Tryz.ntmps126
  go_wp2_with (go_at_call 68; refine (CV.out _ ?_).mono ?_; exact (Old.refl _).alloc (Nat.le_refl _) _; rintro e w' ⟨rfl, rfl⟩)
  refine (CF.out _ ((Old.refl _).alloc (Nat.le_refl _) _) (by simp)).mono ?_
  rintro e W ⟨rfl, hb1⟩
  have hbw : Below w.heap.size w W := ((Below.refl _ _).alloc (Nat.le_refl _) _).trans (hb1.mono (by simp))
  have HP := Lib.hid hbw
  clear hb1 hbw CV CF
  go_wp2
  go_ret2
  exact ⟨rfl, HP.out⟩
set_option maxHeartbeats 1000000 in
theorem textof_yes (hb b : Nat) (x : Wd) (s : ByteArray) (w : World) (cV : ValidIn w hb) (cF : FindIn w hb x (.iface 140 (.pointer (some ⟨b, 0, none⟩)))) (hbl : b < w.heap.size) (q0 : w.cell? ⟨b, 0, none⟩ = some (.string s)) :
    Calls Tryz.prog 42 #[hptr hb, wv x] w fun e w' => e = .returned (.tuple #[.string s, .int .i64 0]) ∧ Below w.heap.size w w' := by
  have CV := Lib.hid cV
  have CF := Lib.hid cF
  have hA := as_text_text (.pointer (some ⟨b, 0, none⟩))
  clear cV cF
  go_enter Tryz.func42, Tryz.ntmps42
  go_wp2_with (go_at_call 68; refine (CV.out _ ?_).mono ?_; exact (Old.refl _).alloc (Nat.le_refl _) _; rintro e w' ⟨rfl, rfl⟩)
  refine (CF.out _ ((Old.refl _).alloc (Nat.le_refl _) _) (by simp)).mono ?_
  rintro e W ⟨rfl, hb1⟩
  have hbw : Below w.heap.size w W := ((Below.refl _ _).alloc (Nat.le_refl _) _).trans (hb1.mono (by simp))
  have p0 := (hbw.cell (p := ⟨b, 0, none⟩) hbl).trans q0
  have HP := Lib.hid hbw
  clear hb1 hbw CV CF q0
  go_wp2
  go_ret2
  exact ⟨rfl, HP.out⟩
set_option maxHeartbeats 1000000 in
theorem vecof_yes (hb b n c : Nat) (a : Option Addr) (xs : List Value) (x : Wd) (w : World) (cV : ValidIn w hb) (cF : FindIn w hb x (.iface 206 (.pointer (some ⟨b, 0, none⟩)))) (hbl : b < w.heap.size) (q0 : w.cell? ⟨b, 0, none⟩ = some (.slice a n c))
    (cC : ∀ W, Below w.heap.size w W → Calls Tryz.prog 185 #[.slice a n c] W fun e w' => ∃ v', e = .returned v' ∧ w'.ownsRow W.heap.size 28 2 v' n xs ∧ Below W.heap.size W w') :
    Calls Tryz.prog 126 #[hptr hb, wv x] w fun e w' => ∃ v', e = .returned (.tuple #[v', .int .i64 0]) ∧ w'.ownsRow w.heap.size 28 2 v' n xs ∧ Below w.heap.size w w' := by
  have CV := Lib.hid cV
  have CF := Lib.hid cF
  have CC := Lib.hid cC
  have hA := as_vector_vector (.pointer (some ⟨b, 0, none⟩))
  clear cV cF cC
  go_enter Tryz.func126, Tryz.ntmps126
  go_wp2_with (go_at_call 68; refine (CV.out _ ?_).mono ?_; exact (Old.refl _).alloc (Nat.le_refl _) _; rintro e w' ⟨rfl, rfl⟩)
  refine (CF.out _ ((Old.refl _).alloc (Nat.le_refl _) _) (by simp)).mono ?_
  rintro e W ⟨rfl, hb1⟩
  have hbw : Below w.heap.size w W := ((Below.refl _ _).alloc (Nat.le_refl _) _).trans (hb1.mono (by simp))
  have p0 := (hbw.cell (p := ⟨b, 0, none⟩) hbl).trans q0
  have HP := Lib.hid hbw
  clear hb1 hbw CV CF q0
  go_wp2_with fail
  refine (CC.out _ HP.out).mono ?_
  rintro e W2 ⟨v', rfl, ho, hb2⟩
  obtain ⟨a', c', rfl⟩ := own_slice ho
  have HQ := Lib.hid (And.intro (own_base ho HP.out.size) (HP.out.trans (hb2.mono HP.out.size)))
  clear ho hb2
  go_wp2
  go_ret2
  exact ⟨_, rfl, HQ.out.1, HQ.out.2⟩
set_option maxHeartbeats 1000000 in
theorem elem_not (hb : Nat) (x : Wd) (i : Int) (v : Value) (w : World) (cV : ValidIn w hb) (cF : FindIn w hb x v) (hA : ∀ W, (Instr.typeAssert v 96 206 true).run Tryz.prog W = .ok (.tuple #[.pointer none, .bool false]) W) :
    Calls Tryz.prog 245 #[hptr hb, wv x, .int .i64 i] w fun e w' => e = .returned (.tuple #[.pointer none, .int .i64 6]) ∧ Below w.heap.size w w' := by
  have CV := Lib.hid cV
  have CF := Lib.hid cF
  clear cV cF
  go_enter Tryz.func245, Tryz.ntmps245
  go_wp2_with (go_at_call 68; refine (CV.out _ ?_).mono ?_; exact (Old.refl _).alloc (Nat.le_refl _) _; rintro e w' ⟨rfl, rfl⟩)
  refine (CF.out _ ((Old.refl _).alloc (Nat.le_refl _) _) (by simp)).mono ?_
  rintro e W ⟨rfl, hb1⟩
  have hbw : Below w.heap.size w W := ((Below.refl _ _).alloc (Nat.le_refl _) _).trans (hb1.mono (by simp))
  have HP := Lib.hid hbw
  clear hb1 hbw CV CF
  go_wp2
  go_ret2
  exact ⟨rfl, HP.out⟩
set_option maxHeartbeats 1000000 in
theorem elem_range (hb b n c : Nat) (a : Option Addr) (x : Wd) (i : Int) (w : World) (cV : ValidIn w hb) (cF : FindIn w hb x (.iface 206 (.pointer (some ⟨b, 0, none⟩)))) (hbl : b < w.heap.size) (q0 : w.cell? ⟨b, 0, none⟩ = some (.slice a n c))
    (hi : i < 0 ∨ (n : Int) ≤ i) :
    Calls Tryz.prog 245 #[hptr hb, wv x, .int .i64 i] w fun e w' => e = .returned (.tuple #[.pointer none, .int .i64 3]) ∧ Below w.heap.size w w' := by
  have CV := Lib.hid cV
  have CF := Lib.hid cF
  have hA := as_vector_vector (.pointer (some ⟨b, 0, none⟩))
  clear cV cF
  by_cases h0 : i < 0
  · go_enter Tryz.func245, Tryz.ntmps245
    go_wp2_with (go_at_call 68; refine (CV.out _ ?_).mono ?_; exact (Old.refl _).alloc (Nat.le_refl _) _; rintro e w' ⟨rfl, rfl⟩)
    refine (CF.out _ ((Old.refl _).alloc (Nat.le_refl _) _) (by simp)).mono ?_
    rintro e W ⟨rfl, hb1⟩
    have hbw : Below w.heap.size w W := ((Below.refl _ _).alloc (Nat.le_refl _) _).trans (hb1.mono (by simp))
    have p0 := (hbw.cell (p := ⟨b, 0, none⟩) hbl).trans q0
    have HP := Lib.hid hbw
    clear hb1 hbw CV CF q0
    go_wp2
    go_ret2
    exact ⟨rfl, HP.out⟩
  · have h1 : (n : Int) ≤ i := by omega
    have hd : decide (i < 0) = false := by simpa using h0
    clear hi h0
    go_enter Tryz.func245, Tryz.ntmps245
    go_wp2_with (go_at_call 68; refine (CV.out _ ?_).mono ?_; exact (Old.refl _).alloc (Nat.le_refl _) _; rintro e w' ⟨rfl, rfl⟩)
    refine (CF.out _ ((Old.refl _).alloc (Nat.le_refl _) _) (by simp)).mono ?_
    rintro e W ⟨rfl, hb1⟩
    have hbw : Below w.heap.size w W := ((Below.refl _ _).alloc (Nat.le_refl _) _).trans (hb1.mono (by simp))
    have p0 := (hbw.cell (p := ⟨b, 0, none⟩) hbl).trans q0
    have HP := Lib.hid hbw
    clear hb1 hbw CV CF q0
    go_wp2
    go_ret2
    exact ⟨rfl, HP.out⟩
set_option maxHeartbeats 1000000 in
theorem elem_yes (hb b n c g i : Nat) (x : Wd) (w : World) (cV : ValidIn w hb) (cF : FindIn w hb x (.iface 206 (.pointer (some ⟨b, 0, none⟩)))) (hbl : b < w.heap.size) (q0 : w.cell? ⟨b, 0, none⟩ = some (.slice (some ⟨g, 0, none⟩) n c))
    (hi : i < n) :
    Calls Tryz.prog 245 #[hptr hb, wv x, .int .i64 i] w fun e w' => e = .returned (.tuple #[.pointer (some ⟨g, i * 2, none⟩), .int .i64 0]) ∧ Below w.heap.size w w' := by
  have CV := Lib.hid cV
  have CF := Lib.hid cF
  have hA := as_vector_vector (.pointer (some ⟨b, 0, none⟩))
  have hd : decide ((i : Int) < 0) = false := by simp
  have hd2 : decide ((n : Int) ≤ (i : Int)) = false := by simpa using hi
  clear cV cF
  go_enter Tryz.func245, Tryz.ntmps245
  go_wp2_with (go_at_call 68; refine (CV.out _ ?_).mono ?_; exact (Old.refl _).alloc (Nat.le_refl _) _; rintro e w' ⟨rfl, rfl⟩)
  refine (CF.out _ ((Old.refl _).alloc (Nat.le_refl _) _) (by simp)).mono ?_
  rintro e W ⟨rfl, hb1⟩
  have hbw : Below w.heap.size w W := ((Below.refl _ _).alloc (Nat.le_refl _) _).trans (hb1.mono (by simp))
  have p0 := (hbw.cell (p := ⟨b, 0, none⟩) hbl).trans q0
  have HP := Lib.hid hbw
  clear hb1 hbw CV CF q0
  go_wp2
  go_ret2
  exact ⟨rfl, HP.out⟩
end Go.Proofs.YtbbopdkbokbafaaGreatDoor

/- The contracts of Car, Cdr, SetCar, SetCdr, TextOf and VecOf on a heap that stands. -/
namespace Go.Proofs.YtbbopdkbokbafaaGreatDoor
open Go.RowKit Go.Lib
abbrev NotA (v : Value) (T : TypeId) : Prop := ∀ W, (Instr.typeAssert v 96 T true).run Tryz.prog W = .ok (.tuple #[.pointer none, .bool false]) W
theorem ObAt.not_pair {w : World} {G : Nat → Nat} {L : Nat} {v : Value} {o : Ob} (h : ObAt w G L v o) (hn : o.kind ≠ 2) : NotA v 93 := by
  cases o with
  | pair a d => exact absurd rfl hn
  | text s n => obtain ⟨b, rfl, _⟩ := h; exact as_text_pair _
  | vec l => obtain ⟨b, sv, rfl, _⟩ := h; exact as_vector_pair _
  | code le mo de bs cs => obtain ⟨b, sv, cv, rfl, _⟩ := h; exact as_code_pair _
theorem ObAt.not_text {w : World} {G : Nat → Nat} {L : Nat} {v : Value} {o : Ob} (h : ObAt w G L v o) (hn : o.kind ≠ 3) : NotA v 140 := by
  cases o with
  | pair a d => obtain ⟨b, rfl, _⟩ := h; exact as_pair_text _
  | text s n => exact absurd rfl hn
  | vec l => obtain ⟨b, sv, rfl, _⟩ := h; exact as_vector_text _
  | code le mo de bs cs => obtain ⟨b, sv, cv, rfl, _⟩ := h; exact as_code_text _
theorem ObAt.not_vec {w : World} {G : Nat → Nat} {L : Nat} {v : Value} {o : Ob} (h : ObAt w G L v o) (hn : o.kind ≠ 4) : NotA v 206 := by
  cases o with
  | pair a d => obtain ⟨b, rfl, _⟩ := h; exact as_pair_vector _
  | text s n => obtain ⟨b, rfl, _⟩ := h; exact as_text_vector _
  | vec l => exact absurd rfl hn
  | code le mo de bs cs => obtain ⟨b, sv, cv, rfl, _⟩ := h; exact as_code_vector _
theorem ObAt.not_code {w : World} {G : Nat → Nat} {L : Nat} {v : Value} {o : Ob} (h : ObAt w G L v o) (hn : o.kind ≠ 6) : NotA v 215 := by
  cases o with
  | pair a d => obtain ⟨b, rfl, _⟩ := h; exact as_pair_code _
  | text s n => obtain ⟨b, rfl, _⟩ := h; exact as_text_code _
  | vec l => obtain ⟨b, sv, rfl, _⟩ := h; exact as_vector_code _
  | code le mo de bs cs => exact absurd rfl hn
def Hp.car (m : Hp) (x : Wd) : Wd × Int := if x = (1, 0) then (x, 0) else match m.find x with
  | some (.pair a _) => (a, 0)
  | _ => ((0, 0), 6)
def Hp.cdr (m : Hp) (x : Wd) : Wd × Int := if x = (1, 0) then (x, 0) else match m.find x with
  | some (.pair _ d) => (d, 0)
  | _ => ((0, 0), 6)
theorem car_any {w : World} {hb : Nat} {G : Nat → Nat} {m : Hp} (h : HeapAt w hb G m) (x : Wd) :
    Calls Tryz.prog 18 #[hptr hb, wv x] w fun e w' => e = .returned (.tuple #[wv (m.car x).1, .int .i64 (m.car x).2]) ∧ Below w.heap.size w w' := by
  unfold Hp.car
  by_cases hx : x = (1, 0)
  · rw [if_pos hx]; exact car_nil hb x w h.valid hx
  · rw [if_neg hx]
    cases hf : m.find x with
    | none => exact car_not hb x _ w h.valid hx (h.find_none hf) as_nil_pair
    | some o =>
      obtain ⟨v, _, hv, cF, _⟩ := h.find_some hf
      by_cases hk : o.kind = 2
      · cases o with
        | pair a d => obtain ⟨b, rfl, hG, hh⟩ := hv; exact car_yes hb b x a w h.valid hx cF (lt_at hh) (cell_at hh) (cell_at hh)
        | text s n => cases hk
        | vec l => cases hk
        | code le mo de bs cs => cases hk
      · have := car_not hb x _ w h.valid hx cF (hv.not_pair hk)
        cases o with
        | pair a d => exact absurd rfl hk
        | text s n => exact this
        | vec l => exact this
        | code le mo de bs cs => exact this
theorem cdr_any {w : World} {hb : Nat} {G : Nat → Nat} {m : Hp} (h : HeapAt w hb G m) (x : Wd) :
    Calls Tryz.prog 59 #[hptr hb, wv x] w fun e w' => e = .returned (.tuple #[wv (m.cdr x).1, .int .i64 (m.cdr x).2]) ∧ Below w.heap.size w w' := by
  unfold Hp.cdr
  by_cases hx : x = (1, 0)
  · rw [if_pos hx]; exact cdr_nil hb x w h.valid hx
  · rw [if_neg hx]
    cases hf : m.find x with
    | none => exact cdr_not hb x _ w h.valid hx (h.find_none hf) as_nil_pair
    | some o =>
      obtain ⟨v, _, hv, cF, _⟩ := h.find_some hf
      by_cases hk : o.kind = 2
      · cases o with
        | pair a d => obtain ⟨b, rfl, hG, hh⟩ := hv; exact cdr_yes hb b x d w h.valid hx cF (lt_at hh) (cell_at hh) (cell_at hh)
        | text s n => cases hk
        | vec l => cases hk
        | code le mo de bs cs => cases hk
      · have := cdr_not hb x _ w h.valid hx cF (hv.not_pair hk)
        cases o with
        | pair a d => exact absurd rfl hk
        | text s n => exact this
        | vec l => exact this
        | code le mo de bs cs => exact this
/-- An object in the place of another one. -/
def Hp.set (m : Hp) (i : Nat) (o : Ob) : Hp := { m with obs := m.obs.set i (some o) }
theorem total_set {l : List (Option Ob)} {i : Nat} {o o' : Option Ob} (h : l[i]? = some o) (hs : osize o' = osize o) : total (l.set i o') = total l := by
  unfold total
  rw [List.map_set, hs]
  congr 1
  refine List.ext_getElem? fun j => ?_
  by_cases e : i = j
  · subst e
    have hi := (List.getElem?_eq_some_iff.1 h).1
    rw [List.getElem?_set_self (by simpa using hi)]
    simp [h]
  · rw [List.getElem?_set_ne e]
theorem Hp.Ok.set {m : Hp} {i : Nat} {o o' : Ob} (h : m.Ok) (ho : m.obs[i]? = some (some o)) (hs : o'.size = o.size) : (m.set i o').Ok := by
  refine ⟨h.lim1, h.lim2, by simpa [Hp.set] using h.len, by simp only [Hp.set]; rw [total_set ho (by simpa [osize] using hs)]; exact h.store, fun j => ?_, h.once⟩
  have h1 := h.free j
  simp only [Hp.set]
  rw [h1]
  constructor
  · rintro ⟨n, e, h2⟩
    refine ⟨n, e, ?_⟩
    rw [List.getElem?_set_ne (by intro e2; subst e2; rw [ho] at h2; cases h2)]
    exact h2
  · rintro ⟨n, e, h2⟩
    refine ⟨n, e, ?_⟩
    by_cases e2 : i = n
    · subst e2
      rw [List.getElem?_set_self (List.getElem?_eq_some_iff.1 ho).1] at h2
      cases h2
    · rwa [List.getElem?_set_ne e2] at h2
/-- What an object holds has turned, and nothing else of the heap. -/
theorem HeapAt.upd {w w' : World} {hb : Nat} {G : Nat → Nat} {m : Hp} (h : HeapAt w hb G m) {i : Nat} {o o' : Ob} (ho : m.obs[i]? = some (some o)) (hs : o'.size = o.size) (hz : w.heap.size ≤ w'.heap.size)
    (hb' : ∀ k, k < w.heap.size → G k ≠ 0 → G k ≠ 4 + i → w'.heap[k]? = w.heap[k]?) (hv : ∀ v, CellIs w hb i v → ObAt w G (4 + i) v o → ObAt w' G (4 + i) v o') : HeapAt w' hb G (m.set i o') := by
  have hok := h.ok.set ho hs
  obtain ⟨ok, new, lab, vo, vf, xs, h1, h2, h3, h4⟩ := h
  have ht : total (m.set i o').obs = total m.obs := total_set ho (by simpa [osize] using hs)
  have hl : (m.set i o').obs.length = m.obs.length := by simp [Hp.set]
  refine ⟨hok, fun k hk => new k (by omega), lab, vo, vf, xs, ?_, ?_, h3.keep (fun k hk e => hb' k hk (by omega) (by omega)) (fun _ _ e => e), fun j oj hj => ?_⟩
  · rw [ht]; exact (hb' hb (lt_at h1) (by omega) (by omega)).trans h1
  · rw [hl]; exact h2.keep (fun k hk e => hb' k hk (by omega) (by omega)) (fun _ _ e => e)
  · by_cases e : i = j
    · subst e
      simp only [Hp.set] at hj
      rw [List.getElem?_set_self (List.getElem?_eq_some_iff.1 ho).1] at hj
      have hj := Option.some.inj hj
      subst hj
      obtain ⟨v, e1, e2⟩ := h4 i _ ho
      have hi := (List.getElem?_eq_some_iff.1 ho).1
      obtain ⟨g, cap, cur, hvo, _⟩ := h2.at (by omega)
      subst hvo
      exact ⟨v, e1, hv v ⟨_, g, _, _, _, _, h1, h2.cell e1⟩ e2⟩
    · simp only [Hp.set] at hj
      rw [List.getElem?_set_ne e] at hj
      obtain ⟨v, e1, e2⟩ := h4 j _ hj
      exact ⟨v, e1, e2.keep (by omega) (fun k hk e => hb' k hk (by omega) (by omega)) (fun _ _ e => e)⟩
theorem setcdr_no {w : World} {hb : Nat} {G : Nat → Nat} {m : Hp} (h : HeapAt w hb G m) (x y : Wd) (hf : ∀ a d, m.find x ≠ some (.pair a d)) :
    Calls Tryz.prog 54 #[hptr hb, wv x, wv y] w fun e w' => e = .returned (.int .i64 6) ∧ Below w.heap.size w w' := by
  cases hf2 : m.find x with
  | none => exact setcdr_not hb x y _ w h.valid (h.find_none hf2) as_nil_pair
  | some o =>
    obtain ⟨v, _, hv, cF, _⟩ := h.find_some hf2
    exact setcdr_not hb x y _ w h.valid cF (hv.not_pair (by
      intro hk
      cases o with
      | pair a d => exact hf a d hf2
      | text s n => cases hk
      | vec l => cases hk
      | code le mo de bs cs => cases hk))
/-- Two cells of one block written behind a call that leaves old blocks alone. -/
theorem went_upd {w W w' : World} {hb b i : Nat} {G : Nat → Nat} {m : Hp} {o o' : Ob} {p q : Addr} {u v : Value} (h : HeapAt w hb G m) (ho : m.obs[i]? = some (some o)) (hs : o'.size = o.size) (hW : Below w.heap.size w W) (hG : G b = 4 + i)
    (hp : p.block = b) (hq : q.block = b) (hw : w' = (W.setCell p u).setCell q v) (hv : ∀ v, CellIs W hb i v → ObAt W G (4 + i) v o → ObAt w' G (4 + i) v o') : Went w w' hb G (m.set i o') := by
  have hof : ∀ k, k ≠ b → w'.heap[k]? = W.heap[k]? := fun k hk => by rw [hw, setCell_off _ (by omega), setCell_off _ (by omega)]
  have hz : w'.heap.size = W.heap.size := by rw [hw]; simp [World.setCell]
  have hos : w'.os = W.os ∧ w'.tape = W.tape ∧ w'.output = W.output := by rw [hw]; exact ⟨rfl, rfl, rfl⟩
  have hs1 := hW.size
  refine ⟨⟨hos.1.trans hW.os, hos.2.1.trans hW.tape, hos.2.2.trans hW.output, by omega, fun k hk hz => ?_⟩, G, (h.below hW).upd ho hs (by omega) (fun k hk hz hne => hof k (by intro e; subst e; exact hne hG)) hv, fun k hk => Iff.rfl⟩
  rw [hof k (by intro e; subst e; omega)]
  exact hW.block k hk
theorem setcdr_ok {w : World} {hb : Nat} {G : Nat → Nat} {m : Hp} (h : HeapAt w hb G m) (x y a d : Wd) (hf : m.find x = some (.pair a d)) :
    Calls Tryz.prog 54 #[hptr hb, wv x, wv y] w fun e w' => e = .returned (.int .i64 0) ∧ Went w w' hb G (m.set x.2.toNat (.pair a y)) := by
  obtain ⟨v, hob, ⟨b, rfl, hG, hh⟩, cF, hci⟩ := h.find_some hf
  refine (setcdr_yes hb b x y d.1 d.2 w h.valid cF (lt_at hh) (cell_at hh) (cell_at hh) (frozen_at hh) (frozen_at hh)).mono ?_
  rintro e w' ⟨he, W, hW, hw⟩
  refine ⟨he, went_upd h hob rfl hW hG rfl rfl hw ?_⟩
  rintro v hc2 _
  cases hc2.same (hci.below hW)
  have hh2 := (hW.block b (lt_at hh)).trans hh
  refine ⟨b, rfl, hG, ?_⟩
  rw [hw]
  exact setCell_at (i := 3) (setCell_at (i := 2) hh2 (.int .i64 y.1)) (.int .i64 y.2)
end Go.Proofs.YtbbopdkbokbafaaGreatDoor

/- The contracts of TextOf, VecOf, At and SetAt on a heap that stands. -/
namespace Go.Proofs.YtbbopdkbokbafaaGreatDoor
open Go.RowKit Go.Lib
theorem textof_no {w : World} {hb : Nat} {G : Nat → Nat} {m : Hp} (h : HeapAt w hb G m) (x : Wd) (hf : ∀ s n, m.find x ≠ some (.text s n)) :
    Calls Tryz.prog 42 #[hptr hb, wv x] w fun e w' => e = .returned (.tuple #[.string ⟨#[]⟩, .int .i64 6]) ∧ Below w.heap.size w w' := by
  cases hf2 : m.find x with
  | none => exact textof_not hb x _ w h.valid (h.find_none hf2) as_nil_text
  | some o =>
    obtain ⟨v, _, hv, cF, _⟩ := h.find_some hf2
    exact textof_not hb x _ w h.valid cF (hv.not_text (by
      intro hk
      cases o with
      | pair a d => cases hk
      | text s n => exact hf s n hf2
      | vec l => cases hk
      | code le mo de bs cs => cases hk))
theorem textof_ok {w : World} {hb : Nat} {G : Nat → Nat} {m : Hp} (h : HeapAt w hb G m) (x : Wd) (s : ByteArray) (n : Nat) (hf : m.find x = some (.text s n)) :
    Calls Tryz.prog 42 #[hptr hb, wv x] w fun e w' => e = .returned (.tuple #[.string s, .int .i64 0]) ∧ Below w.heap.size w w' := by
  obtain ⟨v, _, ⟨b, rfl, hG, hh⟩, cF, _⟩ := h.find_some hf
  exact textof_yes hb b x s w h.valid cF (lt_at hh) (cell_at hh)
theorem vecof_no {w : World} {hb : Nat} {G : Nat → Nat} {m : Hp} (h : HeapAt w hb G m) (x : Wd) (hf : ∀ l, m.find x ≠ some (.vec l)) :
    Calls Tryz.prog 126 #[hptr hb, wv x] w fun e w' => e = .returned (.tuple #[.slice none 0 0, .int .i64 6]) ∧ Below w.heap.size w w' := by
  cases hf2 : m.find x with
  | none => exact vecof_not hb x _ w h.valid (h.find_none hf2) as_nil_vector
  | some o =>
    obtain ⟨v, _, hv, cF, _⟩ := h.find_some hf2
    exact vecof_not hb x _ w h.valid cF (hv.not_vec (by
      intro hk
      cases o with
      | pair a d => cases hk
      | text s n => cases hk
      | vec l => exact hf l hf2
      | code le mo de bs cs => cases hk))
theorem Row.src {w : World} {G : Nat → Nat} {L e size n : Nat} {v : Value} {xs : List Value} (h : Row w G L e size v n xs) : Src w size v n xs := Src.of_own h.own
theorem osize_le {l : List (Option Ob)} {i : Nat} {o : Option Ob} (h : l[i]? = some o) : osize o ≤ total l := by
  induction l generalizing i with
  | nil => simp at h
  | cons y l ih =>
    cases i with
    | zero => simp at h; subst h; simp [total]
    | succ i => simp at h; have := ih h; simp [total] at this ⊢; omega
theorem vecof_ok {w : World} {hb : Nat} {G : Nat → Nat} {m : Hp} (h : HeapAt w hb G m) (x : Wd) (l : List Wd) (hl : l.length ≤ 65536) (hf : m.find x = some (.vec l)) :
    Calls Tryz.prog 126 #[hptr hb, wv x] w fun e w' => ∃ v', e = .returned (.tuple #[v', .int .i64 0]) ∧ w'.ownsRow w.heap.size 28 2 v' l.length (wcells l) ∧ Below w.heap.size w w' := by
  obtain ⟨v, _, ⟨b, sv, rfl, hG, hh, hr⟩, cF, _⟩ := h.find_some hf
  obtain ⟨a, c, rfl⟩ := hr.slice
  exact vecof_yes hb b l.length c a (wcells l) x w h.valid cF (lt_at hh) (cell_at hh) fun W hW => copy_word _ _ _ W (hr.src.below hW (fun k hk => hr.lt k hk)) (wcells_one l) (by omega)
/-- What element comes to, in any world in which the blocks of w stand. -/
abbrev ElemIn (w : World) (hb : Nat) (x : Wd) (i : Int) (p : Value) (er : Int) : Prop := ∀ W, Old w W → w.heap.size ≤ W.heap.size → Calls Tryz.prog 245 #[hptr hb, wv x, .int .i64 i] W fun e w' => e = .returned (.tuple #[p, .int .i64 er]) ∧ Below W.heap.size W w'
theorem Old.trans {a b c : World} (h : Old a b) (k : Old b c) (hs : a.heap.size ≤ b.heap.size) : Old a c := fun i hi => (k i (by omega)).trans (h i hi)
theorem ValidIn.old {w W : World} {hb : Nat} (h : ValidIn w hb) (hW : Old w W) (hs : w.heap.size ≤ W.heap.size) : ValidIn W hb := fun V hV => h V (hW.trans hV hs)
theorem FindIn.old {w W : World} {hb : Nat} {x : Wd} {v : Value} (h : FindIn w hb x v) (hW : Old w W) (hs : w.heap.size ≤ W.heap.size) : FindIn W hb x v := fun V hV hs2 => h V (hW.trans hV hs) (by omega)
theorem Old.cell {w W : World} (h : Old w W) {p : Addr} (hp : p.block < w.heap.size) : W.cell? p = w.cell? p := World.cell?_of_block (w := w) (h _ hp)
theorem Old.frozen {w W : World} (h : Old w W) {p : Addr} (hp : p.block < w.heap.size) : W.frozen? p = w.frozen? p := World.frozen?_of_block (w := w) (h _ hp)
theorem HeapAt.elem_no {w : World} {hb : Nat} {G : Nat → Nat} {m : Hp} (h : HeapAt w hb G m) (x : Wd) (i : Int) (hf : ∀ l, m.find x ≠ some (.vec l)) : ElemIn w hb x i (.pointer none) 6 := by
  intro W hW hs
  cases hf2 : m.find x with
  | none => exact elem_not hb x i _ W (h.valid.old hW hs) ((h.find_none hf2).old hW hs) as_nil_vector
  | some o =>
    obtain ⟨v, _, hv, cF, _⟩ := h.find_some hf2
    exact elem_not hb x i _ W (h.valid.old hW hs) (cF.old hW hs) (hv.not_vec (by
      intro hk
      cases o with
      | pair a d => cases hk
      | text s n => cases hk
      | vec l => exact hf l hf2
      | code le mo de bs cs => cases hk))
theorem HeapAt.elem_out {w : World} {hb : Nat} {G : Nat → Nat} {m : Hp} (h : HeapAt w hb G m) (x : Wd) (i : Int) (l : List Wd) (hf : m.find x = some (.vec l)) (hi : i < 0 ∨ (l.length : Int) ≤ i) : ElemIn w hb x i (.pointer none) 3 := by
  intro W hW hs
  obtain ⟨v, _, ⟨b, sv, rfl, hG, hh, hr⟩, cF, _⟩ := h.find_some hf
  obtain ⟨a, c, rfl⟩ := hr.slice
  exact elem_range hb b l.length c a x i W (h.valid.old hW hs) (cF.old hW hs) (by have := lt_at hh; omega) ((hW.cell (lt_at hh)).trans (cell_at hh)) hi
/-- Where element i of a vector lies. -/
theorem HeapAt.elem_in {w : World} {hb : Nat} {G : Nat → Nat} {m : Hp} (h : HeapAt w hb G m) (x : Wd) (i : Nat) (l : List Wd) (hf : m.find x = some (.vec l)) (hi : i < l.length) :
    ∃ b g c cur, m.obs[x.2.toNat]? = some (some (.vec l)) ∧ G b = 4 + x.2.toNat ∧ G g = 4 + x.2.toNat ∧ g ≠ b ∧ w.heap[b]? = some (.cells #[.slice (some ⟨g, 0, none⟩) l.length c] 214 (0, 0)) ∧ w.heap[g]? = some (.cells cur 28 (0, 0)) ∧
      l.length ≤ c ∧ c ≤ maxLen ∧ cur.size = c * 2 ∧ cur.toList.take (l.length * 2) = wcells l ∧ CellIs w hb x.2.toNat (.iface 206 (.pointer (some ⟨b, 0, none⟩))) ∧ ElemIn w hb x i (.pointer (some ⟨g, i * 2, none⟩)) 0 := by
  obtain ⟨v, hob, ⟨b, sv, rfl, hG, hh, hr⟩, cF, hci⟩ := h.find_some hf
  obtain ⟨g, c, cur, rfl, hg2, hgh, h1, h2, h3, h4⟩ := hr.at (by omega)
  have hne : g ≠ b := by
    intro e
    subst e
    rw [if_pos rfl] at hg2
    omega
  rw [if_neg hne] at hg2
  exact ⟨b, g, c, cur, hob, hG, hg2, hne, hh, hgh, h1, h2, h3, h4, hci, fun W hW hs => elem_yes hb b l.length c g i x W (h.valid.old hW hs) (cF.old hW hs) (by have := lt_at hh; omega) ((hW.cell (lt_at hh)).trans (cell_at hh)) hi⟩
end Go.Proofs.YtbbopdkbokbafaaGreatDoor

/- The contracts of the small functions that the laws call. -/
namespace Go.Proofs.YtbbopdkbokbafaaGreatDoor
open Go.RowKit Go.Lib
theorem alloc_two (w : World) (a b : Value) (u v : Value) (T : TypeId) : (((w.alloc (.cells #[a, b] T)).setCell ⟨w.heap.size, 0, none⟩ u).setCell ⟨w.heap.size, 1, none⟩ v).heap[w.heap.size]? = some (.cells #[u, v] T (0, 0)) := by
  have := setCell_at (i := 1) (setCell_at (i := 0) (alloc_at w (.cells #[a, b] T)) u) v
  simpa using this
set_option maxHeartbeats 400000 in
theorem int_any (n : Int) (w : World) : Calls Tryz.prog 21 #[.int .i64 n] w fun e w' => e = .returned (wv (0, n)) ∧ Below w.heap.size w w' := by
  go_enter Tryz.func21, Tryz.ntmps21
  go_wp2
  exact bodyPost_ret (v := wv (0, n)) (by simp [results, Tryz.results21, go_sem]) rfl ⟨rfl, (Below.refl _ _).alloc (Nat.le_refl _) _⟩
set_option maxHeartbeats 400000 in
theorem sym_any (n : Int) (w : World) : Calls Tryz.prog 20 #[.int .i64 n] w fun e w' => e = .returned (wv (1, n)) ∧ Below w.heap.size w w' := by
  go_enter Tryz.func20, Tryz.ntmps20
  go_wp2
  exact bodyPost_ret (v := wv (1, n)) (by simp [results, Tryz.results20, go_sem]) rfl ⟨rfl, (Below.refl _ _).alloc (Nat.le_refl _) _⟩
set_option maxHeartbeats 400000 in
theorem nil_any (w : World) : Calls Tryz.prog 49 #[] w fun e w' => e = .returned (wv (1, 0)) ∧ Below w.heap.size w w' := by
  go_enter Tryz.func49, Tryz.ntmps49
  go_wp2_with fail
  refine (sym_any 0 _).mono ?_
  rintro e W ⟨rfl, hb1⟩
  have k0 : W.heap[w.heap.size]? = some (.cells #[.int .i64 0, .int .i64 0] 28 (0, 0)) := (hb1.block _ (by simp)).trans (alloc_at w _)
  have hbw : Below w.heap.size w W := ((Below.refl _ _).alloc (Nat.le_refl _) _).trans (hb1.mono (by simp))
  have d0 : W.cell? ⟨w.heap.size, 0, none⟩ = some (.int .i64 0) := cell_at k0
  have d1 : W.cell? ⟨w.heap.size, 1, none⟩ = some (.int .i64 0) := cell_at k0
  have e0 : W.frozen? ⟨w.heap.size, 0, none⟩ = false := frozen_at k0
  have e1 : W.frozen? ⟨w.heap.size, 1, none⟩ = false := frozen_at k0
  have HP := Lib.hid hbw
  clear hb1 k0 hbw
  go_wp2
  refine bodyPost_ret (v := wv (1, 0)) ?_ rfl ⟨rfl, (HP.out.setCell (Nat.le_refl _) _).setCell (Nat.le_refl _) _⟩
  simp [results, Tryz.results49, go_sem, d0, d1]
/-- Pick's own arithmetic. -/
def pickZ (n m : Int) : Int := if m ≤ 0 then 0 else if n.tmod m < 0 then n.tmod m + m else n.tmod m
theorem tmod_lo (n m : Int) (h : 0 < m) : -m < n.tmod m := by
  by_cases hn : 0 ≤ n
  · have := Int.tmod_nonneg m hn
    omega
  · have h1 := Int.tmod_lt_of_pos (-n) h
    rw [Int.neg_tmod] at h1
    omega
theorem pickZ_in (n : Int) (m : Int) (h : 0 < m) : 0 ≤ pickZ n m ∧ pickZ n m < m := by
  unfold pickZ
  have h1 := Int.tmod_lt_of_pos n h
  have h2 := tmod_lo n m h
  rw [if_neg (by omega)]
  by_cases h3 : n.tmod m < 0
  · rw [if_pos h3]; omega
  · rw [if_neg h3]; omega
set_option maxHeartbeats 400000 in
theorem pick_any (n m : Int) (w : World) (h0 : 0 < m) (h1 : m ≤ 1000000) :
    Calls Tryz.prog 38 #[.int .i64 n, .int .i64 m] w fun e w' => e = .returned (.int .i64 (pickZ n m)) ∧ w' = w := by
  have hp : ¬ m ≤ 0 := by omega
  have hm1 : m ≠ -1 := by omega
  have hm0 : m ≠ 0 := by omega
  have ht1 := Int.tmod_lt_of_pos n h0
  have ht2 := tmod_lo n m h0
  unfold pickZ
  rw [if_neg hp]
  by_cases h3 : n.tmod m < 0
  · rw [if_pos h3]
    go_enter Tryz.func38, Tryz.ntmps38
    go_wp2
    go_ret
    exact ⟨rfl, rfl⟩
  · rw [if_neg h3]
    go_enter Tryz.func38, Tryz.ntmps38
    go_wp2
    go_ret
    exact ⟨rfl, rfl⟩
end Go.Proofs.YtbbopdkbokbafaaGreatDoor

