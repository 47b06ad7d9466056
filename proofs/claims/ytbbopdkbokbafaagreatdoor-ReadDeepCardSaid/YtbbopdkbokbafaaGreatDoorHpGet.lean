/- The contracts of Car, Cdr, SetCar, SetCdr, TextOf, VecOf and Live on a heap that stands: the walks. -/
import Derived.Test.YtbbopdkbokbafaaGreatDoorHpMade
namespace Go.Proofs.YtbbopdkbokbafaaGreatDoor
open Go.RowKit Go.Lib
/-- What a word's look-up comes to, in any world in which the blocks of w stand. -/
abbrev FindIn (w : World) (hb : Nat) (x : Wd) (v : Value) : Prop := ∀ W, Old w W → w.heap.size ≤ W.heap.size → Calls Tryz.prog 70 #[hptr hb, wv x] W fun e w' => e = .returned v ∧ Below W.heap.size W w'
theorem HeapAt.old {w W : World} {hb : Nat} {G : Nat → Nat} {m : Hp} (h : HeapAt w hb G m) (hW : Old w W) : HeapAt W hb G m := h.keep fun k hk _ => hW k hk
theorem HeapAt.find_none {w : World} {hb : Nat} {G : Nat → Nat} {m : Hp} (h : HeapAt w hb G m) {x : Wd} (hx : m.find x = none) : FindIn w hb x .nilIface := fun _ hW _ => YtbbopdkbokbafaaGreatDoor.find_none (h.old hW) x hx
/-- The cell of number i in the row of objects. -/
def CellIs (w : World) (hb i : Nat) (v : Value) : Prop := ∃ l g n c vf st, w.heap[hb]? = some (.cells #[l, .slice (some ⟨g, 0, none⟩) n c, vf, st] 135 (0, 0)) ∧ w.cell? ⟨g, i, none⟩ = some v
theorem CellIs.same {w : World} {hb i : Nat} {v v' : Value} (h : CellIs w hb i v) (h' : CellIs w hb i v') : v = v' := by
  obtain ⟨l, g, n, c, vf, st, h1, h2⟩ := h
  obtain ⟨l', g', n', c', vf', st', h1', h2'⟩ := h'
  rw [h1] at h1'
  cases h1'
  rw [h2] at h2'
  exact Option.some.inj h2'
theorem CellIs.below {w W : World} {hb i : Nat} {v : Value} (h : CellIs w hb i v) (hW : Below w.heap.size w W) : CellIs W hb i v := by
  obtain ⟨l, g, n, c, vf, st, h1, h2⟩ := h
  exact ⟨l, g, n, c, vf, st, (hW.block hb (lt_at h1)).trans h1, (hW.cell (p := ⟨g, i, none⟩) (World.block_lt_of_cell? _ _ h2)).trans h2⟩
theorem HeapAt.find_some {w : World} {hb : Nat} {G : Nat → Nat} {m : Hp} (h : HeapAt w hb G m) {x : Wd} {o : Ob} (hx : m.find x = some o) :
    ∃ v, m.obs[x.2.toNat]? = some (some o) ∧ ObAt w G (4 + x.2.toNat) v o ∧ FindIn w hb x v ∧ CellIs w hb x.2.toNat v := by
  have hlt := h.lt
  obtain ⟨ok, new, lab, vo, vf, xs, h1, h2, h3, h4⟩ := h
  obtain ⟨k, i⟩ := x
  unfold Hp.find at hx
  by_cases h0 : 0 ≤ i
  · rw [if_pos h0] at hx
    obtain ⟨i, rfl⟩ := Int.eq_ofNat_of_zero_le h0
    simp only [Int.toNat_natCast] at hx ⊢
    cases ho : m.obs[i]? with
    | none => rw [ho] at hx; cases hx
    | some o' =>
      cases o' with
      | none => rw [ho] at hx; cases hx
      | some o' =>
        rw [ho] at hx
        simp only at hx
        by_cases hk : o'.kind = k
        · rw [if_pos hk] at hx
          have ho2 := Option.some.inj hx
          subst ho2
          have hi : i < m.obs.length := (List.getElem?_eq_some_iff.1 ho).1
          obtain ⟨g, cap, cur, hv, hg, hh, _⟩ := h2.at (by omega)
          subst hv
          obtain ⟨v, hv1, hv2⟩ := h4 i _ ho
          have cg := h2.cell hv1
          have hv2 : ObAt w G (4 + i) v o' := hv2
          have hkv := kind_v hv2
          obtain ⟨T, b, rfl, hb2⟩ := hv2.iface
          refine ⟨_, rfl, hv2, fun W hW hs => ?_, ⟨_, g, _, _, _, _, h1, cg⟩⟩
          exact find_at hb k i _ cap g T _ o'.kind W (by omega) (cell_at ((hW hb hlt).trans h1)) hi (by have := lt_at hh; omega) (by rw [World.cell?_of_block (w := w) (hW g (lt_at hh))]; exact cg) hkv false (by simpa using hk)
        · rw [if_neg hk] at hx; cases hx
  · rw [if_neg h0] at hx; cases hx
theorem isnil_yes (x : Wd) (w : World) (h : x = (1, 0)) : Calls Tryz.prog 69 #[wv x] w fun e w' => e = .returned (.bool true) ∧ Below w.heap.size w w' := by
  subst h
  go_enter Tryz.func69, Tryz.ntmps69
  go_wp2
  go_ret
  exact ⟨rfl, (Below.refl _ _).alloc (Nat.le_refl _) _⟩
theorem isnil_no (x : Wd) (w : World) (h : x ≠ (1, 0)) : Calls Tryz.prog 69 #[wv x] w fun e w' => e = .returned (.bool false) ∧ Below w.heap.size w w' := by
  obtain ⟨k, n⟩ := x
  by_cases h1 : k = 1
  · have hk : (k == 1) = true := by simpa using h1
    have hn : (n == 0) = false := by
      rw [beq_eq_false_iff_ne]; intro e; exact h (by rw [h1, e])
    clear h h1
    go_enter Tryz.func69, Tryz.ntmps69
    go_wp2
    go_ret
    exact ⟨rfl, (Below.refl _ _).alloc (Nat.le_refl _) _⟩
  · have hk : (k == 1) = false := by simpa using h1
    clear h h1
    go_enter Tryz.func69, Tryz.ntmps69
    go_wp2
    go_ret
    exact ⟨rfl, (Below.refl _ _).alloc (Nat.le_refl _) _⟩
set_option maxHeartbeats 1000000 in
theorem car_nil (hb : Nat) (x : Wd) (w : World) (cV : ValidIn w hb) (hx : x = (1, 0)) :
    Calls Tryz.prog 18 #[hptr hb, wv x] w fun e w' => e = .returned (.tuple #[wv x, .int .i64 0]) ∧ Below w.heap.size w w' := by
  have CV := Lib.hid cV
  clear cV
  have cN := fun W => isnil_yes x W hx
  clear hx
  go_enter Tryz.func18, Tryz.ntmps18
  go_wp2_with (go_at_call 68; refine (CV.out _ ?_).mono ?_; exact ((Old.refl _).alloc (Nat.le_refl _) _).alloc (by simp) _; rintro e w' ⟨rfl, rfl⟩)
  refine (cN _).mono ?_
  rintro e W ⟨rfl, hb1⟩
  have k0 : W.heap[w.heap.size]? = some (.cells #[.int .i64 x.1, .int .i64 x.2] 28 (0, 0)) := (hb1.block _ (by simp; omega)).trans ((Below.heap_alloc _ _ _ (by simp)).trans (alloc_at w _))
  have k1 : W.heap[w.heap.size + 1]? = some (.cells #[.int .i64 0, .int .i64 0] 28 (0, 0)) := (hb1.block _ (by simp)).trans (by
    have := alloc_at (w.alloc (.cells #[.int .i64 x.1, .int .i64 x.2] 28)) (.cells #[.int .i64 0, .int .i64 0] 28)
    rw [show (w.alloc (.cells #[.int .i64 x.1, .int .i64 x.2] 28)).heap.size = w.heap.size + 1 from by simp] at this
    exact this)
  have hbw : Below w.heap.size w W := (((Below.refl _ _).alloc (Nat.le_refl _) _).alloc (by simp) _).trans (hb1.mono (by simp; omega))
  have hz : w.heap.size + 2 ≤ W.heap.size := Nat.le_trans (by simp) hb1.size
  have c0 : W.cell? ⟨w.heap.size, 0, none⟩ = some (.int .i64 x.1) := cell_at k0
  have c1 : W.cell? ⟨w.heap.size, 1, none⟩ = some (.int .i64 x.2) := cell_at k0
  have d0 : W.cell? ⟨w.heap.size + 1, 0, none⟩ = some (.int .i64 0) := cell_at k1
  have d1 : W.cell? ⟨w.heap.size + 1, 1, none⟩ = some (.int .i64 0) := cell_at k1
  have e0 : W.frozen? ⟨w.heap.size + 1, 0, none⟩ = false := frozen_at k1
  have e1 : W.frozen? ⟨w.heap.size + 1, 1, none⟩ = false := frozen_at k1
  have HP := Lib.hid hbw
  clear hb1 hbw k0 k1 hz CV
  go_wp2
  refine bodyPost_ret (v := .tuple #[wv x, .int .i64 0]) ?_ rfl ⟨rfl, ?_⟩
  · simp [results, Tryz.results18, go_sem, d0, d1]
  · exact (HP.out.setCell (by simp) _).setCell (by simp) _
set_option maxHeartbeats 1000000 in
theorem car_not (hb : Nat) (x : Wd) (v : Value) (w : World) (cV : ValidIn w hb) (hx : x ≠ (1, 0)) (cF : FindIn w hb x v) (hA : ∀ W, (Instr.typeAssert v 96 93 true).run Tryz.prog W = .ok (.tuple #[.pointer none, .bool false]) W) :
    Calls Tryz.prog 18 #[hptr hb, wv x] w fun e w' => e = .returned (.tuple #[wv (0, 0), .int .i64 6]) ∧ Below w.heap.size w w' := by
  have CV := Lib.hid cV
  clear cV
  have cN := fun W => isnil_no x W hx
  have CF := Lib.hid cF
  clear hx cF
  go_enter Tryz.func18, Tryz.ntmps18
  go_wp2_with (go_at_call 68; refine (CV.out _ ?_).mono ?_; exact ((Old.refl _).alloc (Nat.le_refl _) _).alloc (by simp) _; rintro e w' ⟨rfl, rfl⟩)
  refine (cN _).mono ?_
  rintro e W ⟨rfl, hb1⟩
  have k0 : W.heap[w.heap.size]? = some (.cells #[.int .i64 x.1, .int .i64 x.2] 28 (0, 0)) := (hb1.block _ (by simp; omega)).trans ((Below.heap_alloc _ _ _ (by simp)).trans (alloc_at w _))
  have k1 : W.heap[w.heap.size + 1]? = some (.cells #[.int .i64 0, .int .i64 0] 28 (0, 0)) := (hb1.block _ (by simp)).trans (by
    have := alloc_at (w.alloc (.cells #[.int .i64 x.1, .int .i64 x.2] 28)) (.cells #[.int .i64 0, .int .i64 0] 28)
    rw [show (w.alloc (.cells #[.int .i64 x.1, .int .i64 x.2] 28)).heap.size = w.heap.size + 1 from by simp] at this
    exact this)
  have hbw : Below w.heap.size w W := (((Below.refl _ _).alloc (Nat.le_refl _) _).alloc (by simp) _).trans (hb1.mono (by simp; omega))
  have hz : w.heap.size + 2 ≤ W.heap.size := Nat.le_trans (by simp) hb1.size
  have c0 : W.cell? ⟨w.heap.size, 0, none⟩ = some (.int .i64 x.1) := cell_at k0
  have c1 : W.cell? ⟨w.heap.size, 1, none⟩ = some (.int .i64 x.2) := cell_at k0
  have d0 : W.cell? ⟨w.heap.size + 1, 0, none⟩ = some (.int .i64 0) := cell_at k1
  have d1 : W.cell? ⟨w.heap.size + 1, 1, none⟩ = some (.int .i64 0) := cell_at k1
  have e0 : W.frozen? ⟨w.heap.size + 1, 0, none⟩ = false := frozen_at k1
  have e1 : W.frozen? ⟨w.heap.size + 1, 1, none⟩ = false := frozen_at k1
  have H1 := Lib.hid (And.intro k1 (And.intro hbw hz))
  clear hb1 hbw k0 k1 hz CV d0 d1 e0 e1
  go_wp2_with fail
  refine (CF.out _ (fun k hk => H1.out.2.1.block k hk) (by have := H1.out.2.2; omega)).mono ?_
  rintro e W2 ⟨rfl, hb2⟩
  have k2 : W2.heap[w.heap.size + 1]? = some (.cells #[.int .i64 0, .int .i64 0] 28 (0, 0)) := (hb2.block _ (by have := H1.out.2.2; omega)).trans H1.out.1
  have hbw : Below w.heap.size w W2 := H1.out.2.1.trans (hb2.mono H1.out.2.1.size)
  have d0 : W2.cell? ⟨w.heap.size + 1, 0, none⟩ = some (.int .i64 0) := cell_at k2
  have d1 : W2.cell? ⟨w.heap.size + 1, 1, none⟩ = some (.int .i64 0) := cell_at k2
  have e0 : W2.frozen? ⟨w.heap.size + 1, 0, none⟩ = false := frozen_at k2
  have e1 : W2.frozen? ⟨w.heap.size + 1, 1, none⟩ = false := frozen_at k2
  have HP := Lib.hid hbw
  clear hb2 hbw k2 H1 CF c0 c1
  go_wp2
  refine bodyPost_ret (v := .tuple #[wv (0, 0), .int .i64 6]) ?_ rfl ⟨rfl, ?_⟩
  · simp [results, Tryz.results18, go_sem, d0, d1]
  · exact (HP.out.setCell (by simp) _).setCell (by simp) _
set_option maxHeartbeats 1000000 in
theorem car_yes (hb b : Nat) (x a : Wd) (w : World) (cV : ValidIn w hb) (hx : x ≠ (1, 0)) (cF : FindIn w hb x (.iface 93 (.pointer (some ⟨b, 0, none⟩)))) (hbl : b < w.heap.size)
    (q0 : w.cell? ⟨b, 0, none⟩ = some (.int .i64 a.1)) (q1 : w.cell? ⟨b, 1, none⟩ = some (.int .i64 a.2)) :
    Calls Tryz.prog 18 #[hptr hb, wv x] w fun e w' => e = .returned (.tuple #[wv a, .int .i64 0]) ∧ Below w.heap.size w w' := by
  have CV := Lib.hid cV
  clear cV
  have cN := fun W => isnil_no x W hx
  have CF := Lib.hid cF
  have hA := as_pair_pair (.pointer (some ⟨b, 0, none⟩))
  clear hx cF
  go_enter Tryz.func18, Tryz.ntmps18
  go_wp2_with (go_at_call 68; refine (CV.out _ ?_).mono ?_; exact ((Old.refl _).alloc (Nat.le_refl _) _).alloc (by simp) _; rintro e w' ⟨rfl, rfl⟩)
  refine (cN _).mono ?_
  rintro e W ⟨rfl, hb1⟩
  have k0 : W.heap[w.heap.size]? = some (.cells #[.int .i64 x.1, .int .i64 x.2] 28 (0, 0)) := (hb1.block _ (by simp; omega)).trans ((Below.heap_alloc _ _ _ (by simp)).trans (alloc_at w _))
  have k1 : W.heap[w.heap.size + 1]? = some (.cells #[.int .i64 0, .int .i64 0] 28 (0, 0)) := (hb1.block _ (by simp)).trans (by
    have := alloc_at (w.alloc (.cells #[.int .i64 x.1, .int .i64 x.2] 28)) (.cells #[.int .i64 0, .int .i64 0] 28)
    rw [show (w.alloc (.cells #[.int .i64 x.1, .int .i64 x.2] 28)).heap.size = w.heap.size + 1 from by simp] at this
    exact this)
  have hbw : Below w.heap.size w W := (((Below.refl _ _).alloc (Nat.le_refl _) _).alloc (by simp) _).trans (hb1.mono (by simp; omega))
  have hz : w.heap.size + 2 ≤ W.heap.size := Nat.le_trans (by simp) hb1.size
  have c0 : W.cell? ⟨w.heap.size, 0, none⟩ = some (.int .i64 x.1) := cell_at k0
  have c1 : W.cell? ⟨w.heap.size, 1, none⟩ = some (.int .i64 x.2) := cell_at k0
  have d0 : W.cell? ⟨w.heap.size + 1, 0, none⟩ = some (.int .i64 0) := cell_at k1
  have d1 : W.cell? ⟨w.heap.size + 1, 1, none⟩ = some (.int .i64 0) := cell_at k1
  have e0 : W.frozen? ⟨w.heap.size + 1, 0, none⟩ = false := frozen_at k1
  have e1 : W.frozen? ⟨w.heap.size + 1, 1, none⟩ = false := frozen_at k1
  have H1 := Lib.hid (And.intro k1 (And.intro hbw hz))
  clear hb1 hbw k0 k1 hz CV d0 d1 e0 e1
  go_wp2_with fail
  refine (CF.out _ (fun k hk => H1.out.2.1.block k hk) (by have := H1.out.2.2; omega)).mono ?_
  rintro e W2 ⟨rfl, hb2⟩
  have k2 : W2.heap[w.heap.size + 1]? = some (.cells #[.int .i64 0, .int .i64 0] 28 (0, 0)) := (hb2.block _ (by have := H1.out.2.2; omega)).trans H1.out.1
  have hbw : Below w.heap.size w W2 := H1.out.2.1.trans (hb2.mono H1.out.2.1.size)
  have p0 := (hbw.cell (p := ⟨b, 0, none⟩) hbl).trans q0
  have p1 := (hbw.cell (p := ⟨b, 1, none⟩) hbl).trans q1
  have d0 : W2.cell? ⟨w.heap.size + 1, 0, none⟩ = some (.int .i64 0) := cell_at k2
  have d1 : W2.cell? ⟨w.heap.size + 1, 1, none⟩ = some (.int .i64 0) := cell_at k2
  have e0 : W2.frozen? ⟨w.heap.size + 1, 0, none⟩ = false := frozen_at k2
  have e1 : W2.frozen? ⟨w.heap.size + 1, 1, none⟩ = false := frozen_at k2
  have HP := Lib.hid hbw
  clear hb2 hbw k2 H1 CF c0 c1 q0 q1
  go_wp2
  refine bodyPost_ret (v := .tuple #[wv a, .int .i64 0]) ?_ rfl ⟨rfl, ?_⟩
  · simp [results, Tryz.results18, go_sem, d0, d1]
  · exact (HP.out.setCell (by simp) _).setCell (by simp) _
set_option maxHeartbeats 1000000 in
theorem cdr_nil (hb : Nat) (x : Wd) (w : World) (cV : ValidIn w hb) (hx : x = (1, 0)) :
    Calls Tryz.prog 59 #[hptr hb, wv x] w fun e w' => e = .returned (.tuple #[wv x, .int .i64 0]) ∧ Below w.heap.size w w' := by
  have CV := Lib.hid cV
  clear cV
  have cN := fun W => isnil_yes x W hx
  clear hx
  go_enter Tryz.func59, Tryz.ntmps59
  go_wp2_with (go_at_call 68; refine (CV.out _ ?_).mono ?_; exact ((Old.refl _).alloc (Nat.le_refl _) _).alloc (by simp) _; rintro e w' ⟨rfl, rfl⟩)
  refine (cN _).mono ?_
  rintro e W ⟨rfl, hb1⟩
  have k0 : W.heap[w.heap.size]? = some (.cells #[.int .i64 x.1, .int .i64 x.2] 28 (0, 0)) := (hb1.block _ (by simp; omega)).trans ((Below.heap_alloc _ _ _ (by simp)).trans (alloc_at w _))
  have k1 : W.heap[w.heap.size + 1]? = some (.cells #[.int .i64 0, .int .i64 0] 28 (0, 0)) := (hb1.block _ (by simp)).trans (by
    have := alloc_at (w.alloc (.cells #[.int .i64 x.1, .int .i64 x.2] 28)) (.cells #[.int .i64 0, .int .i64 0] 28)
    rw [show (w.alloc (.cells #[.int .i64 x.1, .int .i64 x.2] 28)).heap.size = w.heap.size + 1 from by simp] at this
    exact this)
  have hbw : Below w.heap.size w W := (((Below.refl _ _).alloc (Nat.le_refl _) _).alloc (by simp) _).trans (hb1.mono (by simp; omega))
  have hz : w.heap.size + 2 ≤ W.heap.size := Nat.le_trans (by simp) hb1.size
  have c0 : W.cell? ⟨w.heap.size, 0, none⟩ = some (.int .i64 x.1) := cell_at k0
  have c1 : W.cell? ⟨w.heap.size, 1, none⟩ = some (.int .i64 x.2) := cell_at k0
  have d0 : W.cell? ⟨w.heap.size + 1, 0, none⟩ = some (.int .i64 0) := cell_at k1
  have d1 : W.cell? ⟨w.heap.size + 1, 1, none⟩ = some (.int .i64 0) := cell_at k1
  have e0 : W.frozen? ⟨w.heap.size + 1, 0, none⟩ = false := frozen_at k1
  have e1 : W.frozen? ⟨w.heap.size + 1, 1, none⟩ = false := frozen_at k1
  have HP := Lib.hid hbw
  clear hb1 hbw k0 k1 hz CV
  go_wp2
  refine bodyPost_ret (v := .tuple #[wv x, .int .i64 0]) ?_ rfl ⟨rfl, ?_⟩
  · simp [results, Tryz.results59, go_sem, d0, d1]
  · exact (HP.out.setCell (by simp) _).setCell (by simp) _
set_option maxHeartbeats 1000000 in
theorem cdr_not (hb : Nat) (x : Wd) (v : Value) (w : World) (cV : ValidIn w hb) (hx : x ≠ (1, 0)) (cF : FindIn w hb x v) (hA : ∀ W, (Instr.typeAssert v 96 93 true).run Tryz.prog W = .ok (.tuple #[.pointer none, .bool false]) W) :
    Calls Tryz.prog 59 #[hptr hb, wv x] w fun e w' => e = .returned (.tuple #[wv (0, 0), .int .i64 6]) ∧ Below w.heap.size w w' := by
  have CV := Lib.hid cV
  clear cV
  have cN := fun W => isnil_no x W hx
  have CF := Lib.hid cF
  clear hx cF
  go_enter Tryz.func59, Tryz.ntmps59
  go_wp2_with (go_at_call 68; refine (CV.out _ ?_).mono ?_; exact ((Old.refl _).alloc (Nat.le_refl _) _).alloc (by simp) _; rintro e w' ⟨rfl, rfl⟩)
  refine (cN _).mono ?_
  rintro e W ⟨rfl, hb1⟩
  have k0 : W.heap[w.heap.size]? = some (.cells #[.int .i64 x.1, .int .i64 x.2] 28 (0, 0)) := (hb1.block _ (by simp; omega)).trans ((Below.heap_alloc _ _ _ (by simp)).trans (alloc_at w _))
  have k1 : W.heap[w.heap.size + 1]? = some (.cells #[.int .i64 0, .int .i64 0] 28 (0, 0)) := (hb1.block _ (by simp)).trans (by
    have := alloc_at (w.alloc (.cells #[.int .i64 x.1, .int .i64 x.2] 28)) (.cells #[.int .i64 0, .int .i64 0] 28)
    rw [show (w.alloc (.cells #[.int .i64 x.1, .int .i64 x.2] 28)).heap.size = w.heap.size + 1 from by simp] at this
    exact this)
  have hbw : Below w.heap.size w W := (((Below.refl _ _).alloc (Nat.le_refl _) _).alloc (by simp) _).trans (hb1.mono (by simp; omega))
  have hz : w.heap.size + 2 ≤ W.heap.size := Nat.le_trans (by simp) hb1.size
  have c0 : W.cell? ⟨w.heap.size, 0, none⟩ = some (.int .i64 x.1) := cell_at k0
  have c1 : W.cell? ⟨w.heap.size, 1, none⟩ = some (.int .i64 x.2) := cell_at k0
  have d0 : W.cell? ⟨w.heap.size + 1, 0, none⟩ = some (.int .i64 0) := cell_at k1
  have d1 : W.cell? ⟨w.heap.size + 1, 1, none⟩ = some (.int .i64 0) := cell_at k1
  have e0 : W.frozen? ⟨w.heap.size + 1, 0, none⟩ = false := frozen_at k1
  have e1 : W.frozen? ⟨w.heap.size + 1, 1, none⟩ = false := frozen_at k1
  have H1 := Lib.hid (And.intro k1 (And.intro hbw hz))
  clear hb1 hbw k0 k1 hz CV d0 d1 e0 e1
  go_wp2_with fail
  refine (CF.out _ (fun k hk => H1.out.2.1.block k hk) (by have := H1.out.2.2; omega)).mono ?_
  rintro e W2 ⟨rfl, hb2⟩
  have k2 : W2.heap[w.heap.size + 1]? = some (.cells #[.int .i64 0, .int .i64 0] 28 (0, 0)) := (hb2.block _ (by have := H1.out.2.2; omega)).trans H1.out.1
  have hbw : Below w.heap.size w W2 := H1.out.2.1.trans (hb2.mono H1.out.2.1.size)
  have d0 : W2.cell? ⟨w.heap.size + 1, 0, none⟩ = some (.int .i64 0) := cell_at k2
  have d1 : W2.cell? ⟨w.heap.size + 1, 1, none⟩ = some (.int .i64 0) := cell_at k2
  have e0 : W2.frozen? ⟨w.heap.size + 1, 0, none⟩ = false := frozen_at k2
  have e1 : W2.frozen? ⟨w.heap.size + 1, 1, none⟩ = false := frozen_at k2
  have HP := Lib.hid hbw
  clear hb2 hbw k2 H1 CF c0 c1
  go_wp2
  refine bodyPost_ret (v := .tuple #[wv (0, 0), .int .i64 6]) ?_ rfl ⟨rfl, ?_⟩
  · simp [results, Tryz.results59, go_sem, d0, d1]
  · exact (HP.out.setCell (by simp) _).setCell (by simp) _
set_option maxHeartbeats 1000000 in
theorem cdr_yes (hb b : Nat) (x a : Wd) (w : World) (cV : ValidIn w hb) (hx : x ≠ (1, 0)) (cF : FindIn w hb x (.iface 93 (.pointer (some ⟨b, 0, none⟩)))) (hbl : b < w.heap.size)
    (q0 : w.cell? ⟨b, 2, none⟩ = some (.int .i64 a.1)) (q1 : w.cell? ⟨b, 3, none⟩ = some (.int .i64 a.2)) :
    Calls Tryz.prog 59 #[hptr hb, wv x] w fun e w' => e = .returned (.tuple #[wv a, .int .i64 0]) ∧ Below w.heap.size w w' := by
  have CV := Lib.hid cV
  clear cV
  have cN := fun W => isnil_no x W hx
  have CF := Lib.hid cF
  have hA := as_pair_pair (.pointer (some ⟨b, 0, none⟩))
  clear hx cF
  go_enter Tryz.func59, Tryz.ntmps59
  go_wp2_with (go_at_call 68; refine (CV.out _ ?_).mono ?_; exact ((Old.refl _).alloc (Nat.le_refl _) _).alloc (by simp) _; rintro e w' ⟨rfl, rfl⟩)
  refine (cN _).mono ?_
  rintro e W ⟨rfl, hb1⟩
  have k0 : W.heap[w.heap.size]? = some (.cells #[.int .i64 x.1, .int .i64 x.2] 28 (0, 0)) := (hb1.block _ (by simp; omega)).trans ((Below.heap_alloc _ _ _ (by simp)).trans (alloc_at w _))
  have k1 : W.heap[w.heap.size + 1]? = some (.cells #[.int .i64 0, .int .i64 0] 28 (0, 0)) := (hb1.block _ (by simp)).trans (by
    have := alloc_at (w.alloc (.cells #[.int .i64 x.1, .int .i64 x.2] 28)) (.cells #[.int .i64 0, .int .i64 0] 28)
    rw [show (w.alloc (.cells #[.int .i64 x.1, .int .i64 x.2] 28)).heap.size = w.heap.size + 1 from by simp] at this
    exact this)
  have hbw : Below w.heap.size w W := (((Below.refl _ _).alloc (Nat.le_refl _) _).alloc (by simp) _).trans (hb1.mono (by simp; omega))
  have hz : w.heap.size + 2 ≤ W.heap.size := Nat.le_trans (by simp) hb1.size
  have c0 : W.cell? ⟨w.heap.size, 0, none⟩ = some (.int .i64 x.1) := cell_at k0
  have c1 : W.cell? ⟨w.heap.size, 1, none⟩ = some (.int .i64 x.2) := cell_at k0
  have d0 : W.cell? ⟨w.heap.size + 1, 0, none⟩ = some (.int .i64 0) := cell_at k1
  have d1 : W.cell? ⟨w.heap.size + 1, 1, none⟩ = some (.int .i64 0) := cell_at k1
  have e0 : W.frozen? ⟨w.heap.size + 1, 0, none⟩ = false := frozen_at k1
  have e1 : W.frozen? ⟨w.heap.size + 1, 1, none⟩ = false := frozen_at k1
  have H1 := Lib.hid (And.intro k1 (And.intro hbw hz))
  clear hb1 hbw k0 k1 hz CV d0 d1 e0 e1
  go_wp2_with fail
  refine (CF.out _ (fun k hk => H1.out.2.1.block k hk) (by have := H1.out.2.2; omega)).mono ?_
  rintro e W2 ⟨rfl, hb2⟩
  have k2 : W2.heap[w.heap.size + 1]? = some (.cells #[.int .i64 0, .int .i64 0] 28 (0, 0)) := (hb2.block _ (by have := H1.out.2.2; omega)).trans H1.out.1
  have hbw : Below w.heap.size w W2 := H1.out.2.1.trans (hb2.mono H1.out.2.1.size)
  have p0 := (hbw.cell (p := ⟨b, 2, none⟩) hbl).trans q0
  have p1 := (hbw.cell (p := ⟨b, 3, none⟩) hbl).trans q1
  have d0 : W2.cell? ⟨w.heap.size + 1, 0, none⟩ = some (.int .i64 0) := cell_at k2
  have d1 : W2.cell? ⟨w.heap.size + 1, 1, none⟩ = some (.int .i64 0) := cell_at k2
  have e0 : W2.frozen? ⟨w.heap.size + 1, 0, none⟩ = false := frozen_at k2
  have e1 : W2.frozen? ⟨w.heap.size + 1, 1, none⟩ = false := frozen_at k2
  have HP := Lib.hid hbw
  clear hb2 hbw k2 H1 CF c0 c1 q0 q1
  go_wp2
  refine bodyPost_ret (v := .tuple #[wv a, .int .i64 0]) ?_ rfl ⟨rfl, ?_⟩
  · simp [results, Tryz.results59, go_sem, d0, d1]
  · exact (HP.out.setCell (by simp) _).setCell (by simp) _
end Go.Proofs.YtbbopdkbokbafaaGreatDoor
