/- The contract of CodeOf on a heap that stands. -/
import Derived.Test.YtleppjdmcjocmaaDoorHpGet2
import Derived.Test.YtleppjdmcjocmaaDoorHpMade
namespace Go.Proofs.YtleppjdmcjocmaaDoor
open Go.RowKit Go.Lib
abbrev code0 : Value := .agg #[.int .i64 0, .int .i64 0, .int .i64 0, .slice none 0 0, .slice none 0 0]
set_option maxHeartbeats 1000000 in
theorem codeof_not (hb : Nat) (x : Wd) (v : Value) (w : World) (cV : ValidIn w hb) (cF : FindIn w hb x v) (hA : ∀ W, (Instr.typeAssert v 80 94 true).run Tryd.prog W = .ok (.tuple #[.pointer none, .bool false]) W) :
    Calls Tryd.prog 33 #[hptr hb, wv x] w fun e w' => e = .returned (.tuple #[.agg #[.int .i64 0, .int .i64 0, .int .i64 0, .slice none 0 0, .slice none 0 0], .int .i64 6]) ∧ Below w.heap.size w w' := by
  have CV := Lib.hid cV
  have CF := Lib.hid cF
  clear cV cF
  go_enter Tryd.func33, Tryd.ntmps33
  go_wp2_with (go_at_call 36; refine (CV.out _ ?_).mono ?_; exact ((Old.refl _).alloc (Nat.le_refl _) _).alloc (by simp) _; rintro e w' ⟨rfl, rfl⟩)
  refine (CF.out _ (((Old.refl _).alloc (Nat.le_refl _) _).alloc (by simp) _) (by simp; omega)).mono ?_
  rintro e W ⟨rfl, hb1⟩
  have k1 : W.heap[w.heap.size + 1]? = some (.cells #[.int .i64 0, .int .i64 0, .int .i64 0, .slice none 0 0, .slice none 0 0] 52 (0, 0)) := (hb1.block _ (by simp)).trans (by
    have := alloc_at (w.alloc (.cells #[.int .i64 x.1, .int .i64 x.2] 28)) (.cells #[.int .i64 0, .int .i64 0, .int .i64 0, .slice none 0 0, .slice none 0 0] 52)
    rw [show (w.alloc (.cells #[.int .i64 x.1, .int .i64 x.2] 28)).heap.size = w.heap.size + 1 from by simp] at this
    exact this)
  have hbw : Below w.heap.size w W := (((Below.refl _ _).alloc (Nat.le_refl _) _).alloc (by simp) _).trans (hb1.mono (by simp; omega))
  have c0 : W.cell? ⟨w.heap.size + 1, 0, none⟩ = some (.int .i64 0) := cell_at k1
  have c1 : W.cell? ⟨w.heap.size + 1, 1, none⟩ = some (.int .i64 0) := cell_at k1
  have c2 : W.cell? ⟨w.heap.size + 1, 2, none⟩ = some (.int .i64 0) := cell_at k1
  have c3 : W.cell? ⟨w.heap.size + 1, 3, none⟩ = some (.slice none 0 0) := cell_at k1
  have c4 : W.cell? ⟨w.heap.size + 1, 4, none⟩ = some (.slice none 0 0) := cell_at k1
  have g0 : ∀ j, W.frozen? ⟨w.heap.size + 1, j, none⟩ = false := fun j => frozen_at k1
  have HP := Lib.hid hbw
  clear hb1 hbw CV CF k1
  go_wp2
  refine bodyPost_ret (v := .tuple #[code0, .int .i64 6]) ?_ rfl ⟨rfl, ?_⟩
  · simp [results, Tryd.results33, go_sem, c0, c1, c2, c3, c4]
  · (repeat with_reducible refine Below.setCell ?_ (by simp) _); exact HP.out
set_option maxHeartbeats 1000000 in
theorem codeof_yes (hb b nb nc cb cc : Nat) (le mo de : Int) (ab ac : Option Addr) (bs cs : List Value) (x : Wd) (w : World) (cV : ValidIn w hb) (cF : FindIn w hb x (.iface 94 (.pointer (some ⟨b, 0, none⟩)))) (hbl : b < w.heap.size)
    (q0 : w.cell? ⟨b, 0, none⟩ = some (.int .i64 le)) (q1 : w.cell? ⟨b, 1, none⟩ = some (.int .i64 mo)) (q2 : w.cell? ⟨b, 2, none⟩ = some (.int .i64 de)) (q3 : w.cell? ⟨b, 3, none⟩ = some (.slice ab nb cb)) (q4 : w.cell? ⟨b, 4, none⟩ = some (.slice ac nc cc))
    (cC : ∀ W, Below w.heap.size w W → Calls Tryd.prog 49 #[.agg #[.int .i64 le, .int .i64 mo, .int .i64 de, .slice ab nb cb, .slice ac nc cc]] W fun e w' => ∃ vb vc, e = .returned (.agg #[.int .i64 le, .int .i64 mo, .int .i64 de, vb, vc]) ∧
      w'.ownsRow W.heap.size 5 1 vb nb bs ∧ w'.ownsRow W.heap.size 28 2 vc nc cs ∧ Below W.heap.size W w') :
    Calls Tryd.prog 33 #[hptr hb, wv x] w fun e w' => ∃ vb vc, e = .returned (.tuple #[.agg #[.int .i64 le, .int .i64 mo, .int .i64 de, vb, vc], .int .i64 0]) ∧
      w'.ownsRow w.heap.size 5 1 vb nb bs ∧ w'.ownsRow w.heap.size 28 2 vc nc cs ∧ Below w.heap.size w w' := by
  have CV := Lib.hid cV
  have CF := Lib.hid cF
  have CC := Lib.hid cC
  have hA := as_code_code (.pointer (some ⟨b, 0, none⟩))
  clear cV cF cC
  go_enter Tryd.func33, Tryd.ntmps33
  go_wp2_with (go_at_call 36; refine (CV.out _ ?_).mono ?_; exact ((Old.refl _).alloc (Nat.le_refl _) _).alloc (by simp) _; rintro e w' ⟨rfl, rfl⟩)
  refine (CF.out _ (((Old.refl _).alloc (Nat.le_refl _) _).alloc (by simp) _) (by simp; omega)).mono ?_
  rintro e W ⟨rfl, hb1⟩
  have k1 : W.heap[w.heap.size + 1]? = some (.cells #[.int .i64 0, .int .i64 0, .int .i64 0, .slice none 0 0, .slice none 0 0] 52 (0, 0)) := (hb1.block _ (by simp)).trans (by
    have := alloc_at (w.alloc (.cells #[.int .i64 x.1, .int .i64 x.2] 28)) (.cells #[.int .i64 0, .int .i64 0, .int .i64 0, .slice none 0 0, .slice none 0 0] 52)
    rw [show (w.alloc (.cells #[.int .i64 x.1, .int .i64 x.2] 28)).heap.size = w.heap.size + 1 from by simp] at this
    exact this)
  have hbw : Below w.heap.size w W := (((Below.refl _ _).alloc (Nat.le_refl _) _).alloc (by simp) _).trans (hb1.mono (by simp; omega))
  have hz : w.heap.size + 2 ≤ W.heap.size := Nat.le_trans (by simp) hb1.size
  have p0 := (hbw.cell (p := ⟨b, 0, none⟩) hbl).trans q0
  have p1 := (hbw.cell (p := ⟨b, 1, none⟩) hbl).trans q1
  have p2 := (hbw.cell (p := ⟨b, 2, none⟩) hbl).trans q2
  have p3 := (hbw.cell (p := ⟨b, 3, none⟩) hbl).trans q3
  have p4 := (hbw.cell (p := ⟨b, 4, none⟩) hbl).trans q4
  have HP := Lib.hid (And.intro hbw (And.intro hz k1))
  clear hb1 hbw hz CV CF k1 q0 q1 q2 q3 q4
  go_wp2_with fail
  refine (CC.out _ HP.out.1).mono ?_
  rintro e W2 ⟨vb, vc, rfl, ho1, ho2, hb2⟩
  obtain ⟨a1, c1, rfl⟩ := own_slice ho1
  obtain ⟨a2, c2, rfl⟩ := own_slice ho2
  have hz := HP.out.2.1
  have k1 := (hb2.block _ (by omega)).trans HP.out.2.2
  have HQ := Lib.hid (And.intro (own_base (B' := w.heap.size + 2) ho1 hz) (And.intro (own_base (B' := w.heap.size + 2) ho2 hz) (HP.out.1.trans (hb2.mono HP.out.1.size))))
  have d0 : W2.cell? ⟨w.heap.size + 1, 0, none⟩ = some (.int .i64 0) := cell_at k1
  have d1 : W2.cell? ⟨w.heap.size + 1, 1, none⟩ = some (.int .i64 0) := cell_at k1
  have d2 : W2.cell? ⟨w.heap.size + 1, 2, none⟩ = some (.int .i64 0) := cell_at k1
  have d3 : W2.cell? ⟨w.heap.size + 1, 3, none⟩ = some (.slice none 0 0) := cell_at k1
  have d4 : W2.cell? ⟨w.heap.size + 1, 4, none⟩ = some (.slice none 0 0) := cell_at k1
  have g0 : ∀ j, W2.frozen? ⟨w.heap.size + 1, j, none⟩ = false := fun j => frozen_at k1
  clear ho1 ho2 hb2 hz HP CC k1 p0 p1 p2 p3 p4
  go_wp2
  refine bodyPost_ret (v := .tuple #[.agg #[.int .i64 le, .int .i64 mo, .int .i64 de, .slice a1 nb c1, .slice a2 nc c2], .int .i64 0]) ?_ rfl ?_
  · simp [results, Tryd.results33, go_sem, d0, d1, d2, d3, d4]
  refine ⟨_, _, rfl, ?_, ?_, ?_⟩
  · exact own_base (B := w.heap.size + 2) (by (repeat with_reducible refine ownsRow_setCell_below ?_ (by simp) _); exact HQ.out.1) (by omega)
  · exact own_base (B := w.heap.size + 2) (by (repeat with_reducible refine ownsRow_setCell_below ?_ (by simp) _); exact HQ.out.2.1) (by omega)
  · (repeat with_reducible refine Below.setCell ?_ (by simp) _); exact HQ.out.2.2
theorem codeof_no {w : World} {hb : Nat} {G : Nat → Nat} {m : Hp} (h : HeapAt w hb G m) (x : Wd) (hf : ∀ le mo de bs cs, m.find x ≠ some (.code le mo de bs cs)) :
    Calls Tryd.prog 33 #[hptr hb, wv x] w fun e w' => e = .returned (.tuple #[code0, .int .i64 6]) ∧ Below w.heap.size w w' := by
  cases hf2 : m.find x with
  | none => exact codeof_not hb x _ w h.valid (h.find_none hf2) as_nil_code
  | some o =>
    obtain ⟨v, _, hv, cF, _⟩ := h.find_some hf2
    exact codeof_not hb x _ w h.valid cF (hv.not_code (by
      intro hk
      cases o with
      | pair a d => cases hk
      | text s n => cases hk
      | vec l => cases hk
      | code le mo de bs cs => exact hf _ _ _ _ _ hf2))
theorem codeof_ok {w : World} {hb : Nat} {G : Nat → Nat} {m : Hp} (h : HeapAt w hb G m) (x : Wd) (le mo de : Int) (bs : List UInt8) (cs : List Wd) (hn : bs.length ≤ 65536) (hn2 : cs.length ≤ 65536) (hf : m.find x = some (.code le mo de bs cs)) :
    Calls Tryd.prog 33 #[hptr hb, wv x] w fun e w' => ∃ vb vc, e = .returned (.tuple #[.agg #[.int .i64 le, .int .i64 mo, .int .i64 de, vb, vc], .int .i64 0]) ∧
      w'.ownsRow w.heap.size 5 1 vb bs.length (bcells bs) ∧ w'.ownsRow w.heap.size 28 2 vc cs.length (wcells cs) ∧ Below w.heap.size w w' := by
  obtain ⟨v, _, ⟨b, sv, cv, rfl, hG, hh, hr, hr2⟩, cF, _⟩ := h.find_some hf
  obtain ⟨a, c, rfl⟩ := hr.slice
  obtain ⟨a2, c2, rfl⟩ := hr2.slice
  exact codeof_yes hb b bs.length cs.length c c2 le mo de a a2 (bcells bs) (wcells cs) x w h.valid cF (lt_at hh) (cell_at hh) (cell_at hh) (cell_at hh) (cell_at hh) (cell_at hh) fun W hW =>
    copy_code le mo de a a2 bs.length cs.length c c2 (bcells bs) (wcells cs) W (fun W2 hW2 => copy_byte _ _ _ W2 (hr.src.below (hW.trans (hW2.mono hW.size)) (fun k hk => hr.lt k hk)) (bcells_one bs) (by omega)) (fun W2 hW2 => copy_word _ _ _ W2 (hr2.src.below (hW.trans (hW2.mono hW.size)) (fun k hk => hr2.lt k hk)) (wcells_one cs) (by omega))
end Go.Proofs.YtleppjdmcjocmaaDoor
