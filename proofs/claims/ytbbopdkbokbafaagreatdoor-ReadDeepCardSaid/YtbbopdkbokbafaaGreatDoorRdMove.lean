/- The contracts of the reader's moves: char, peek, next, moveTo, skipLine, more, enter, leave. -/
import Derived.Test.YtbbopdkbokbafaaGreatDoorRdLeaf
import Derived.LoopTactic
import Derived.Lib.Hide
namespace Go.Proofs.YtbbopdkbokbafaaGreatDoor
open Go.RowKit Go.Lib
abbrev rp (r : Rd) : Value := .pointer (some ⟨r.pb, 0, none⟩)
section
variable {w0 w : World} {r : Rd} {F : Nat → Nat} {s : Rs}
/-- The row of characters, cell by cell. -/
theorem RdAt.cell (h : RdAt w0 w r F s) {i : Nat} {x : Int} (hx : r.L[i]? = some x) : w.cell? ⟨r.g, i, none⟩ = some (.int .i64 x) := by
  obtain ⟨cur, h1, h2⟩ := h.fix.row
  rw [cell_at h1]
  exact h2 i x hx
theorem char_any (h : RdAt w0 w r F s) (p : Nat) (I : Int) (hI : (p : Int) = I) :
    Calls Tryz.prog 166 #[rp r, .int .i64 I] w fun e w' => e = .returned (.int .i64 (ch r.L p)) ∧ w' = w := by
  subst hI
  have c2 : w.cell? ⟨r.pb, 2, none⟩ = some r.tv := cell_at h.own
  have hl := h.fix.len
  unfold ch
  cases hx : r.L[p]? with
  | none =>
    have hge : (r.L.length : Int) ≤ (p : Int) := by have := List.getElem?_eq_none_iff.1 hx; omega
    clear h hx
    go_enter Tryz.func166, Tryz.ntmps166
    go_wp2
    go_ret
    exact ⟨rfl, rfl⟩
  | some x =>
    have hlt : (p : Int) < (r.L.length : Int) := by have := (List.getElem?_eq_some_iff.1 hx).1; omega
    have cx := h.cell hx
    clear h hx
    go_enter Tryz.func166, Tryz.ntmps166
    go_wp2
    go_ret
    exact ⟨rfl, rfl⟩
theorem peek_any (h : RdAt w0 w r F s) :
    Calls Tryz.prog 112 #[rp r] w fun e w' => e = .returned (.int .i64 (ch r.L s.pos)) ∧ w' = w := by
  have cC := char_any h s.pos _ rfl
  have c3 : w.cell? ⟨r.pb, 3, none⟩ = some (.int .i64 s.pos) := cell_at h.own
  clear h
  go_enter Tryz.func112, Tryz.ntmps112
  go_wp2_with (go_at_call 166; ((with_reducible refine cC.mono ?_); rintro e w' ⟨rfl, rfl⟩))
  go_ret
  exact ⟨rfl, rfl⟩
theorem RdAt.frozen (h : RdAt w0 w r F s) (i : Nat) : w.frozen? ⟨r.pb, i, none⟩ = false := frozen_at h.own
theorem next_ok (h : RdAt w0 w r F s) (hc : ch r.L s.pos ≠ -1) :
    Calls Tryz.prog 222 #[rp r] w fun e w' => e = .returned (.int .i64 (ch r.L s.pos)) ∧ Mv w0 w w' r F { s with pos := s.pos + 1 } := by
  have hm := h.mvPos (s.pos + 1) (ch_lt hc)
  rw [show (((s.pos + 1 : Nat) : Int)) = (s.pos : Int) + 1 by simp] at hm
  have HM := Lib.hid hm
  clear hm
  have cP := peek_any h
  have c3 : w.cell? ⟨r.pb, 3, none⟩ = some (.int .i64 s.pos) := cell_at h.own
  have f3 := h.frozen 3
  have hl : s.pos ≤ 100000 := by have := h.pos; have := h.fix.len; omega
  have hc2 : (ch r.L s.pos == -1) = false := by simpa using hc
  generalize ch r.L s.pos = c at *
  clear h hc
  go_enter Tryz.func222, Tryz.ntmps222
  go_wp2_with (go_at_call 112; ((with_reducible refine cP.mono ?_); rintro e w' ⟨rfl, rfl⟩))
  go_ret
  exact ⟨rfl, HM.out⟩
theorem next_end (h : RdAt w0 w r F s) (hc : ch r.L s.pos = -1) :
    Calls Tryz.prog 222 #[rp r] w fun e w' => e = Panics 5 s.pos ∧ Below w.heap.size w w' := by
  have cP := peek_any h
  have c3 : w.cell? ⟨r.pb, 3, none⟩ = some (.int .i64 s.pos) := cell_at h.own
  rw [hc] at cP
  clear h hc
  go_enter Tryz.func222, Tryz.ntmps222
  go_wp2_with (go_at_call 112; ((with_reducible refine cP.mono ?_); rintro e w' ⟨rfl, rfl⟩))
  refine (malformed_any s.pos _).mono ?_
  rintro e W ⟨rfl, hb⟩
  go_wp2
  exact ⟨rfl, rfl, hb⟩
theorem moveTo_ok (h : RdAt w0 w r F s) (p : Nat) (hp : p ≤ r.L.length) :
    Calls Tryz.prog 64 #[rp r, .int .i64 p] w fun e w' => e = .returned (.tuple #[]) ∧ Mv w0 w w' r F { s with pos := p } := by
  have HM := Lib.hid (h.mvPos p hp)
  have c2 : w.cell? ⟨r.pb, 2, none⟩ = some r.tv := cell_at h.own
  have c3 : w.cell? ⟨r.pb, 3, none⟩ = some (.int .i64 s.pos) := cell_at h.own
  have f3 := h.frozen 3
  have h0 : ¬ (p : Int) < 0 := by omega
  have h1 : ¬ (r.L.length : Int) < (p : Int) := by omega
  clear h
  go_enter Tryz.func64, Tryz.ntmps64
  go_wp2
  go_end0
  exact ⟨rfl, HM.out⟩
theorem moveTo_bad (h : RdAt w0 w r F s) (p : Int) (hp : p < 0 ∨ (r.L.length : Int) < p) :
    Calls Tryz.prog 64 #[rp r, .int .i64 p] w fun e w' => e = Panics 3 0 ∧ Below w.heap.size w w' := by
  have c2 : w.cell? ⟨r.pb, 2, none⟩ = some r.tv := cell_at h.own
  clear h
  by_cases h0 : p < 0
  · clear hp
    go_enter Tryz.func64, Tryz.ntmps64
    go_wp2_with fail
    refine (fault_any 3 0 _).mono ?_
    rintro e W ⟨rfl, hb⟩
    go_wp2
    exact ⟨rfl, rfl, hb⟩
  · have h1 : (r.L.length : Int) < p := by omega
    clear hp
    go_enter Tryz.func64, Tryz.ntmps64
    go_wp2_with fail
    refine (fault_any 3 0 _).mono ?_
    rintro e W ⟨rfl, hb⟩
    go_wp2
    exact ⟨rfl, rfl, hb⟩
theorem enter_ok (h : RdAt w0 w r F s) (ho : s.opn ≠ 200) (n : Nat) (hn : s.pos + n ≤ r.L.length) :
    Calls Tryz.prog 213 #[rp r, .int .i64 n] w fun e w' => e = .returned (.int .i64 s.pos) ∧ Mv w0 w w' r F { s with opn := s.opn + 1, pos := s.pos + n } := by
  have hm := h.mvOpn (s.opn + 1) (by have := h.opn; omega)
  have hm2 := hm.trans (hm.rd.mvPos (s.pos + n) hn)
  rw [show (((s.pos + n : Nat) : Int)) = (s.pos : Int) + n by simp, show (((s.opn + 1 : Nat) : Int)) = (s.opn : Int) + 1 by simp] at hm2
  have HM := Lib.hid hm2
  have hn2 : n ≤ 100000 := by have := h.fix.len; omega
  clear hm hm2 hn
  have c3 : w.cell? ⟨r.pb, 3, none⟩ = some (.int .i64 s.pos) := cell_at h.own
  have c4 : w.cell? ⟨r.pb, 4, none⟩ = some (.int .i64 s.opn) := cell_at h.own
  have f3 := h.frozen 3
  have f4 := h.frozen 4
  have hl : s.pos ≤ 100000 := by have := h.pos; have := h.fix.len; omega
  have ho2 : ((s.opn : Int) == 200) = false := by simp; omega
  have ho3 : s.opn ≤ 200 := h.opn
  clear h ho
  go_enter Tryz.func213, Tryz.ntmps213
  go_wp2
  go_ret
  exact ⟨rfl, HM.out⟩
theorem enter_deep (h : RdAt w0 w r F s) (ho : s.opn = 200) (n : Nat) :
    Calls Tryz.prog 213 #[rp r, .int .i64 n] w fun e w' => e = Panics 12 s.pos ∧ Below w.heap.size w w' := by
  have c3 : w.cell? ⟨r.pb, 3, none⟩ = some (.int .i64 s.pos) := cell_at h.own
  have c4 : w.cell? ⟨r.pb, 4, none⟩ = some (.int .i64 s.opn) := cell_at h.own
  rw [ho] at c4
  clear h ho
  go_enter Tryz.func213, Tryz.ntmps213
  go_wp2_with fail
  refine (fault_any 12 s.pos _).mono ?_
  rintro e W ⟨rfl, hb⟩
  go_wp2
  exact ⟨rfl, rfl, hb⟩
theorem leave_any (h : RdAt w0 w r F s) (n : Nat) (hn : s.pos + n ≤ r.L.length) (ho : 0 < s.opn) :
    Calls Tryz.prog 217 #[rp r, .int .i64 n] w fun e w' => e = .returned (.tuple #[]) ∧ Mv w0 w w' r F { s with opn := s.opn - 1, pos := s.pos + n } := by
  have hm := h.mvOpn (s.opn - 1) (by have := h.opn; omega)
  have hm2 := hm.trans (hm.rd.mvPos (s.pos + n) hn)
  rw [show (((s.pos + n : Nat) : Int)) = (s.pos : Int) + n by simp, show (((s.opn - 1 : Nat) : Int)) = (s.opn : Int) - 1 by omega] at hm2
  have HM := Lib.hid hm2
  have hn2 : n ≤ 100000 := by have := h.fix.len; omega
  clear hm hm2 hn
  have c3 : w.cell? ⟨r.pb, 3, none⟩ = some (.int .i64 s.pos) := cell_at h.own
  have c4 : w.cell? ⟨r.pb, 4, none⟩ = some (.int .i64 s.opn) := cell_at h.own
  have f3 := h.frozen 3
  have f4 := h.frozen 4
  have hl : s.pos ≤ 100000 := by have := h.pos; have := h.fix.len; omega
  have ho3 : s.opn ≤ 200 := h.opn
  clear h
  go_enter Tryz.func217, Tryz.ntmps217
  go_wp2
  go_end0
  exact ⟨rfl, HM.out⟩
theorem atDot_any (h : RdAt w0 w r F s) :
    Calls Tryz.prog 215 #[rp r] w fun e w' => e = .returned (.bool (atDot r.L s.pos)) ∧ w' = w := by
  have cP := peek_any h
  have cC := char_any h (s.pos + 1) ((s.pos : Int) + 1) (by simp)
  have cE := ends_any (ch r.L (s.pos + 1)) w
  have c3 : w.cell? ⟨r.pb, 3, none⟩ = some (.int .i64 s.pos) := cell_at h.own
  have hl : s.pos ≤ 100000 := by have := h.pos; have := h.fix.len; omega
  unfold atDot
  by_cases hd : ch r.L s.pos = 46
  · rw [hd] at cP ⊢
    generalize ends (ch r.L (s.pos + 1)) = b at *
    generalize ch r.L (s.pos + 1) = c at *
    clear h hd
    go_enter Tryz.func215, Tryz.ntmps215
    go_wp2_with fail
    refine cP.mono ?_
    rintro e w' ⟨rfl, rfl⟩
    go_wp2_with fail
    refine cC.mono ?_
    rintro e w' ⟨rfl, rfl⟩
    go_wp2_with fail
    refine cE.mono ?_
    rintro e w' ⟨rfl, rfl⟩
    go_wp2
    go_ret
    exact ⟨by simp, rfl⟩
  · have hd2 : (ch r.L s.pos == 46) = false := by simpa using hd
    rw [hd2]
    generalize ch r.L s.pos = c at *
    clear h hd cC cE
    go_enter Tryz.func215, Tryz.ntmps215
    go_wp2_with fail
    refine cP.mono ?_
    rintro e w' ⟨rfl, rfl⟩
    go_wp2
    go_ret
    exact ⟨by simp, rfl⟩
end
end Go.Proofs.YtbbopdkbokbafaaGreatDoor
