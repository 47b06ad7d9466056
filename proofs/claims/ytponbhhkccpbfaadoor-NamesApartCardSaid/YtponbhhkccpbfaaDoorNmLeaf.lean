/- The contracts of the symbol table's small functions. Condition of check: unicode/utf8's two tables hold what the program's text lays. -/
import Derived.Test.YtponbhhkccpbfaaDoorNmAt
import Derived.Test.YtponbhhkccpbfaaDoorHpRow
namespace Go.Proofs.YtponbhhkccpbfaaDoor
open Go.RowKit Go.Lib Go.Shelf
abbrev hptr (hb : Nat) : Value := .pointer (some ⟨hb, 0, none⟩)
theorem clone_any (s : ByteArray) (w : World) (hs : s.size ≤ 281474976710656) : Calls Tryd.prog 43 #[.string s] w fun e w' => e = .returned (.string s) ∧ Below w.heap.size w w' := by
  have cC := fun W => Tryd.stringslite_Clone s W hs
  clear hs
  go_enter Tryd.func43, Tryd.ntmps43
  go_wp2_with (go_at_call 66; ((with_reducible refine (cC _).mono ?_); rintro e w' ⟨rfl, hb⟩))
  go_ret
  exact ⟨rfl, hb⟩
theorem tvalid_core (tb n c : Nat) (a : Option Addr) (w : World) (b : Bool) (hb : decide ((0 : Int) < n) = b) (c0 : w.cell? ⟨tb, 0, none⟩ = some (.slice a n c)) :
    Calls Tryd.prog 37 #[hptr tb] w fun e w' => e = .returned (.bool b) ∧ w' = w := by
  go_enter Tryd.func37, Tryd.ntmps37
  go_wp2
  go_ret
  exact ⟨by rw [← hb]; simp, rfl⟩
theorem tvalid_nil (w : World) : Calls Tryd.prog 37 #[.pointer none] w fun e w' => e = .returned (.bool false) ∧ w' = w := by
  go_enter Tryd.func37, Tryd.ntmps37
  go_wp2
  go_ret
  exact ⟨rfl, rfl⟩
theorem full_core (tb n c : Nat) (a : Option Addr) (w : World) (b : Bool) (hb : ((n : Int) == 16384) = b) (c0 : w.cell? ⟨tb, 0, none⟩ = some (.slice a n c)) :
    Calls Tryd.prog 40 #[hptr tb] w fun e w' => e = .returned (.bool b) ∧ w' = w := by
  go_enter Tryd.func40, Tryd.ntmps40
  go_wp2
  go_ret
  exact ⟨rfl, rfl⟩
theorem at_no (tb n c : Nat) (a : Option Addr) (i : Int) (w : World) (hi : i < 0 ∨ (n : Int) ≤ i) (c0 : w.cell? ⟨tb, 0, none⟩ = some (.slice a n c)) :
    Calls Tryd.prog 38 #[hptr tb, .int .i64 i] w fun e w' => e = .returned (.pointer none) ∧ w' = w := by
  by_cases h : i < 0
  · have hd : decide (i < 0) = true := by simpa using h
    clear hi
    go_enter Tryd.func38, Tryd.ntmps38
    go_wp2
    go_ret
    exact ⟨rfl, rfl⟩
  · have hd : decide (i < 0) = false := by simpa using h
    have hd2 : (n : Int) ≤ i := by omega
    clear hi h
    go_enter Tryd.func38, Tryd.ntmps38
    go_wp2
    go_ret
    exact ⟨rfl, rfl⟩
theorem at_yes (tb n c g i : Nat) (w : World) (hi : i < n) (c0 : w.cell? ⟨tb, 0, none⟩ = some (.slice (some ⟨g, 0, none⟩) n c)) :
    Calls Tryd.prog 38 #[hptr tb, .int .i64 i] w fun e w' => e = .returned (.pointer (some ⟨g, i * 6, none⟩)) ∧ w' = w := by
  have hd : decide ((i : Int) < 0) = false := by simp
  have hd2 : ¬ (n : Int) ≤ (i : Int) := by omega
  have h0 : (0 : Int) ≤ (i : Int) := by omega
  have h1 : (i : Int) < (n : Int) := by omega
  go_enter Tryd.func38, Tryd.ntmps38
  go_wp2
  go_ret
  exact ⟨rfl, rfl⟩
/-- What check says of a name. -/
def ckD (s : ByteArray) : Int := if validD s.data.toList then (if 1000 < lenD s.data.toList then 4 else 0) else 5
theorem check_any (s : ByteArray) (w : World) (hs : s.size ≤ 281474976710656) (hT : Tabs w) :
    Calls Tryd.prog 39 #[.string s] w fun e w' => e = .returned (.int .i64 (ckD s)) ∧ Below w.heap.size w w' := by
  have cV := rvalid_any s w (by omega) hT
  unfold ckD
  cases hv : validD s.data.toList
  · rw [hv] at cV
    have HV := Lib.hid hv
    clear hv hT
    go_enter Tryd.func39, Tryd.ntmps39
    go_wp2_with (go_at_call 64; ((with_reducible refine cV.mono ?_); rintro e w' ⟨rfl, hb⟩))
    go_ret
    exact ⟨rfl, hb⟩
  · rw [hv] at cV
    have cL := fun W (hW : Below w.heap.size w W) => rlen_any s W (by omega) (hT.below hW hT.size)
    rw [if_pos rfl]
    by_cases h : 1000 < lenD s.data.toList
    · have hd : (1000 : Int) < (lenD s.data.toList : Int) := by omega
      rw [if_pos h]
      generalize lenD s.data.toList = n at *
      have CL := Lib.hid cL
      clear hv hT cL h
      go_enter Tryd.func39, Tryd.ntmps39
      go_wp2_with (go_at_call 64; ((with_reducible refine cV.mono ?_); rintro e w' ⟨rfl, hb⟩))
      refine (CL.out _ hb).mono ?_
      rintro e w2 ⟨rfl, hb2⟩
      have HB := Lib.hid (hb.trans (hb2.mono hb.size))
      clear hb2 hb CL
      go_wp2
      go_ret
      exact ⟨rfl, HB.out⟩
    · have hd : ¬ (1000 : Int) < (lenD s.data.toList : Int) := by omega
      rw [if_neg h]
      generalize lenD s.data.toList = n at *
      have CL := Lib.hid cL
      clear hv hT cL h
      go_enter Tryd.func39, Tryd.ntmps39
      go_wp2_with (go_at_call 64; ((with_reducible refine cV.mono ?_); rintro e w' ⟨rfl, hb⟩))
      refine (CL.out _ hb).mono ?_
      rintro e w2 ⟨rfl, hb2⟩
      have HB := Lib.hid (hb.trans (hb2.mono hb.size))
      clear hb2 hb CL
      go_wp2
      go_ret
      exact ⟨rfl, HB.out⟩
/-- A table's row of symbols. -/
theorem TableAt.row {w : World} {tb : Nat} {G : Nat → Nat} {m : Tb} (h : TableAt w tb G m) : ∃ a c, w.cell? ⟨tb, 0, none⟩ = some (.slice a m.syms.length c) := by
  obtain ⟨vs, mb, rs, h1, h2, h3, _⟩ := h.lies
  obtain ⟨a, c, rfl⟩ := h3.slice
  have hl : rs.length = m.syms.length := by rw [← h2]; simp
  exact ⟨a, c, by rw [cell_at h1, hl]; rfl⟩
theorem TableAt.valid {w : World} {tb : Nat} {G : Nat → Nat} {m : Tb} (h : TableAt w tb G m) (hm : 0 < m.syms.length) : Calls Tryd.prog 37 #[hptr tb] w fun e w' => e = .returned (.bool true) ∧ w' = w := by
  obtain ⟨a, c, h1⟩ := h.row
  exact tvalid_core tb _ c a w true (by simp; omega) h1
theorem TableAt.full {w : World} {tb : Nat} {G : Nat → Nat} {m : Tb} (h : TableAt w tb G m) : Calls Tryd.prog 40 #[hptr tb] w fun e w' => e = .returned (.bool (decide (m.syms.length = 16384))) ∧ w' = w := by
  obtain ⟨a, c, h1⟩ := h.row
  refine full_core tb _ c a w _ ?_ h1
  by_cases h2 : m.syms.length = 16384
  · rw [h2]; rfl
  · rw [decide_eq_false h2, beq_eq_false_iff_ne]; omega
theorem TableAt.many {w : World} {tb : Nat} {G : Nat → Nat} {m : Tb} (h : TableAt w tb G m) (hm : 0 < m.syms.length) : Calls Tryd.prog 17 #[hptr tb] w fun e w' => e = .returned (.int .i64 m.syms.length) ∧ w' = w := by
  obtain ⟨a, c, h1⟩ := h.row
  have cV := h.valid hm
  generalize m.syms.length = n at *
  clear h hm
  go_enter Tryd.func17, Tryd.ntmps17
  go_wp2_with (go_at_call 37; ((with_reducible refine cV.mono ?_); rintro e w' ⟨rfl, rfl⟩))
  go_ret
  exact ⟨rfl, rfl⟩
end Go.Proofs.YtponbhhkccpbfaaDoor
