/- The contracts of runes.Valid and Len for every string. Condition: unicode/utf8's two tables hold what the program's text lays. -/
import Derived.Test.YtponbhhkccpbfaaDoorHpShelf
import Derived.Test.YtponbhhkccpbfaaDoorHpPlain
import Derived.WalkKit
import Derived.WalkSpells
import Derived.WalkLawsBesides
import Derived.RegionTactic
import Derived.Deep.QuietTactic
import Derived.BigQuiet
import Derived.Outline
import Derived.Lib.Hide
import Derived.Laws.RangeString
import Derived.Laws.RangeAny
import Derived.LoopTactic
namespace Go.Proofs.YtponbhhkccpbfaaDoor
open Go.RowKit Go.Lib Go.Shelf
def Tabs (w : World) : Prop := Lib.Utf8Tabs 0 1 w
theorem Tabs.below {B : Nat} {w w' : World} (h : Tabs w) (hb : Below B w w') (hB : 1 < B) : Tabs w' :=
  ⟨fun c hc => by rw [hb.cell (by simp; omega)]; exact h.1 c hc, fun i hi => ⟨by rw [hb.cell (by simpa using hB)]; exact (h.2 i hi).1, by rw [hb.cell (by simpa using hB)]; exact (h.2 i hi).2⟩⟩
theorem Tabs.size {w : World} (h : Tabs w) : 1 < w.heap.size := by
  have := World.block_lt_of_cell? _ _ (h.2 0 (by omega)).1
  simpa using this
theorem below_iter {B : Nat} {a w : World} {s : ByteArray} {pos : Nat} (h : Below B a w) (hB : B ≤ w.heap.size) : Below B a (w.iter s pos) := h.alloc hB _
set_option maxHeartbeats 400000 in
theorem rvalid_any (s : ByteArray) (w : World) (hs : s.size ≤ 9223372036854775807) (hT : Tabs w) :
    Calls Tryd.prog 64 #[.string s] w fun e w' => e = .returned (.bool (validD s.data.toList)) ∧ Below w.heap.size w w' := by
  have cV : Calls Tryd.prog 75 #[.string s] w _ := Any.utf8_ValidString Tryd.lays196 s w hs hT
  generalize validD s.data.toList = V at cV ⊢
  go_enter Tryd.func64, Tryd.ntmps64
  go_wp2_with (go_at_call 75; refine cV.mono ?_; rintro e w' ⟨rfl, hb⟩)
  go_ret
  exact ⟨rfl, hb⟩
/-- How many characters a string has, 0 if it is not valid. -/
def lenD (l : List UInt8) : Nat := if validD l then (runesD l).length else 0
set_option maxHeartbeats 400000 in
theorem rlen_any (s : ByteArray) (w : World) (hs : s.size < 9223372036854775807) (hT : Tabs w) :
    Calls Tryd.prog 65 #[.string s] w fun e w' => e = .returned (.int .i64 (lenD s.data.toList)) ∧ Below w.heap.size w w' := by
  have cV := rvalid_any s w (by omega) hT
  have cR := fun w => Tryd.utf8_RuneCountInString s w hs
  rw [runeCount_eq] at cR
  unfold lenD
  generalize (runesD s.data.toList).length = n at cR ⊢
  clear hs
  cases hv : validD s.data.toList
  · rw [hv] at cV
    have HV : Hid _ := Lib.hid hv
    clear hv
    go_enter Tryd.func65, Tryd.ntmps65
    go_wp2_with (go_at_call 64; ((with_reducible refine cV.mono ?_); rintro e w' ⟨rfl, hb⟩))
    go_ret
    exact ⟨rfl, hb⟩
  · rw [hv] at cV
    have HV : Hid _ := Lib.hid hv
    clear hv
    go_enter Tryd.func65, Tryd.ntmps65
    go_wp2_with (first | (go_at_call 64; ((with_reducible refine cV.mono ?_); rintro e w' ⟨rfl, hb⟩)) | (go_at_call 76; ((with_reducible refine (cR _).mono ?_); rintro e w' ⟨rfl, pos, rfl⟩)))
    go_ret
    exact ⟨rfl, below_iter hb hb.size⟩
end Go.Proofs.YtponbhhkccpbfaaDoor
