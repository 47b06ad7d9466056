/- The contracts of runes.Valid, Len and At for every string, and of the laws' lives. Condition: unicode/utf8's two tables hold what the program's text lays. -/
import Derived.Test.YtjajeijeoohpoaaDoorShelf
import Derived.Test.YtjajeijeoohpoaaDoorPlain
import Derived.WalkKit
import Derived.WalkSpells
import Derived.WalkLawsBesides
import Derived.RegionTactic
import Derived.Deep.QuietTactic
import Derived.BigQuiet
import Derived.Outline
import Derived.Lib.Hide
import Derived.Laws.RangeString
import Derived.Laws.RangeAny
import Derived.LoopTactic
namespace Go.Proofs.YtjajeijeoohpoaaDoor
open Go.RowKit Go.Lib Go.Shelf
def Tabs (w : World) : Prop := Lib.Utf8Tabs 0 1 w
theorem Tabs.below {B : Nat} {w w' : World} (h : Tabs w) (hb : Below B w w') (hB : 1 < B) : Tabs w' :=
  ⟨fun c hc => by rw [hb.cell (by simp; omega)]; exact h.1 c hc, fun i hi => ⟨by rw [hb.cell (by simpa using hB)]; exact (h.2 i hi).1, by rw [hb.cell (by simpa using hB)]; exact (h.2 i hi).2⟩⟩
theorem Tabs.size {w : World} (h : Tabs w) : 1 < w.heap.size := by
  have := World.block_lt_of_cell? _ _ (h.2 0 (by omega)).1
  simpa using this
theorem below_iter {B : Nat} {a w : World} {s : ByteArray} {pos : Nat} (h : Below B a w) (hB : B ≤ w.heap.size) : Below B a (w.iter s pos) := h.alloc hB _
set_option maxHeartbeats 400000 in
theorem valid_any (s : ByteArray) (w : World) (hs : s.size ≤ 9223372036854775807) (hT : Tabs w) :
    Calls Tryd.prog 20 #[.string s] w fun e w' => e = .returned (.bool (validD s.data.toList)) ∧ Below w.heap.size w w' := by
  have cV : Calls Tryd.prog 44 #[.string s] w _ := Any.utf8_ValidString Tryd.lays196 s w hs hT
  generalize validD s.data.toList = V at cV ⊢
  go_enter Tryd.func20, Tryd.ntmps20
  go_wp2_with (go_at_call 44; refine cV.mono ?_; rintro e w' ⟨rfl, hb⟩)
  go_ret
  exact ⟨rfl, hb⟩
/-- How many characters a string has, 0 if it is not valid. -/
def lenD (l : List UInt8) : Nat := if validD l then (runesD l).length else 0
set_option maxHeartbeats 400000 in
theorem len_any (s : ByteArray) (w : World) (hs : s.size < 9223372036854775807) (hT : Tabs w) :
    Calls Tryd.prog 28 #[.string s] w fun e w' => e = .returned (.int .i64 (lenD s.data.toList)) ∧ Below w.heap.size w w' := by
  have cV := valid_any s w (by omega) hT
  have cR := fun w => Tryd.utf8_RuneCountInString s w hs
  rw [runeCount_eq] at cR
  unfold lenD
  generalize (runesD s.data.toList).length = n at cR ⊢
  clear hs
  cases hv : validD s.data.toList
  · rw [hv] at cV
    have HV : Hid _ := Lib.hid hv
    clear hv
    go_enter Tryd.func28, Tryd.ntmps28
    go_wp2_with (go_at_call 20; ((with_reducible refine cV.mono ?_); rintro e w' ⟨rfl, hb⟩))
    go_ret
    exact ⟨rfl, hb⟩
  · rw [hv] at cV
    have HV : Hid _ := Lib.hid hv
    clear hv
    go_enter Tryd.func28, Tryd.ntmps28
    go_wp2_with (first | (go_at_call 20; ((with_reducible refine cV.mono ?_); rintro e w' ⟨rfl, hb⟩)) | (go_at_call 38; ((with_reducible refine (cR _).mono ?_); rintro e w' ⟨rfl, pos, rfl⟩)))
    go_ret
    exact ⟨rfl, below_iter hb hb.size⟩
/-- What At gives of what stands at the place. -/
def atOf : Option Int → Int × Bool
  | some c => (c, true)
  | none => (0, false)
def atD (l : List UInt8) (i : Int) : Int × Bool := if 0 ≤ i ∧ validD l = true then atOf (runesD l)[i.toNat]? else (0, false)
theorem tup_eq2 {a b : Int} {c d : Bool} (h : (a, c) = (b, d)) : Ending.returned (.tuple #[.int .i64 a, .bool c]) = Ending.returned (.tuple #[.int .i64 b, .bool d]) := by
  cases h; rfl
set_option maxHeartbeats 1000000 in
theorem at_any (s : ByteArray) (i : Int) (w : World) (hs : s.size ≤ 9223372036854775807) (hi : i ≤ 9223372036854775807) (hT : Tabs w) :
    Calls Tryd.prog 14 #[.string s, .int .i64 i] w fun e w' => e = .returned (.tuple #[.int .i64 (atD s.data.toList i).1, .bool (atD s.data.toList i).2]) ∧ Below w.heap.size w w' := by
  have cV := valid_any s w hs hT
  unfold atD
  by_cases h0 : 0 ≤ i
  · have hlo : ¬ i < 0 := by omega
    cases hv : validD s.data.toList
    · rw [hv] at cV
      rw [if_neg (by simp)]
      have HV : Hid _ := Lib.hid hv
      clear hv
      go_enter Tryd.func14, Tryd.ntmps14
      go_wp2_with (go_at_call 20; ((with_reducible refine cV.mono ?_); rintro e w' ⟨rfl, hb⟩))
      go_ret2
      exact ⟨rfl, hb⟩
    · rw [hv] at cV
      rw [if_pos ⟨h0, rfl⟩]
      clear hv
      obtain ⟨k0, rfl⟩ : ∃ k : Nat, i = k := ⟨i.toNat, by omega⟩
      obtain ⟨tg, htg⟩ : ∃ tg, (runesD s.data.toList)[(k0 : Int).toNat]? = tg := ⟨_, rfl⟩
      rw [htg]
      have HTG : Hid _ := Lib.hid htg
      clear htg h0
      go_enter Tryd.func14, Tryd.ntmps14
      go_wp2_with (go_at_call 20; ((with_reducible refine cV.mono ?_); rintro e W1 ⟨rfl, hb⟩))
      go_loopw [1] (fun x wr => ∃ (pos k : Nat), x = .int .i64 k ∧ wr = W1.iter s pos ∧ k ≤ k0 ∧ Hid ((runesD (s.data.toList.drop pos))[k]? = tg)) (fun _ wr => s.size - wr.iterPos W1.heap.size)
      case atStart => exact ⟨0, k0, rfl, rfl, Nat.le_refl _, Lib.hid (by have := HTG.out; simpa using this)⟩
      case round =>
        obtain ⟨pos, k, rfl, rfl, hk, HK⟩ := hrel
        by_cases hp : pos < s.size
        · have hnx : ∀ ty, (Instr.next (.pointer (some ⟨W1.heap.size, 0, none⟩)) true ty).run Tryd.prog (W1.iter s pos) = _ := fun ty => run_next_any W1 s pos ty hp
          have hwd := Lib.decode_width_pos s pos hp
          have hst := runesD_at s pos hp
          have hle := decode_le s pos
          have HK2 : Hid _ := Lib.hid (hst ▸ HK.out)
          clear hst HK
          generalize Utf8.decode s pos = d at *
          obtain ⟨ch, wd⟩ := d
          simp only at hnx hwd hle HK2
          by_cases hk0 : k = 0
          · subst hk0
            have ht : tg = some (ch : Int) := by have := HK2.out; simpa using this.symm
            subst ht
            clear HTG HK2
            go_wp2
            go_ret2
            exact ⟨rfl, below_iter hb hb.size⟩
          · obtain ⟨k', rfl⟩ : ∃ k', k = k' + 1 := ⟨k - 1, by omega⟩
            have hkz : (((k' + 1 : Nat) : Int) == 0) = false := by simp; omega
            clear hk0
            go_wp2
            go_roundw
            case rel => exact ⟨pos + wd, k', by go_num, rfl, by omega, Lib.hid (by have := HK2.out; simpa using this)⟩
            case measure => simp; omega
        · have hnx : ∀ ty, (Instr.next (.pointer (some ⟨W1.heap.size, 0, none⟩)) true ty).run Tryd.prog (W1.iter s pos) = _ := fun ty => run_next_end W1 s pos ty hp
          have ht : tg = none := by have := HK.out; rw [runesD_end s pos hp] at this; simpa using this.symm
          subst ht
          clear HTG HK
          go_wp2
          go_ret2
          exact ⟨rfl, below_iter hb hb.size⟩
  · rw [if_neg (by omega)]
    have hlo : i < 0 := by omega
    clear cV
    go_enter Tryd.func14, Tryd.ntmps14
    go_wp2
    go_ret2
    exact ⟨rfl, Below.refl _ _⟩
end Go.Proofs.YtjajeijeoohpoaaDoor
