/- The contracts of the reference's small and in. -/
import Derived.Test.YtjajeijeoohpoaaDoorProg
import Derived.WalkKit
import Derived.WalkSpells
import Derived.WalkLawsBesides
import Derived.RegionTactic
import Derived.Deep.QuietTactic
import Derived.BigQuiet
import Derived.Outline
import Derived.Lib.Hide
import Derived.Deep.LoopGhost
namespace Go.Proofs.YtjajeijeoohpoaaDoor
open Go.RowKit Go.Lib
/-- What the reference's 'small' gives. -/
def smallZ (c : Int) : Int × Bool :=
  if (97 ≤ c ∧ c ≤ 122) ∨ (224 ≤ c ∧ c ≤ 254 ∧ c ≠ 247) ∨ (945 ≤ c ∧ c ≤ 969 ∧ c ≠ 962) ∨ (1072 ≤ c ∧ c ≤ 1103) then (c - 32, true)
  else if 1104 ≤ c ∧ c ≤ 1119 then (c - 80, true) else if c = 962 then (931, true) else (c, false)
theorem tup_eq {a b : Int} {c d : Bool} (h : (a, c) = (b, d)) : Ending.returned (.tuple #[.int .i64 a, .bool c]) = Ending.returned (.tuple #[.int .i64 b, .bool d]) := by
  cases h; rfl
set_option maxHeartbeats 1000000 in
theorem small_any (c : Int) (w : World) : Calls Tryd.prog 48 #[.int .i64 c] w fun e w' => e = .returned (.tuple #[.int .i64 (smallZ c).1, .bool (smallZ c).2]) ∧ w = w' := by
  obtain ⟨r, hr⟩ : ∃ r, smallZ c = r := ⟨_, rfl⟩
  have HR : Hid _ := Lib.hid hr
  clear hr
  rw [HR.out]
  go_enter Tryd.func48, Tryd.ntmps48
  go_wp2
  all_goals go_ret2
  all_goals refine ⟨?_, rfl⟩
  all_goals rw [← HR.out]
  all_goals refine tup_eq ?_
  all_goals unfold smallZ
  all_goals try simp only [bne_iff_ne, ne_eq, bne_eq_false_iff_eq, beq_eq_false_iff_ne, beq_iff_eq] at *
  all_goals first | (rw [if_pos (by omega)]; done) | (rw [if_neg (by omega), if_pos (by omega)]; done) | (rw [if_neg (by omega), if_neg (by omega), if_pos (by omega)]; done) | (rw [if_neg (by omega), if_neg (by omega), if_neg (by omega)]; done)

/-- Is a number within one of the ranges? -/
def inL : List (Int × Int) → Int → Bool
  | [], _ => false
  | x :: l, c => (decide (x.1 ≤ c) && decide (c ≤ x.2)) || inL l c
def pairCells (ps : List (Int × Int)) : Array Value := (ps.flatMap fun x => [Value.int .i64 x.1, Value.int .i64 x.2]).toArray
theorem pairCells_at : ∀ (l : List (Int × Int)) (i : Nat) (x : Int × Int), l[i]? = some x → (pairCells l)[2 * i]? = some (.int .i64 x.1) ∧ (pairCells l)[2 * i + 1]? = some (.int .i64 x.2)
  | [], i, x, h => by simp at h
  | y :: l, 0, x, h => by simp at h; subst h; simp [pairCells]
  | y :: l, i + 1, x, h => by
    have ih := pairCells_at l i x (by simpa using h)
    simp only [pairCells, List.getElem?_toArray, List.flatMap_cons] at ih ⊢
    rw [show 2 * (i + 1) = 2 * i + 1 + 1 by omega]
    simpa using ih
theorem inL_drop (ps : List (Int × Int)) (k : Nat) (x : Int × Int) (c : Int) (h : ps[k]? = some x) : inL (ps.drop k) c = ((decide (x.1 ≤ c) && decide (c ≤ x.2)) || inL (ps.drop (k + 1)) c) := by
  obtain ⟨hk, hx⟩ := List.getElem?_eq_some_iff.1 h
  rw [List.drop_eq_getElem_cons hk, hx]
  rfl
set_option maxHeartbeats 1000000 in
theorem in_any (ps : List (Int × Int)) (c : Int) (blk n cap : Nat) (w : World) (hn : n = 2 * ps.length) (hsmall : n < 1000)
    (hc : ∀ i x, ps[i]? = some x → w.cell? ⟨blk, 2 * i, none⟩ = some (.int .i64 x.1) ∧ w.cell? ⟨blk, 2 * i + 1, none⟩ = some (.int .i64 x.2)) :
    Calls Tryd.prog 47 #[.int .i64 c, .slice (some ⟨blk, 0, none⟩) n cap] w fun e w' => e = .returned (.bool (inL ps c)) ∧ ∃ q, w' = w.drewN q := by
  obtain ⟨ans, hans⟩ : ∃ a, inL ps c = a := ⟨_, rfl⟩
  rw [hans]
  have HA : Hid _ := Lib.hid hans
  have HC : Hid _ := Lib.hid hc
  have HN : Hid _ := Lib.hid hn
  clear hans hc hn
  go_enter Tryd.func47, Tryd.ntmps47
  go_wp2
  go_loopw [5] (fun i wr => ∃ (j q : Nat), i = .int .i64 j ∧ j ≤ n ∧ wr = w.drewN q ∧ Hid (∃ k, j = 2 * k ∧ inL (ps.drop k) c = ans)) (fun i _ => n - (intOf i).toNat)
  case atStart => exact ⟨0, 0, rfl, Nat.zero_le _, rfl, Lib.hid ⟨0, rfl, HA.out⟩⟩
  case round =>
    obtain ⟨j, q, rfl, hj, rfl, HK⟩ := hrel
    by_cases hlt : (j : Int) + 1 < (n : Int)
    · obtain ⟨k, hk, hin⟩ := HK.out
      have hkl : k < ps.length := by have := HN.out; omega
      have hcs := HC.out k ps[k] (List.getElem?_eq_getElem hkl)
      have hd := inL_drop ps k ps[k] c (List.getElem?_eq_getElem hkl)
      rw [← hk] at hcs
      generalize ps[k] = x at hcs hd
      obtain ⟨lo, hi⟩ := x
      obtain ⟨c1, c2⟩ := hcs
      rw [hin] at hd
      have HD : Hid _ := Lib.hid hd
      have HJ : Hid _ := Lib.hid hk
      clear hd hk hin HK hkl
      simp only at c1 c2
      by_cases h1 : lo ≤ c
      · by_cases h2 : c ≤ hi
        · have ea : ans = true := by have := HD.out; simpa [h1, h2] using this
          subst ea
          clear HD HA HC
          go_wp2
          go_ret
          exact ⟨rfl, q, rfl⟩
        · have hd2 : inL (ps.drop (j / 2 + 1)) c = ans := by
            have h3 := HD.out; have h4 := HJ.out
            rw [show j / 2 = k by omega]
            simpa [h2] using h3.symm
          have HE : Hid _ := Lib.hid hd2
          clear hd2 HD HA HC
          go_wp2
          go_roundw
          case rel => exact ⟨j + 2, q, by go_num, by omega, rfl, Lib.hid ⟨k + 1, by have := HJ.out; omega, by have h4 := HJ.out; rw [show k + 1 = j / 2 + 1 by omega]; exact HE.out⟩⟩
          case measure => simp [intOf]; omega
      · have hd2 : inL (ps.drop (j / 2 + 1)) c = ans := by
          have h3 := HD.out; have h4 := HJ.out
          rw [show j / 2 = k by omega]
          simpa [h1] using h3.symm
        have HE : Hid _ := Lib.hid hd2
        clear hd2 HD HA HC
        go_wp2
        go_roundw
        case rel => exact ⟨j + 2, q, by go_num, by omega, rfl, Lib.hid ⟨k + 1, by have := HJ.out; omega, by have h4 := HJ.out; rw [show k + 1 = j / 2 + 1 by omega]; exact HE.out⟩⟩
        case measure => simp [intOf]; omega
    · have ea : ans = false := by
        obtain ⟨k, hk, hin⟩ := HK.out
        have := HN.out
        rw [List.drop_of_length_le (by omega)] at hin
        exact hin.symm
      subst ea
      clear HK HA HC
      go_wp2
      go_ret
      exact ⟨rfl, q, rfl⟩
end Go.Proofs.YtjajeijeoohpoaaDoor
