/- Same at two equal lists of properties; Pick. -/
import Derived.Test.YtponbhhkccpbfaaDoorNmProp7
import Derived.Deep.QuietTactic
import Derived.BigQuiet
namespace Go.Proofs.YtponbhhkccpbfaaDoor
open Go.RowKit Go.Lib Go.Shelf
set_option maxHeartbeats 1000000 in
theorem same_eq (a b : Option Addr) (c1 c2 n : Nat) (la : List (Int × Wd)) (w : World) (hla : la.length = n) (hn : n ≤ 1000000)
    (ha : ∀ i x, la[i]? = some x → ∃ b off, a = some ⟨b, off, none⟩ ∧ w.cell? ⟨b, off + i * 3, none⟩ = some (.int .i64 x.1) ∧ w.cell? ⟨b, off + i * 3 + 1, none⟩ = some (.int .i64 x.2.1) ∧ w.cell? ⟨b, off + i * 3 + 2, none⟩ = some (.int .i64 x.2.2))
    (hb : ∀ i x, la[i]? = some x → ∃ b' off, b = some ⟨b', off, none⟩ ∧ w.cell? ⟨b', off + i * 3, none⟩ = some (.int .i64 x.1) ∧ w.cell? ⟨b', off + i * 3 + 1, none⟩ = some (.int .i64 x.2.1) ∧ w.cell? ⟨b', off + i * 3 + 2, none⟩ = some (.int .i64 x.2.2)) :
    Calls Tryd.prog 34 #[.slice a n c1, .slice b n c2] w fun e w' => e = .returned (.bool true) ∧ ∃ q, w' = w.drewN q := by
  have HA := Lib.hid ha
  have HB := Lib.hid hb
  have HL := Lib.hid hla
  have hz : ((n : Int) != (n : Int)) = false := by simp
  clear ha hb hla
  go_enter Tryd.func34, Tryd.ntmps34
  go_wp2
  clear hz
  go_loopw [5] (fun i wr => ∃ (k q : Nat), i = .int .i64 k ∧ k ≤ n ∧ wr = w.drewN q) (fun i _ => n - (RowKit.intOf i).toNat)
  case atStart => exact ⟨0, 0, rfl, Nat.zero_le _, rfl⟩
  case round =>
    obtain ⟨k, q, rfl, hk, rfl⟩ := hrel
    by_cases hlt : (k : Int) < (n : Int)
    · obtain ⟨x, hx⟩ : ∃ x, la[k]? = some x := ⟨la[k]'(by have := HL.out; omega), List.getElem?_eq_getElem _⟩
      obtain ⟨b1, o1, ea, k1, k2, k3⟩ := HA.out k x hx
      obtain ⟨b2, o2, eb, k4, k5, k6⟩ := HB.out k x hx
      subst ea
      subst eb
      clear hx
      obtain ⟨x0, x1, x2⟩ := x
      have hz1 : (x0 == x0) = true := by simp
      have hz2 : (x1 == x1) = true := by simp
      have hz3 : (x2 == x2) = true := by simp
      go_wp2
      go_quiet (fail)
      go_wp2
      go_roundw
      case rel => exact ⟨k + 1, q + nq, by go_num, by omega, rfl⟩
      case measure => simp [RowKit.intOf]; omega
    · go_wp2
      go_ret
      exact ⟨rfl, q, rfl⟩
/-- Pick's own arithmetic. -/
def pickZ (n m : Int) : Int := if m ≤ 0 then 0 else if n.tmod m < 0 then n.tmod m + m else n.tmod m
theorem tmod_lo (n m : Int) (h : 0 < m) : -m < n.tmod m := by
  by_cases hn : 0 ≤ n
  · have := Int.tmod_nonneg m hn
    omega
  · have h1 := Int.tmod_lt_of_pos (-n) h
    rw [Int.neg_tmod] at h1
    omega
theorem pickZ_in (n : Int) (m : Int) (h : 0 < m) : 0 ≤ pickZ n m ∧ pickZ n m < m := by
  unfold pickZ
  have h1 := Int.tmod_lt_of_pos n h
  have h2 := tmod_lo n m h
  rw [if_neg (by omega)]
  by_cases h3 : n.tmod m < 0
  · rw [if_pos h3]; omega
  · rw [if_neg h3]; omega
set_option maxHeartbeats 400000 in
theorem pick_any (n m : Int) (w : World) (h0 : 0 < m) (h1 : m ≤ 1000000) :
    Calls Tryd.prog 26 #[.int .i64 n, .int .i64 m] w fun e w' => e = .returned (.int .i64 (pickZ n m)) ∧ w' = w := by
  have hp : ¬ m ≤ 0 := by omega
  have hm1 : m ≠ -1 := by omega
  have hm0 : m ≠ 0 := by omega
  have ht1 := Int.tmod_lt_of_pos n h0
  have ht2 := tmod_lo n m h0
  unfold pickZ
  rw [if_neg hp]
  by_cases h3 : n.tmod m < 0
  · rw [if_pos h3]
    go_enter Tryd.func26, Tryd.ntmps26
    go_wp2
    go_ret
    exact ⟨rfl, rfl⟩
  · rw [if_neg h3]
    go_enter Tryd.func26, Tryd.ntmps26
    go_wp2
    go_ret
    exact ⟨rfl, rfl⟩
end Go.Proofs.YtponbhhkccpbfaaDoor
