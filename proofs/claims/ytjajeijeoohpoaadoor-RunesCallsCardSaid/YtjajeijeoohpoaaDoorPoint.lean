/- The contracts of the reference's tail and point, for every string that is not empty. Conditions: none. -/
import Derived.Test.YtjajeijeoohpoaaDoorChars2
import Derived.Test.YtjajeijeoohpoaaDoorPlain
namespace Go.Proofs.YtjajeijeoohpoaaDoor
open Go.RowKit Go.Lib
/-- Is the byte at a place a continuation byte? -/
def tailB (s : ByteArray) (i : Nat) : Bool := decide (i < s.size) && decide (128 ≤ (s.data.toList.getD i 0).toNat) && decide ((s.data.toList.getD i 0).toNat < 192)
theorem getD_at (s : ByteArray) (i : Nat) (h : i < s.size) : s.data.toList.getD i 0 = s[i]'h := by
  rw [List.getD_eq_getElem?_getD, List.getElem?_eq_getElem (by simpa using h)]
  rfl
set_option maxHeartbeats 400000 in
theorem tail_any (s : ByteArray) (i : Nat) (w : World) : Calls Tryd.prog 55 #[.string s, .int .i64 i] w fun e w' => e = .returned (.bool (tailB s i)) ∧ w = w' := by
  unfold tailB
  by_cases h : i < s.size
  · rw [getD_at s i h]
    obtain ⟨x, hx⟩ : ∃ x, s[i]'h = x := ⟨_, rfl⟩
    rw [hx]
    have hz : (i : Int) < (s.size : Int) := by omega
    by_cases h1 : 128 ≤ x.toNat
    · have h1z : (128 : Int) ≤ (x.toNat : Int) := by omega
      by_cases h2 : x.toNat < 192
      · have h2z : (x.toNat : Int) < 192 := by omega
        simp only [h, h1, h2, decide_true, Bool.and_true]
        go_enter Tryd.func55, Tryd.ntmps55
        go_wp2
        go_ret
        exact ⟨rfl, rfl⟩
      · have h2z : ¬ (x.toNat : Int) < 192 := by omega
        simp only [h, h1, h2, decide_true, decide_false, Bool.and_true, Bool.and_false]
        go_enter Tryd.func55, Tryd.ntmps55
        go_wp2
        go_ret
        exact ⟨rfl, rfl⟩
    · have h1z : ¬ (128 : Int) ≤ (x.toNat : Int) := by omega
      simp only [h, h1, decide_true, decide_false, Bool.and_false, Bool.false_and]
      go_enter Tryd.func55, Tryd.ntmps55
      go_wp2
      go_ret
      exact ⟨rfl, rfl⟩
  · have hz : ¬ (i : Int) < (s.size : Int) := by omega
    simp only [h, decide_false, Bool.false_and]
    go_enter Tryd.func55, Tryd.ntmps55
    go_wp2
    go_ret
    exact ⟨rfl, rfl⟩
theorem pair_eq {a b c d : Int} (h1 : a = b) (h2 : c = d) : Ending.returned (.tuple #[.int .i64 a, .int .i64 c]) = Ending.returned (.tuple #[.int .i64 b, .int .i64 d]) := by
  subst h1; subst h2; rfl
set_option maxHeartbeats 400000 in
set_option maxRecDepth 100000 in
theorem point_a (s : ByteArray) (x0 : UInt8) (w : World) (h : 0 < s.size) (h0 : s[0]'h = x0) (hx : x0.toNat < 128) :
    Calls Tryd.prog 46 #[.string s] w fun e w' => e = .returned (.tuple #[.int .i64 x0.toNat, .int .i64 1]) ∧ Below w.heap.size w w' := by
  have hz : (0 : Int) < (s.size : Int) := by omega
  have hxz : (x0.toNat : Int) < 128 := by omega
  go_enter Tryd.func46, Tryd.ntmps46
  go_wp2
  go_ret2
  exact ⟨rfl, Below.refl _ _⟩
set_option maxHeartbeats 400000 in
set_option maxRecDepth 100000 in
theorem point_e (s : ByteArray) (x0 : UInt8) (w : World) (h : 0 < s.size) (h0 : s[0]'h = x0) (hx : (128 ≤ x0.toNat ∧ x0.toNat < 194) ∨ 245 ≤ x0.toNat) :
    Calls Tryd.prog 46 #[.string s] w fun e w' => e = .returned (.tuple #[.int .i64 0, .int .i64 0]) ∧ Below w.heap.size w w' := by
  have hz : (0 : Int) < (s.size : Int) := by omega
  have hx0 := x0.toNat_lt
  rcases hx with hx | hx
  · have q1 : ¬ (x0.toNat : Int) < 128 := by omega
    have q2 : ¬ 194 ≤ (x0.toNat : Int) := by omega
    have q3 : ¬ 224 ≤ (x0.toNat : Int) := by omega
    have q4 : ¬ 240 ≤ (x0.toNat : Int) := by omega
    go_enter Tryd.func46, Tryd.ntmps46
    go_wp2
    go_ret2
    exact ⟨rfl, Below.refl _ _⟩
  · have q1 : ¬ (x0.toNat : Int) < 128 := by omega
    have q2 : 194 ≤ (x0.toNat : Int) := by omega
    have q3 : ¬ (x0.toNat : Int) < 224 := by omega
    have q4 : 224 ≤ (x0.toNat : Int) := by omega
    have q5 : ¬ (x0.toNat : Int) < 240 := by omega
    have q6 : 240 ≤ (x0.toNat : Int) := by omega
    have q7 : ¬ (x0.toNat : Int) < 245 := by omega
    go_enter Tryd.func46, Tryd.ntmps46
    go_wp2
    go_ret2
    exact ⟨rfl, Below.refl _ _⟩
set_option maxHeartbeats 400000 in
set_option maxRecDepth 100000 in
theorem point_b1 (s : ByteArray) (x0 x1 : UInt8) (w : World) (h : 1 < s.size) (h0 : s[0]'(by omega) = x0) (h1 : s[1]'h = x1) (hx : 194 ≤ x0.toNat) (hx2 : x0.toNat < 224)
    (k1 : ∀ w, Calls Tryd.prog 55 #[.string s, .int .i64 1] w fun e w' => e = .returned (.bool true) ∧ w = w') :
    Calls Tryd.prog 46 #[.string s] w fun e w' => e = .returned (.tuple #[.int .i64 (((x0.toNat : Int) - 192) * 64 + x1.toNat - 128), .int .i64 2]) ∧ Below w.heap.size w w' := by
  have hz : (0 : Int) < (s.size : Int) := by omega
  have hz1 : (1 : Int) < (s.size : Int) := by omega
  have hx0 := x1.toNat_lt
  have q1 : ¬ (x0.toNat : Int) < 128 := by omega
  have q2 : 194 ≤ (x0.toNat : Int) := by omega
  have q3 : (x0.toNat : Int) < 224 := by omega
  go_enter Tryd.func46, Tryd.ntmps46
  go_wp2_with (go_at_call 55; ((with_reducible refine (k1 _).mono ?_); rintro e w' ⟨rfl, rfl⟩))
  go_ret2
  exact ⟨rfl, Below.refl _ _⟩
set_option maxHeartbeats 400000 in
set_option maxRecDepth 100000 in
theorem point_b0 (s : ByteArray) (x0 : UInt8) (w : World) (h : 0 < s.size) (h0 : s[0]'h = x0) (hx : 194 ≤ x0.toNat) (hx2 : x0.toNat < 224)
    (k1 : ∀ w, Calls Tryd.prog 55 #[.string s, .int .i64 1] w fun e w' => e = .returned (.bool false) ∧ w = w') :
    Calls Tryd.prog 46 #[.string s] w fun e w' => e = .returned (.tuple #[.int .i64 0, .int .i64 0]) ∧ Below w.heap.size w w' := by
  have hz : (0 : Int) < (s.size : Int) := by omega
  have q1 : ¬ (x0.toNat : Int) < 128 := by omega
  have q2 : 194 ≤ (x0.toNat : Int) := by omega
  have q3 : (x0.toNat : Int) < 224 := by omega
  have q4 : ¬ 224 ≤ (x0.toNat : Int) := by omega
  have q5 : ¬ 240 ≤ (x0.toNat : Int) := by omega
  go_enter Tryd.func46, Tryd.ntmps46
  go_wp2_with (go_at_call 55; ((with_reducible refine (k1 _).mono ?_); rintro e w' ⟨rfl, rfl⟩))
  go_ret2
  exact ⟨rfl, Below.refl _ _⟩
set_option maxHeartbeats 400000 in
set_option maxRecDepth 100000 in
theorem point_c0 (s : ByteArray) (x0 : UInt8) (t1 t2 : Bool) (w : World) (h : 0 < s.size) (h0 : s[0]'h = x0) (hx : 224 ≤ x0.toNat) (hx2 : x0.toNat < 240) (ht : (t1 && t2) = false)
    (k1 : ∀ w, Calls Tryd.prog 55 #[.string s, .int .i64 1] w fun e w' => e = .returned (.bool t1) ∧ w = w')
    (k2 : ∀ w, Calls Tryd.prog 55 #[.string s, .int .i64 2] w fun e w' => e = .returned (.bool t2) ∧ w = w') :
    Calls Tryd.prog 46 #[.string s] w fun e w' => e = .returned (.tuple #[.int .i64 0, .int .i64 0]) ∧ Below w.heap.size w w' := by
  have hz : (0 : Int) < (s.size : Int) := by omega
  have q1 : ¬ (x0.toNat : Int) < 128 := by omega
  have q2 : 194 ≤ (x0.toNat : Int) := by omega
  have q3 : ¬ (x0.toNat : Int) < 224 := by omega
  have q4 : 224 ≤ (x0.toNat : Int) := by omega
  have q5 : (x0.toNat : Int) < 240 := by omega
  have q6 : ¬ 240 ≤ (x0.toNat : Int) := by omega
  cases t1 <;> cases t2 <;> first | (exfalso; revert ht; decide) | skip
  all_goals
    clear ht
    go_enter Tryd.func46, Tryd.ntmps46
    go_wp2_with (go_at_call 55; first | ((with_reducible refine (k1 _).mono ?_); rintro e w' ⟨rfl, rfl⟩) | ((with_reducible refine (k2 _).mono ?_); rintro e w' ⟨rfl, rfl⟩))
    go_ret2
    exact ⟨rfl, Below.refl _ _⟩
set_option maxHeartbeats 400000 in
set_option maxRecDepth 100000 in
theorem point_d0 (s : ByteArray) (x0 : UInt8) (t1 t2 t3 : Bool) (w : World) (h : 0 < s.size) (h0 : s[0]'h = x0) (hx : 240 ≤ x0.toNat) (hx2 : x0.toNat < 245) (ht : (t1 && t2 && t3) = false)
    (k1 : ∀ w, Calls Tryd.prog 55 #[.string s, .int .i64 1] w fun e w' => e = .returned (.bool t1) ∧ w = w')
    (k2 : ∀ w, Calls Tryd.prog 55 #[.string s, .int .i64 2] w fun e w' => e = .returned (.bool t2) ∧ w = w')
    (k3 : ∀ w, Calls Tryd.prog 55 #[.string s, .int .i64 3] w fun e w' => e = .returned (.bool t3) ∧ w = w') :
    Calls Tryd.prog 46 #[.string s] w fun e w' => e = .returned (.tuple #[.int .i64 0, .int .i64 0]) ∧ Below w.heap.size w w' := by
  have hz : (0 : Int) < (s.size : Int) := by omega
  have q1 : ¬ (x0.toNat : Int) < 128 := by omega
  have q2 : 194 ≤ (x0.toNat : Int) := by omega
  have q3 : ¬ (x0.toNat : Int) < 224 := by omega
  have q4 : 224 ≤ (x0.toNat : Int) := by omega
  have q5 : ¬ (x0.toNat : Int) < 240 := by omega
  have q6 : 240 ≤ (x0.toNat : Int) := by omega
  have q7 : (x0.toNat : Int) < 245 := by omega
  cases t1 <;> cases t2 <;> cases t3 <;> first | (exfalso; revert ht; decide) | skip
  all_goals
    clear ht
    go_enter Tryd.func46, Tryd.ntmps46
    go_wp2_with (go_at_call 55; first | ((with_reducible refine (k1 _).mono ?_); rintro e w' ⟨rfl, rfl⟩) | ((with_reducible refine (k2 _).mono ?_); rintro e w' ⟨rfl, rfl⟩) | ((with_reducible refine (k3 _).mono ?_); rintro e w' ⟨rfl, rfl⟩))
    go_ret2
    exact ⟨rfl, Below.refl _ _⟩
set_option maxHeartbeats 2000000 in
set_option maxRecDepth 100000 in
theorem point_c_ok (s : ByteArray) (x0 x1 x2 : UInt8) (w : World) (h : 2 < s.size) (h0 : s[0]'(by omega) = x0) (h1 : s[1]'(by omega) = x1) (h2 : s[2]'(by omega) = x2) (hx : 224 ≤ x0.toNat) (hx2 : x0.toNat < 240) (hc : (2048 : Int) ≤ ((((x0.toNat : Int) - 224) * 64 + (x1.toNat : Int) - 128) * 64 + (x2.toNat : Int) - 128))
    (k1 : ∀ w, Calls Tryd.prog 55 #[.string s, .int .i64 1] w fun e w' => e = .returned (.bool true) ∧ w = w')
    (k2 : ∀ w, Calls Tryd.prog 55 #[.string s, .int .i64 2] w fun e w' => e = .returned (.bool true) ∧ w = w')
    (kI : ∀ w, Calls Tryd.prog 31 #[.int .i64 ((((x0.toNat : Int) - 224) * 64 + (x1.toNat : Int) - 128) * 64 + (x2.toNat : Int) - 128)] w fun e w' => e = .returned (.bool true) ∧ w = w') :
    Calls Tryd.prog 46 #[.string s] w fun e w' => e = .returned (.tuple #[.int .i64 ((((x0.toNat : Int) - 224) * 64 + (x1.toNat : Int) - 128) * 64 + (x2.toNat : Int) - 128), .int .i64 3]) ∧ Below w.heap.size w w' := by
  have hz0 : (0 : Int) < (s.size : Int) := by omega
  have hz1 : (1 : Int) < (s.size : Int) := by omega
  have hz2 : (2 : Int) < (s.size : Int) := by omega
  have y1 := x1.toNat_lt
  have y2 := x2.toNat_lt
  have q1 : ¬ (x0.toNat : Int) < 128 := by omega
  have q2 : 194 ≤ (x0.toNat : Int) := by omega
  have q3 : ¬ (x0.toNat : Int) < 224 := by omega
  have q4 : 224 ≤ (x0.toNat : Int) := by omega
  have q5 : (x0.toNat : Int) < 240 := by omega
  have q6 : ¬ 240 ≤ (x0.toNat : Int) := by omega
  go_enter Tryd.func46, Tryd.ntmps46
  go_wp2_with (go_at_call 55; first | ((with_reducible refine (k1 _).mono ?_); rintro e w' ⟨rfl, rfl⟩) | ((with_reducible refine (k2 _).mono ?_); rintro e w' ⟨rfl, rfl⟩))
  go_region
  go_wp2_with (go_at_call 31; ((with_reducible refine (kI _).mono ?_); rintro e w' ⟨rfl, rfl⟩))
  go_ret2
  exact ⟨rfl, (Below.refl _ _).drew⟩
set_option maxHeartbeats 2000000 in
set_option maxRecDepth 100000 in
theorem point_c_low (s : ByteArray) (x0 x1 x2 : UInt8) (w : World) (h : 2 < s.size) (h0 : s[0]'(by omega) = x0) (h1 : s[1]'(by omega) = x1) (h2 : s[2]'(by omega) = x2) (hx : 224 ≤ x0.toNat) (hx2 : x0.toNat < 240) (hc : ¬ (2048 : Int) ≤ ((((x0.toNat : Int) - 224) * 64 + (x1.toNat : Int) - 128) * 64 + (x2.toNat : Int) - 128))
    (k1 : ∀ w, Calls Tryd.prog 55 #[.string s, .int .i64 1] w fun e w' => e = .returned (.bool true) ∧ w = w')
    (k2 : ∀ w, Calls Tryd.prog 55 #[.string s, .int .i64 2] w fun e w' => e = .returned (.bool true) ∧ w = w') :
    Calls Tryd.prog 46 #[.string s] w fun e w' => e = .returned (.tuple #[.int .i64 0, .int .i64 0]) ∧ Below w.heap.size w w' := by
  have hz0 : (0 : Int) < (s.size : Int) := by omega
  have hz1 : (1 : Int) < (s.size : Int) := by omega
  have hz2 : (2 : Int) < (s.size : Int) := by omega
  have y1 := x1.toNat_lt
  have y2 := x2.toNat_lt
  have q1 : ¬ (x0.toNat : Int) < 128 := by omega
  have q2 : 194 ≤ (x0.toNat : Int) := by omega
  have q3 : ¬ (x0.toNat : Int) < 224 := by omega
  have q4 : 224 ≤ (x0.toNat : Int) := by omega
  have q5 : (x0.toNat : Int) < 240 := by omega
  have q6 : ¬ 240 ≤ (x0.toNat : Int) := by omega
  go_enter Tryd.func46, Tryd.ntmps46
  go_wp2_with (go_at_call 55; first | ((with_reducible refine (k1 _).mono ?_); rintro e w' ⟨rfl, rfl⟩) | ((with_reducible refine (k2 _).mono ?_); rintro e w' ⟨rfl, rfl⟩))
  go_region
  go_wp2
  go_ret2
  exact ⟨rfl, (Below.refl _ _).drew⟩
set_option maxHeartbeats 2000000 in
set_option maxRecDepth 100000 in
theorem point_c_bad (s : ByteArray) (x0 x1 x2 : UInt8) (w : World) (h : 2 < s.size) (h0 : s[0]'(by omega) = x0) (h1 : s[1]'(by omega) = x1) (h2 : s[2]'(by omega) = x2) (hx : 224 ≤ x0.toNat) (hx2 : x0.toNat < 240) (hc : (2048 : Int) ≤ ((((x0.toNat : Int) - 224) * 64 + (x1.toNat : Int) - 128) * 64 + (x2.toNat : Int) - 128))
    (k1 : ∀ w, Calls Tryd.prog 55 #[.string s, .int .i64 1] w fun e w' => e = .returned (.bool true) ∧ w = w')
    (k2 : ∀ w, Calls Tryd.prog 55 #[.string s, .int .i64 2] w fun e w' => e = .returned (.bool true) ∧ w = w')
    (kI : ∀ w, Calls Tryd.prog 31 #[.int .i64 ((((x0.toNat : Int) - 224) * 64 + (x1.toNat : Int) - 128) * 64 + (x2.toNat : Int) - 128)] w fun e w' => e = .returned (.bool false) ∧ w = w') :
    Calls Tryd.prog 46 #[.string s] w fun e w' => e = .returned (.tuple #[.int .i64 0, .int .i64 0]) ∧ Below w.heap.size w w' := by
  have hz0 : (0 : Int) < (s.size : Int) := by omega
  have hz1 : (1 : Int) < (s.size : Int) := by omega
  have hz2 : (2 : Int) < (s.size : Int) := by omega
  have y1 := x1.toNat_lt
  have y2 := x2.toNat_lt
  have q1 : ¬ (x0.toNat : Int) < 128 := by omega
  have q2 : 194 ≤ (x0.toNat : Int) := by omega
  have q3 : ¬ (x0.toNat : Int) < 224 := by omega
  have q4 : 224 ≤ (x0.toNat : Int) := by omega
  have q5 : (x0.toNat : Int) < 240 := by omega
  have q6 : ¬ 240 ≤ (x0.toNat : Int) := by omega
  go_enter Tryd.func46, Tryd.ntmps46
  go_wp2_with (go_at_call 55; first | ((with_reducible refine (k1 _).mono ?_); rintro e w' ⟨rfl, rfl⟩) | ((with_reducible refine (k2 _).mono ?_); rintro e w' ⟨rfl, rfl⟩))
  go_region
  go_wp2_with (go_at_call 31; ((with_reducible refine (kI _).mono ?_); rintro e w' ⟨rfl, rfl⟩))
  go_ret2
  exact ⟨rfl, (Below.refl _ _).drew⟩
set_option maxHeartbeats 2000000 in
set_option maxRecDepth 100000 in
theorem point_d_ok (s : ByteArray) (x0 x1 x2 x3 : UInt8) (w : World) (h : 3 < s.size) (h0 : s[0]'(by omega) = x0) (h1 : s[1]'(by omega) = x1) (h2 : s[2]'(by omega) = x2) (h3 : s[3]'(by omega) = x3) (hx : 240 ≤ x0.toNat) (hx2 : x0.toNat < 245) (hc : (65536 : Int) ≤ (((((x0.toNat : Int) - 240) * 64 + (x1.toNat : Int) - 128) * 64 + (x2.toNat : Int) - 128) * 64 + (x3.toNat : Int) - 128))
    (k1 : ∀ w, Calls Tryd.prog 55 #[.string s, .int .i64 1] w fun e w' => e = .returned (.bool true) ∧ w = w')
    (k2 : ∀ w, Calls Tryd.prog 55 #[.string s, .int .i64 2] w fun e w' => e = .returned (.bool true) ∧ w = w')
    (k3 : ∀ w, Calls Tryd.prog 55 #[.string s, .int .i64 3] w fun e w' => e = .returned (.bool true) ∧ w = w')
    (kI : ∀ w, Calls Tryd.prog 31 #[.int .i64 (((((x0.toNat : Int) - 240) * 64 + (x1.toNat : Int) - 128) * 64 + (x2.toNat : Int) - 128) * 64 + (x3.toNat : Int) - 128)] w fun e w' => e = .returned (.bool true) ∧ w = w') :
    Calls Tryd.prog 46 #[.string s] w fun e w' => e = .returned (.tuple #[.int .i64 (((((x0.toNat : Int) - 240) * 64 + (x1.toNat : Int) - 128) * 64 + (x2.toNat : Int) - 128) * 64 + (x3.toNat : Int) - 128), .int .i64 4]) ∧ Below w.heap.size w w' := by
  have hz0 : (0 : Int) < (s.size : Int) := by omega
  have hz1 : (1 : Int) < (s.size : Int) := by omega
  have hz2 : (2 : Int) < (s.size : Int) := by omega
  have hz3 : (3 : Int) < (s.size : Int) := by omega
  have y1 := x1.toNat_lt
  have y2 := x2.toNat_lt
  have y3 := x3.toNat_lt
  have q1 : ¬ (x0.toNat : Int) < 128 := by omega
  have q2 : 194 ≤ (x0.toNat : Int) := by omega
  have q3 : ¬ (x0.toNat : Int) < 224 := by omega
  have q4 : 224 ≤ (x0.toNat : Int) := by omega
  have q5 : ¬ (x0.toNat : Int) < 240 := by omega
  have q6 : 240 ≤ (x0.toNat : Int) := by omega
  have q7 : (x0.toNat : Int) < 245 := by omega
  go_enter Tryd.func46, Tryd.ntmps46
  go_wp2_with (go_at_call 55; first | ((with_reducible refine (k1 _).mono ?_); rintro e w' ⟨rfl, rfl⟩) | ((with_reducible refine (k2 _).mono ?_); rintro e w' ⟨rfl, rfl⟩) | ((with_reducible refine (k3 _).mono ?_); rintro e w' ⟨rfl, rfl⟩))
  go_region
  go_wp2_with (go_at_call 31; ((with_reducible refine (kI _).mono ?_); rintro e w' ⟨rfl, rfl⟩))
  go_ret2
  exact ⟨rfl, (Below.refl _ _).drew⟩
set_option maxHeartbeats 2000000 in
set_option maxRecDepth 100000 in
theorem point_d_low (s : ByteArray) (x0 x1 x2 x3 : UInt8) (w : World) (h : 3 < s.size) (h0 : s[0]'(by omega) = x0) (h1 : s[1]'(by omega) = x1) (h2 : s[2]'(by omega) = x2) (h3 : s[3]'(by omega) = x3) (hx : 240 ≤ x0.toNat) (hx2 : x0.toNat < 245) (hc : ¬ (65536 : Int) ≤ (((((x0.toNat : Int) - 240) * 64 + (x1.toNat : Int) - 128) * 64 + (x2.toNat : Int) - 128) * 64 + (x3.toNat : Int) - 128))
    (k1 : ∀ w, Calls Tryd.prog 55 #[.string s, .int .i64 1] w fun e w' => e = .returned (.bool true) ∧ w = w')
    (k2 : ∀ w, Calls Tryd.prog 55 #[.string s, .int .i64 2] w fun e w' => e = .returned (.bool true) ∧ w = w')
    (k3 : ∀ w, Calls Tryd.prog 55 #[.string s, .int .i64 3] w fun e w' => e = .returned (.bool true) ∧ w = w') :
    Calls Tryd.prog 46 #[.string s] w fun e w' => e = .returned (.tuple #[.int .i64 0, .int .i64 0]) ∧ Below w.heap.size w w' := by
  have hz0 : (0 : Int) < (s.size : Int) := by omega
  have hz1 : (1 : Int) < (s.size : Int) := by omega
  have hz2 : (2 : Int) < (s.size : Int) := by omega
  have hz3 : (3 : Int) < (s.size : Int) := by omega
  have y1 := x1.toNat_lt
  have y2 := x2.toNat_lt
  have y3 := x3.toNat_lt
  have q1 : ¬ (x0.toNat : Int) < 128 := by omega
  have q2 : 194 ≤ (x0.toNat : Int) := by omega
  have q3 : ¬ (x0.toNat : Int) < 224 := by omega
  have q4 : 224 ≤ (x0.toNat : Int) := by omega
  have q5 : ¬ (x0.toNat : Int) < 240 := by omega
  have q6 : 240 ≤ (x0.toNat : Int) := by omega
  have q7 : (x0.toNat : Int) < 245 := by omega
  go_enter Tryd.func46, Tryd.ntmps46
  go_wp2_with (go_at_call 55; first | ((with_reducible refine (k1 _).mono ?_); rintro e w' ⟨rfl, rfl⟩) | ((with_reducible refine (k2 _).mono ?_); rintro e w' ⟨rfl, rfl⟩) | ((with_reducible refine (k3 _).mono ?_); rintro e w' ⟨rfl, rfl⟩))
  go_region
  go_wp2
  go_ret2
  exact ⟨rfl, (Below.refl _ _).drew⟩
set_option maxHeartbeats 2000000 in
set_option maxRecDepth 100000 in
theorem point_d_bad (s : ByteArray) (x0 x1 x2 x3 : UInt8) (w : World) (h : 3 < s.size) (h0 : s[0]'(by omega) = x0) (h1 : s[1]'(by omega) = x1) (h2 : s[2]'(by omega) = x2) (h3 : s[3]'(by omega) = x3) (hx : 240 ≤ x0.toNat) (hx2 : x0.toNat < 245) (hc : (65536 : Int) ≤ (((((x0.toNat : Int) - 240) * 64 + (x1.toNat : Int) - 128) * 64 + (x2.toNat : Int) - 128) * 64 + (x3.toNat : Int) - 128))
    (k1 : ∀ w, Calls Tryd.prog 55 #[.string s, .int .i64 1] w fun e w' => e = .returned (.bool true) ∧ w = w')
    (k2 : ∀ w, Calls Tryd.prog 55 #[.string s, .int .i64 2] w fun e w' => e = .returned (.bool true) ∧ w = w')
    (k3 : ∀ w, Calls Tryd.prog 55 #[.string s, .int .i64 3] w fun e w' => e = .returned (.bool true) ∧ w = w')
    (kI : ∀ w, Calls Tryd.prog 31 #[.int .i64 (((((x0.toNat : Int) - 240) * 64 + (x1.toNat : Int) - 128) * 64 + (x2.toNat : Int) - 128) * 64 + (x3.toNat : Int) - 128)] w fun e w' => e = .returned (.bool false) ∧ w = w') :
    Calls Tryd.prog 46 #[.string s] w fun e w' => e = .returned (.tuple #[.int .i64 0, .int .i64 0]) ∧ Below w.heap.size w w' := by
  have hz0 : (0 : Int) < (s.size : Int) := by omega
  have hz1 : (1 : Int) < (s.size : Int) := by omega
  have hz2 : (2 : Int) < (s.size : Int) := by omega
  have hz3 : (3 : Int) < (s.size : Int) := by omega
  have y1 := x1.toNat_lt
  have y2 := x2.toNat_lt
  have y3 := x3.toNat_lt
  have q1 : ¬ (x0.toNat : Int) < 128 := by omega
  have q2 : 194 ≤ (x0.toNat : Int) := by omega
  have q3 : ¬ (x0.toNat : Int) < 224 := by omega
  have q4 : 224 ≤ (x0.toNat : Int) := by omega
  have q5 : ¬ (x0.toNat : Int) < 240 := by omega
  have q6 : 240 ≤ (x0.toNat : Int) := by omega
  have q7 : (x0.toNat : Int) < 245 := by omega
  go_enter Tryd.func46, Tryd.ntmps46
  go_wp2_with (go_at_call 55; first | ((with_reducible refine (k1 _).mono ?_); rintro e w' ⟨rfl, rfl⟩) | ((with_reducible refine (k2 _).mono ?_); rintro e w' ⟨rfl, rfl⟩) | ((with_reducible refine (k3 _).mono ?_); rintro e w' ⟨rfl, rfl⟩))
  go_region
  go_wp2_with (go_at_call 31; ((with_reducible refine (kI _).mono ?_); rintro e w' ⟨rfl, rfl⟩))
  go_ret2
  exact ⟨rfl, (Below.refl _ _).drew⟩
end Go.Proofs.YtjajeijeoohpoaaDoor
