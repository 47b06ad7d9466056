/- The contracts of the reference's List and Valid, for every string of at most 100,000 bytes. Conditions: none. -/
import Derived.Test.YtbbopdkbokbafaaGreatDoorNmCalls2
import Derived.Deep.LoopGhost
namespace Go.Proofs.YtbbopdkbokbafaaGreatDoor
open Go.RowKit Go.Lib
theorem info_int3 : (Tryz.prog.info? 3).map (fun i => (i.zero, i.size, i.bytes)) = some (some (.int .i64 0), 1, 8) := by kernel_rfl
def isZ (c : Int) : Bool := decide (0 ≤ c) && decide (c ≤ 1114111) && (decide (c < 55296) || decide (57343 < c))
set_option maxHeartbeats 400000 in
theorem isR_any (c : Int) (w : World) : Calls Tryz.prog 86 #[.int .i64 c] w fun e w' => e = .returned (.bool (isZ c)) ∧ w = w' := by
  unfold isZ
  by_cases h1 : 0 ≤ c <;> by_cases h2 : c ≤ 1114111 <;> by_cases h3 : c < 55296 <;> by_cases h4 : 57343 < c <;> simp only [h1, h2, h3, h4, decide_true, decide_false, Bool.and_true, Bool.and_false, Bool.or_true, Bool.or_false] <;> (first | (exfalso; omega) | (go_enter Tryz.func86, Tryz.ntmps86; go_wp2; go_ret; exact ⟨rfl, rfl⟩))

theorem isZ_def (c : Int) : isZ c = true ↔ 0 ≤ c ∧ c ≤ 1114111 ∧ (c < 55296 ∨ 57343 < c) := by
  unfold isZ; simp; omega
def Ints (B : Nat) (v : Value) (l : List Int) (w : World) : Prop := w.ownsRow B 3 1 v l.length (l.map (Value.int .i64))
theorem own_ge {w : World} {B : Nat} {v : Value} {n : Nat} {xs : List Value} (h : w.ownsRow B 3 1 v n xs) : ∀ k, v.ownBlock = some k → B ≤ k := by
  obtain ⟨_, h2⟩ := h
  rcases h2 with ⟨rfl, _⟩ | ⟨g, cap, cur, rfl, hg, _⟩
  · intro k hk; simp [Value.ownBlock] at hk
  · intro k hk; simp [Value.ownBlock] at hk; omega
theorem Ints.below {B : Nat} {v : Value} {l : List Int} {w w' : World} (h : Ints B v l w) (hb : Below w.heap.size w w') : Ints B v l w' := by
  obtain ⟨h1, h2⟩ := h
  refine ⟨h1, ?_⟩
  rcases h2 with h2 | ⟨g, cap, cur, hv, hg, hh, hrest⟩
  · exact .inl h2
  · have hlt : g < w.heap.size := (Array.getElem?_eq_some_iff.1 hh).1
    exact .inr ⟨g, cap, cur, hv, hg, (hb.block g hlt).trans hh, hrest⟩
/-- Is the byte at a place a continuation byte? -/
def tailB (s : ByteArray) (i : Nat) : Bool := decide (i < s.size) && decide (128 ≤ (s.data.toList.getD i 0).toNat) && decide ((s.data.toList.getD i 0).toNat < 192)
theorem getD_at (s : ByteArray) (i : Nat) (h : i < s.size) : s.data.toList.getD i 0 = s[i]'h := by
  rw [List.getD_eq_getElem?_getD, List.getElem?_eq_getElem (by simpa using h)]
  rfl
set_option maxHeartbeats 400000 in
theorem tail_any (s : ByteArray) (i : Nat) (w : World) : Calls Tryz.prog 188 #[.string s, .int .i64 i] w fun e w' => e = .returned (.bool (tailB s i)) ∧ w = w' := by
  unfold tailB
  by_cases h : i < s.size
  · rw [getD_at s i h]
    obtain ⟨x, hx⟩ : ∃ x, s[i]'h = x := ⟨_, rfl⟩
    rw [hx]
    have hz : (i : Int) < (s.size : Int) := by omega
    by_cases h1 : 128 ≤ x.toNat
    · have h1z : (128 : Int) ≤ (x.toNat : Int) := by omega
      by_cases h2 : x.toNat < 192
      · have h2z : (x.toNat : Int) < 192 := by omega
        simp only [h, h1, h2, decide_true, Bool.and_true]
        go_enter Tryz.func188, Tryz.ntmps188
        go_wp2
        go_ret
        exact ⟨rfl, rfl⟩
      · have h2z : ¬ (x.toNat : Int) < 192 := by omega
        simp only [h, h1, h2, decide_true, decide_false, Bool.and_true, Bool.and_false]
        go_enter Tryz.func188, Tryz.ntmps188
        go_wp2
        go_ret
        exact ⟨rfl, rfl⟩
    · have h1z : ¬ (128 : Int) ≤ (x.toNat : Int) := by omega
      simp only [h, h1, decide_true, decide_false, Bool.and_false, Bool.false_and]
      go_enter Tryz.func188, Tryz.ntmps188
      go_wp2
      go_ret
      exact ⟨rfl, rfl⟩
  · have hz : ¬ (i : Int) < (s.size : Int) := by omega
    simp only [h, decide_false, Bool.false_and]
    go_enter Tryz.func188, Tryz.ntmps188
    go_wp2
    go_ret
    exact ⟨rfl, rfl⟩
theorem pair_eq {a b c d : Int} (h1 : a = b) (h2 : c = d) : Ending.returned (.tuple #[.int .i64 a, .int .i64 c]) = Ending.returned (.tuple #[.int .i64 b, .int .i64 d]) := by
  subst h1; subst h2; rfl
set_option maxHeartbeats 400000 in
set_option maxRecDepth 100000 in
theorem point_a (s : ByteArray) (x0 : UInt8) (w : World) (h : 0 < s.size) (h0 : s[0]'h = x0) (hx : x0.toNat < 128) :
    Calls Tryz.prog 132 #[.string s] w fun e w' => e = .returned (.tuple #[.int .i64 x0.toNat, .int .i64 1]) ∧ Below w.heap.size w w' := by
  have hz : (0 : Int) < (s.size : Int) := by omega
  have hxz : (x0.toNat : Int) < 128 := by omega
  go_enter Tryz.func132, Tryz.ntmps132
  go_wp2
  go_ret2
  exact ⟨rfl, Below.refl _ _⟩
set_option maxHeartbeats 400000 in
set_option maxRecDepth 100000 in
theorem point_e (s : ByteArray) (x0 : UInt8) (w : World) (h : 0 < s.size) (h0 : s[0]'h = x0) (hx : (128 ≤ x0.toNat ∧ x0.toNat < 194) ∨ 245 ≤ x0.toNat) :
    Calls Tryz.prog 132 #[.string s] w fun e w' => e = .returned (.tuple #[.int .i64 0, .int .i64 0]) ∧ Below w.heap.size w w' := by
  have hz : (0 : Int) < (s.size : Int) := by omega
  have hx0 := x0.toNat_lt
  rcases hx with hx | hx
  · have q1 : ¬ (x0.toNat : Int) < 128 := by omega
    have q2 : ¬ 194 ≤ (x0.toNat : Int) := by omega
    have q3 : ¬ 224 ≤ (x0.toNat : Int) := by omega
    have q4 : ¬ 240 ≤ (x0.toNat : Int) := by omega
    go_enter Tryz.func132, Tryz.ntmps132
    go_wp2
    go_ret2
    exact ⟨rfl, Below.refl _ _⟩
  · have q1 : ¬ (x0.toNat : Int) < 128 := by omega
    have q2 : 194 ≤ (x0.toNat : Int) := by omega
    have q3 : ¬ (x0.toNat : Int) < 224 := by omega
    have q4 : 224 ≤ (x0.toNat : Int) := by omega
    have q5 : ¬ (x0.toNat : Int) < 240 := by omega
    have q6 : 240 ≤ (x0.toNat : Int) := by omega
    have q7 : ¬ (x0.toNat : Int) < 245 := by omega
    go_enter Tryz.func132, Tryz.ntmps132
    go_wp2
    go_ret2
    exact ⟨rfl, Below.refl _ _⟩
set_option maxHeartbeats 400000 in
set_option maxRecDepth 100000 in
theorem point_b1 (s : ByteArray) (x0 x1 : UInt8) (w : World) (h : 1 < s.size) (h0 : s[0]'(by omega) = x0) (h1 : s[1]'h = x1) (hx : 194 ≤ x0.toNat) (hx2 : x0.toNat < 224)
    (k1 : ∀ w, Calls Tryz.prog 188 #[.string s, .int .i64 1] w fun e w' => e = .returned (.bool true) ∧ w = w') :
    Calls Tryz.prog 132 #[.string s] w fun e w' => e = .returned (.tuple #[.int .i64 (((x0.toNat : Int) - 192) * 64 + x1.toNat - 128), .int .i64 2]) ∧ Below w.heap.size w w' := by
  have hz : (0 : Int) < (s.size : Int) := by omega
  have hz1 : (1 : Int) < (s.size : Int) := by omega
  have hx0 := x1.toNat_lt
  have q1 : ¬ (x0.toNat : Int) < 128 := by omega
  have q2 : 194 ≤ (x0.toNat : Int) := by omega
  have q3 : (x0.toNat : Int) < 224 := by omega
  go_enter Tryz.func132, Tryz.ntmps132
  go_wp2_with (go_at_call 188; ((with_reducible refine (k1 _).mono ?_); rintro e w' ⟨rfl, rfl⟩))
  go_ret2
  exact ⟨rfl, Below.refl _ _⟩
set_option maxHeartbeats 400000 in
set_option maxRecDepth 100000 in
theorem point_b0 (s : ByteArray) (x0 : UInt8) (w : World) (h : 0 < s.size) (h0 : s[0]'h = x0) (hx : 194 ≤ x0.toNat) (hx2 : x0.toNat < 224)
    (k1 : ∀ w, Calls Tryz.prog 188 #[.string s, .int .i64 1] w fun e w' => e = .returned (.bool false) ∧ w = w') :
    Calls Tryz.prog 132 #[.string s] w fun e w' => e = .returned (.tuple #[.int .i64 0, .int .i64 0]) ∧ Below w.heap.size w w' := by
  have hz : (0 : Int) < (s.size : Int) := by omega
  have q1 : ¬ (x0.toNat : Int) < 128 := by omega
  have q2 : 194 ≤ (x0.toNat : Int) := by omega
  have q3 : (x0.toNat : Int) < 224 := by omega
  have q4 : ¬ 224 ≤ (x0.toNat : Int) := by omega
  have q5 : ¬ 240 ≤ (x0.toNat : Int) := by omega
  go_enter Tryz.func132, Tryz.ntmps132
  go_wp2_with (go_at_call 188; ((with_reducible refine (k1 _).mono ?_); rintro e w' ⟨rfl, rfl⟩))
  go_ret2
  exact ⟨rfl, Below.refl _ _⟩
set_option maxHeartbeats 400000 in
set_option maxRecDepth 100000 in
theorem point_c0 (s : ByteArray) (x0 : UInt8) (t1 t2 : Bool) (w : World) (h : 0 < s.size) (h0 : s[0]'h = x0) (hx : 224 ≤ x0.toNat) (hx2 : x0.toNat < 240) (ht : (t1 && t2) = false)
    (k1 : ∀ w, Calls Tryz.prog 188 #[.string s, .int .i64 1] w fun e w' => e = .returned (.bool t1) ∧ w = w')
    (k2 : ∀ w, Calls Tryz.prog 188 #[.string s, .int .i64 2] w fun e w' => e = .returned (.bool t2) ∧ w = w') :
    Calls Tryz.prog 132 #[.string s] w fun e w' => e = .returned (.tuple #[.int .i64 0, .int .i64 0]) ∧ Below w.heap.size w w' := by
  have hz : (0 : Int) < (s.size : Int) := by omega
  have q1 : ¬ (x0.toNat : Int) < 128 := by omega
  have q2 : 194 ≤ (x0.toNat : Int) := by omega
  have q3 : ¬ (x0.toNat : Int) < 224 := by omega
  have q4 : 224 ≤ (x0.toNat : Int) := by omega
  have q5 : (x0.toNat : Int) < 240 := by omega
  have q6 : ¬ 240 ≤ (x0.toNat : Int) := by omega
  cases t1 <;> cases t2 <;> first | (exfalso; revert ht; decide) | skip
  all_goals
    clear ht
    go_enter Tryz.func132, Tryz.ntmps132
    go_wp2_with (go_at_call 188; first | ((with_reducible refine (k1 _).mono ?_); rintro e w' ⟨rfl, rfl⟩) | ((with_reducible refine (k2 _).mono ?_); rintro e w' ⟨rfl, rfl⟩))
    go_ret2
    exact ⟨rfl, Below.refl _ _⟩
set_option maxHeartbeats 400000 in
set_option maxRecDepth 100000 in
theorem point_d0 (s : ByteArray) (x0 : UInt8) (t1 t2 t3 : Bool) (w : World) (h : 0 < s.size) (h0 : s[0]'h = x0) (hx : 240 ≤ x0.toNat) (hx2 : x0.toNat < 245) (ht : (t1 && t2 && t3) = false)
    (k1 : ∀ w, Calls Tryz.prog 188 #[.string s, .int .i64 1] w fun e w' => e = .returned (.bool t1) ∧ w = w')
    (k2 : ∀ w, Calls Tryz.prog 188 #[.string s, .int .i64 2] w fun e w' => e = .returned (.bool t2) ∧ w = w')
    (k3 : ∀ w, Calls Tryz.prog 188 #[.string s, .int .i64 3] w fun e w' => e = .returned (.bool t3) ∧ w = w') :
    Calls Tryz.prog 132 #[.string s] w fun e w' => e = .returned (.tuple #[.int .i64 0, .int .i64 0]) ∧ Below w.heap.size w w' := by
  have hz : (0 : Int) < (s.size : Int) := by omega
  have q1 : ¬ (x0.toNat : Int) < 128 := by omega
  have q2 : 194 ≤ (x0.toNat : Int) := by omega
  have q3 : ¬ (x0.toNat : Int) < 224 := by omega
  have q4 : 224 ≤ (x0.toNat : Int) := by omega
  have q5 : ¬ (x0.toNat : Int) < 240 := by omega
  have q6 : 240 ≤ (x0.toNat : Int) := by omega
  have q7 : (x0.toNat : Int) < 245 := by omega
  cases t1 <;> cases t2 <;> cases t3 <;> first | (exfalso; revert ht; decide) | skip
  all_goals
    clear ht
    go_enter Tryz.func132, Tryz.ntmps132
    go_wp2_with (go_at_call 188; first | ((with_reducible refine (k1 _).mono ?_); rintro e w' ⟨rfl, rfl⟩) | ((with_reducible refine (k2 _).mono ?_); rintro e w' ⟨rfl, rfl⟩) | ((with_reducible refine (k3 _).mono ?_); rintro e w' ⟨rfl, rfl⟩))
    go_ret2
    exact ⟨rfl, Below.refl _ _⟩
set_option maxHeartbeats 2000000 in
set_option maxRecDepth 100000 in
theorem point_c_ok (s : ByteArray) (x0 x1 x2 : UInt8) (w : World) (h : 2 < s.size) (h0 : s[0]'(by omega) = x0) (h1 : s[1]'(by omega) = x1) (h2 : s[2]'(by omega) = x2) (hx : 224 ≤ x0.toNat) (hx2 : x0.toNat < 240) (hc : (2048 : Int) ≤ ((((x0.toNat : Int) - 224) * 64 + (x1.toNat : Int) - 128) * 64 + (x2.toNat : Int) - 128))
    (k1 : ∀ w, Calls Tryz.prog 188 #[.string s, .int .i64 1] w fun e w' => e = .returned (.bool true) ∧ w = w')
    (k2 : ∀ w, Calls Tryz.prog 188 #[.string s, .int .i64 2] w fun e w' => e = .returned (.bool true) ∧ w = w')
    (kI : ∀ w, Calls Tryz.prog 86 #[.int .i64 ((((x0.toNat : Int) - 224) * 64 + (x1.toNat : Int) - 128) * 64 + (x2.toNat : Int) - 128)] w fun e w' => e = .returned (.bool true) ∧ w = w') :
    Calls Tryz.prog 132 #[.string s] w fun e w' => e = .returned (.tuple #[.int .i64 ((((x0.toNat : Int) - 224) * 64 + (x1.toNat : Int) - 128) * 64 + (x2.toNat : Int) - 128), .int .i64 3]) ∧ Below w.heap.size w w' := by
  have hz0 : (0 : Int) < (s.size : Int) := by omega
  have hz1 : (1 : Int) < (s.size : Int) := by omega
  have hz2 : (2 : Int) < (s.size : Int) := by omega
  have y1 := x1.toNat_lt
  have y2 := x2.toNat_lt
  have q1 : ¬ (x0.toNat : Int) < 128 := by omega
  have q2 : 194 ≤ (x0.toNat : Int) := by omega
  have q3 : ¬ (x0.toNat : Int) < 224 := by omega
  have q4 : 224 ≤ (x0.toNat : Int) := by omega
  have q5 : (x0.toNat : Int) < 240 := by omega
  have q6 : ¬ 240 ≤ (x0.toNat : Int) := by omega
  go_enter Tryz.func132, Tryz.ntmps132
  go_wp2_with (go_at_call 188; first | ((with_reducible refine (k1 _).mono ?_); rintro e w' ⟨rfl, rfl⟩) | ((with_reducible refine (k2 _).mono ?_); rintro e w' ⟨rfl, rfl⟩))
  go_region
  go_wp2_with (go_at_call 86; ((with_reducible refine (kI _).mono ?_); rintro e w' ⟨rfl, rfl⟩))
  go_ret2
  exact ⟨rfl, (Below.refl _ _).drew⟩
set_option maxHeartbeats 2000000 in
set_option maxRecDepth 100000 in
theorem point_c_low (s : ByteArray) (x0 x1 x2 : UInt8) (w : World) (h : 2 < s.size) (h0 : s[0]'(by omega) = x0) (h1 : s[1]'(by omega) = x1) (h2 : s[2]'(by omega) = x2) (hx : 224 ≤ x0.toNat) (hx2 : x0.toNat < 240) (hc : ¬ (2048 : Int) ≤ ((((x0.toNat : Int) - 224) * 64 + (x1.toNat : Int) - 128) * 64 + (x2.toNat : Int) - 128))
    (k1 : ∀ w, Calls Tryz.prog 188 #[.string s, .int .i64 1] w fun e w' => e = .returned (.bool true) ∧ w = w')
    (k2 : ∀ w, Calls Tryz.prog 188 #[.string s, .int .i64 2] w fun e w' => e = .returned (.bool true) ∧ w = w') :
    Calls Tryz.prog 132 #[.string s] w fun e w' => e = .returned (.tuple #[.int .i64 0, .int .i64 0]) ∧ Below w.heap.size w w' := by
  have hz0 : (0 : Int) < (s.size : Int) := by omega
  have hz1 : (1 : Int) < (s.size : Int) := by omega
  have hz2 : (2 : Int) < (s.size : Int) := by omega
  have y1 := x1.toNat_lt
  have y2 := x2.toNat_lt
  have q1 : ¬ (x0.toNat : Int) < 128 := by omega
  have q2 : 194 ≤ (x0.toNat : Int) := by omega
  have q3 : ¬ (x0.toNat : Int) < 224 := by omega
  have q4 : 224 ≤ (x0.toNat : Int) := by omega
  have q5 : (x0.toNat : Int) < 240 := by omega
  have q6 : ¬ 240 ≤ (x0.toNat : Int) := by omega
  go_enter Tryz.func132, Tryz.ntmps132
  go_wp2_with (go_at_call 188; first | ((with_reducible refine (k1 _).mono ?_); rintro e w' ⟨rfl, rfl⟩) | ((with_reducible refine (k2 _).mono ?_); rintro e w' ⟨rfl, rfl⟩))
  go_region
  go_wp2
  go_ret2
  exact ⟨rfl, (Below.refl _ _).drew⟩
set_option maxHeartbeats 2000000 in
set_option maxRecDepth 100000 in
theorem point_c_bad (s : ByteArray) (x0 x1 x2 : UInt8) (w : World) (h : 2 < s.size) (h0 : s[0]'(by omega) = x0) (h1 : s[1]'(by omega) = x1) (h2 : s[2]'(by omega) = x2) (hx : 224 ≤ x0.toNat) (hx2 : x0.toNat < 240) (hc : (2048 : Int) ≤ ((((x0.toNat : Int) - 224) * 64 + (x1.toNat : Int) - 128) * 64 + (x2.toNat : Int) - 128))
    (k1 : ∀ w, Calls Tryz.prog 188 #[.string s, .int .i64 1] w fun e w' => e = .returned (.bool true) ∧ w = w')
    (k2 : ∀ w, Calls Tryz.prog 188 #[.string s, .int .i64 2] w fun e w' => e = .returned (.bool true) ∧ w = w')
    (kI : ∀ w, Calls Tryz.prog 86 #[.int .i64 ((((x0.toNat : Int) - 224) * 64 + (x1.toNat : Int) - 128) * 64 + (x2.toNat : Int) - 128)] w fun e w' => e = .returned (.bool false) ∧ w = w') :
    Calls Tryz.prog 132 #[.string s] w fun e w' => e = .returned (.tuple #[.int .i64 0, .int .i64 0]) ∧ Below w.heap.size w w' := by
  have hz0 : (0 : Int) < (s.size : Int) := by omega
  have hz1 : (1 : Int) < (s.size : Int) := by omega
  have hz2 : (2 : Int) < (s.size : Int) := by omega
  have y1 := x1.toNat_lt
  have y2 := x2.toNat_lt
  have q1 : ¬ (x0.toNat : Int) < 128 := by omega
  have q2 : 194 ≤ (x0.toNat : Int) := by omega
  have q3 : ¬ (x0.toNat : Int) < 224 := by omega
  have q4 : 224 ≤ (x0.toNat : Int) := by omega
  have q5 : (x0.toNat : Int) < 240 := by omega
  have q6 : ¬ 240 ≤ (x0.toNat : Int) := by omega
  go_enter Tryz.func132, Tryz.ntmps132
  go_wp2_with (go_at_call 188; first | ((with_reducible refine (k1 _).mono ?_); rintro e w' ⟨rfl, rfl⟩) | ((with_reducible refine (k2 _).mono ?_); rintro e w' ⟨rfl, rfl⟩))
  go_region
  go_wp2_with (go_at_call 86; ((with_reducible refine (kI _).mono ?_); rintro e w' ⟨rfl, rfl⟩))
  go_ret2
  exact ⟨rfl, (Below.refl _ _).drew⟩
set_option maxHeartbeats 2000000 in
set_option maxRecDepth 100000 in
theorem point_d_ok (s : ByteArray) (x0 x1 x2 x3 : UInt8) (w : World) (h : 3 < s.size) (h0 : s[0]'(by omega) = x0) (h1 : s[1]'(by omega) = x1) (h2 : s[2]'(by omega) = x2) (h3 : s[3]'(by omega) = x3) (hx : 240 ≤ x0.toNat) (hx2 : x0.toNat < 245) (hc : (65536 : Int) ≤ (((((x0.toNat : Int) - 240) * 64 + (x1.toNat : Int) - 128) * 64 + (x2.toNat : Int) - 128) * 64 + (x3.toNat : Int) - 128))
    (k1 : ∀ w, Calls Tryz.prog 188 #[.string s, .int .i64 1] w fun e w' => e = .returned (.bool true) ∧ w = w')
    (k2 : ∀ w, Calls Tryz.prog 188 #[.string s, .int .i64 2] w fun e w' => e = .returned (.bool true) ∧ w = w')
    (k3 : ∀ w, Calls Tryz.prog 188 #[.string s, .int .i64 3] w fun e w' => e = .returned (.bool true) ∧ w = w')
    (kI : ∀ w, Calls Tryz.prog 86 #[.int .i64 (((((x0.toNat : Int) - 240) * 64 + (x1.toNat : Int) - 128) * 64 + (x2.toNat : Int) - 128) * 64 + (x3.toNat : Int) - 128)] w fun e w' => e = .returned (.bool true) ∧ w = w') :
    Calls Tryz.prog 132 #[.string s] w fun e w' => e = .returned (.tuple #[.int .i64 (((((x0.toNat : Int) - 240) * 64 + (x1.toNat : Int) - 128) * 64 + (x2.toNat : Int) - 128) * 64 + (x3.toNat : Int) - 128), .int .i64 4]) ∧ Below w.heap.size w w' := by
  have hz0 : (0 : Int) < (s.size : Int) := by omega
  have hz1 : (1 : Int) < (s.size : Int) := by omega
  have hz2 : (2 : Int) < (s.size : Int) := by omega
  have hz3 : (3 : Int) < (s.size : Int) := by omega
  have y1 := x1.toNat_lt
  have y2 := x2.toNat_lt
  have y3 := x3.toNat_lt
  have q1 : ¬ (x0.toNat : Int) < 128 := by omega
  have q2 : 194 ≤ (x0.toNat : Int) := by omega
  have q3 : ¬ (x0.toNat : Int) < 224 := by omega
  have q4 : 224 ≤ (x0.toNat : Int) := by omega
  have q5 : ¬ (x0.toNat : Int) < 240 := by omega
  have q6 : 240 ≤ (x0.toNat : Int) := by omega
  have q7 : (x0.toNat : Int) < 245 := by omega
  go_enter Tryz.func132, Tryz.ntmps132
  go_wp2_with (go_at_call 188; first | ((with_reducible refine (k1 _).mono ?_); rintro e w' ⟨rfl, rfl⟩) | ((with_reducible refine (k2 _).mono ?_); rintro e w' ⟨rfl, rfl⟩) | ((with_reducible refine (k3 _).mono ?_); rintro e w' ⟨rfl, rfl⟩))
  go_region
  go_wp2_with (go_at_call 86; ((with_reducible refine (kI _).mono ?_); rintro e w' ⟨rfl, rfl⟩))
  go_ret2
  exact ⟨rfl, (Below.refl _ _).drew⟩
set_option maxHeartbeats 2000000 in
set_option maxRecDepth 100000 in
theorem point_d_low (s : ByteArray) (x0 x1 x2 x3 : UInt8) (w : World) (h : 3 < s.size) (h0 : s[0]'(by omega) = x0) (h1 : s[1]'(by omega) = x1) (h2 : s[2]'(by omega) = x2) (h3 : s[3]'(by omega) = x3) (hx : 240 ≤ x0.toNat) (hx2 : x0.toNat < 245) (hc : ¬ (65536 : Int) ≤ (((((x0.toNat : Int) - 240) * 64 + (x1.toNat : Int) - 128) * 64 + (x2.toNat : Int) - 128) * 64 + (x3.toNat : Int) - 128))
    (k1 : ∀ w, Calls Tryz.prog 188 #[.string s, .int .i64 1] w fun e w' => e = .returned (.bool true) ∧ w = w')
    (k2 : ∀ w, Calls Tryz.prog 188 #[.string s, .int .i64 2] w fun e w' => e = .returned (.bool true) ∧ w = w')
    (k3 : ∀ w, Calls Tryz.prog 188 #[.string s, .int .i64 3] w fun e w' => e = .returned (.bool true) ∧ w = w') :
    Calls Tryz.prog 132 #[.string s] w fun e w' => e = .returned (.tuple #[.int .i64 0, .int .i64 0]) ∧ Below w.heap.size w w' := by
  have hz0 : (0 : Int) < (s.size : Int) := by omega
  have hz1 : (1 : Int) < (s.size : Int) := by omega
  have hz2 : (2 : Int) < (s.size : Int) := by omega
  have hz3 : (3 : Int) < (s.size : Int) := by omega
  have y1 := x1.toNat_lt
  have y2 := x2.toNat_lt
  have y3 := x3.toNat_lt
  have q1 : ¬ (x0.toNat : Int) < 128 := by omega
  have q2 : 194 ≤ (x0.toNat : Int) := by omega
  have q3 : ¬ (x0.toNat : Int) < 224 := by omega
  have q4 : 224 ≤ (x0.toNat : Int) := by omega
  have q5 : ¬ (x0.toNat : Int) < 240 := by omega
  have q6 : 240 ≤ (x0.toNat : Int) := by omega
  have q7 : (x0.toNat : Int) < 245 := by omega
  go_enter Tryz.func132, Tryz.ntmps132
  go_wp2_with (go_at_call 188; first | ((with_reducible refine (k1 _).mono ?_); rintro e w' ⟨rfl, rfl⟩) | ((with_reducible refine (k2 _).mono ?_); rintro e w' ⟨rfl, rfl⟩) | ((with_reducible refine (k3 _).mono ?_); rintro e w' ⟨rfl, rfl⟩))
  go_region
  go_wp2
  go_ret2
  exact ⟨rfl, (Below.refl _ _).drew⟩
set_option maxHeartbeats 2000000 in
set_option maxRecDepth 100000 in
theorem point_d_bad (s : ByteArray) (x0 x1 x2 x3 : UInt8) (w : World) (h : 3 < s.size) (h0 : s[0]'(by omega) = x0) (h1 : s[1]'(by omega) = x1) (h2 : s[2]'(by omega) = x2) (h3 : s[3]'(by omega) = x3) (hx : 240 ≤ x0.toNat) (hx2 : x0.toNat < 245) (hc : (65536 : Int) ≤ (((((x0.toNat : Int) - 240) * 64 + (x1.toNat : Int) - 128) * 64 + (x2.toNat : Int) - 128) * 64 + (x3.toNat : Int) - 128))
    (k1 : ∀ w, Calls Tryz.prog 188 #[.string s, .int .i64 1] w fun e w' => e = .returned (.bool true) ∧ w = w')
    (k2 : ∀ w, Calls Tryz.prog 188 #[.string s, .int .i64 2] w fun e w' => e = .returned (.bool true) ∧ w = w')
    (k3 : ∀ w, Calls Tryz.prog 188 #[.string s, .int .i64 3] w fun e w' => e = .returned (.bool true) ∧ w = w')
    (kI : ∀ w, Calls Tryz.prog 86 #[.int .i64 (((((x0.toNat : Int) - 240) * 64 + (x1.toNat : Int) - 128) * 64 + (x2.toNat : Int) - 128) * 64 + (x3.toNat : Int) - 128)] w fun e w' => e = .returned (.bool false) ∧ w = w') :
    Calls Tryz.prog 132 #[.string s] w fun e w' => e = .returned (.tuple #[.int .i64 0, .int .i64 0]) ∧ Below w.heap.size w w' := by
  have hz0 : (0 : Int) < (s.size : Int) := by omega
  have hz1 : (1 : Int) < (s.size : Int) := by omega
  have hz2 : (2 : Int) < (s.size : Int) := by omega
  have hz3 : (3 : Int) < (s.size : Int) := by omega
  have y1 := x1.toNat_lt
  have y2 := x2.toNat_lt
  have y3 := x3.toNat_lt
  have q1 : ¬ (x0.toNat : Int) < 128 := by omega
  have q2 : 194 ≤ (x0.toNat : Int) := by omega
  have q3 : ¬ (x0.toNat : Int) < 224 := by omega
  have q4 : 224 ≤ (x0.toNat : Int) := by omega
  have q5 : ¬ (x0.toNat : Int) < 240 := by omega
  have q6 : 240 ≤ (x0.toNat : Int) := by omega
  have q7 : (x0.toNat : Int) < 245 := by omega
  go_enter Tryz.func132, Tryz.ntmps132
  go_wp2_with (go_at_call 188; first | ((with_reducible refine (k1 _).mono ?_); rintro e w' ⟨rfl, rfl⟩) | ((with_reducible refine (k2 _).mono ?_); rintro e w' ⟨rfl, rfl⟩) | ((with_reducible refine (k3 _).mono ?_); rintro e w' ⟨rfl, rfl⟩))
  go_region
  go_wp2_with (go_at_call 86; ((with_reducible refine (kI _).mono ?_); rintro e w' ⟨rfl, rfl⟩))
  go_ret2
  exact ⟨rfl, (Below.refl _ _).drew⟩
/-- What point gives. -/
def pointD (l : List UInt8) : Int × Int := if (decodeL l).1 = 65533 ∧ (decodeL l).2 = 1 then (0, 0) else ((decodeL l).1, (decodeL l).2)
theorem pt_eq {a b : Int} {l : List UInt8} (h : pointD l = (a, b)) : Ending.returned (.tuple #[.int .i64 a, .int .i64 b]) = Ending.returned (.tuple #[.int .i64 (pointD l).1, .int .i64 (pointD l).2]) := by rw [h]
theorem not_isZ {c : Int} (h : isZ c = false) : ¬ (0 ≤ c ∧ c ≤ 1114111 ∧ (c < 55296 ∨ 57343 < c)) := by rw [← isZ_def, h]; simp
theorem is_isZ {c : Int} (h : isZ c = true) : 0 ≤ c ∧ c ≤ 1114111 ∧ (c < 55296 ∨ 57343 < c) := (isZ_def c).1 h
set_option maxHeartbeats 4000000 in
theorem point_any (s : ByteArray) (w : World) (h : 0 < s.size) : Calls Tryz.prog 132 #[.string s] w fun e w' => e = .returned (.tuple #[.int .i64 (pointD s.data.toList).1, .int .i64 (pointD s.data.toList).2]) ∧ Below w.heap.size w w' := by
  have hlen : s.data.toList.length = s.size := by simp
  have k1 : ∀ w, Calls Tryz.prog 188 #[.string s, .int .i64 1] w fun e w' => e = .returned (.bool (tailB s 1)) ∧ w = w' := fun w => tail_any s 1 w
  have k2 : ∀ w, Calls Tryz.prog 188 #[.string s, .int .i64 2] w fun e w' => e = .returned (.bool (tailB s 2)) ∧ w = w' := fun w => tail_any s 2 w
  have k3 : ∀ w, Calls Tryz.prog 188 #[.string s, .int .i64 3] w fun e w' => e = .returned (.bool (tailB s 3)) ∧ w = w' := fun w => tail_any s 3 w
  have hdec := decodeL_N s.data.toList
  rw [hlen, getD_at s 0 h] at hdec
  obtain ⟨x0, h0⟩ : ∃ x0, s[0]'h = x0 := ⟨_, rfl⟩
  rw [h0] at hdec
  have y0 := x0.toNat_lt
  have t1 : tailB s 1 = true ↔ 1 < s.size ∧ (s.data.toList.getD 1 0).toNat / 64 = 2 := by unfold tailB; simp; omega
  have t2 : tailB s 2 = true ↔ 2 < s.size ∧ (s.data.toList.getD 2 0).toNat / 64 = 2 := by unfold tailB; simp; omega
  have t3 : tailB s 3 = true ↔ 3 < s.size ∧ (s.data.toList.getD 3 0).toNat / 64 = 2 := by unfold tailB; simp; omega
  have z1 := (s.data.toList.getD 1 0).toNat_lt
  have z2 := (s.data.toList.getD 2 0).toNat_lt
  have z3 := (s.data.toList.getD 3 0).toNat_lt
  unfold decodeN at hdec
  by_cases a1 : x0.toNat < 128
  · rw [if_pos a1] at hdec
    refine (point_a s x0 w h h0 a1).mono ?_
    rintro e w' ⟨he, hb⟩
    exact ⟨by rw [he]; exact pt_eq (by unfold pointD; rw [hdec, if_neg (by simp; omega)]; rfl), hb⟩
  · rw [if_neg a1] at hdec
    by_cases a2 : x0.toNat < 194 ∨ 245 ≤ x0.toNat
    · refine (point_e s x0 w h h0 (by omega)).mono ?_
      rintro e w' ⟨he, hb⟩
      refine ⟨by rw [he]; exact pt_eq (by
        have : decodeL s.data.toList = (65533, 1) := by
          rw [hdec]
          repeat' split
          all_goals first | rfl | (exfalso; omega)
        unfold pointD; rw [this]; rfl), hb⟩
    · obtain ⟨x1, g1⟩ : ∃ x1, s.data.toList.getD 1 0 = x1 := ⟨_, rfl⟩
      obtain ⟨x2, g2⟩ : ∃ x2, s.data.toList.getD 2 0 = x2 := ⟨_, rfl⟩
      obtain ⟨x3, g3⟩ : ∃ x3, s.data.toList.getD 3 0 = x3 := ⟨_, rfl⟩
      rw [g1, g2, g3] at hdec
      rw [g1] at z1 t1
      rw [g2] at z2 t2
      rw [g3] at z3 t3
      have i1 : ∀ hh : 1 < s.size, s[1]'hh = x1 := fun hh => by rw [← getD_at s 1 hh, g1]
      have i2 : ∀ hh : 2 < s.size, s[2]'hh = x2 := fun hh => by rw [← getD_at s 2 hh, g2]
      have i3 : ∀ hh : 3 < s.size, s[3]'hh = x3 := fun hh => by rw [← getD_at s 3 hh, g3]
      clear g1 g2 g3
      cases b1 : tailB s 1 <;> cases b2 : tailB s 2 <;> cases b3 : tailB s 3
      all_goals
        rw [b1] at k1 t1
        rw [b2] at k2 t2
        rw [b3] at k3 t3
        simp only [Bool.false_eq_true, false_iff, true_iff] at t1 t2 t3
      · by_cases a3 : x0.toNat < 224
        · refine (point_b0 s x0 w h h0 (by omega) a3 k1).mono ?_
          rintro e w' ⟨he, hb⟩
          refine ⟨by rw [he]; exact pt_eq (by
            have : decodeL s.data.toList = (65533, 1) := by
              rw [hdec]
              repeat' split
              all_goals first | rfl | (exfalso; omega)
            unfold pointD; rw [this]; rfl), hb⟩
        · by_cases a4 : x0.toNat < 240
          · refine (point_c0 s x0 false false w h h0 (by omega) a4 rfl k1 k2).mono ?_
            rintro e w' ⟨he, hb⟩
            refine ⟨by rw [he]; exact pt_eq (by
              have : decodeL s.data.toList = (65533, 1) := by
                rw [hdec]
                repeat' split
                all_goals first | rfl | (exfalso; omega)
              unfold pointD; rw [this]; rfl), hb⟩
          · refine (point_d0 s x0 false false false w h h0 (by omega) (by omega) rfl k1 k2 k3).mono ?_
            rintro e w' ⟨he, hb⟩
            refine ⟨by rw [he]; exact pt_eq (by
              have : decodeL s.data.toList = (65533, 1) := by
                rw [hdec]
                repeat' split
                all_goals first | rfl | (exfalso; omega)
              unfold pointD; rw [this]; rfl), hb⟩
      · by_cases a3 : x0.toNat < 224
        · refine (point_b0 s x0 w h h0 (by omega) a3 k1).mono ?_
          rintro e w' ⟨he, hb⟩
          refine ⟨by rw [he]; exact pt_eq (by
            have : decodeL s.data.toList = (65533, 1) := by
              rw [hdec]
              repeat' split
              all_goals first | rfl | (exfalso; omega)
            unfold pointD; rw [this]; rfl), hb⟩
        · by_cases a4 : x0.toNat < 240
          · refine (point_c0 s x0 false false w h h0 (by omega) a4 rfl k1 k2).mono ?_
            rintro e w' ⟨he, hb⟩
            refine ⟨by rw [he]; exact pt_eq (by
              have : decodeL s.data.toList = (65533, 1) := by
                rw [hdec]
                repeat' split
                all_goals first | rfl | (exfalso; omega)
              unfold pointD; rw [this]; rfl), hb⟩
          · refine (point_d0 s x0 false false true w h h0 (by omega) (by omega) rfl k1 k2 k3).mono ?_
            rintro e w' ⟨he, hb⟩
            refine ⟨by rw [he]; exact pt_eq (by
              have : decodeL s.data.toList = (65533, 1) := by
                rw [hdec]
                repeat' split
                all_goals first | rfl | (exfalso; omega)
              unfold pointD; rw [this]; rfl), hb⟩
      · by_cases a3 : x0.toNat < 224
        · refine (point_b0 s x0 w h h0 (by omega) a3 k1).mono ?_
          rintro e w' ⟨he, hb⟩
          refine ⟨by rw [he]; exact pt_eq (by
            have : decodeL s.data.toList = (65533, 1) := by
              rw [hdec]
              repeat' split
              all_goals first | rfl | (exfalso; omega)
            unfold pointD; rw [this]; rfl), hb⟩
        · by_cases a4 : x0.toNat < 240
          · refine (point_c0 s x0 false true w h h0 (by omega) a4 rfl k1 k2).mono ?_
            rintro e w' ⟨he, hb⟩
            refine ⟨by rw [he]; exact pt_eq (by
              have : decodeL s.data.toList = (65533, 1) := by
                rw [hdec]
                repeat' split
                all_goals first | rfl | (exfalso; omega)
              unfold pointD; rw [this]; rfl), hb⟩
          · refine (point_d0 s x0 false true false w h h0 (by omega) (by omega) rfl k1 k2 k3).mono ?_
            rintro e w' ⟨he, hb⟩
            refine ⟨by rw [he]; exact pt_eq (by
              have : decodeL s.data.toList = (65533, 1) := by
                rw [hdec]
                repeat' split
                all_goals first | rfl | (exfalso; omega)
              unfold pointD; rw [this]; rfl), hb⟩
      · by_cases a3 : x0.toNat < 224
        · refine (point_b0 s x0 w h h0 (by omega) a3 k1).mono ?_
          rintro e w' ⟨he, hb⟩
          refine ⟨by rw [he]; exact pt_eq (by
            have : decodeL s.data.toList = (65533, 1) := by
              rw [hdec]
              repeat' split
              all_goals first | rfl | (exfalso; omega)
            unfold pointD; rw [this]; rfl), hb⟩
        · by_cases a4 : x0.toNat < 240
          · refine (point_c0 s x0 false true w h h0 (by omega) a4 rfl k1 k2).mono ?_
            rintro e w' ⟨he, hb⟩
            refine ⟨by rw [he]; exact pt_eq (by
              have : decodeL s.data.toList = (65533, 1) := by
                rw [hdec]
                repeat' split
                all_goals first | rfl | (exfalso; omega)
              unfold pointD; rw [this]; rfl), hb⟩
          · refine (point_d0 s x0 false true true w h h0 (by omega) (by omega) rfl k1 k2 k3).mono ?_
            rintro e w' ⟨he, hb⟩
            refine ⟨by rw [he]; exact pt_eq (by
              have : decodeL s.data.toList = (65533, 1) := by
                rw [hdec]
                repeat' split
                all_goals first | rfl | (exfalso; omega)
              unfold pointD; rw [this]; rfl), hb⟩
      · by_cases a3 : x0.toNat < 224
        · refine (point_b1 s x0 x1 w t1.1 h0 (i1 t1.1) (by omega) a3 k1).mono ?_
          rintro e w' ⟨he, hb⟩
          refine ⟨by rw [he]; exact pt_eq (by
            have : decodeL s.data.toList = ((((x0.toNat : Int) - 192) * 64 + (x1.toNat : Int) - 128).toNat, 2) := by
              rw [hdec]
              repeat' split
              all_goals first | (exfalso; omega) | (apply Prod.ext <;> simp only <;> omega)
            unfold pointD; rw [this, if_neg (by simp)]; apply Prod.ext <;> simp only <;> omega), hb⟩
        · by_cases a4 : x0.toNat < 240
          · refine (point_c0 s x0 true false w h h0 (by omega) a4 rfl k1 k2).mono ?_
            rintro e w' ⟨he, hb⟩
            refine ⟨by rw [he]; exact pt_eq (by
              have : decodeL s.data.toList = (65533, 1) := by
                rw [hdec]
                repeat' split
                all_goals first | rfl | (exfalso; omega)
              unfold pointD; rw [this]; rfl), hb⟩
          · refine (point_d0 s x0 true false false w h h0 (by omega) (by omega) rfl k1 k2 k3).mono ?_
            rintro e w' ⟨he, hb⟩
            refine ⟨by rw [he]; exact pt_eq (by
              have : decodeL s.data.toList = (65533, 1) := by
                rw [hdec]
                repeat' split
                all_goals first | rfl | (exfalso; omega)
              unfold pointD; rw [this]; rfl), hb⟩
      · by_cases a3 : x0.toNat < 224
        · refine (point_b1 s x0 x1 w t1.1 h0 (i1 t1.1) (by omega) a3 k1).mono ?_
          rintro e w' ⟨he, hb⟩
          refine ⟨by rw [he]; exact pt_eq (by
            have : decodeL s.data.toList = ((((x0.toNat : Int) - 192) * 64 + (x1.toNat : Int) - 128).toNat, 2) := by
              rw [hdec]
              repeat' split
              all_goals first | (exfalso; omega) | (apply Prod.ext <;> simp only <;> omega)
            unfold pointD; rw [this, if_neg (by simp)]; apply Prod.ext <;> simp only <;> omega), hb⟩
        · by_cases a4 : x0.toNat < 240
          · refine (point_c0 s x0 true false w h h0 (by omega) a4 rfl k1 k2).mono ?_
            rintro e w' ⟨he, hb⟩
            refine ⟨by rw [he]; exact pt_eq (by
              have : decodeL s.data.toList = (65533, 1) := by
                rw [hdec]
                repeat' split
                all_goals first | rfl | (exfalso; omega)
              unfold pointD; rw [this]; rfl), hb⟩
          · refine (point_d0 s x0 true false true w h h0 (by omega) (by omega) rfl k1 k2 k3).mono ?_
            rintro e w' ⟨he, hb⟩
            refine ⟨by rw [he]; exact pt_eq (by
              have : decodeL s.data.toList = (65533, 1) := by
                rw [hdec]
                repeat' split
                all_goals first | rfl | (exfalso; omega)
              unfold pointD; rw [this]; rfl), hb⟩
      · by_cases a3 : x0.toNat < 224
        · refine (point_b1 s x0 x1 w t1.1 h0 (i1 t1.1) (by omega) a3 k1).mono ?_
          rintro e w' ⟨he, hb⟩
          refine ⟨by rw [he]; exact pt_eq (by
            have : decodeL s.data.toList = ((((x0.toNat : Int) - 192) * 64 + (x1.toNat : Int) - 128).toNat, 2) := by
              rw [hdec]
              repeat' split
              all_goals first | (exfalso; omega) | (apply Prod.ext <;> simp only <;> omega)
            unfold pointD; rw [this, if_neg (by simp)]; apply Prod.ext <;> simp only <;> omega), hb⟩
        · by_cases a4 : x0.toNat < 240
          · by_cases q : (2048 : Int) ≤ ((((x0.toNat : Int) - 224) * 64 + (x1.toNat : Int) - 128) * 64 + (x2.toNat : Int) - 128)
            · cases hz : isZ ((((x0.toNat : Int) - 224) * 64 + (x1.toNat : Int) - 128) * 64 + (x2.toNat : Int) - 128)
              · refine (point_c_bad s x0 x1 x2 w t2.1 h0 (i1 (by omega)) (i2 t2.1) (by omega) a4 q k1 k2 (fun w => by have := isR_any ((((x0.toNat : Int) - 224) * 64 + (x1.toNat : Int) - 128) * 64 + (x2.toNat : Int) - 128) w; rwa [hz] at this)).mono ?_
                rintro e w' ⟨he, hb⟩
                refine ⟨by rw [he]; exact pt_eq (by
                  have hz' := not_isZ hz
                  have : decodeL s.data.toList = (65533, 1) := by
                    rw [hdec]
                    repeat' split
                    all_goals first | rfl | (exfalso; omega)
                  unfold pointD; rw [this]; rfl), hb⟩
              · refine (point_c_ok s x0 x1 x2 w t2.1 h0 (i1 (by omega)) (i2 t2.1) (by omega) a4 q k1 k2 (fun w => by have := isR_any ((((x0.toNat : Int) - 224) * 64 + (x1.toNat : Int) - 128) * 64 + (x2.toNat : Int) - 128) w; rwa [hz] at this)).mono ?_
                rintro e w' ⟨he, hb⟩
                refine ⟨by rw [he]; exact pt_eq (by
                  have hz' := is_isZ hz
                  have : decodeL s.data.toList = ((((((x0.toNat : Int) - 224) * 64 + (x1.toNat : Int) - 128) * 64 + (x2.toNat : Int) - 128)).toNat, 3) := by
                    rw [hdec]
                    repeat' split
                    all_goals first | (exfalso; omega) | (apply Prod.ext <;> simp only <;> omega)
                  unfold pointD; rw [this, if_neg (by simp)]; apply Prod.ext <;> simp only <;> omega), hb⟩
            · refine (point_c_low s x0 x1 x2 w t2.1 h0 (i1 (by omega)) (i2 t2.1) (by omega) a4 q k1 k2).mono ?_
              rintro e w' ⟨he, hb⟩
              refine ⟨by rw [he]; exact pt_eq (by
                have : decodeL s.data.toList = (65533, 1) := by
                  rw [hdec]
                  repeat' split
                  all_goals first | rfl | (exfalso; omega)
                unfold pointD; rw [this]; rfl), hb⟩
          · refine (point_d0 s x0 true true false w h h0 (by omega) (by omega) rfl k1 k2 k3).mono ?_
            rintro e w' ⟨he, hb⟩
            refine ⟨by rw [he]; exact pt_eq (by
              have : decodeL s.data.toList = (65533, 1) := by
                rw [hdec]
                repeat' split
                all_goals first | rfl | (exfalso; omega)
              unfold pointD; rw [this]; rfl), hb⟩
      · by_cases a3 : x0.toNat < 224
        · refine (point_b1 s x0 x1 w t1.1 h0 (i1 t1.1) (by omega) a3 k1).mono ?_
          rintro e w' ⟨he, hb⟩
          refine ⟨by rw [he]; exact pt_eq (by
            have : decodeL s.data.toList = ((((x0.toNat : Int) - 192) * 64 + (x1.toNat : Int) - 128).toNat, 2) := by
              rw [hdec]
              repeat' split
              all_goals first | (exfalso; omega) | (apply Prod.ext <;> simp only <;> omega)
            unfold pointD; rw [this, if_neg (by simp)]; apply Prod.ext <;> simp only <;> omega), hb⟩
        · by_cases a4 : x0.toNat < 240
          · by_cases q : (2048 : Int) ≤ ((((x0.toNat : Int) - 224) * 64 + (x1.toNat : Int) - 128) * 64 + (x2.toNat : Int) - 128)
            · cases hz : isZ ((((x0.toNat : Int) - 224) * 64 + (x1.toNat : Int) - 128) * 64 + (x2.toNat : Int) - 128)
              · refine (point_c_bad s x0 x1 x2 w t2.1 h0 (i1 (by omega)) (i2 t2.1) (by omega) a4 q k1 k2 (fun w => by have := isR_any ((((x0.toNat : Int) - 224) * 64 + (x1.toNat : Int) - 128) * 64 + (x2.toNat : Int) - 128) w; rwa [hz] at this)).mono ?_
                rintro e w' ⟨he, hb⟩
                refine ⟨by rw [he]; exact pt_eq (by
                  have hz' := not_isZ hz
                  have : decodeL s.data.toList = (65533, 1) := by
                    rw [hdec]
                    repeat' split
                    all_goals first | rfl | (exfalso; omega)
                  unfold pointD; rw [this]; rfl), hb⟩
              · refine (point_c_ok s x0 x1 x2 w t2.1 h0 (i1 (by omega)) (i2 t2.1) (by omega) a4 q k1 k2 (fun w => by have := isR_any ((((x0.toNat : Int) - 224) * 64 + (x1.toNat : Int) - 128) * 64 + (x2.toNat : Int) - 128) w; rwa [hz] at this)).mono ?_
                rintro e w' ⟨he, hb⟩
                refine ⟨by rw [he]; exact pt_eq (by
                  have hz' := is_isZ hz
                  have : decodeL s.data.toList = ((((((x0.toNat : Int) - 224) * 64 + (x1.toNat : Int) - 128) * 64 + (x2.toNat : Int) - 128)).toNat, 3) := by
                    rw [hdec]
                    repeat' split
                    all_goals first | (exfalso; omega) | (apply Prod.ext <;> simp only <;> omega)
                  unfold pointD; rw [this, if_neg (by simp)]; apply Prod.ext <;> simp only <;> omega), hb⟩
            · refine (point_c_low s x0 x1 x2 w t2.1 h0 (i1 (by omega)) (i2 t2.1) (by omega) a4 q k1 k2).mono ?_
              rintro e w' ⟨he, hb⟩
              refine ⟨by rw [he]; exact pt_eq (by
                have : decodeL s.data.toList = (65533, 1) := by
                  rw [hdec]
                  repeat' split
                  all_goals first | rfl | (exfalso; omega)
                unfold pointD; rw [this]; rfl), hb⟩
          · by_cases q : (65536 : Int) ≤ (((((x0.toNat : Int) - 240) * 64 + (x1.toNat : Int) - 128) * 64 + (x2.toNat : Int) - 128) * 64 + (x3.toNat : Int) - 128)
            · cases hz : isZ (((((x0.toNat : Int) - 240) * 64 + (x1.toNat : Int) - 128) * 64 + (x2.toNat : Int) - 128) * 64 + (x3.toNat : Int) - 128)
              · refine (point_d_bad s x0 x1 x2 x3 w t3.1 h0 (i1 (by omega)) (i2 (by omega)) (i3 t3.1) (by omega) (by omega) q k1 k2 k3 (fun w => by have := isR_any (((((x0.toNat : Int) - 240) * 64 + (x1.toNat : Int) - 128) * 64 + (x2.toNat : Int) - 128) * 64 + (x3.toNat : Int) - 128) w; rwa [hz] at this)).mono ?_
                rintro e w' ⟨he, hb⟩
                refine ⟨by rw [he]; exact pt_eq (by
                  have hz' := not_isZ hz
                  have : decodeL s.data.toList = (65533, 1) := by
                    rw [hdec]
                    repeat' split
                    all_goals first | rfl | (exfalso; omega)
                  unfold pointD; rw [this]; rfl), hb⟩
              · refine (point_d_ok s x0 x1 x2 x3 w t3.1 h0 (i1 (by omega)) (i2 (by omega)) (i3 t3.1) (by omega) (by omega) q k1 k2 k3 (fun w => by have := isR_any (((((x0.toNat : Int) - 240) * 64 + (x1.toNat : Int) - 128) * 64 + (x2.toNat : Int) - 128) * 64 + (x3.toNat : Int) - 128) w; rwa [hz] at this)).mono ?_
                rintro e w' ⟨he, hb⟩
                refine ⟨by rw [he]; exact pt_eq (by
                  have hz' := is_isZ hz
                  have : decodeL s.data.toList = (((((((x0.toNat : Int) - 240) * 64 + (x1.toNat : Int) - 128) * 64 + (x2.toNat : Int) - 128) * 64 + (x3.toNat : Int) - 128)).toNat, 4) := by
                    rw [hdec]
                    repeat' split
                    all_goals first | (exfalso; omega) | (apply Prod.ext <;> simp only <;> omega)
                  unfold pointD; rw [this, if_neg (by simp)]; apply Prod.ext <;> simp only <;> omega), hb⟩
            · refine (point_d_low s x0 x1 x2 x3 w t3.1 h0 (i1 (by omega)) (i2 (by omega)) (i3 t3.1) (by omega) (by omega) q k1 k2 k3).mono ?_
              rintro e w' ⟨he, hb⟩
              refine ⟨by rw [he]; exact pt_eq (by
                have : decodeL s.data.toList = (65533, 1) := by
                  rw [hdec]
                  repeat' split
                  all_goals first | rfl | (exfalso; omega)
                unfold pointD; rw [this]; rfl), hb⟩
/-- What the reference's List leaves. -/
def RefPost (s : ByteArray) (w : World) (e : Ending) (w' : World) : Prop :=
  (validD s.data.toList = true ∧ ∃ v, e = .returned (.tuple #[v, .int .i64 0]) ∧ Ints w.heap.size v (runesD s.data.toList) w' ∧ Below w.heap.size w w') ∨
  (validD s.data.toList = false ∧ e = .returned (.tuple #[.slice none 0 0, .int .i64 5]) ∧ Below w.heap.size w w')
set_option maxHeartbeats 1000000 in
theorem refList_any (s : ByteArray) (w : World) (hs : s.size ≤ 100000) : Calls Tryz.prog 83 #[.string s] w (RefPost s w) := by
  obtain ⟨i0, hi, hz0, hz1, hz2⟩ := info_parts info_int3
  go_enter Tryz.func83, Tryz.ntmps83
  go_wp2
  go_loopg [0, 4] (s.size + 1) (fun gk sv v wr => ∃ (t : ByteArray) (acc : List Int), sv = .string t ∧ Ints w.heap.size v acc wr ∧ Below w.heap.size w wr ∧ t.size < gk ∧ acc.length + t.size ≤ s.size ∧ Hid (acc ++ runesD t.data.toList = runesD s.data.toList ∧ validD t.data.toList = validD s.data.toList))
  case atStart => exact ⟨s, [], rfl, World.ownsRow_nil _ _ _ _, Below.refl _ _, by omega, by simp, Lib.hid ⟨rfl, rfl⟩⟩
  case round =>
    obtain ⟨t, acc, rfl, hown, hbw, hg, hal, HA⟩ := hrel
    by_cases h0 : 0 < t.size
    · have h0z : (0 : Int) < (t.size : Int) := by omega
      have hne : t.data.toList ≠ [] := by have := drop_ne (s := t) (pos := 0) h0; rwa [List.drop_zero] at this
      have cP := point_any t wr h0
      by_cases hbad : (decodeL t.data.toList).1 = 65533 ∧ (decodeL t.data.toList).2 = 1
      · have e1 : pointD t.data.toList = (0, 0) := by unfold pointD; rw [if_pos hbad]
        rw [e1] at cP
        have hv : validD s.data.toList = false := by rw [← HA.out.2, validD_step _ hne, if_pos hbad]
        have HV : Hid _ := Lib.hid hv
        have HB : Hid _ := Lib.hid hbw
        clear e1 hbad hv hne HA hown hal hg hbw
        go_wp2_with (go_at_call 132; ((with_reducible refine cP.mono ?_); rintro e w2 ⟨rfl, hb2⟩))
        go_ret2
        exact Or.inr ⟨HV.out, rfl, HB.out.trans (hb2.mono HB.out.size)⟩
      · obtain ⟨c, hc⟩ : ∃ c : Nat, (decodeL t.data.toList).1 = c := ⟨_, rfl⟩
        obtain ⟨k, hk⟩ : ∃ k : Nat, (decodeL t.data.toList).2 = k := ⟨_, rfl⟩
        have e1 : pointD t.data.toList = ((c : Int), (k : Int)) := by unfold pointD; rw [if_neg hbad, hc, hk]
        rw [e1] at cP
        have hw := decodeL_width t.data.toList
        have hle := decodeL_le t.data.toList hne
        rw [hk] at hw hle
        have hle2 : k ≤ t.size := by simpa using hle
        have hst := runesD_step t.data.toList hne
        have hvs := validD_step t.data.toList hne
        rw [hc, hk] at hst
        rw [if_neg hbad, hk] at hvs
        obtain ⟨t2, ht2⟩ : ∃ t2, t.extract k t.size = t2 := ⟨_, rfl⟩
        have hd2 : t2.data.toList = t.data.toList.drop k := by rw [← ht2]; exact Lib.ext_list t k
        have hz2' : t2.size + k = t.size := by rw [← ht2, Lib.ext_size]; omega
        have HS : Hid (acc ++ [(c : Int)] ++ runesD t2.data.toList = runesD s.data.toList ∧ validD t2.data.toList = validD s.data.toList) := Lib.hid ⟨by rw [hd2, ← HA.out.1, hst]; simp, by rw [hd2, ← hvs]; exact HA.out.2⟩
        have kz : (k : Int) ≤ (t.size : Int) := by omega
        have k0 : ((k : Int) == 0) = false := by simp; omega
        have HB : Hid _ := Lib.hid hbw
        obtain ⟨gk', rfl⟩ : ∃ g', gk = g' + 1 := ⟨gk - 1, by omega⟩
        have hbsz := hbw.size
        have HO : Hid (∀ W, Below wr.heap.size wr W → Ints w.heap.size u4 acc W) := Lib.hid (fun W hb => hown.below hb)
        clear hbad hne HA e1 hst hvs hc hk hle hd2 hbw hown
        go_wp2_with (first | (go_at_call 132; ((with_reducible refine cP.mono ?_); rintro e w2 ⟨rfl, hb2⟩)) | (at_builtin; refine wpList_append_own _ rfl _ _ 61 rfl w.heap.size 3 i0 (.int .i64 0) 1 8 Tryz.underlying61 hi hz0 hz1 hz2 rfl (by decide) _ acc.length (acc.map (Value.int .i64)) rfl ((HO.out _ hb2).alloc _) _ 1 1 [.int .i64 c] rfl rfl ?c1 ?c2 ?c3 ?c4 ?c5 ?_))
        case c1 =>
          intro j u hj
          match j, hj with
          | 0, hj => simp at hj; subst hj; simp [Addr.add]
          | (j + 1), hj => simp at hj
        case c2 => intro u hu; simp at hu; subst hu; rfl
        case c3 => unfold maxLen; omega
        case c4 => omega
        case c5 => have := hb2.size; simp; omega
        intro v' w3 hown3 hgr _
        have hge := own_ge (HO.out _ hb2)
        have hbw3 : Below w.heap.size w w3 := ((HB.out.trans (hb2.mono hbsz)).alloc (by have := hb2.size; omega) _).grown hgr (by have := hb2.size; simp; omega) hge
        have HZ : Hid (_ ∧ _) := Lib.hid ⟨hown3, hbw3⟩
        clear hown3 hgr hge hbw3 HO HB hb2 cP
        go_wp2
        go_roundg gk'
        case rel => exact ⟨t2, acc ++ [(c : Int)], rfl, by simpa [Ints] using HZ.out.1, HZ.out.2, by omega, by simp; omega, HS⟩
        case measure => omega
    · have ht : t.data.toList = [] := by
        have : t.size = 0 := by omega
        apply List.length_eq_zero_iff.1
        simpa using this
      have e1 : acc = runesD s.data.toList := by have := HA.out.1; rw [ht, runesD_nil] at this; simpa using this
      have e2 : validD s.data.toList = true := by rw [← HA.out.2, ht]; rfl
      have HV : Hid _ := Lib.hid (And.intro e1 e2)
      have HO : Hid _ := Lib.hid (And.intro hown hbw)
      clear e1 e2 HA hown hbw ht
      go_wp2
      go_ret2
      exact Or.inl ⟨HV.out.2, _, rfl, by rw [← HV.out.1]; exact HO.out.1, HO.out.2⟩
theorem refList_not (s : ByteArray) (w : World) (hs : s.size ≤ 100000) (hv : validD s.data.toList = false) : Calls Tryz.prog 83 #[.string s] w fun e w' => e = .returned (.tuple #[.slice none 0 0, .int .i64 5]) ∧ Below w.heap.size w w' := by
  refine (refList_any s w hs).mono ?_
  intro e w' h
  rcases h with ⟨h1, _⟩ | ⟨_, h2, h3⟩
  · rw [hv] at h1; cases h1
  · exact ⟨h2, h3⟩
theorem refList_valid (s : ByteArray) (l : List Int) (n : Nat) (w : World) (hs : s.size ≤ 100000) (hv : validD s.data.toList = true) (hl : runesD s.data.toList = l) (hn : l.length = n) :
    Calls Tryz.prog 83 #[.string s] w fun e w' => ∃ a cap, e = .returned (.tuple #[.slice a n cap, .int .i64 0]) ∧ Ints w.heap.size (.slice a n cap) l w' ∧ Below w.heap.size w w' := by
  subst hl
  subst hn
  refine (refList_any s w hs).mono ?_
  intro e w' h
  rcases h with ⟨_, v, h2, h3, h4⟩ | ⟨h1, _⟩
  · obtain ⟨a, cap, hvv⟩ := own_slice h3
    subst hvv
    exact ⟨a, cap, h2, h3, h4⟩
  · rw [hv] at h1; cases h1
set_option maxHeartbeats 400000 in
theorem refValid_any (s : ByteArray) (w : World) (hs : s.size ≤ 100000) : Calls Tryz.prog 33 #[.string s] w fun e w' => e = .returned (.bool (validD s.data.toList)) ∧ Below w.heap.size w w' := by
  cases hv : validD s.data.toList
  · have cL := refList_not s w hs hv
    clear hv
    go_enter Tryz.func33, Tryz.ntmps33
    go_wp2_with (go_at_call 83; ((with_reducible refine cL.mono ?_); rintro e w' ⟨rfl, hb⟩))
    go_ret
    exact ⟨rfl, hb⟩
  · have cL := refList_valid s _ _ w hs hv rfl rfl
    clear hv
    go_enter Tryz.func33, Tryz.ntmps33
    go_wp2_with (go_at_call 83; ((with_reducible refine cL.mono ?_); rintro e w' ⟨a, cap, rfl, _, hb⟩))
    go_ret
    exact ⟨rfl, hb⟩
end Go.Proofs.YtbbopdkbokbafaaGreatDoor
