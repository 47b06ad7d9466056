/- The walk of the law RunesCuts, for every string and any three ints. Condition: unicode/utf8's two tables hold what the program's text lays. -/
import Derived.Test.YtjajeijeoohpoaaDoorLaws1
import Derived.Test.YtjajeijeoohpoaaDoorCut
namespace Go.Proofs.YtjajeijeoohpoaaDoor
open Go.RowKit Go.Lib Go.Shelf
/-- What Pick gives. -/
def pickZ (x n : Int) : Int := if n ≤ 0 then 0 else if x.tmod n < 0 then x.tmod n + n else x.tmod n
theorem pick_bd (x n : Int) (h : 0 < n) : 0 ≤ pickZ x n ∧ pickZ x n < n := by
  unfold pickZ
  rw [if_neg (by omega)]
  have h1 := Int.tmod_lt_of_pos x h
  have h2 : -n < x.tmod n := by
    have := Int.lt_tmod_of_pos x h
    omega
  by_cases h3 : x.tmod n < 0
  · rw [if_pos h3]; omega
  · rw [if_neg h3]; omega
set_option maxHeartbeats 400000 in
theorem pick_any (x n : Int) (w : World) (h : 0 < n) (hn : n ≤ 1000000) : Calls Tryd.prog 37 #[.int .i64 x, .int .i64 n] w fun e w' => e = .returned (.int .i64 (pickZ x n)) ∧ w = w' := by
  have h1 := Int.tmod_lt_of_pos x h
  have h2 : -n < x.tmod n := by
    have := Int.lt_tmod_of_pos x h
    omega
  unfold pickZ
  rw [if_neg (by omega)]
  have hz : ¬ n ≤ 0 := by omega
  have hz2 : (n == 0) = false := by simp; omega
  by_cases h3 : x.tmod n < 0
  · rw [if_pos h3]
    go_enter Tryd.func37, Tryd.ntmps37
    go_wp2
    go_ret
    exact ⟨rfl, rfl⟩
  · rw [if_neg h3]
    go_enter Tryd.func37, Tryd.ntmps37
    go_wp2
    go_ret
    exact ⟨rfl, rfl⟩
theorem runes_len_le' (s : ByteArray) : (runesD s.data.toList).length ≤ s.size := by rw [← runeCount_eq]; exact runeCount_le s
set_option maxHeartbeats 400000 in
theorem cuts_long (s : ByteArray) (x y i : Int) (w : World) (h : 2000 < s.size) (hT : Tabs w) :
    Calls Tryd.prog 7 #[.string s, .int .i64 x, .int .i64 y, .int .i64 i] w fun e w' => e = .returned (.bool true) ∧ Below w.heap.size w w' := by
  have cL := lives_any w hT
  have hz : (2000 : Int) < (s.size : Int) := by omega
  go_enter Tryd.func7, Tryd.ntmps7
  go_wp2_with (go_at_call 10; ((with_reducible refine cL.mono ?_); rintro e W1 ⟨rfl, hb⟩))
  go_ret
  exact ⟨rfl, hb⟩
set_option maxHeartbeats 1000000 in
set_option maxRecDepth 100000 in
theorem cuts_not (s : ByteArray) (x y i : Int) (w : World) (hs : ¬ (2000 : Int) < (s.size : Int)) 
    (k10 : After w 10 #[] (.bool true)) (k28 : After w 28 #[.string s] (.int .i64 0))
    (k37a : After w 37 #[.int .i64 x, .int .i64 1] (.int .i64 0)) (k37b : After w 37 #[.int .i64 y, .int .i64 1] (.int .i64 0))
    (k11 : After w 11 #[.string s, .int .i64 0, .int .i64 0] (.tuple #[.string ⟨#[]⟩, .int .i64 5])) (k20 : After w 20 #[.string s] (.bool false)) :
    Calls Tryd.prog 7 #[.string s, .int .i64 x, .int .i64 y, .int .i64 i] w fun e w' => e = .returned (.bool true) ∧ Below w.heap.size w w' := by
  have hb := Below.refl w.heap.size w
  go_enter Tryd.func7, Tryd.ntmps7
  go_wp2_with (first | (go_at_call 10; first | ((with_reducible refine (k10 _ hb).mono ?_); rintro e W1 ⟨rfl, hb⟩)) | (go_at_call 28; first | ((with_reducible refine (k28 _ hb).mono ?_); rintro e W1 ⟨rfl, hb⟩)) | (go_at_call 37; first | ((with_reducible refine (k37a _ hb).mono ?_); rintro e W1 ⟨rfl, hb⟩) | ((with_reducible refine (k37b _ hb).mono ?_); rintro e W1 ⟨rfl, hb⟩)) | (go_at_call 11; first | ((with_reducible refine (k11 _ hb).mono ?_); rintro e W1 ⟨rfl, hb⟩)) | (go_at_call 20; first | ((with_reducible refine (k20 _ hb).mono ?_); rintro e W1 ⟨rfl, hb⟩)))
  go_ret
  exact ⟨rfl, hb⟩
set_option maxHeartbeats 2000000 in
set_option maxRecDepth 100000 in
theorem cuts_n0 (s u v z : ByteArray) (x y i c : Int) (A B k N : Nat) (w : World) (hs : ¬ (2000 : Int) < (s.size : Int)) (hN : (N : Int) ≤ 2000) (hpq : (A : Int) ≤ (B : Int)) (hBN : (B : Int) ≤ (N : Int)) (hk : (k : Int) < (A : Int))
    (hcat : u ++ v ++ z = s) (su : u.size ≤ 100000) (sv : v.size ≤ 100000) (sz : z.size ≤ 100000)
    (k10 : After w 10 #[] (.bool true)) (k28 : After w 28 #[.string s] (.int .i64 N))
    (k37a : After w 37 #[.int .i64 x, .int .i64 ((N : Int) + 1)] (.int .i64 A)) (k37b : After w 37 #[.int .i64 y, .int .i64 ((N : Int) + 1)] (.int .i64 B)) (k37c : After w 37 #[.int .i64 i, .int .i64 ((N : Int) + 1)] (.int .i64 k))
    (k11u : After w 11 #[.string s, .int .i64 0, .int .i64 A] (.tuple #[.string u, .int .i64 0])) (k11v : After w 11 #[.string s, .int .i64 A, .int .i64 B] (.tuple #[.string v, .int .i64 0])) (k11z : After w 11 #[.string s, .int .i64 B, .int .i64 N] (.tuple #[.string z, .int .i64 0]))
    (k20 : After w 20 #[.string s] (.bool true))
    (k14 : After w 14 #[.string s, .int .i64 k] (.tuple #[.int .i64 c, .bool true])) (k14v : After w 14 #[.string v, .int .i64 ((k : Int) - (A : Int))] (.tuple #[.int .i64 0, .bool false]))
    (k28u : After w 28 #[.string u] (.int .i64 A)) (k28v : After w 28 #[.string v] (.int .i64 ((B : Int) - (A : Int)))) (k28z : After w 28 #[.string z] (.int .i64 ((N : Int) - (B : Int)))) :
    Calls Tryd.prog 7 #[.string s, .int .i64 x, .int .i64 y, .int .i64 i] w fun e w' => e = .returned (.bool true) ∧ Below w.heap.size w w' := by
  have hb := Below.refl w.heap.size w
  go_enter Tryd.func7, Tryd.ntmps7
  go_wp2_with (first | (go_at_call 10; first | ((with_reducible refine (k10 _ hb).mono ?_); rintro e W1 ⟨rfl, hb⟩)) | (go_at_call 28; first | ((with_reducible refine (k28 _ hb).mono ?_); rintro e W1 ⟨rfl, hb⟩) | ((with_reducible refine (k28u _ hb).mono ?_); rintro e W1 ⟨rfl, hb⟩) | ((with_reducible refine (k28v _ hb).mono ?_); rintro e W1 ⟨rfl, hb⟩) | ((with_reducible refine (k28z _ hb).mono ?_); rintro e W1 ⟨rfl, hb⟩)) | (go_at_call 37; first | ((with_reducible refine (k37a _ hb).mono ?_); rintro e W1 ⟨rfl, hb⟩) | ((with_reducible refine (k37b _ hb).mono ?_); rintro e W1 ⟨rfl, hb⟩) | ((with_reducible refine (k37c _ hb).mono ?_); rintro e W1 ⟨rfl, hb⟩)) | (go_at_call 11; first | ((with_reducible refine (k11u _ hb).mono ?_); rintro e W1 ⟨rfl, hb⟩) | ((with_reducible refine (k11v _ hb).mono ?_); rintro e W1 ⟨rfl, hb⟩) | ((with_reducible refine (k11z _ hb).mono ?_); rintro e W1 ⟨rfl, hb⟩)) | (go_at_call 20; first | ((with_reducible refine (k20 _ hb).mono ?_); rintro e W1 ⟨rfl, hb⟩)) | (go_at_call 14; first | ((with_reducible refine (k14 _ hb).mono ?_); rintro e W1 ⟨rfl, hb⟩) | ((with_reducible refine (k14v _ hb).mono ?_); rintro e W1 ⟨rfl, hb⟩)))
  go_ret
  exact ⟨rfl, hb⟩
set_option maxHeartbeats 2000000 in
set_option maxRecDepth 100000 in
theorem cuts_n1 (s u v z : ByteArray) (x y i c : Int) (A B k N : Nat) (w : World) (hs : ¬ (2000 : Int) < (s.size : Int)) (hN : (N : Int) ≤ 2000) (hpq : (A : Int) ≤ (B : Int)) (hBN : (B : Int) ≤ (N : Int)) (hk : (A : Int) ≤ (k : Int)) (hk2 : (k : Int) < (B : Int))
    (hcat : u ++ v ++ z = s) (su : u.size ≤ 100000) (sv : v.size ≤ 100000) (sz : z.size ≤ 100000)
    (k10 : After w 10 #[] (.bool true)) (k28 : After w 28 #[.string s] (.int .i64 N))
    (k37a : After w 37 #[.int .i64 x, .int .i64 ((N : Int) + 1)] (.int .i64 A)) (k37b : After w 37 #[.int .i64 y, .int .i64 ((N : Int) + 1)] (.int .i64 B)) (k37c : After w 37 #[.int .i64 i, .int .i64 ((N : Int) + 1)] (.int .i64 k))
    (k11u : After w 11 #[.string s, .int .i64 0, .int .i64 A] (.tuple #[.string u, .int .i64 0])) (k11v : After w 11 #[.string s, .int .i64 A, .int .i64 B] (.tuple #[.string v, .int .i64 0])) (k11z : After w 11 #[.string s, .int .i64 B, .int .i64 N] (.tuple #[.string z, .int .i64 0]))
    (k20 : After w 20 #[.string s] (.bool true))
    (k14 : After w 14 #[.string s, .int .i64 k] (.tuple #[.int .i64 c, .bool true])) (k14v : After w 14 #[.string v, .int .i64 ((k : Int) - (A : Int))] (.tuple #[.int .i64 c, .bool true]))
    (k28u : After w 28 #[.string u] (.int .i64 A)) (k28v : After w 28 #[.string v] (.int .i64 ((B : Int) - (A : Int)))) (k28z : After w 28 #[.string z] (.int .i64 ((N : Int) - (B : Int)))) :
    Calls Tryd.prog 7 #[.string s, .int .i64 x, .int .i64 y, .int .i64 i] w fun e w' => e = .returned (.bool true) ∧ Below w.heap.size w w' := by
  have hb := Below.refl w.heap.size w
  go_enter Tryd.func7, Tryd.ntmps7
  go_wp2_with (first | (go_at_call 10; first | ((with_reducible refine (k10 _ hb).mono ?_); rintro e W1 ⟨rfl, hb⟩)) | (go_at_call 28; first | ((with_reducible refine (k28 _ hb).mono ?_); rintro e W1 ⟨rfl, hb⟩) | ((with_reducible refine (k28u _ hb).mono ?_); rintro e W1 ⟨rfl, hb⟩) | ((with_reducible refine (k28v _ hb).mono ?_); rintro e W1 ⟨rfl, hb⟩) | ((with_reducible refine (k28z _ hb).mono ?_); rintro e W1 ⟨rfl, hb⟩)) | (go_at_call 37; first | ((with_reducible refine (k37a _ hb).mono ?_); rintro e W1 ⟨rfl, hb⟩) | ((with_reducible refine (k37b _ hb).mono ?_); rintro e W1 ⟨rfl, hb⟩) | ((with_reducible refine (k37c _ hb).mono ?_); rintro e W1 ⟨rfl, hb⟩)) | (go_at_call 11; first | ((with_reducible refine (k11u _ hb).mono ?_); rintro e W1 ⟨rfl, hb⟩) | ((with_reducible refine (k11v _ hb).mono ?_); rintro e W1 ⟨rfl, hb⟩) | ((with_reducible refine (k11z _ hb).mono ?_); rintro e W1 ⟨rfl, hb⟩)) | (go_at_call 20; first | ((with_reducible refine (k20 _ hb).mono ?_); rintro e W1 ⟨rfl, hb⟩)) | (go_at_call 14; first | ((with_reducible refine (k14 _ hb).mono ?_); rintro e W1 ⟨rfl, hb⟩) | ((with_reducible refine (k14v _ hb).mono ?_); rintro e W1 ⟨rfl, hb⟩)))
  go_ret
  exact ⟨rfl, hb⟩
set_option maxHeartbeats 2000000 in
set_option maxRecDepth 100000 in
theorem cuts_n2 (s u v z : ByteArray) (x y i c : Int) (A B k N : Nat) (w : World) (hs : ¬ (2000 : Int) < (s.size : Int)) (hN : (N : Int) ≤ 2000) (hpq : (A : Int) ≤ (B : Int)) (hBN : (B : Int) ≤ (N : Int)) (hk : (B : Int) ≤ (k : Int)) (hk2 : (k : Int) < (N : Int))
    (hcat : u ++ v ++ z = s) (su : u.size ≤ 100000) (sv : v.size ≤ 100000) (sz : z.size ≤ 100000)
    (k10 : After w 10 #[] (.bool true)) (k28 : After w 28 #[.string s] (.int .i64 N))
    (k37a : After w 37 #[.int .i64 x, .int .i64 ((N : Int) + 1)] (.int .i64 A)) (k37b : After w 37 #[.int .i64 y, .int .i64 ((N : Int) + 1)] (.int .i64 B)) (k37c : After w 37 #[.int .i64 i, .int .i64 ((N : Int) + 1)] (.int .i64 k))
    (k11u : After w 11 #[.string s, .int .i64 0, .int .i64 A] (.tuple #[.string u, .int .i64 0])) (k11v : After w 11 #[.string s, .int .i64 A, .int .i64 B] (.tuple #[.string v, .int .i64 0])) (k11z : After w 11 #[.string s, .int .i64 B, .int .i64 N] (.tuple #[.string z, .int .i64 0]))
    (k20 : After w 20 #[.string s] (.bool true))
    (k14 : After w 14 #[.string s, .int .i64 k] (.tuple #[.int .i64 c, .bool true])) (k14v : After w 14 #[.string v, .int .i64 ((k : Int) - (A : Int))] (.tuple #[.int .i64 0, .bool false]))
    (k28u : After w 28 #[.string u] (.int .i64 A)) (k28v : After w 28 #[.string v] (.int .i64 ((B : Int) - (A : Int)))) (k28z : After w 28 #[.string z] (.int .i64 ((N : Int) - (B : Int)))) :
    Calls Tryd.prog 7 #[.string s, .int .i64 x, .int .i64 y, .int .i64 i] w fun e w' => e = .returned (.bool true) ∧ Below w.heap.size w w' := by
  have hb := Below.refl w.heap.size w
  go_enter Tryd.func7, Tryd.ntmps7
  go_wp2_with (first | (go_at_call 10; first | ((with_reducible refine (k10 _ hb).mono ?_); rintro e W1 ⟨rfl, hb⟩)) | (go_at_call 28; first | ((with_reducible refine (k28 _ hb).mono ?_); rintro e W1 ⟨rfl, hb⟩) | ((with_reducible refine (k28u _ hb).mono ?_); rintro e W1 ⟨rfl, hb⟩) | ((with_reducible refine (k28v _ hb).mono ?_); rintro e W1 ⟨rfl, hb⟩) | ((with_reducible refine (k28z _ hb).mono ?_); rintro e W1 ⟨rfl, hb⟩)) | (go_at_call 37; first | ((with_reducible refine (k37a _ hb).mono ?_); rintro e W1 ⟨rfl, hb⟩) | ((with_reducible refine (k37b _ hb).mono ?_); rintro e W1 ⟨rfl, hb⟩) | ((with_reducible refine (k37c _ hb).mono ?_); rintro e W1 ⟨rfl, hb⟩)) | (go_at_call 11; first | ((with_reducible refine (k11u _ hb).mono ?_); rintro e W1 ⟨rfl, hb⟩) | ((with_reducible refine (k11v _ hb).mono ?_); rintro e W1 ⟨rfl, hb⟩) | ((with_reducible refine (k11z _ hb).mono ?_); rintro e W1 ⟨rfl, hb⟩)) | (go_at_call 20; first | ((with_reducible refine (k20 _ hb).mono ?_); rintro e W1 ⟨rfl, hb⟩)) | (go_at_call 14; first | ((with_reducible refine (k14 _ hb).mono ?_); rintro e W1 ⟨rfl, hb⟩) | ((with_reducible refine (k14v _ hb).mono ?_); rintro e W1 ⟨rfl, hb⟩)))
  go_ret
  exact ⟨rfl, hb⟩
set_option maxHeartbeats 2000000 in
set_option maxRecDepth 100000 in
theorem cuts_n3 (s u v z : ByteArray) (x y i _c : Int) (A B _k N : Nat) (w : World) (hs : ¬ (2000 : Int) < (s.size : Int)) (hN : (N : Int) ≤ 2000) (hpq : (A : Int) ≤ (B : Int)) (hBN : (B : Int) ≤ (N : Int)) 
    (hcat : u ++ v ++ z = s) (su : u.size ≤ 100000) (sv : v.size ≤ 100000) (sz : z.size ≤ 100000)
    (k10 : After w 10 #[] (.bool true)) (k28 : After w 28 #[.string s] (.int .i64 N))
    (k37a : After w 37 #[.int .i64 x, .int .i64 ((N : Int) + 1)] (.int .i64 A)) (k37b : After w 37 #[.int .i64 y, .int .i64 ((N : Int) + 1)] (.int .i64 B)) (k37c : After w 37 #[.int .i64 i, .int .i64 ((N : Int) + 1)] (.int .i64 N))
    (k11u : After w 11 #[.string s, .int .i64 0, .int .i64 A] (.tuple #[.string u, .int .i64 0])) (k11v : After w 11 #[.string s, .int .i64 A, .int .i64 B] (.tuple #[.string v, .int .i64 0])) (k11z : After w 11 #[.string s, .int .i64 B, .int .i64 N] (.tuple #[.string z, .int .i64 0]))
    (k20 : After w 20 #[.string s] (.bool true))
    (k14 : After w 14 #[.string s, .int .i64 N] (.tuple #[.int .i64 0, .bool false])) (k14v : After w 14 #[.string v, .int .i64 ((N : Int) - (A : Int))] (.tuple #[.int .i64 0, .bool false]))
    (k28u : After w 28 #[.string u] (.int .i64 A)) (k28v : After w 28 #[.string v] (.int .i64 ((B : Int) - (A : Int)))) (k28z : After w 28 #[.string z] (.int .i64 ((N : Int) - (B : Int)))) :
    Calls Tryd.prog 7 #[.string s, .int .i64 x, .int .i64 y, .int .i64 i] w fun e w' => e = .returned (.bool true) ∧ Below w.heap.size w w' := by
  have hb := Below.refl w.heap.size w
  go_enter Tryd.func7, Tryd.ntmps7
  go_wp2_with (first | (go_at_call 10; first | ((with_reducible refine (k10 _ hb).mono ?_); rintro e W1 ⟨rfl, hb⟩)) | (go_at_call 28; first | ((with_reducible refine (k28 _ hb).mono ?_); rintro e W1 ⟨rfl, hb⟩) | ((with_reducible refine (k28u _ hb).mono ?_); rintro e W1 ⟨rfl, hb⟩) | ((with_reducible refine (k28v _ hb).mono ?_); rintro e W1 ⟨rfl, hb⟩) | ((with_reducible refine (k28z _ hb).mono ?_); rintro e W1 ⟨rfl, hb⟩)) | (go_at_call 37; first | ((with_reducible refine (k37a _ hb).mono ?_); rintro e W1 ⟨rfl, hb⟩) | ((with_reducible refine (k37b _ hb).mono ?_); rintro e W1 ⟨rfl, hb⟩) | ((with_reducible refine (k37c _ hb).mono ?_); rintro e W1 ⟨rfl, hb⟩)) | (go_at_call 11; first | ((with_reducible refine (k11u _ hb).mono ?_); rintro e W1 ⟨rfl, hb⟩) | ((with_reducible refine (k11v _ hb).mono ?_); rintro e W1 ⟨rfl, hb⟩) | ((with_reducible refine (k11z _ hb).mono ?_); rintro e W1 ⟨rfl, hb⟩)) | (go_at_call 20; first | ((with_reducible refine (k20 _ hb).mono ?_); rintro e W1 ⟨rfl, hb⟩)) | (go_at_call 14; first | ((with_reducible refine (k14 _ hb).mono ?_); rintro e W1 ⟨rfl, hb⟩) | ((with_reducible refine (k14v _ hb).mono ?_); rintro e W1 ⟨rfl, hb⟩)))
  go_ret
  exact ⟨rfl, hb⟩
set_option maxHeartbeats 2000000 in
set_option maxRecDepth 100000 in
theorem cuts_s0 (s u v z : ByteArray) (x y i c : Int) (A B k N : Nat) (w : World) (hs : ¬ (2000 : Int) < (s.size : Int)) (hN : (N : Int) ≤ 2000) (hpq : (A : Int) < (B : Int)) (hBN : (B : Int) ≤ (N : Int)) (hk : (k : Int) < (A : Int))
    (hcat : u ++ v ++ z = s) (su : u.size ≤ 100000) (sv : v.size ≤ 100000) (sz : z.size ≤ 100000)
    (k10 : After w 10 #[] (.bool true)) (k28 : After w 28 #[.string s] (.int .i64 N))
    (k37a : After w 37 #[.int .i64 x, .int .i64 ((N : Int) + 1)] (.int .i64 B)) (k37b : After w 37 #[.int .i64 y, .int .i64 ((N : Int) + 1)] (.int .i64 A)) (k37c : After w 37 #[.int .i64 i, .int .i64 ((N : Int) + 1)] (.int .i64 k))
    (k11u : After w 11 #[.string s, .int .i64 0, .int .i64 A] (.tuple #[.string u, .int .i64 0])) (k11v : After w 11 #[.string s, .int .i64 A, .int .i64 B] (.tuple #[.string v, .int .i64 0])) (k11z : After w 11 #[.string s, .int .i64 B, .int .i64 N] (.tuple #[.string z, .int .i64 0]))
    (k20 : After w 20 #[.string s] (.bool true))
    (k14 : After w 14 #[.string s, .int .i64 k] (.tuple #[.int .i64 c, .bool true])) (k14v : After w 14 #[.string v, .int .i64 ((k : Int) - (A : Int))] (.tuple #[.int .i64 0, .bool false]))
    (k28u : After w 28 #[.string u] (.int .i64 A)) (k28v : After w 28 #[.string v] (.int .i64 ((B : Int) - (A : Int)))) (k28z : After w 28 #[.string z] (.int .i64 ((N : Int) - (B : Int)))) :
    Calls Tryd.prog 7 #[.string s, .int .i64 x, .int .i64 y, .int .i64 i] w fun e w' => e = .returned (.bool true) ∧ Below w.heap.size w w' := by
  have hb := Below.refl w.heap.size w
  go_enter Tryd.func7, Tryd.ntmps7
  go_wp2_with (first | (go_at_call 10; first | ((with_reducible refine (k10 _ hb).mono ?_); rintro e W1 ⟨rfl, hb⟩)) | (go_at_call 28; first | ((with_reducible refine (k28 _ hb).mono ?_); rintro e W1 ⟨rfl, hb⟩) | ((with_reducible refine (k28u _ hb).mono ?_); rintro e W1 ⟨rfl, hb⟩) | ((with_reducible refine (k28v _ hb).mono ?_); rintro e W1 ⟨rfl, hb⟩) | ((with_reducible refine (k28z _ hb).mono ?_); rintro e W1 ⟨rfl, hb⟩)) | (go_at_call 37; first | ((with_reducible refine (k37a _ hb).mono ?_); rintro e W1 ⟨rfl, hb⟩) | ((with_reducible refine (k37b _ hb).mono ?_); rintro e W1 ⟨rfl, hb⟩) | ((with_reducible refine (k37c _ hb).mono ?_); rintro e W1 ⟨rfl, hb⟩)) | (go_at_call 11; first | ((with_reducible refine (k11u _ hb).mono ?_); rintro e W1 ⟨rfl, hb⟩) | ((with_reducible refine (k11v _ hb).mono ?_); rintro e W1 ⟨rfl, hb⟩) | ((with_reducible refine (k11z _ hb).mono ?_); rintro e W1 ⟨rfl, hb⟩)) | (go_at_call 20; first | ((with_reducible refine (k20 _ hb).mono ?_); rintro e W1 ⟨rfl, hb⟩)) | (go_at_call 14; first | ((with_reducible refine (k14 _ hb).mono ?_); rintro e W1 ⟨rfl, hb⟩) | ((with_reducible refine (k14v _ hb).mono ?_); rintro e W1 ⟨rfl, hb⟩)))
  go_ret
  exact ⟨rfl, hb⟩
set_option maxHeartbeats 2000000 in
set_option maxRecDepth 100000 in
theorem cuts_s1 (s u v z : ByteArray) (x y i c : Int) (A B k N : Nat) (w : World) (hs : ¬ (2000 : Int) < (s.size : Int)) (hN : (N : Int) ≤ 2000) (hpq : (A : Int) < (B : Int)) (hBN : (B : Int) ≤ (N : Int)) (hk : (A : Int) ≤ (k : Int)) (hk2 : (k : Int) < (B : Int))
    (hcat : u ++ v ++ z = s) (su : u.size ≤ 100000) (sv : v.size ≤ 100000) (sz : z.size ≤ 100000)
    (k10 : After w 10 #[] (.bool true)) (k28 : After w 28 #[.string s] (.int .i64 N))
    (k37a : After w 37 #[.int .i64 x, .int .i64 ((N : Int) + 1)] (.int .i64 B)) (k37b : After w 37 #[.int .i64 y, .int .i64 ((N : Int) + 1)] (.int .i64 A)) (k37c : After w 37 #[.int .i64 i, .int .i64 ((N : Int) + 1)] (.int .i64 k))
    (k11u : After w 11 #[.string s, .int .i64 0, .int .i64 A] (.tuple #[.string u, .int .i64 0])) (k11v : After w 11 #[.string s, .int .i64 A, .int .i64 B] (.tuple #[.string v, .int .i64 0])) (k11z : After w 11 #[.string s, .int .i64 B, .int .i64 N] (.tuple #[.string z, .int .i64 0]))
    (k20 : After w 20 #[.string s] (.bool true))
    (k14 : After w 14 #[.string s, .int .i64 k] (.tuple #[.int .i64 c, .bool true])) (k14v : After w 14 #[.string v, .int .i64 ((k : Int) - (A : Int))] (.tuple #[.int .i64 c, .bool true]))
    (k28u : After w 28 #[.string u] (.int .i64 A)) (k28v : After w 28 #[.string v] (.int .i64 ((B : Int) - (A : Int)))) (k28z : After w 28 #[.string z] (.int .i64 ((N : Int) - (B : Int)))) :
    Calls Tryd.prog 7 #[.string s, .int .i64 x, .int .i64 y, .int .i64 i] w fun e w' => e = .returned (.bool true) ∧ Below w.heap.size w w' := by
  have hb := Below.refl w.heap.size w
  go_enter Tryd.func7, Tryd.ntmps7
  go_wp2_with (first | (go_at_call 10; first | ((with_reducible refine (k10 _ hb).mono ?_); rintro e W1 ⟨rfl, hb⟩)) | (go_at_call 28; first | ((with_reducible refine (k28 _ hb).mono ?_); rintro e W1 ⟨rfl, hb⟩) | ((with_reducible refine (k28u _ hb).mono ?_); rintro e W1 ⟨rfl, hb⟩) | ((with_reducible refine (k28v _ hb).mono ?_); rintro e W1 ⟨rfl, hb⟩) | ((with_reducible refine (k28z _ hb).mono ?_); rintro e W1 ⟨rfl, hb⟩)) | (go_at_call 37; first | ((with_reducible refine (k37a _ hb).mono ?_); rintro e W1 ⟨rfl, hb⟩) | ((with_reducible refine (k37b _ hb).mono ?_); rintro e W1 ⟨rfl, hb⟩) | ((with_reducible refine (k37c _ hb).mono ?_); rintro e W1 ⟨rfl, hb⟩)) | (go_at_call 11; first | ((with_reducible refine (k11u _ hb).mono ?_); rintro e W1 ⟨rfl, hb⟩) | ((with_reducible refine (k11v _ hb).mono ?_); rintro e W1 ⟨rfl, hb⟩) | ((with_reducible refine (k11z _ hb).mono ?_); rintro e W1 ⟨rfl, hb⟩)) | (go_at_call 20; first | ((with_reducible refine (k20 _ hb).mono ?_); rintro e W1 ⟨rfl, hb⟩)) | (go_at_call 14; first | ((with_reducible refine (k14 _ hb).mono ?_); rintro e W1 ⟨rfl, hb⟩) | ((with_reducible refine (k14v _ hb).mono ?_); rintro e W1 ⟨rfl, hb⟩)))
  go_ret
  exact ⟨rfl, hb⟩
set_option maxHeartbeats 2000000 in
set_option maxRecDepth 100000 in
theorem cuts_s2 (s u v z : ByteArray) (x y i c : Int) (A B k N : Nat) (w : World) (hs : ¬ (2000 : Int) < (s.size : Int)) (hN : (N : Int) ≤ 2000) (hpq : (A : Int) < (B : Int)) (hBN : (B : Int) ≤ (N : Int)) (hk : (B : Int) ≤ (k : Int)) (hk2 : (k : Int) < (N : Int))
    (hcat : u ++ v ++ z = s) (su : u.size ≤ 100000) (sv : v.size ≤ 100000) (sz : z.size ≤ 100000)
    (k10 : After w 10 #[] (.bool true)) (k28 : After w 28 #[.string s] (.int .i64 N))
    (k37a : After w 37 #[.int .i64 x, .int .i64 ((N : Int) + 1)] (.int .i64 B)) (k37b : After w 37 #[.int .i64 y, .int .i64 ((N : Int) + 1)] (.int .i64 A)) (k37c : After w 37 #[.int .i64 i, .int .i64 ((N : Int) + 1)] (.int .i64 k))
    (k11u : After w 11 #[.string s, .int .i64 0, .int .i64 A] (.tuple #[.string u, .int .i64 0])) (k11v : After w 11 #[.string s, .int .i64 A, .int .i64 B] (.tuple #[.string v, .int .i64 0])) (k11z : After w 11 #[.string s, .int .i64 B, .int .i64 N] (.tuple #[.string z, .int .i64 0]))
    (k20 : After w 20 #[.string s] (.bool true))
    (k14 : After w 14 #[.string s, .int .i64 k] (.tuple #[.int .i64 c, .bool true])) (k14v : After w 14 #[.string v, .int .i64 ((k : Int) - (A : Int))] (.tuple #[.int .i64 0, .bool false]))
    (k28u : After w 28 #[.string u] (.int .i64 A)) (k28v : After w 28 #[.string v] (.int .i64 ((B : Int) - (A : Int)))) (k28z : After w 28 #[.string z] (.int .i64 ((N : Int) - (B : Int)))) :
    Calls Tryd.prog 7 #[.string s, .int .i64 x, .int .i64 y, .int .i64 i] w fun e w' => e = .returned (.bool true) ∧ Below w.heap.size w w' := by
  have hb := Below.refl w.heap.size w
  go_enter Tryd.func7, Tryd.ntmps7
  go_wp2_with (first | (go_at_call 10; first | ((with_reducible refine (k10 _ hb).mono ?_); rintro e W1 ⟨rfl, hb⟩)) | (go_at_call 28; first | ((with_reducible refine (k28 _ hb).mono ?_); rintro e W1 ⟨rfl, hb⟩) | ((with_reducible refine (k28u _ hb).mono ?_); rintro e W1 ⟨rfl, hb⟩) | ((with_reducible refine (k28v _ hb).mono ?_); rintro e W1 ⟨rfl, hb⟩) | ((with_reducible refine (k28z _ hb).mono ?_); rintro e W1 ⟨rfl, hb⟩)) | (go_at_call 37; first | ((with_reducible refine (k37a _ hb).mono ?_); rintro e W1 ⟨rfl, hb⟩) | ((with_reducible refine (k37b _ hb).mono ?_); rintro e W1 ⟨rfl, hb⟩) | ((with_reducible refine (k37c _ hb).mono ?_); rintro e W1 ⟨rfl, hb⟩)) | (go_at_call 11; first | ((with_reducible refine (k11u _ hb).mono ?_); rintro e W1 ⟨rfl, hb⟩) | ((with_reducible refine (k11v _ hb).mono ?_); rintro e W1 ⟨rfl, hb⟩) | ((with_reducible refine (k11z _ hb).mono ?_); rintro e W1 ⟨rfl, hb⟩)) | (go_at_call 20; first | ((with_reducible refine (k20 _ hb).mono ?_); rintro e W1 ⟨rfl, hb⟩)) | (go_at_call 14; first | ((with_reducible refine (k14 _ hb).mono ?_); rintro e W1 ⟨rfl, hb⟩) | ((with_reducible refine (k14v _ hb).mono ?_); rintro e W1 ⟨rfl, hb⟩)))
  go_ret
  exact ⟨rfl, hb⟩
set_option maxHeartbeats 2000000 in
set_option maxRecDepth 100000 in
theorem cuts_s3 (s u v z : ByteArray) (x y i _c : Int) (A B _k N : Nat) (w : World) (hs : ¬ (2000 : Int) < (s.size : Int)) (hN : (N : Int) ≤ 2000) (hpq : (A : Int) < (B : Int)) (hBN : (B : Int) ≤ (N : Int)) 
    (hcat : u ++ v ++ z = s) (su : u.size ≤ 100000) (sv : v.size ≤ 100000) (sz : z.size ≤ 100000)
    (k10 : After w 10 #[] (.bool true)) (k28 : After w 28 #[.string s] (.int .i64 N))
    (k37a : After w 37 #[.int .i64 x, .int .i64 ((N : Int) + 1)] (.int .i64 B)) (k37b : After w 37 #[.int .i64 y, .int .i64 ((N : Int) + 1)] (.int .i64 A)) (k37c : After w 37 #[.int .i64 i, .int .i64 ((N : Int) + 1)] (.int .i64 N))
    (k11u : After w 11 #[.string s, .int .i64 0, .int .i64 A] (.tuple #[.string u, .int .i64 0])) (k11v : After w 11 #[.string s, .int .i64 A, .int .i64 B] (.tuple #[.string v, .int .i64 0])) (k11z : After w 11 #[.string s, .int .i64 B, .int .i64 N] (.tuple #[.string z, .int .i64 0]))
    (k20 : After w 20 #[.string s] (.bool true))
    (k14 : After w 14 #[.string s, .int .i64 N] (.tuple #[.int .i64 0, .bool false])) (k14v : After w 14 #[.string v, .int .i64 ((N : Int) - (A : Int))] (.tuple #[.int .i64 0, .bool false]))
    (k28u : After w 28 #[.string u] (.int .i64 A)) (k28v : After w 28 #[.string v] (.int .i64 ((B : Int) - (A : Int)))) (k28z : After w 28 #[.string z] (.int .i64 ((N : Int) - (B : Int)))) :
    Calls Tryd.prog 7 #[.string s, .int .i64 x, .int .i64 y, .int .i64 i] w fun e w' => e = .returned (.bool true) ∧ Below w.heap.size w w' := by
  have hb := Below.refl w.heap.size w
  go_enter Tryd.func7, Tryd.ntmps7
  go_wp2_with (first | (go_at_call 10; first | ((with_reducible refine (k10 _ hb).mono ?_); rintro e W1 ⟨rfl, hb⟩)) | (go_at_call 28; first | ((with_reducible refine (k28 _ hb).mono ?_); rintro e W1 ⟨rfl, hb⟩) | ((with_reducible refine (k28u _ hb).mono ?_); rintro e W1 ⟨rfl, hb⟩) | ((with_reducible refine (k28v _ hb).mono ?_); rintro e W1 ⟨rfl, hb⟩) | ((with_reducible refine (k28z _ hb).mono ?_); rintro e W1 ⟨rfl, hb⟩)) | (go_at_call 37; first | ((with_reducible refine (k37a _ hb).mono ?_); rintro e W1 ⟨rfl, hb⟩) | ((with_reducible refine (k37b _ hb).mono ?_); rintro e W1 ⟨rfl, hb⟩) | ((with_reducible refine (k37c _ hb).mono ?_); rintro e W1 ⟨rfl, hb⟩)) | (go_at_call 11; first | ((with_reducible refine (k11u _ hb).mono ?_); rintro e W1 ⟨rfl, hb⟩) | ((with_reducible refine (k11v _ hb).mono ?_); rintro e W1 ⟨rfl, hb⟩) | ((with_reducible refine (k11z _ hb).mono ?_); rintro e W1 ⟨rfl, hb⟩)) | (go_at_call 20; first | ((with_reducible refine (k20 _ hb).mono ?_); rintro e W1 ⟨rfl, hb⟩)) | (go_at_call 14; first | ((with_reducible refine (k14 _ hb).mono ?_); rintro e W1 ⟨rfl, hb⟩) | ((with_reducible refine (k14v _ hb).mono ?_); rintro e W1 ⟨rfl, hb⟩)))
  go_ret
  exact ⟨rfl, hb⟩
theorem cut_after (s : ByteArray) (a b : Nat) (w : World) (hs : s.size ≤ 100000) (hT : Tabs w) (hv : validD s.data.toList = true) (hab : a ≤ b) (hb : b ≤ (runesD s.data.toList).length) :
    After w 11 #[.string s, .int .i64 a, .int .i64 b] (.tuple #[.string ⟨(encD (((runesD s.data.toList).drop a).take (b - a))).toArray⟩, .int .i64 0]) := After.ofT hT (fun W hW => cut_in s a b W hs hW hv hab hb)
theorem len_after (s : ByteArray) (n : Nat) (w : World) (hs : s.size ≤ 100000) (hT : Tabs w) (hv : validD s.data.toList = true) (hn : (runesD s.data.toList).length = n) : After w 28 #[.string s] (.int .i64 n) := After.ofT hT (fun W hW => by
  have := len_any s W (by omega) hW
  rwa [lenD, hv, if_pos rfl, hn] at this)
theorem at_after (s : ByteArray) (i : Int) (r : Int × Bool) (w : World) (hs : s.size ≤ 100000) (hi : i ≤ 9223372036854775807) (hT : Tabs w) (hr : atD s.data.toList i = r) : After w 14 #[.string s, .int .i64 i] (.tuple #[.int .i64 r.1, .bool r.2]) := After.ofT hT (fun W hW => by
  have := at_any s i W (by omega) hi hW
  rwa [hr] at this)
theorem cuts_valid (s : ByteArray) (x y i : Int) (w : World) (h : s.size ≤ 2000) (hT : Tabs w) (hv : validD s.data.toList = true) :
    Calls Tryd.prog 7 #[.string s, .int .i64 x, .int .i64 y, .int .i64 i] w fun e w' => e = .returned (.bool true) ∧ Below w.heap.size w w' := by
  obtain ⟨l, hl⟩ : ∃ l, runesD s.data.toList = l := ⟨_, rfl⟩
  obtain ⟨N, hN⟩ : ∃ N, l.length = N := ⟨_, rfl⟩
  have hz : l.all isZ = true := by rw [← hl]; exact runes_isZ _
  have hd : s.data.toList = encD l := by rw [← hl]; exact (encD_runes _ hv).symm
  have hNs : N ≤ 2000 := by have := runes_len_le' s; rw [hl] at this; omega
  have p1 := pick_bd x ((N : Int) + 1) (by omega)
  have p2 := pick_bd y ((N : Int) + 1) (by omega)
  have p3 := pick_bd i ((N : Int) + 1) (by omega)
  have q1 : After w 37 #[.int .i64 x, .int .i64 ((N : Int) + 1)] (.int .i64 (pickZ x ((N : Int) + 1))) := After.same (fun W => pick_any x _ W (by omega) (by omega))
  have q2 : After w 37 #[.int .i64 y, .int .i64 ((N : Int) + 1)] (.int .i64 (pickZ y ((N : Int) + 1))) := After.same (fun W => pick_any y _ W (by omega) (by omega))
  have q3 : After w 37 #[.int .i64 i, .int .i64 ((N : Int) + 1)] (.int .i64 (pickZ i ((N : Int) + 1))) := After.same (fun W => pick_any i _ W (by omega) (by omega))
  generalize pickZ x ((N : Int) + 1) = P at p1 q1
  generalize pickZ y ((N : Int) + 1) = Q at p2 q2
  generalize pickZ i ((N : Int) + 1) = K at p3 q3
  obtain ⟨P, rfl⟩ : ∃ n : Nat, P = n := ⟨P.toNat, by omega⟩
  obtain ⟨Q, rfl⟩ : ∃ n : Nat, Q = n := ⟨Q.toNat, by omega⟩
  obtain ⟨k, rfl⟩ : ∃ n : Nat, K = n := ⟨K.toNat, by omega⟩
  have main : ∀ A B : Nat, A ≤ B → B ≤ N → (A = P ∧ B = Q ∧ P ≤ Q ∨ A = Q ∧ B = P ∧ Q < P) →
      Calls Tryd.prog 7 #[.string s, .int .i64 x, .int .i64 y, .int .i64 i] w fun e w' => e = .returned (.bool true) ∧ Below w.heap.size w w' := by
    intro A B hAB hBN hpq
    obtain ⟨u, hu⟩ : ∃ u : ByteArray, u = ⟨(encD ((l.drop 0).take (A - 0))).toArray⟩ := ⟨_, rfl⟩
    obtain ⟨v, hvv⟩ : ∃ v : ByteArray, v = ⟨(encD ((l.drop A).take (B - A))).toArray⟩ := ⟨_, rfl⟩
    obtain ⟨z, hzz⟩ : ∃ z : ByteArray, z = ⟨(encD ((l.drop B).take (N - B))).toArray⟩ := ⟨_, rfl⟩
    have du : u.data.toList = encD (l.take A) := by subst hu; simp
    have dv : v.data.toList = encD ((l.drop A).take (B - A)) := by subst hvv; simp
    have dz : z.data.toList = encD (l.drop B) := by subst hzz; simp; rw [List.take_of_length_le (by simp; omega)]
    have e3 : l = l.take A ++ ((l.drop A).take (B - A) ++ l.drop B) := by
      have h1 : (l.drop A).take (B - A) ++ l.drop B = l.drop A := by
        have h2 : l.drop B = (l.drop A).drop (B - A) := by rw [List.drop_drop]; congr 1; omega
        rw [h2, List.take_append_drop]
      rw [h1, List.take_append_drop]
    have ecat : s.data.toList = u.data.toList ++ v.data.toList ++ z.data.toList := by
      rw [hd, du, dv, dz, List.append_assoc, ← encD_append, ← encD_append, ← e3]
    have hcat : u ++ v ++ z = s := by
      rw [ba_of s _ ecat, ba_of (u ++ v ++ z) (u.data.toList ++ v.data.toList ++ z.data.toList) (by simp)]
    have hsz : u.size + v.size + z.size = s.size := by rw [← hcat]; simp
    have av := all_takes _ (B - A) (all_drop l A hz)
    have vu : validD u.data.toList = true := by rw [du]; exact valid_encD' _ (all_takes l A hz)
    have vv : validD v.data.toList = true := by rw [dv]; exact valid_encD' _ av
    have vz : validD z.data.toList = true := by rw [dz]; exact valid_encD' _ (all_drop l B hz)
    have ru : runesD u.data.toList = l.take A := by rw [du]; exact runes_encD' _ (all_takes l A hz)
    have rv : runesD v.data.toList = (l.drop A).take (B - A) := by rw [dv]; exact runes_encD' _ av
    have rz : runesD z.data.toList = l.drop B := by rw [dz]; exact runes_encD' _ (all_drop l B hz)
    have k10 : After w 10 #[] (.bool true) := After.ofT hT lives_any
    have k28 := len_after s N w (by omega) hT hv (by rw [hl, hN])
    have k28u := len_after u A w (by omega) hT vu (by rw [ru]; simp; omega)
    have k28v : After w 28 #[.string v] (.int .i64 ((B : Int) - (A : Int))) := by
      have := len_after v (B - A) w (by omega) hT vv (by rw [rv]; simp; omega)
      rwa [Int.ofNat_sub hAB] at this
    have k28z : After w 28 #[.string z] (.int .i64 ((N : Int) - (B : Int))) := by
      have := len_after z (N - B) w (by omega) hT vz (by rw [rz]; simp; omega)
      rwa [Int.ofNat_sub hBN] at this
    have k11u := cut_after s 0 A w (by omega) hT hv (by omega) (by rw [hl]; omega)
    have k11v := cut_after s A B w (by omega) hT hv hAB (by rw [hl]; omega)
    have k11z := cut_after s B N w (by omega) hT hv hBN (by rw [hl]; omega)
    rw [hl, ← hu] at k11u
    rw [hl, ← hvv] at k11v
    rw [hl, ← hzz] at k11z
    have k20 : After w 20 #[.string s] (.bool true) := After.ofT hT (fun W hW => by have := valid_any s W (by omega) hW; rwa [hv] at this)
    have hs0 : ¬ (2000 : Int) < (s.size : Int) := by omega
    have aS : atD s.data.toList (k : Int) = atOf l[k]? := by unfold atD; rw [if_pos ⟨by omega, hv⟩, hl]; simp
    have aV : ∀ m : Nat, (k : Int) - (A : Int) = m → atD v.data.toList ((k : Int) - (A : Int)) = atOf ((l.drop A).take (B - A))[m]? := fun m hm => by
      unfold atD; rw [if_pos ⟨by omega, vv⟩, rv, hm]; simp
    have aV0 : (k : Int) < A → atD v.data.toList ((k : Int) - (A : Int)) = (0, false) := fun hm => by
      unfold atD; rw [if_neg (by omega)]
    by_cases c3 : k = N
    · subst c3
      have e1 : atD s.data.toList (k : Int) = (0, false) := by rw [aS, List.getElem?_eq_none (by omega)]; rfl
      have e2 : atD v.data.toList ((k : Int) - (A : Int)) = (0, false) := by rw [aV (k - A) (by omega), List.getElem?_eq_none (by simp; omega)]; rfl
      have k14 := at_after s k _ w (by omega) (by omega) hT e1
      have k14v := at_after v _ _ w (by omega) (by omega) hT e2
      rcases hpq with ⟨rfl, rfl, ho⟩ | ⟨rfl, rfl, ho⟩
      · exact cuts_n3 s u v z x y i 0 _ _ k k w hs0 (by omega) (by omega) (by omega) hcat (by omega) (by omega) (by omega) k10 k28 q1 q2 q3 k11u k11v k11z k20 k14 k14v k28u k28v k28z
      · exact cuts_s3 s u v z x y i 0 _ _ k k w hs0 (by omega) (by omega) (by omega) hcat (by omega) (by omega) (by omega) k10 k28 q1 q2 q3 k11u k11v k11z k20 k14 k14v k28u k28v k28z
    · obtain ⟨c, hc⟩ : ∃ c, l[k]? = some c := ⟨l[k]'(by omega), List.getElem?_eq_getElem _⟩
      have e1 : atD s.data.toList (k : Int) = (c, true) := by rw [aS, hc]; rfl
      have k14 := at_after s k _ w (by omega) (by omega) hT e1
      by_cases c1 : k < A
      · have k14v := at_after v _ _ w (by omega) (by omega) hT (aV0 (by omega))
        rcases hpq with ⟨rfl, rfl, ho⟩ | ⟨rfl, rfl, ho⟩
        · exact cuts_n0 s u v z x y i c _ _ k N w hs0 (by omega) (by omega) (by omega) (by omega) hcat (by omega) (by omega) (by omega) k10 k28 q1 q2 q3 k11u k11v k11z k20 k14 k14v k28u k28v k28z
        · exact cuts_s0 s u v z x y i c _ _ k N w hs0 (by omega) (by omega) (by omega) (by omega) hcat (by omega) (by omega) (by omega) k10 k28 q1 q2 q3 k11u k11v k11z k20 k14 k14v k28u k28v k28z
      · by_cases c2 : k < B
        · have e2 : atD v.data.toList ((k : Int) - (A : Int)) = (c, true) := by
            rw [aV (k - A) (by omega), List.getElem?_take_of_lt (by omega), List.getElem?_drop, show A + (k - A) = k by omega, hc]; rfl
          have k14v := at_after v _ _ w (by omega) (by omega) hT e2
          rcases hpq with ⟨rfl, rfl, ho⟩ | ⟨rfl, rfl, ho⟩
          · exact cuts_n1 s u v z x y i c _ _ k N w hs0 (by omega) (by omega) (by omega) (by omega) (by omega) hcat (by omega) (by omega) (by omega) k10 k28 q1 q2 q3 k11u k11v k11z k20 k14 k14v k28u k28v k28z
          · exact cuts_s1 s u v z x y i c _ _ k N w hs0 (by omega) (by omega) (by omega) (by omega) (by omega) hcat (by omega) (by omega) (by omega) k10 k28 q1 q2 q3 k11u k11v k11z k20 k14 k14v k28u k28v k28z
        · have e2 : atD v.data.toList ((k : Int) - (A : Int)) = (0, false) := by rw [aV (k - A) (by omega), List.getElem?_eq_none (by simp; omega)]; rfl
          have k14v := at_after v _ _ w (by omega) (by omega) hT e2
          rcases hpq with ⟨rfl, rfl, ho⟩ | ⟨rfl, rfl, ho⟩
          · exact cuts_n2 s u v z x y i c _ _ k N w hs0 (by omega) (by omega) (by omega) (by omega) (by omega) hcat (by omega) (by omega) (by omega) k10 k28 q1 q2 q3 k11u k11v k11z k20 k14 k14v k28u k28v k28z
          · exact cuts_s2 s u v z x y i c _ _ k N w hs0 (by omega) (by omega) (by omega) (by omega) (by omega) hcat (by omega) (by omega) (by omega) k10 k28 q1 q2 q3 k11u k11v k11z k20 k14 k14v k28u k28v k28z
  by_cases ho : P ≤ Q
  · exact main P Q ho (by omega) (Or.inl ⟨rfl, rfl, ho⟩)
  · exact main Q P (by omega) (by omega) (Or.inr ⟨rfl, rfl, by omega⟩)
theorem cuts_any (s : ByteArray) (x y i : Int) (w : World) (hT : Tabs w) :
    Calls Tryd.prog 7 #[.string s, .int .i64 x, .int .i64 y, .int .i64 i] w fun e w' => e = .returned (.bool true) ∧ Below w.heap.size w w' := by
  by_cases h : 2000 < s.size
  · exact cuts_long s x y i w h hT
  · cases hv : validD s.data.toList
    · have f0 : ∀ x, pickZ x 1 = 0 := fun x => by have := pick_bd x 1 (by omega); omega
      refine cuts_not s x y i w (by omega) (After.ofT hT lives_any) (After.ofT hT (fun W hW => by have := len_any s W (by omega) hW; rwa [lenD, hv, if_neg (by simp)] at this))
        (After.same (fun W => by have := pick_any x 1 W (by omega) (by omega); rwa [f0] at this)) (After.same (fun W => by have := pick_any y 1 W (by omega) (by omega); rwa [f0] at this))
        (After.ofT hT (fun W hW => cut_not s 0 0 W (by omega) hW hv)) (After.ofT hT (fun W hW => by have := valid_any s W (by omega) hW; rwa [hv] at this))
    · exact cuts_valid s x y i w (by omega) hT hv
end Go.Proofs.YtjajeijeoohpoaaDoor
