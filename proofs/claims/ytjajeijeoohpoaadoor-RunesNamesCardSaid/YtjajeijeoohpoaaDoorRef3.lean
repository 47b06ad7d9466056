/- The contracts of the reference's Width and Down, and of the two Folds. Conditions: none but that the argument is an int. -/
import Derived.Test.YtjajeijeoohpoaaDoorRef2
import Derived.Test.YtjajeijeoohpoaaDoorChars2
namespace Go.Proofs.YtjajeijeoohpoaaDoor
open Go.RowKit Go.Lib
def widR (c : Int) : Int := if !isZ c || inL noneR c then 0 else if inL twoR c then 2 else 1

theorem two_cells (w : World) (A B : Array Value) (t : TypeId) (i : Nat) : ((w.alloc (.cells A t)).alloc (.cells B t)).cell? ⟨w.heap.size, i, none⟩ = A[i]? := by
  rw [World.cell?_alloc_past _ _ _ (by simp)]; exact World.cell?_alloc_at _ _ _ _ rfl
theorem two_cells' (w : World) (A B : Array Value) (t : TypeId) (i : Nat) : ((w.alloc (.cells A t)).alloc (.cells B t)).cell? ⟨w.heap.size + 1, i, none⟩ = B[i]? := World.cell?_alloc_at _ _ _ _ (by simp)
theorem two_drewN (w : World) (A B : Array Value) (t : TypeId) (i q : Nat) : (((w.alloc (.cells A t)).alloc (.cells B t)).drewN q).cell? ⟨w.heap.size + 1, i, none⟩ = B[i]? := by
  rw [← two_cells' w A B t i]
  induction q with
  | zero => rfl
  | succ q ih => exact ih

set_option maxHeartbeats 1000000 in
theorem widthR_core (c : Int) (b1 b2 b3 : Bool) (w : World)
    (cI : ∀ w, Calls Tryd.prog 31 #[.int .i64 c] w fun e w' => e = .returned (.bool b1) ∧ w = w')
    (cN : Calls Tryd.prog 47 #[.int .i64 c, .slice (some ⟨w.heap.size, 0, none⟩) 14 14] ((w.alloc (.cells (pairCells noneR) 3)).alloc (.cells (pairCells twoR) 3)) fun e w' => e = .returned (.bool b2) ∧ ∃ q, w' = ((w.alloc (.cells (pairCells noneR) 3)).alloc (.cells (pairCells twoR) 3)).drewN q)
    (cT : ∀ q, Calls Tryd.prog 47 #[.int .i64 c, .slice (some ⟨w.heap.size + 1, 0, none⟩) 28 28] (((w.alloc (.cells (pairCells noneR) 3)).alloc (.cells (pairCells twoR) 3)).drewN q) fun e w' => e = .returned (.bool b3) ∧ ∃ q', w' = (((w.alloc (.cells (pairCells noneR) 3)).alloc (.cells (pairCells twoR) 3)).drewN q).drewN q') :
    Calls Tryd.prog 32 #[.int .i64 c] w fun e w' => e = .returned (.int .i64 (if !b1 || b2 then 0 else if b3 then 2 else 1)) ∧ Below w.heap.size w w' := by
  have hb : Below w.heap.size w ((w.alloc (.cells (pairCells noneR) 3)).alloc (.cells (pairCells twoR) 3)) := ((Below.refl _ _).alloc (Nat.le_refl _) _).alloc (by simp) _
  have HB : Hid _ := Lib.hid hb
  clear hb
  cases b1 <;> cases b2 <;> cases b3
  all_goals
    go_enter Tryd.func32, Tryd.ntmps32
    go_wp2_with (first | (refine Great.wpList_buildSliceTo rfl 27 3 14 _ rfl w.heap.size rfl _ rfl Tryd.underlying27 (pairCells noneR) (by kernel_rfl) ?_) | (refine Great.wpList_buildSliceTo rfl 27 3 28 _ rfl (w.heap.size + 1) (by simp) _ rfl Tryd.underlying27 (pairCells twoR) (by kernel_rfl) ?_) | (go_at_call 31; refine (cI _).mono ?_; rintro e w' ⟨rfl, rfl⟩) | (go_at_call 47; first | ((with_reducible refine cN.mono ?_); rintro e w' ⟨rfl, q, rfl⟩) | ((with_reducible refine (cT _).mono ?_); rintro e w' ⟨rfl, q', rfl⟩)))
    go_ret
    exact ⟨rfl, by have hb := HB.out; first | exact hb | exact below_drewN' _ hb | exact below_drewN' _ (below_drewN' _ hb)⟩
theorem widthR_any (c : Int) (w : World) : Calls Tryd.prog 32 #[.int .i64 c] w fun e w' => e = .returned (.int .i64 (widR c)) ∧ Below w.heap.size w w' :=
  widthR_core c (isZ c) (inL noneR c) (inL twoR c) w (fun w => isR_any c w)
    (in_new noneR c 14 _ _ rfl (by omega) (fun i => two_cells w _ _ _ i))
    (fun q => in_new twoR c 28 _ _ rfl (by omega) (fun i => two_drewN w _ _ _ i q))

/-- What the reference's Down gives. -/
def downR (c : Int) : Int :=
  if c < 0 ∨ 1114111 < c then c
  else if (smallZ (c + 32)).2 = true ∧ (smallZ (c + 32)).1 = c then c + 32
  else if (smallZ (c + 80)).2 = true ∧ (smallZ (c + 80)).1 = c then c + 80 else c
set_option maxHeartbeats 1000000 in
theorem downR_out (c : Int) (w : World) (h : c < 0 ∨ 1114111 < c) (hw1 : -9223372036854775808 ≤ c) (hw2 : c ≤ 9223372036854775807) : Calls Tryd.prog 34 #[.int .i64 c] w fun e w' => e = .returned (.int .i64 c) ∧ Below w.heap.size w w' := by
  rcases h with h | h
  · go_enter Tryd.func34, Tryd.ntmps34
    go_wp2
    go_ret
    exact ⟨rfl, (Below.refl _ _).alloc (Nat.le_refl _) _⟩
  · have h' : ¬ c < 0 := by omega
    go_enter Tryd.func34, Tryd.ntmps34
    go_wp2
    go_ret
    exact ⟨rfl, (Below.refl _ _).alloc (Nat.le_refl _) _⟩
set_option maxHeartbeats 1000000 in
theorem downR_core (c m1 m2 r : Int) (f1 f2 : Bool) (w : World) (h0 : 0 ≤ c) (h1 : c ≤ 1114111)
    (c1 : ∀ w, Calls Tryd.prog 48 #[.int .i64 (c + 32)] w fun e w' => e = .returned (.tuple #[.int .i64 m1, .bool f1]) ∧ w = w')
    (c2 : ∀ w, Calls Tryd.prog 48 #[.int .i64 (c + 80)] w fun e w' => e = .returned (.tuple #[.int .i64 m2, .bool f2]) ∧ w = w')
    (hr : r = if f1 = true ∧ m1 = c then c + 32 else if f2 = true ∧ m2 = c then c + 80 else c) :
    Calls Tryd.prog 34 #[.int .i64 c] w fun e w' => e = .returned (.int .i64 r) ∧ Below w.heap.size w w' := by
  have HR : Hid _ := Lib.hid hr
  clear hr
  go_enter Tryd.func34, Tryd.ntmps34
  go_wp2
  go_loop [4] (fun i => (i = .int .i64 0 ∧ Hid True) ∨ (i = .int .i64 1 ∧ Hid (¬ (f1 = true ∧ m1 = c))) ∨ (i = .int .i64 2 ∧ Hid (¬ (f1 = true ∧ m1 = c) ∧ ¬ (f2 = true ∧ m2 = c)))) (fun i => (2 - intOf i).toNat)
  case atStart => exact Or.inl ⟨rfl, Lib.hid trivial⟩
  case round =>
    rcases hrel with ⟨rfl, HK⟩ | ⟨rfl, HK⟩ | ⟨rfl, HK⟩
    · cases f1 with
      | true =>
        by_cases hm : m1 = c
        · have er : r = c + 32 := by have h2 := HR.out; simpa [hm] using h2
          have hmb : (m1 == c) = true := by simp [hm]
          subst er
          clear HR hm HK
          go_wp2_with (go_at_call 48; ((with_reducible refine (c1 _).mono ?_); rintro e w' ⟨rfl, rfl⟩))
          go_ret
          exact ⟨rfl, (Below.refl _ _).alloc (Nat.le_refl _) _⟩
        · have hmb : (m1 == c) = false := by simp [hm]
          have HM : Hid _ := Lib.hid hm
          clear hm
          go_wp2_with (go_at_call 48; ((with_reducible refine (c1 _).mono ?_); rintro e w' ⟨rfl, rfl⟩))
          go_round
          case rel => exact Or.inr (Or.inl ⟨rfl, Lib.hid (fun h => HM.out h.2)⟩)
          case measure => simp [intOf]
      | false =>
        go_wp2_with (go_at_call 48; ((with_reducible refine (c1 _).mono ?_); rintro e w' ⟨rfl, rfl⟩))
        go_round
        case rel => exact Or.inr (Or.inl ⟨rfl, Lib.hid (fun h => by cases h.1)⟩)
        case measure => simp [intOf]
    · cases f2 with
      | true =>
        by_cases hm : m2 = c
        · have er : r = c + 80 := by have h2 := HR.out; have h3 := HK.out; rw [if_neg h3] at h2; simpa [hm] using h2
          have hmb : (m2 == c) = true := by simp [hm]
          subst er
          clear HR hm HK
          go_wp2_with (go_at_call 48; ((with_reducible refine (c2 _).mono ?_); rintro e w' ⟨rfl, rfl⟩))
          go_ret
          exact ⟨rfl, (Below.refl _ _).alloc (Nat.le_refl _) _⟩
        · have hmb : (m2 == c) = false := by simp [hm]
          have HM : Hid _ := Lib.hid hm
          clear hm
          go_wp2_with (go_at_call 48; ((with_reducible refine (c2 _).mono ?_); rintro e w' ⟨rfl, rfl⟩))
          go_round
          case rel => exact Or.inr (Or.inr ⟨rfl, Lib.hid ⟨HK.out, fun h => HM.out h.2⟩⟩)
          case measure => simp [intOf]
      | false =>
        go_wp2_with (go_at_call 48; ((with_reducible refine (c2 _).mono ?_); rintro e w' ⟨rfl, rfl⟩))
        go_round
        case rel => exact Or.inr (Or.inr ⟨rfl, Lib.hid ⟨HK.out, fun h => by cases h.1⟩⟩)
        case measure => simp [intOf]
    · have er : r = c := by have h2 := HR.out; have h3 := HK.out; rw [if_neg h3.1, if_neg h3.2] at h2; exact h2
      subst er
      clear HR HK
      go_wp2
      go_ret
      exact ⟨rfl, (Below.refl _ _).alloc (Nat.le_refl _) _⟩
theorem downR_any (c : Int) (w : World) (hw1 : -9223372036854775808 ≤ c) (hw2 : c ≤ 9223372036854775807) : Calls Tryd.prog 34 #[.int .i64 c] w fun e w' => e = .returned (.int .i64 (downR c)) ∧ Below w.heap.size w w' := by
  unfold downR
  by_cases h : c < 0 ∨ 1114111 < c
  · rw [if_pos h]; exact downR_out c w h hw1 hw2
  · rw [if_neg h]; exact downR_core c _ _ _ _ _ w (by omega) (by omega) (fun w => small_any (c + 32) w) (fun w => small_any (c + 80) w) rfl
end Go.Proofs.YtjajeijeoohpoaaDoor
