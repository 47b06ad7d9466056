/- The contracts of runes.Width and Word, for every integer. Conditions: none. -/
import Derived.Test.YtjajeijeoohpoaaDoorChars
namespace Go.Proofs.YtjajeijeoohpoaaDoor
open Go.RowKit Go.Lib Go.Shelf Go.Sort
def isZ (c : Int) : Bool := decide (0 ≤ c) && decide (c ≤ 1114111) && (decide (c < 55296) || decide (57343 < c))
set_option maxHeartbeats 400000 in
theorem is_any (c : Int) (w : World) : Calls Tryd.prog 21 #[.int .i64 c] w fun e w' => e = .returned (.bool (isZ c)) ∧ w = w' := by
  unfold isZ
  by_cases h1 : 0 ≤ c <;> by_cases h2 : c ≤ 1114111 <;> by_cases h3 : c < 55296 <;> by_cases h4 : 57343 < c <;> simp only [h1, h2, h3, h4, decide_true, decide_false, Bool.and_true, Bool.and_false, Bool.or_true, Bool.or_false] <;> (first | (exfalso; omega) | (go_enter Tryd.func21, Tryd.ntmps21; go_wp2; go_ret; exact ⟨rfl, rfl⟩))
set_option maxHeartbeats 400000 in
theorem isR_any (c : Int) (w : World) : Calls Tryd.prog 31 #[.int .i64 c] w fun e w' => e = .returned (.bool (isZ c)) ∧ w = w' := by
  unfold isZ
  by_cases h1 : 0 ≤ c <;> by_cases h2 : c ≤ 1114111 <;> by_cases h3 : c < 55296 <;> by_cases h4 : 57343 < c <;> simp only [h1, h2, h3, h4, decide_true, decide_false, Bool.and_true, Bool.and_false, Bool.or_true, Bool.or_false] <;> (first | (exfalso; omega) | (go_enter Tryd.func31, Tryd.ntmps31; go_wp2; go_ret; exact ⟨rfl, rfl⟩))

set_option maxHeartbeats 2000000 in
theorem word_core (c m : Int) (fb : Bool) (w : World)
    (cF : Calls Tryd.prog 43 #[.slice (some ⟨w.heap.size, 0, none⟩) 18 18, .int .i64 c] (w.alloc (.cells (cellsOf spansWord) 61)) fun e w' => e = .returned (.tuple #[.int .i64 m, .bool fb]) ∧ Below w.heap.size w w') :
    Calls Tryd.prog 19 #[.int .i64 c] w fun e w' => e = .returned (.bool fb) ∧ Below w.heap.size w w' := by
  go_enter Tryd.func19, Tryd.ntmps19
  go_wp2_with (first | (refine wpList_buildTo rfl 61 _ rfl _ rfl (cellsOf spansWord) (by kernel_rfl) ?_) | (refine wpList_store_new rfl 61 _ _ rfl rfl (cellsOf spansWord) _ _ rfl rfl (by kernel_rfl) (by kernel_rfl) (by kernel_rfl) ?_) | (go_at_call 43; refine cF.mono ?_; rintro e w' ⟨rfl, hb⟩))
  go_ret
  exact ⟨rfl, hb⟩

set_option maxHeartbeats 2000000 in
theorem width_true (c m : Int) (w : World) (hc : isZ c = true)
    (cF : Calls Tryd.prog 43 #[.slice (some ⟨w.heap.size, 0, none⟩) 21 21, .int .i64 c] (w.alloc (.cells (cellsOf spansWidth) 56)) fun e w' => e = .returned (.tuple #[.int .i64 m, .bool true]) ∧ Below w.heap.size w w') :
    Calls Tryd.prog 15 #[.int .i64 c] w fun e w' => e = .returned (.int .i64 m) ∧ Below w.heap.size w w' := by
  have cI := is_any c w
  rw [hc] at cI
  clear hc
  go_enter Tryd.func15, Tryd.ntmps15
  go_wp2_with (first | (go_at_call 21; refine cI.mono ?_; rintro e w' ⟨rfl, rfl⟩) | (refine wpList_buildTo rfl 56 _ rfl _ rfl (cellsOf spansWidth) (by kernel_rfl) ?_) | (refine wpList_store_new rfl 56 _ _ rfl rfl (cellsOf spansWidth) _ _ rfl rfl (by kernel_rfl) (by kernel_rfl) (by kernel_rfl) ?_) | (go_at_call 43; refine cF.mono ?_; rintro e w' ⟨rfl, hb⟩))
  go_ret
  exact ⟨rfl, hb⟩

set_option maxHeartbeats 2000000 in
theorem width_false (c m : Int) (w : World) (hc : isZ c = true)
    (cF : Calls Tryd.prog 43 #[.slice (some ⟨w.heap.size, 0, none⟩) 21 21, .int .i64 c] (w.alloc (.cells (cellsOf spansWidth) 56)) fun e w' => e = .returned (.tuple #[.int .i64 m, .bool false]) ∧ Below w.heap.size w w') :
    Calls Tryd.prog 15 #[.int .i64 c] w fun e w' => e = .returned (.int .i64 1) ∧ Below w.heap.size w w' := by
  have cI := is_any c w
  rw [hc] at cI
  clear hc
  go_enter Tryd.func15, Tryd.ntmps15
  go_wp2_with (first | (go_at_call 21; refine cI.mono ?_; rintro e w' ⟨rfl, rfl⟩) | (refine wpList_buildTo rfl 56 _ rfl _ rfl (cellsOf spansWidth) (by kernel_rfl) ?_) | (refine wpList_store_new rfl 56 _ _ rfl rfl (cellsOf spansWidth) _ _ rfl rfl (by kernel_rfl) (by kernel_rfl) (by kernel_rfl) ?_) | (go_at_call 43; refine cF.mono ?_; rintro e w' ⟨rfl, hb⟩))
  go_ret
  exact ⟨rfl, hb⟩

set_option maxHeartbeats 2000000 in
theorem width_not (c : Int) (w : World) (hc : isZ c = false) :
    Calls Tryd.prog 15 #[.int .i64 c] w fun e w' => e = .returned (.int .i64 0) ∧ Below w.heap.size w w' := by
  have cI := is_any c w
  rw [hc] at cI
  clear hc
  go_enter Tryd.func15, Tryd.ntmps15
  go_wp2_with (first | (go_at_call 21; refine cI.mono ?_; rintro e w' ⟨rfl, rfl⟩) | fail)
  go_ret
  exact ⟨rfl, Below.refl _ _⟩
end Go.Proofs.YtjajeijeoohpoaaDoor
