/- The walks of the laws RunesChars and RunesFolds, for every int. Condition: unicode/utf8's two tables hold what the program's text lays. -/
import Derived.Test.YtjajeijeoohpoaaDoorMath
import Derived.Test.YtjajeijeoohpoaaDoorLives
namespace Go.Proofs.YtjajeijeoohpoaaDoor
open Go.RowKit Go.Lib Go.Shelf
def Fits (c : Int) : Prop := -9223372036854775808 ≤ c ∧ c ≤ 9223372036854775807
/-- A contract that may be met anywhere behind w. -/
abbrev After (w : World) (f : Nat) (args : Array Value) (v : Value) : Prop :=
  ∀ W, Below w.heap.size w W → Calls Tryd.prog f args W fun e w' => e = .returned v ∧ Below w.heap.size w w'
theorem After.of {w : World} {f : Nat} {args : Array Value} {v : Value} (h : ∀ W, Calls Tryd.prog f args W fun e w' => e = .returned v ∧ Below W.heap.size W w') : After w f args v := fun W hb => by
  refine (h W).mono ?_
  rintro e w' ⟨he, hb'⟩
  exact ⟨he, hb.trans (hb'.mono hb.size)⟩
theorem After.ofT {w : World} {f : Nat} {args : Array Value} {v : Value} (hT : Tabs w) (h : ∀ W, Tabs W → Calls Tryd.prog f args W fun e w' => e = .returned v ∧ Below W.heap.size W w') : After w f args v := fun W hb => by
  refine (h W (hT.below hb hT.size)).mono ?_
  rintro e w' ⟨he, hb'⟩
  exact ⟨he, hb.trans (hb'.mono hb.size)⟩
theorem After.same {w : World} {f : Nat} {args : Array Value} {v : Value} (h : ∀ W, Calls Tryd.prog f args W fun e w' => e = .returned v ∧ W = w') : After w f args v := fun W hb => by
  refine (h W).mono ?_
  rintro e w' ⟨he, rfl⟩
  exact ⟨he, hb⟩
theorem up_fits (c : Int) (h : Fits c) : Fits (upZ c) := by
  unfold Fits at *
  have := up_cases c
  unfold upZ at *
  omega
theorem down_fits (c : Int) (h : Fits c) : Fits (downZ c) := by
  unfold Fits at *
  have := down_cases c
  unfold downZ at *
  omega
theorem up_any (c : Int) (h : Fits c) (w : World) : Calls Tryd.prog 16 #[.int .i64 c] w fun e w' => e = .returned (.int .i64 (upZ c)) ∧ Below w.heap.size w w' :=
  up_core c _ _ w (up_fits c h).1 (up_fits c h).2 (find_new spansUp spansUp_up (by decide) 59 c w 8 rfl)
theorem down_any (c : Int) (h : Fits c) (w : World) : Calls Tryd.prog 18 #[.int .i64 c] w fun e w' => e = .returned (.int .i64 (downZ c)) ∧ Below w.heap.size w w' :=
  down_core c _ _ w (down_fits c h).1 (down_fits c h).2 (find_new spansDown spansDown_up (by decide) 60 c w 7 rfl)
theorem word_any (c : Int) (w : World) : Calls Tryd.prog 19 #[.int .i64 c] w fun e w' => e = .returned (.bool (wordZ c)) ∧ Below w.heap.size w w' :=
  word_core c _ _ w (find_new spansWord spansWord_up (by decide) 61 c w 18 rfl)
theorem width_any (c : Int) (w : World) : Calls Tryd.prog 15 #[.int .i64 c] w fun e w' => e = .returned (.int .i64 (widZ c)) ∧ Below w.heap.size w w' := by
  unfold widZ
  cases hc : isZ c
  · rw [if_neg (by simp)]; exact width_not c w hc
  · have cF := find_new spansWidth spansWidth_up (by decide) 56 c w 21 rfl
    rw [if_pos rfl]
    cases hf : (findL spansWidth c).2
    · rw [hf] at cF; exact width_false c _ w hc cF
    · rw [hf] at cF; exact width_true c _ w hc cF
set_option maxHeartbeats 400000 in
theorem fold_any (c : Int) (h : Fits c) (w : World) : Calls Tryd.prog 17 #[.int .i64 c] w fun e w' => e = .returned (.int .i64 (foldZ c)) ∧ Below w.heap.size w w' := by
  have cU := up_any c h w
  have cD : After w 18 #[.int .i64 (upZ c)] (.int .i64 (foldZ c)) := After.of (fun W => down_any (upZ c) (up_fits c h) W)
  generalize upZ c = u at cU cD
  generalize foldZ c = r at cD ⊢
  clear h
  go_enter Tryd.func17, Tryd.ntmps17
  go_wp2_with (first | (go_at_call 16; ((with_reducible refine cU.mono ?_); rintro e W1 ⟨rfl, hb⟩)) | (go_at_call 18; ((with_reducible refine (cD _ hb).mono ?_); rintro e W2 ⟨rfl, hb2⟩)))
  go_ret
  exact ⟨rfl, hb2⟩
set_option maxHeartbeats 400000 in
theorem foldR_any (c : Int) (h : Fits c) (w : World) : Calls Tryd.prog 35 #[.int .i64 c] w fun e w' => e = .returned (.int .i64 (foldZ c)) ∧ Below w.heap.size w w' := by
  have cU := upR_any c w
  rw [← up_small] at cU
  have cD : After w 34 #[.int .i64 (upZ c)] (.int .i64 (foldZ c)) := After.of (fun W => by
    have := downR_any (upZ c) W (up_fits c h).1 (up_fits c h).2
    rw [← down_same] at this
    exact this)
  generalize upZ c = u at cU cD
  generalize foldZ c = r at cD ⊢
  clear h
  go_enter Tryd.func35, Tryd.ntmps35
  have hb := Below.refl w.heap.size w
  go_wp2_with (first | (go_at_call 33; ((with_reducible refine cU.mono ?_); rintro e W1 ⟨rfl, rfl⟩)) | (go_at_call 34; ((with_reducible refine (cD _ hb).mono ?_); rintro e W2 ⟨rfl, hb2⟩)))
  go_ret
  exact ⟨rfl, hb2⟩
set_option maxHeartbeats 1000000 in
theorem chars_walk (c u d f wi : Int) (b wo : Bool) (w : World)
    (k10 : After w 10 #[] (.bool true)) (k21 : After w 21 #[.int .i64 c] (.bool b)) (k31 : After w 31 #[.int .i64 c] (.bool b))
    (k15 : After w 15 #[.int .i64 c] (.int .i64 wi)) (k32 : After w 32 #[.int .i64 c] (.int .i64 wi))
    (k16 : After w 16 #[.int .i64 c] (.int .i64 u)) (k33 : After w 33 #[.int .i64 c] (.int .i64 u))
    (k18 : After w 18 #[.int .i64 c] (.int .i64 d)) (k34 : After w 34 #[.int .i64 c] (.int .i64 d))
    (k17 : After w 17 #[.int .i64 c] (.int .i64 f)) (k35 : After w 35 #[.int .i64 c] (.int .i64 f))
    (k19 : After w 19 #[.int .i64 c] (.bool wo)) (k36 : After w 36 #[.int .i64 c] (.bool wo)) :
    Calls Tryd.prog 5 #[.int .i64 c] w fun e w' => e = .returned (.bool true) ∧ Below w.heap.size w w' := by
  have hb := Below.refl w.heap.size w
  go_enter Tryd.func5, Tryd.ntmps5
  go_wp2_with (first | (go_at_call 10; ((with_reducible refine (k10 _ hb).mono ?_); rintro e W1 ⟨rfl, hb⟩)) | (go_at_call 21; ((with_reducible refine (k21 _ hb).mono ?_); rintro e W1 ⟨rfl, hb⟩)) | (go_at_call 31; ((with_reducible refine (k31 _ hb).mono ?_); rintro e W1 ⟨rfl, hb⟩)) | (go_at_call 15; ((with_reducible refine (k15 _ hb).mono ?_); rintro e W1 ⟨rfl, hb⟩)) | (go_at_call 32; ((with_reducible refine (k32 _ hb).mono ?_); rintro e W1 ⟨rfl, hb⟩)) | (go_at_call 16; ((with_reducible refine (k16 _ hb).mono ?_); rintro e W1 ⟨rfl, hb⟩)) | (go_at_call 33; ((with_reducible refine (k33 _ hb).mono ?_); rintro e W1 ⟨rfl, hb⟩)) | (go_at_call 18; ((with_reducible refine (k18 _ hb).mono ?_); rintro e W1 ⟨rfl, hb⟩)) | (go_at_call 34; ((with_reducible refine (k34 _ hb).mono ?_); rintro e W1 ⟨rfl, hb⟩)) | (go_at_call 17; ((with_reducible refine (k17 _ hb).mono ?_); rintro e W1 ⟨rfl, hb⟩)) | (go_at_call 35; ((with_reducible refine (k35 _ hb).mono ?_); rintro e W1 ⟨rfl, hb⟩)) | (go_at_call 19; ((with_reducible refine (k19 _ hb).mono ?_); rintro e W1 ⟨rfl, hb⟩)) | (go_at_call 36; ((with_reducible refine (k36 _ hb).mono ?_); rintro e W1 ⟨rfl, hb⟩)))
  go_ret
  exact ⟨rfl, hb⟩
theorem chars_any (c : Int) (h : Fits c) (w : World) (hT : Tabs w) : Calls Tryd.prog 5 #[.int .i64 c] w fun e w' => e = .returned (.bool true) ∧ Below w.heap.size w w' :=
  chars_walk c (upZ c) (downZ c) (foldZ c) (widZ c) (isZ c) (wordZ c) w (After.ofT hT lives_any) (After.same (is_any c)) (After.same (isR_any c))
    (After.of (width_any c)) (After.of (fun W => by rw [width_same]; exact widthR_any c W)) (After.of (up_any c h)) (After.same (fun W => by rw [up_small]; exact upR_any c W))
    (After.of (down_any c h)) (After.of (fun W => by rw [down_same]; exact downR_any c W h.1 h.2)) (After.of (fold_any c h)) (After.of (foldR_any c h))
    (After.of (word_any c)) (After.of (fun W => by rw [word_same]; exact wordR_any c W))
end Go.Proofs.YtjajeijeoohpoaaDoor
