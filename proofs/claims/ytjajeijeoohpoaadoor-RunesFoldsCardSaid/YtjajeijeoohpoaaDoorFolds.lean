/- The walk of the law RunesFolds, for every int. Condition: unicode/utf8's two tables hold what the program's text lays. -/
import Derived.Test.YtjajeijeoohpoaaDoorLaws1
namespace Go.Proofs.YtjajeijeoohpoaaDoor
open Go.RowKit Go.Lib Go.Shelf
set_option maxHeartbeats 1000000 in
theorem folds_not (c : Int) (w : World)
    (k10 : After w 10 #[] (.bool true)) (k16 : After w 16 #[.int .i64 c] (.int .i64 c)) (k18 : After w 18 #[.int .i64 c] (.int .i64 c)) (k17 : After w 17 #[.int .i64 c] (.int .i64 c))
    (k15 : After w 15 #[.int .i64 c] (.int .i64 0)) (k21 : After w 21 #[.int .i64 c] (.bool false)) (k19 : After w 19 #[.int .i64 c] (.bool false)) :
    Calls Tryd.prog 9 #[.int .i64 c] w fun e w' => e = .returned (.bool true) ∧ Below w.heap.size w w' := by
  have hb := Below.refl w.heap.size w
  go_enter Tryd.func9, Tryd.ntmps9
  go_wp2_with (first | (go_at_call 10; first | ((with_reducible refine (k10 _ hb).mono ?_); rintro e W1 ⟨rfl, hb⟩)) | (go_at_call 16; first | ((with_reducible refine (k16 _ hb).mono ?_); rintro e W1 ⟨rfl, hb⟩)) | (go_at_call 18; first | ((with_reducible refine (k18 _ hb).mono ?_); rintro e W1 ⟨rfl, hb⟩)) | (go_at_call 17; first | ((with_reducible refine (k17 _ hb).mono ?_); rintro e W1 ⟨rfl, hb⟩)) | (go_at_call 15; first | ((with_reducible refine (k15 _ hb).mono ?_); rintro e W1 ⟨rfl, hb⟩)) | (go_at_call 21; first | ((with_reducible refine (k21 _ hb).mono ?_); rintro e W1 ⟨rfl, hb⟩)) | (go_at_call 19; first | ((with_reducible refine (k19 _ hb).mono ?_); rintro e W1 ⟨rfl, hb⟩)))
  go_ret
  exact ⟨rfl, hb⟩
set_option maxHeartbeats 2000000 in
theorem folds_char (c u d f wi : Int) (wo : Bool) (w : World) (h0 : 0 ≤ wi) (h2 : wi ≤ 2)
    (k10 : After w 10 #[] (.bool true)) (k16 : After w 16 #[.int .i64 c] (.int .i64 u)) (k18 : After w 18 #[.int .i64 c] (.int .i64 d)) (k17 : After w 17 #[.int .i64 c] (.int .i64 f))
    (k15 : After w 15 #[.int .i64 c] (.int .i64 wi)) (k21 : After w 21 #[.int .i64 c] (.bool true)) (k19 : After w 19 #[.int .i64 c] (.bool wo))
    (k16u : After w 16 #[.int .i64 u] (.int .i64 u)) (k18d : After w 18 #[.int .i64 d] (.int .i64 d)) (k17f : After w 17 #[.int .i64 f] (.int .i64 f))
    (k17u : After w 17 #[.int .i64 u] (.int .i64 f)) (k17d : After w 17 #[.int .i64 d] (.int .i64 f))
    (k21u : After w 21 #[.int .i64 u] (.bool true)) (k21d : After w 21 #[.int .i64 d] (.bool true))
    (k19u : After w 19 #[.int .i64 u] (.bool wo)) (k19d : After w 19 #[.int .i64 d] (.bool wo))
    (k15u : After w 15 #[.int .i64 u] (.int .i64 wi)) (k15d : After w 15 #[.int .i64 d] (.int .i64 wi)) :
    Calls Tryd.prog 9 #[.int .i64 c] w fun e w' => e = .returned (.bool true) ∧ Below w.heap.size w w' := by
  have hb := Below.refl w.heap.size w
  go_enter Tryd.func9, Tryd.ntmps9
  go_wp2_with (first | (go_at_call 10; first | ((with_reducible refine (k10 _ hb).mono ?_); rintro e W1 ⟨rfl, hb⟩)) | (go_at_call 16; first | ((with_reducible refine (k16 _ hb).mono ?_); rintro e W1 ⟨rfl, hb⟩) | ((with_reducible refine (k16u _ hb).mono ?_); rintro e W1 ⟨rfl, hb⟩)) | (go_at_call 18; first | ((with_reducible refine (k18 _ hb).mono ?_); rintro e W1 ⟨rfl, hb⟩) | ((with_reducible refine (k18d _ hb).mono ?_); rintro e W1 ⟨rfl, hb⟩)) | (go_at_call 17; first | ((with_reducible refine (k17 _ hb).mono ?_); rintro e W1 ⟨rfl, hb⟩) | ((with_reducible refine (k17f _ hb).mono ?_); rintro e W1 ⟨rfl, hb⟩) | ((with_reducible refine (k17u _ hb).mono ?_); rintro e W1 ⟨rfl, hb⟩) | ((with_reducible refine (k17d _ hb).mono ?_); rintro e W1 ⟨rfl, hb⟩)) | (go_at_call 15; first | ((with_reducible refine (k15 _ hb).mono ?_); rintro e W1 ⟨rfl, hb⟩) | ((with_reducible refine (k15u _ hb).mono ?_); rintro e W1 ⟨rfl, hb⟩) | ((with_reducible refine (k15d _ hb).mono ?_); rintro e W1 ⟨rfl, hb⟩)) | (go_at_call 21; first | ((with_reducible refine (k21 _ hb).mono ?_); rintro e W1 ⟨rfl, hb⟩) | ((with_reducible refine (k21u _ hb).mono ?_); rintro e W1 ⟨rfl, hb⟩) | ((with_reducible refine (k21d _ hb).mono ?_); rintro e W1 ⟨rfl, hb⟩)) | (go_at_call 19; first | ((with_reducible refine (k19 _ hb).mono ?_); rintro e W1 ⟨rfl, hb⟩) | ((with_reducible refine (k19u _ hb).mono ?_); rintro e W1 ⟨rfl, hb⟩) | ((with_reducible refine (k19d _ hb).mono ?_); rintro e W1 ⟨rfl, hb⟩)))
  go_ret
  exact ⟨rfl, hb⟩
theorem folds_any (c : Int) (h : Fits c) (w : World) (hT : Tabs w) : Calls Tryd.prog 9 #[.int .i64 c] w fun e w' => e = .returned (.bool true) ∧ Below w.heap.size w w' := by
  cases hc : isZ c
  · obtain ⟨e1, e2, e3, e4, e5⟩ := not_char c hc
    exact folds_not c w (After.ofT hT lives_any) (After.of (fun W => by have := up_any c h W; rwa [e1] at this)) (After.of (fun W => by have := down_any c h W; rwa [e2] at this)) (After.of (fun W => by have := fold_any c h W; rwa [e3] at this))
      (After.of (fun W => by have := width_any c W; rwa [e4] at this)) (After.same (fun W => by have := is_any c W; rwa [hc] at this)) (After.of (fun W => by have := word_any c W; rwa [e5] at this))
  · have hf := folds_all c hc
    simp only [foldsZ, Bool.and_eq_true, decide_eq_true_eq] at hf
    obtain ⟨⟨⟨⟨⟨⟨⟨⟨⟨⟨e1, e2⟩, e3⟩, e4⟩, e5⟩, e6⟩, e7⟩, e8⟩, e9⟩, e10⟩, e11⟩ := hf
    have hu := up_fits c h
    have hd := down_fits c h
    have hff : Fits (foldZ c) := down_fits _ hu
    exact folds_char c (upZ c) (downZ c) (foldZ c) (widZ c) (wordZ c) w (wid_bd c).1 (wid_bd c).2 (After.ofT hT lives_any) (After.of (up_any c h)) (After.of (down_any c h)) (After.of (fold_any c h))
      (After.of (width_any c)) (After.same (fun W => by have := is_any c W; rwa [hc] at this)) (After.of (word_any c))
      (After.of (fun W => by have := up_any _ hu W; rwa [e1] at this)) (After.of (fun W => by have := down_any _ hd W; rwa [e2] at this)) (After.of (fun W => by have := fold_any _ hff W; rwa [e3] at this))
      (After.of (fun W => by have := fold_any _ hu W; rwa [e4] at this)) (After.of (fun W => by have := fold_any _ hd W; rwa [e5] at this))
      (After.same (fun W => by have := is_any (upZ c) W; rwa [e6] at this)) (After.same (fun W => by have := is_any (downZ c) W; rwa [e7] at this))
      (After.of (fun W => by have := word_any (upZ c) W; rwa [e8] at this)) (After.of (fun W => by have := word_any (downZ c) W; rwa [e9] at this))
      (After.of (fun W => by have := width_any (upZ c) W; rwa [e10] at this)) (After.of (fun W => by have := width_any (downZ c) W; rwa [e11] at this))
end Go.Proofs.YtjajeijeoohpoaaDoor
