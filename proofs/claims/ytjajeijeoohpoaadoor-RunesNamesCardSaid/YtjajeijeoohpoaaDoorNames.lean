/- The walk of the law RunesNames. Condition: unicode/utf8's two tables hold what the program's text lays. -/
import Derived.Test.YtjajeijeoohpoaaDoorLaws1
import Derived.Test.YtjajeijeoohpoaaDoorCut
import Derived.Test.YtjajeijeoohpoaaDoorList
namespace Go.Proofs.YtjajeijeoohpoaaDoor
open Go.RowKit Go.Lib Go.Shelf
theorem names_c0 : validD (⟨#[192, 128]⟩ : ByteArray).data.toList = false := by decide +kernel
set_option maxRecDepth 100000 in
set_option maxHeartbeats 2000000 in
theorem names_walk (w : World)
    (k12 : ∀ W, Below w.heap.size w W → Calls Tryd.prog 12 #[.slice (some ⟨W.heap.size, 0, none⟩) 1 1] (W.alloc (.cells #[.int .i64 55296] 3)) fun e w' => e = .returned (.tuple #[.string ⟨#[]⟩, .int .i64 3]) ∧ Below w.heap.size w w')
    (k10 : After w 10 #[] (.bool true))
    (k11a : After w 11 #[.string ⟨#[97, 98, 99]⟩, .int .i64 1, .int .i64 2] (.tuple #[.string ⟨#[98]⟩, .int .i64 0]))
    (k11b : After w 11 #[.string ⟨#[97, 98, 99]⟩, .int .i64 2, .int .i64 1] (.tuple #[.string ⟨#[]⟩, .int .i64 3]))
    (k13 : After w 13 #[.string ⟨#[192, 128]⟩] (.tuple #[.slice none 0 0, .int .i64 5]))
    (k14 : After w 14 #[.string ⟨#[97]⟩, .int .i64 1] (.tuple #[.int .i64 0, .bool false]))
    (k15a : After w 15 #[.int .i64 1] (.int .i64 2))
    (k15b : After w 15 #[.int .i64 9] (.int .i64 1))
    (k15c : After w 15 #[.int .i64 769] (.int .i64 0))
    (k15d : After w 15 #[.int .i64 19968] (.int .i64 2))
    (k16 : After w 16 #[.int .i64 962] (.int .i64 931))
    (k17 : After w 17 #[.int .i64 962] (.int .i64 963))
    (k18 : After w 18 #[.int .i64 65] (.int .i64 97))
    (k19a : After w 19 #[.int .i64 55] (.bool true))
    (k19b : After w 19 #[.int .i64 45] (.bool false))
    (k20 : After w 20 #[.string ⟨#[237, 160, 128]⟩] (.bool false))
    (k21 : After w 21 #[.int .i64 (-1)] (.bool false)) :
    Calls Tryd.prog 3 #[] w fun e w' => e = .returned (.bool true) ∧ Below w.heap.size w w' := by
  have hb := Below.refl w.heap.size w
  go_enter Tryd.func3, Tryd.ntmps3
  go_wp2_with (first | (go_at_call 12; ((with_reducible refine (k12 _ hb).mono ?_); rintro e W1 ⟨rfl, hb⟩)) | (go_at_call 10; first | ((with_reducible refine (k10 _ hb).mono ?_); rintro e W1 ⟨rfl, hb⟩)) | (go_at_call 11; first | ((with_reducible refine (k11a _ hb).mono ?_); rintro e W1 ⟨rfl, hb⟩) | ((with_reducible refine (k11b _ hb).mono ?_); rintro e W1 ⟨rfl, hb⟩)) | (go_at_call 13; first | ((with_reducible refine (k13 _ hb).mono ?_); rintro e W1 ⟨rfl, hb⟩)) | (go_at_call 14; first | ((with_reducible refine (k14 _ hb).mono ?_); rintro e W1 ⟨rfl, hb⟩)) | (go_at_call 15; first | ((with_reducible refine (k15a _ hb).mono ?_); rintro e W1 ⟨rfl, hb⟩) | ((with_reducible refine (k15b _ hb).mono ?_); rintro e W1 ⟨rfl, hb⟩) | ((with_reducible refine (k15c _ hb).mono ?_); rintro e W1 ⟨rfl, hb⟩) | ((with_reducible refine (k15d _ hb).mono ?_); rintro e W1 ⟨rfl, hb⟩)) | (go_at_call 16; first | ((with_reducible refine (k16 _ hb).mono ?_); rintro e W1 ⟨rfl, hb⟩)) | (go_at_call 17; first | ((with_reducible refine (k17 _ hb).mono ?_); rintro e W1 ⟨rfl, hb⟩)) | (go_at_call 18; first | ((with_reducible refine (k18 _ hb).mono ?_); rintro e W1 ⟨rfl, hb⟩)) | (go_at_call 19; first | ((with_reducible refine (k19a _ hb).mono ?_); rintro e W1 ⟨rfl, hb⟩) | ((with_reducible refine (k19b _ hb).mono ?_); rintro e W1 ⟨rfl, hb⟩)) | (go_at_call 20; first | ((with_reducible refine (k20 _ hb).mono ?_); rintro e W1 ⟨rfl, hb⟩)) | (go_at_call 21; first | ((with_reducible refine (k21 _ hb).mono ?_); rintro e W1 ⟨rfl, hb⟩)))
  go_ret
  exact ⟨rfl, hb⟩
theorem names_any (w : World) (hT : Tabs w) : Calls Tryd.prog 3 #[] w fun e w' => e = .returned (.bool true) ∧ Below w.heap.size w w' := by
  have k10 : After w 10 #[] (.bool true) := After.ofT hT lives_any
  have k11a : After w 11 #[.string ⟨#[97, 98, 99]⟩, .int .i64 1, .int .i64 2] (.tuple #[.string ⟨#[98]⟩, .int .i64 0]) := by
    have s1 : cutS (⟨#[97, 98, 99]⟩ : ByteArray).data.toList 1 2 = ⟨#[98]⟩ := by decide +kernel
    have s2 : cutE (⟨#[97, 98, 99]⟩ : ByteArray).data.toList 1 2 = 0 := by decide +kernel
    have h := After.ofT (w := w) hT (fun W hW => cut_any ⟨#[97, 98, 99]⟩ 1 2 W (by decide) hW)
    rw [s1, s2] at h
    exact h
  have k11b : After w 11 #[.string ⟨#[97, 98, 99]⟩, .int .i64 2, .int .i64 1] (.tuple #[.string ⟨#[]⟩, .int .i64 3]) := by
    have s1 : cutS (⟨#[97, 98, 99]⟩ : ByteArray).data.toList 2 1 = ⟨#[]⟩ := by decide +kernel
    have s2 : cutE (⟨#[97, 98, 99]⟩ : ByteArray).data.toList 2 1 = 3 := by decide +kernel
    have h := After.ofT (w := w) hT (fun W hW => cut_any ⟨#[97, 98, 99]⟩ 2 1 W (by decide) hW)
    rw [s1, s2] at h
    exact h
  have k13 : After w 13 #[.string ⟨#[192, 128]⟩] (.tuple #[.slice none 0 0, .int .i64 5]) := After.ofT hT (fun W hW => list_not ⟨#[192, 128]⟩ W (by decide) hW names_c0)
  have k14 : After w 14 #[.string ⟨#[97]⟩, .int .i64 1] (.tuple #[.int .i64 0, .bool false]) := by
    have s1 : atD (⟨#[97]⟩ : ByteArray).data.toList 1 = (0, false) := by decide +kernel
    have h := After.ofT (w := w) hT (fun W hW => at_any ⟨#[97]⟩ 1 W (by decide) (by decide) hW)
    rw [s1] at h
    exact h
  have k15a : After w 15 #[.int .i64 1] (.int .i64 2) := by
    have s1 : widZ 1 = 2 := by decide +kernel
    have h := After.of (w := w) (width_any 1)
    rw [s1] at h
    exact h
  have k15b : After w 15 #[.int .i64 9] (.int .i64 1) := by
    have s1 : widZ 9 = 1 := by decide +kernel
    have h := After.of (w := w) (width_any 9)
    rw [s1] at h
    exact h
  have k15c : After w 15 #[.int .i64 769] (.int .i64 0) := by
    have s1 : widZ 769 = 0 := by decide +kernel
    have h := After.of (w := w) (width_any 769)
    rw [s1] at h
    exact h
  have k15d : After w 15 #[.int .i64 19968] (.int .i64 2) := by
    have s1 : widZ 19968 = 2 := by decide +kernel
    have h := After.of (w := w) (width_any 19968)
    rw [s1] at h
    exact h
  have k16 : After w 16 #[.int .i64 962] (.int .i64 931) := by
    have s1 : upZ 962 = 931 := by decide +kernel
    have h := After.of (w := w) (up_any 962 (by unfold Fits; omega))
    rw [s1] at h
    exact h
  have k17 : After w 17 #[.int .i64 962] (.int .i64 963) := by
    have s1 : foldZ 962 = 963 := by decide +kernel
    have h := After.of (w := w) (fold_any 962 (by unfold Fits; omega))
    rw [s1] at h
    exact h
  have k18 : After w 18 #[.int .i64 65] (.int .i64 97) := by
    have s1 : downZ 65 = 97 := by decide +kernel
    have h := After.of (w := w) (down_any 65 (by unfold Fits; omega))
    rw [s1] at h
    exact h
  have k19a : After w 19 #[.int .i64 55] (.bool true) := by
    have s1 : wordZ 55 = true := by decide +kernel
    have h := After.of (w := w) (word_any 55)
    rw [s1] at h
    exact h
  have k19b : After w 19 #[.int .i64 45] (.bool false) := by
    have s1 : wordZ 45 = false := by decide +kernel
    have h := After.of (w := w) (word_any 45)
    rw [s1] at h
    exact h
  have k20 : After w 20 #[.string ⟨#[237, 160, 128]⟩] (.bool false) := by
    have s1 : validD (⟨#[237, 160, 128]⟩ : ByteArray).data.toList = false := by decide +kernel
    have h := After.ofT (w := w) hT (fun W hW => valid_any ⟨#[237, 160, 128]⟩ W (by decide) hW)
    rw [s1] at h
    exact h
  have k21 : After w 21 #[.int .i64 (-1)] (.bool false) := by
    have s1 : isZ (-1) = false := by decide +kernel
    have h := After.same (w := w) (is_any (-1))
    rw [s1] at h
    exact h
  refine names_walk w (fun W hb => ?_) k10 k11a k11b k13 k14 k15a k15b k15c k15d k16 k17 k18 k19a k19b k20 k21
  refine (text_any (.slice (some ⟨W.heap.size, 0, none⟩) 1 1) [55296] (W.alloc (.cells #[.int .i64 55296] 3)) ⟨some ⟨W.heap.size, 0, none⟩, 1, rfl, fun i x hx => ⟨W.heap.size, 0, rfl, by simp, ?_⟩⟩ (by simp)).mono ?_
  · match i, hx with
    | 0, hx => simp at hx; subst hx; exact World.cell?_alloc_at _ _ _ _ rfl
    | i + 1, hx => simp at hx
  · have s1 : textS [55296] = ⟨#[]⟩ := by decide +kernel
    have s2 : textE [55296] = 3 := by decide +kernel
    rintro e w' ⟨he, hb'⟩
    rw [s1, s2] at he
    exact ⟨he, (hb.alloc hb.size _).trans (hb'.mono (by have := hb.size; simp; omega))⟩
end Go.Proofs.YtjajeijeoohpoaaDoor
