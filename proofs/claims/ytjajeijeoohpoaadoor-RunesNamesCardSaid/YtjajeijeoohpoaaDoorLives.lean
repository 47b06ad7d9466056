/- The contract of the laws' lives. Condition: unicode/utf8's two tables hold what the program's text lays. -/
import Derived.Test.YtjajeijeoohpoaaDoorStr
namespace Go.Proofs.YtjajeijeoohpoaaDoor
open Go.RowKit Go.Lib Go.Shelf
theorem lives_at : atD [97, 195, 169] 1 = (233, true) := by decide +kernel
theorem lives_len : lenD [97, 195, 169] = 2 := by decide +kernel
set_option maxHeartbeats 400000 in
theorem lives_any (w : World) (hT : Tabs w) :
    Calls Tryd.prog 10 #[] w fun e w' => e = .returned (.bool true) ∧ Below w.heap.size w w' := by
  have cA : Calls Tryd.prog 14 #[.string ⟨#[97, 195, 169]⟩, .int .i64 1] w _ := at_any ⟨#[97, 195, 169]⟩ 1 w (by decide) (by decide) hT
  rw [show (⟨#[97, 195, 169]⟩ : ByteArray).data.toList = [97, 195, 169] from rfl, lives_at] at cA
  have cL : ∀ W, Below w.heap.size w W → Calls Tryd.prog 28 #[.string ⟨#[97, 195, 169]⟩] W fun e w' => e = .returned (.int .i64 2) ∧ Below w.heap.size w w' := fun W hb => by
    refine (len_any ⟨#[97, 195, 169]⟩ W (by decide) (hT.below hb hT.size)).mono ?_
    rintro e w' ⟨he, hb'⟩
    rw [show (⟨#[97, 195, 169]⟩ : ByteArray).data.toList = [97, 195, 169] from rfl, lives_len] at he
    exact ⟨he, hb.trans (hb'.mono hb.size)⟩
  go_enter Tryd.func10, Tryd.ntmps10
  go_wp2_with (first | (go_at_call 14; ((with_reducible refine cA.mono ?_); rintro e W1 ⟨rfl, hb⟩)) | (go_at_call 28; ((with_reducible refine (cL _ hb).mono ?_); rintro e W2 ⟨rfl, hb2⟩)))
  go_ret
  exact ⟨rfl, hb2⟩
end Go.Proofs.YtjajeijeoohpoaaDoor
