/- Closed facts of ReadDeep's row, apart (together they outgrow the lid on memory). -/
import Derived.Test.YtbbopdkbokbafaaGreatDoorRdBase
namespace Go.Proofs.YtbbopdkbokbafaaGreatDoor.readDeep
open Go.RowKit
theorem k10 : (Rows.readDeepRow.inPlace == Tryz.pinned.checked.prog.inPlace 9) = true := by kernel_rfl
theorem k11 : (Rows.readDeepRow.unfollowed == Tryz.pinned.checked.prog.unfollowed 9) = true := by kernel_rfl
theorem k12 : (Rows.readDeepRow.recurses == Tryz.pinned.checked.prog.recurses 9) = true := by kernel_rfl
theorem k13 : (Rows.readDeepRow.named == Tryz.pinned.checked.prog.varsNamed 9) = true := by kernel_rfl
theorem closed : joinedFacts Tryz.pinned.checked.prog 9 Tryz.f9 (OpenSpec.ofChange Rows.readDeepSpec).bare Rows.readDeepRow = true := by
  unfold joinedFacts
  rw [k10, k11, k12, k13]
  kernel_rfl
end Go.Proofs.YtbbopdkbokbafaaGreatDoor.readDeep
