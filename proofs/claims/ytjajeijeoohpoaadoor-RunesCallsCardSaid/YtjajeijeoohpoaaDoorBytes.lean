/- The contract of the reference's bytes, for every character. Conditions: none. -/
import Derived.Test.YtjajeijeoohpoaaDoorPlain2
import Derived.Test.YtjajeijeoohpoaaDoorJoins
namespace Go.Proofs.YtjajeijeoohpoaaDoor
open Go.RowKit Go.Lib
set_option maxHeartbeats 1000000 in
theorem bytes_any (c : Int) (w : World) (hc : isZ c = true) : Calls Tryd.prog 45 #[.int .i64 c] w fun e w' => e = .returned (.slice (some ⟨w.heap.size, 0, none⟩) (runeCells c).length (runeCells c).length) ∧ w.alloc (.cells (runeCells c).toArray 5) = w' := by
  have hz := (isZ_def c).1 hc
  obtain ⟨z0, z1, _⟩ := hz
  by_cases h1 : c < 128
  · have e1 : runeCells c = [.int .u8 c] := by unfold runeCells; rw [encodeRuneZ_one z0 (by omega)]; rfl
    rw [e1]
    go_enter Tryd.func45, Tryd.ntmps45
    go_wp2
    go_ret
    exact ⟨rfl, rfl⟩
  · by_cases h2 : c < 2048
    · have e1 : runeCells c = [.int .u8 (192 + c / 64), .int .u8 (128 + c % 64)] := by unfold runeCells; rw [encodeRuneZ_two (by omega) (by omega)]; rfl
      rw [e1]
      go_enter Tryd.func45, Tryd.ntmps45
      go_wp2
      go_ret
      exact ⟨rfl, rfl⟩
    · by_cases h3 : c < 65536
      · have e1 : runeCells c = [.int .u8 (224 + c / 4096), .int .u8 (128 + c / 64 % 64), .int .u8 (128 + c % 64)] := by unfold runeCells; rw [encodeRuneZ_three (by omega)]; rfl
        rw [e1]
        go_enter Tryd.func45, Tryd.ntmps45
        go_wp2
        go_ret
        exact ⟨rfl, rfl⟩
      · have e1 : runeCells c = [.int .u8 (240 + c / 262144), .int .u8 (128 + c / 4096 % 64), .int .u8 (128 + c / 64 % 64), .int .u8 (128 + c % 64)] := by unfold runeCells; rw [encodeRuneZ_four (by omega) (by omega)]; rfl
        rw [e1]
        go_enter Tryd.func45, Tryd.ntmps45
        go_wp2
        go_ret
        exact ⟨rfl, rfl⟩
end Go.Proofs.YtjajeijeoohpoaaDoor
