/- The library functions that this package reaches, each by its contract in the library, at this program's numbers. Conditions: as each contract says. -/
import Derived.Shelf.SlMaps.Clone
import Derived.Ground.SlmcProg
import Derived.Test.YtgkblfegjmeolaaProg
namespace Go.Proofs
open Go.Shelf
def Try.mcloneA_ren : Go.Shelf.Ren := ⟨fun | 5 => 53 | 7 => 64 | n => n, fun | 23 => 55 | 25 => 3 | 3 => 76 | 4 => 4 | 20 => 20 | n => n, fun | n => n⟩
theorem Try.mcloneA : Go.Proofs.SlLaysW.n5 Try.prog Try.mcloneA_ren := {
  mixed := by kernel_rfl
  f5 := ⟨Try.f53.name, by decide, Try.func53.trans (congrArg some (by kernel_rfl))⟩
  f7 := Try.func64.trans (congrArg some (by kernel_rfl))
  t4 := Try.underlying4
  a4 := Try.isAgg4
  z4 := Try.sizeOf4
  v4 := Try.zeroValue4
  t20 := Try.underlying20
  a20 := Try.isAgg20
  z20 := Try.sizeOf20
  v20 := Try.zeroValue20
  t23 := Try.underlying55
  a23 := Try.isAgg55
  z23 := Try.sizeOf55
  v23 := Try.zeroValue55 }
end Go.Proofs
