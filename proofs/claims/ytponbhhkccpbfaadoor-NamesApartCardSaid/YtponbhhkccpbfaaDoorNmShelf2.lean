/- The library functions that this package reaches, each by its contract in the library, at this program's numbers. Conditions: as each contract says. -/
import Derived.Shelf.SlMaps.Clone
import Derived.Ground.SlmcProg
import Derived.Test.YtponbhhkccpbfaaDoorProg
namespace Go.Proofs
open Go.Shelf
def Tryd.mcloneA_ren : Go.Shelf.Ren := ⟨fun | 5 => 47 | 7 => 67 | n => n, fun | 23 => 71 | 25 => 9 | 3 => 3 | 4 => 4 | 20 => 20 | n => n, fun | n => n⟩
theorem Tryd.mcloneA : Go.Proofs.SlLaysW.n5 Tryd.prog Tryd.mcloneA_ren := {
  mixed := by kernel_rfl
  f5 := ⟨Tryd.f47.name, by decide, Tryd.func47.trans (congrArg some (by kernel_rfl))⟩
  f7 := Tryd.func67.trans (congrArg some (by kernel_rfl))
  t4 := Tryd.underlying4
  a4 := Tryd.isAgg4
  z4 := Tryd.sizeOf4
  v4 := Tryd.zeroValue4
  t20 := Tryd.underlying20
  a20 := Tryd.isAgg20
  z20 := Tryd.sizeOf20
  v20 := Tryd.zeroValue20
  t23 := Tryd.underlying71
  a23 := Tryd.isAgg71
  z23 := Tryd.sizeOf71
  v23 := Tryd.zeroValue71 }
end Go.Proofs
