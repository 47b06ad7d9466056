/- VarsNames: the walk. -/
import Derived.Test.YtgkblfegjmeolaaVaLives
import Derived.Test.YtgkblfegjmeolaaVaNil
namespace Go.Proofs.Ytgkblfegjmeolaa
open Go.RowKit Go.Lib Go.Shelf
def nm1 : Vs := vsN.put 0 70 ((0, 1), true)
def nm2 : Vs := { nm1 with scope := 3 }
def nm3 : Vs := nm2.makeLocal 70
def nm4 : Vs := nm3.put (nm3.home 70) 70 ((0, 5), true)
def nm5 : Vs := { nm4 with scope := 0 }
def nm6 : Vs := { nm5 with scope := 3 }
def nm7 : Vs := (nm6.bound (nm6.home 70) 70).put (nm6.home 70) 70 ((0, 6), true)
def nm8 : Vs := nm7.kill 70
def nm9 : Vs := nm8.unbind 0
def nm10 : Vs := { nm9 with scope := 0 }
theorem nm_c1 : vsN.cnt ≤ 1000000 ∧ nm2.cnt ≤ 1000000 ∧ nm3.cnt ≤ 1000000 ∧ nm6.cnt ≤ 1000000 := ⟨by decide, by decide, by decide, by decide⟩
theorem nm_m : hasC (vsN.marks 70) = false ∧ hasC (nm2.marks 70) = false ∧ hasC (nm3.marks 70) = false ∧ hasC (nm6.marks 70) = false ∧ hasC (nm9.marks 0) = true ∧ hasC (nm10.marks 70) = false ∧ hasS (nm10.marks 0) = true ∧ hasC (nm10.marks 1) = true ∧ hasS (nm10.marks 70) = false := by
  refine ⟨?_, ?_, ?_, ?_, ?_, ?_, ?_, ?_, ?_⟩ <;> rfl
theorem nm_v : nm5.at (nm5.home 70) 70 = ((0, 1), true) ∧ nm5.at 3 70 = ((0, 5), true) ∧ (nm5.cells 3 70).isSome = true ∧ nm9.at (nm9.home 70) 70 = ((0, 1), true) ∧ nm9.at (nm9.home 1) 1 = ((1, 1), true) := by
  refine ⟨?_, ?_, ?_, ?_, ?_⟩ <;> rfl
theorem nm_b : nm6.binds.length < 2000 ∧ nm8.binds.length ≤ 2000 ∧ nm10.binds.length = 0 := by
  refine ⟨by decide, by decide, rfl⟩
def opsN : Array Oper := #[
  { dst := some 64, op := Op.move (Operand.tmp 2), type := 25, pos := "law.go:38", after := #[], guard := none },
  { dst := some 65, op := Op.binOp BinOp.eql 25 (Operand.tmp 64) (Operand.const (Value.int IntKind.i64 0)) 25, type := 4, pos := "law.go:38", after := #[{ on := 0, ground := Ground.data }], guard := none },
  { dst := some 66, op := Op.move (Operand.tmp 65), type := 4, pos := "law.go:38", after := #[{ on := 1, ground := Ground.data }], guard := none },
  { dst := some 67, op := Op.move (Operand.tmp 7), type := 25, pos := "law.go:38", after := #[{ on := 2, ground := Ground.guard }], guard := some (2, true) },
  { dst := some 68, op := Op.binOp BinOp.eql 25 (Operand.tmp 67) (Operand.const (Value.int IntKind.i64 0)) 25, type := 4, pos := "law.go:38", after := #[{ on := 3, ground := Ground.data }, { on := 2, ground := Ground.guard }], guard := some (2, true) },
  { dst := some 69, op := Op.pick (Operand.tmp 66) (Operand.tmp 68) (Operand.const (Value.bool false)), type := 4, pos := "law.go:38", after := #[{ on := 2, ground := Ground.data }, { on := 4, ground := Ground.data }], guard := none },
  { dst := some 70, op := Op.move (Operand.tmp 69), type := 4, pos := "law.go:38", after := #[{ on := 5, ground := Ground.data }, { on := 2, ground := Ground.chain }], guard := none },
  { dst := some 71, op := Op.load 28 (Operand.tmp 3), type := 28, pos := "law.go:38", after := #[{ on := 6, ground := Ground.guard }], guard := some (6, true) },
  { dst := some 72, op := Op.call { callee := Callee.value (Operand.func 11), args := #[Operand.const (Value.int IntKind.i64 1)], argTypes := #[3] }, type := 28, pos := "law.go:38", after := #[{ on := 6, ground := Ground.chain }, { on := 6, ground := Ground.guard }], guard := some (6, true) },
  { dst := some 73, op := Op.binOp BinOp.eql 28 (Operand.tmp 71) (Operand.tmp 72) 28, type := 4, pos := "law.go:38", after := #[{ on := 7, ground := Ground.data }, { on := 8, ground := Ground.data }, { on := 6, ground := Ground.guard }], guard := some (6, true) },
  { dst := some 74, op := Op.pick (Operand.tmp 70) (Operand.tmp 73) (Operand.const (Value.bool false)), type := 4, pos := "law.go:38", after := #[{ on := 6, ground := Ground.data }, { on := 9, ground := Ground.data }], guard := none },
  { dst := some 75, op := Op.move (Operand.tmp 74), type := 4, pos := "law.go:38", after := #[{ on := 10, ground := Ground.data }, { on := 8, ground := Ground.chain }], guard := none },
  { dst := some 76, op := Op.load 28 (Operand.tmp 5), type := 28, pos := "law.go:38", after := #[{ on := 11, ground := Ground.guard }], guard := some (11, true) },
  { dst := some 77, op := Op.call { callee := Callee.value (Operand.func 11), args := #[Operand.const (Value.int IntKind.i64 5)], argTypes := #[3] }, type := 28, pos := "law.go:38", after := #[{ on := 11, ground := Ground.chain }, { on := 11, ground := Ground.guard }], guard := some (11, true) },
  { dst := some 78, op := Op.binOp BinOp.eql 28 (Operand.tmp 76) (Operand.tmp 77) 28, type := 4, pos := "law.go:38", after := #[{ on := 12, ground := Ground.data }, { on := 13, ground := Ground.data }, { on := 11, ground := Ground.guard }], guard := some (11, true) },
  { dst := some 79, op := Op.pick (Operand.tmp 75) (Operand.tmp 78) (Operand.const (Value.bool false)), type := 4, pos := "law.go:38", after := #[{ on := 11, ground := Ground.data }, { on := 14, ground := Ground.data }], guard := none },
  { dst := some 80, op := Op.move (Operand.tmp 79), type := 4, pos := "law.go:38", after := #[{ on := 15, ground := Ground.data }, { on := 13, ground := Ground.chain }], guard := none },
  { dst := some 81, op := Op.load 28 (Operand.tmp 8), type := 28, pos := "law.go:38", after := #[{ on := 16, ground := Ground.guard }], guard := some (16, true) },
  { dst := some 82, op := Op.call { callee := Callee.value (Operand.func 11), args := #[Operand.const (Value.int IntKind.i64 1)], argTypes := #[3] }, type := 28, pos := "law.go:38", after := #[{ on := 16, ground := Ground.chain }, { on := 16, ground := Ground.guard }], guard := some (16, true) },
  { dst := some 83, op := Op.binOp BinOp.eql 28 (Operand.tmp 81) (Operand.tmp 82) 28, type := 4, pos := "law.go:38", after := #[{ on := 17, ground := Ground.data }, { on := 18, ground := Ground.data }, { on := 16, ground := Ground.guard }], guard := some (16, true) },
  { dst := some 84, op := Op.pick (Operand.tmp 80) (Operand.tmp 83) (Operand.const (Value.bool false)), type := 4, pos := "law.go:38", after := #[{ on := 16, ground := Ground.data }, { on := 19, ground := Ground.data }], guard := none },
  { dst := some 85, op := Op.move (Operand.tmp 84), type := 4, pos := "law.go:38", after := #[{ on := 20, ground := Ground.data }, { on := 18, ground := Ground.chain }], guard := none },
  { dst := some 86, op := Op.move (Operand.tmp 1), type := 23, pos := "law.go:38", after := #[{ on := 21, ground := Ground.guard }], guard := some (21, true) },
  { dst := some 87, op := Op.call { callee := Callee.value (Operand.func 11), args := #[Operand.const (Value.int IntKind.i64 1)], argTypes := #[3] }, type := 28, pos := "law.go:38", after := #[{ on := 21, ground := Ground.chain }, { on := 21, ground := Ground.guard }], guard := some (21, true) },
  { dst := some 88, op := Op.call { callee := Callee.value (Operand.func 14), args := #[Operand.tmp 86, Operand.const (Value.int IntKind.i64 0), Operand.tmp 87], argTypes := #[23, 3, 28] }, type := 25, pos := "law.go:38", after := #[{ on := 22, ground := Ground.data }, { on := 23, ground := Ground.data }, { on := 23, ground := Ground.chain }, { on := 21, ground := Ground.guard }], guard := some (21, true) },
  { dst := some 89, op := Op.binOp BinOp.eql 25 (Operand.tmp 88) (Operand.const (Value.int IntKind.i64 10)) 25, type := 4, pos := "law.go:38", after := #[{ on := 24, ground := Ground.data }, { on := 21, ground := Ground.guard }], guard := some (21, true) },
  { dst := some 90, op := Op.pick (Operand.tmp 85) (Operand.tmp 89) (Operand.const (Value.bool false)), type := 4, pos := "law.go:38", after := #[{ on := 21, ground := Ground.data }, { on := 25, ground := Ground.data }], guard := none },
  { dst := some 91, op := Op.move (Operand.tmp 90), type := 4, pos := "law.go:38", after := #[{ on := 26, ground := Ground.data }, { on := 24, ground := Ground.chain }], guard := none },
  { dst := some 92, op := Op.move (Operand.tmp 11), type := 4, pos := "law.go:38", after := #[{ on := 27, ground := Ground.guard }], guard := some (27, true) },
  { dst := some 93, op := Op.pick (Operand.tmp 91) (Operand.tmp 92) (Operand.const (Value.bool false)), type := 4, pos := "law.go:38", after := #[{ on := 27, ground := Ground.data }, { on := 28, ground := Ground.data }], guard := none },
  { dst := some 94, op := Op.move (Operand.tmp 93), type := 4, pos := "law.go:38", after := #[{ on := 29, ground := Ground.data }, { on := 27, ground := Ground.chain }], guard := none },
  { dst := some 95, op := Op.load 28 (Operand.tmp 10), type := 28, pos := "law.go:38", after := #[{ on := 30, ground := Ground.guard }], guard := some (30, true) },
  { dst := some 96, op := Op.call { callee := Callee.value (Operand.func 20), args := #[], argTypes := #[] }, type := 28, pos := "law.go:38", after := #[{ on := 30, ground := Ground.chain }, { on := 30, ground := Ground.guard }], guard := some (30, true) },
  { dst := some 97, op := Op.binOp BinOp.eql 28 (Operand.tmp 95) (Operand.tmp 96) 28, type := 4, pos := "law.go:38", after := #[{ on := 31, ground := Ground.data }, { on := 32, ground := Ground.data }, { on := 30, ground := Ground.guard }], guard := some (30, true) },
  { dst := some 98, op := Op.pick (Operand.tmp 94) (Operand.tmp 97) (Operand.const (Value.bool false)), type := 4, pos := "law.go:38", after := #[{ on := 30, ground := Ground.data }, { on := 33, ground := Ground.data }], guard := none },
  { dst := some 99, op := Op.move (Operand.tmp 98), type := 4, pos := "law.go:38", after := #[{ on := 34, ground := Ground.data }, { on := 32, ground := Ground.chain }], guard := none },
  { dst := some 100, op := Op.move (Operand.tmp 1), type := 23, pos := "law.go:38", after := #[{ on := 35, ground := Ground.guard }], guard := some (35, true) },
  { dst := some 101, op := Op.call { callee := Callee.value (Operand.func 11), args := #[Operand.const (Value.int IntKind.i64 1)], argTypes := #[3] }, type := 28, pos := "law.go:38", after := #[{ on := 35, ground := Ground.chain }, { on := 35, ground := Ground.guard }], guard := some (35, true) },
  { dst := some 102, op := Op.call { callee := Callee.value (Operand.func 14), args := #[Operand.tmp 100, Operand.const (Value.int IntKind.i64 (-1)), Operand.tmp 101], argTypes := #[23, 3, 28] }, type := 25, pos := "law.go:38", after := #[{ on := 36, ground := Ground.data }, { on := 37, ground := Ground.data }, { on := 37, ground := Ground.chain }, { on := 35, ground := Ground.guard }], guard := some (35, true) },
  { dst := some 103, op := Op.binOp BinOp.eql 25 (Operand.tmp 102) (Operand.const (Value.int IntKind.i64 8)) 25, type := 4, pos := "law.go:38", after := #[{ on := 38, ground := Ground.data }, { on := 35, ground := Ground.guard }], guard := some (35, true) },
  { dst := some 104, op := Op.pick (Operand.tmp 99) (Operand.tmp 103) (Operand.const (Value.bool false)), type := 4, pos := "law.go:38", after := #[{ on := 35, ground := Ground.data }, { on := 39, ground := Ground.data }], guard := none },
  { dst := some 105, op := Op.move (Operand.tmp 104), type := 4, pos := "law.go:38", after := #[{ on := 40, ground := Ground.data }, { on := 38, ground := Ground.chain }], guard := none },
  { dst := some 106, op := Op.move (Operand.tmp 1), type := 23, pos := "law.go:38", after := #[{ on := 41, ground := Ground.guard }], guard := some (41, true) },
  { dst := some 107, op := Op.call { callee := Callee.value (Operand.func 11), args := #[Operand.const (Value.int IntKind.i64 1)], argTypes := #[3] }, type := 28, pos := "law.go:38", after := #[{ on := 41, ground := Ground.chain }, { on := 41, ground := Ground.guard }], guard := some (41, true) },
  { dst := some 108, op := Op.call { callee := Callee.value (Operand.func 14), args := #[Operand.tmp 106, Operand.const (Value.int IntKind.i64 16384), Operand.tmp 107], argTypes := #[23, 3, 28] }, type := 25, pos := "law.go:38", after := #[{ on := 42, ground := Ground.data }, { on := 43, ground := Ground.data }, { on := 43, ground := Ground.chain }, { on := 41, ground := Ground.guard }], guard := some (41, true) },
  { dst := some 109, op := Op.binOp BinOp.eql 25 (Operand.tmp 108) (Operand.const (Value.int IntKind.i64 8)) 25, type := 4, pos := "law.go:38", after := #[{ on := 44, ground := Ground.data }, { on := 41, ground := Ground.guard }], guard := some (41, true) },
  { dst := some 110, op := Op.pick (Operand.tmp 105) (Operand.tmp 109) (Operand.const (Value.bool false)), type := 4, pos := "law.go:38", after := #[{ on := 41, ground := Ground.data }, { on := 45, ground := Ground.data }], guard := none },
  { dst := some 111, op := Op.move (Operand.tmp 110), type := 4, pos := "law.go:38", after := #[{ on := 46, ground := Ground.data }, { on := 44, ground := Ground.chain }], guard := none },
  { dst := some 112, op := Op.move (Operand.tmp 1), type := 23, pos := "law.go:38", after := #[{ on := 47, ground := Ground.guard }], guard := some (47, true) },
  { dst := some 113, op := Op.call { callee := Callee.value (Operand.func 12), args := #[Operand.tmp 112, Operand.const (Value.int IntKind.i64 0)], argTypes := #[23, 3] }, type := 25, pos := "law.go:38", after := #[{ on := 48, ground := Ground.data }, { on := 47, ground := Ground.chain }, { on := 47, ground := Ground.guard }], guard := some (47, true) },
  { dst := some 114, op := Op.binOp BinOp.eql 25 (Operand.tmp 113) (Operand.const (Value.int IntKind.i64 0)) 25, type := 4, pos := "law.go:38", after := #[{ on := 49, ground := Ground.data }, { on := 47, ground := Ground.guard }], guard := some (47, true) },
  { dst := some 115, op := Op.pick (Operand.tmp 111) (Operand.tmp 114) (Operand.const (Value.bool false)), type := 4, pos := "law.go:38", after := #[{ on := 47, ground := Ground.data }, { on := 50, ground := Ground.data }], guard := none },
  { dst := some 116, op := Op.move (Operand.tmp 115), type := 4, pos := "law.go:38", after := #[{ on := 51, ground := Ground.data }, { on := 49, ground := Ground.chain }], guard := none },
  { dst := some 117, op := Op.move (Operand.tmp 1), type := 23, pos := "law.go:38", after := #[{ on := 52, ground := Ground.guard }], guard := some (52, true) },
  { dst := some 118, op := Op.call { callee := Callee.value (Operand.func 13), args := #[Operand.tmp 117, Operand.const (Value.int IntKind.i64 70)], argTypes := #[23, 3] }, type := 25, pos := "law.go:38", after := #[{ on := 53, ground := Ground.data }, { on := 52, ground := Ground.chain }, { on := 52, ground := Ground.guard }], guard := some (52, true) },
  { dst := some 119, op := Op.binOp BinOp.eql 25 (Operand.tmp 118) (Operand.const (Value.int IntKind.i64 9)) 25, type := 4, pos := "law.go:38", after := #[{ on := 54, ground := Ground.data }, { on := 52, ground := Ground.guard }], guard := some (52, true) },
  { dst := some 120, op := Op.pick (Operand.tmp 116) (Operand.tmp 119) (Operand.const (Value.bool false)), type := 4, pos := "law.go:38", after := #[{ on := 52, ground := Ground.data }, { on := 55, ground := Ground.data }], guard := none },
  { dst := some 121, op := Op.move (Operand.tmp 120), type := 4, pos := "law.go:38", after := #[{ on := 56, ground := Ground.data }, { on := 54, ground := Ground.chain }], guard := none },
  { dst := some 122, op := Op.move (Operand.tmp 1), type := 23, pos := "law.go:38", after := #[{ on := 57, ground := Ground.guard }], guard := some (57, true) },
  { dst := some 123, op := Op.call { callee := Callee.value (Operand.func 11), args := #[Operand.const (Value.int IntKind.i64 1)], argTypes := #[3] }, type := 28, pos := "law.go:38", after := #[{ on := 57, ground := Ground.chain }, { on := 57, ground := Ground.guard }], guard := some (57, true) },
  { dst := some 124, op := Op.call { callee := Callee.value (Operand.func 21), args := #[Operand.tmp 122, Operand.const (Value.int IntKind.i64 70), Operand.const (Value.int IntKind.i64 0), Operand.tmp 123], argTypes := #[23, 3, 3, 28] }, type := 25, pos := "law.go:38", after := #[{ on := 58, ground := Ground.data }, { on := 59, ground := Ground.data }, { on := 59, ground := Ground.chain }, { on := 57, ground := Ground.guard }], guard := some (57, true) },
  { dst := some 125, op := Op.binOp BinOp.eql 25 (Operand.tmp 124) (Operand.const (Value.int IntKind.i64 3)) 25, type := 4, pos := "law.go:38", after := #[{ on := 60, ground := Ground.data }, { on := 57, ground := Ground.guard }], guard := some (57, true) },
  { dst := some 126, op := Op.pick (Operand.tmp 121) (Operand.tmp 125) (Operand.const (Value.bool false)), type := 4, pos := "law.go:38", after := #[{ on := 57, ground := Ground.data }, { on := 61, ground := Ground.data }], guard := none },
  { dst := some 127, op := Op.move (Operand.tmp 126), type := 4, pos := "law.go:38", after := #[{ on := 62, ground := Ground.data }, { on := 60, ground := Ground.chain }], guard := none },
  { dst := some 128, op := Op.move (Operand.tmp 1), type := 23, pos := "law.go:38", after := #[{ on := 63, ground := Ground.guard }], guard := some (63, true) },
  { dst := some 129, op := Op.call { callee := Callee.value (Operand.func 19), args := #[Operand.tmp 128, Operand.const (Value.int IntKind.i64 1)], argTypes := #[23, 3] }, type := 25, pos := "law.go:38", after := #[{ on := 64, ground := Ground.data }, { on := 63, ground := Ground.chain }, { on := 63, ground := Ground.guard }], guard := some (63, true) },
  { dst := some 130, op := Op.binOp BinOp.eql 25 (Operand.tmp 129) (Operand.const (Value.int IntKind.i64 3)) 25, type := 4, pos := "law.go:38", after := #[{ on := 65, ground := Ground.data }, { on := 63, ground := Ground.guard }], guard := some (63, true) },
  { dst := some 131, op := Op.pick (Operand.tmp 127) (Operand.tmp 130) (Operand.const (Value.bool false)), type := 4, pos := "law.go:38", after := #[{ on := 63, ground := Ground.data }, { on := 66, ground := Ground.data }], guard := none },
  { dst := some 132, op := Op.move (Operand.tmp 131), type := 4, pos := "law.go:38", after := #[{ on := 67, ground := Ground.data }, { on := 65, ground := Ground.chain }], guard := none },
  { dst := some 133, op := Op.move (Operand.tmp 12), type := 23, pos := "law.go:38", after := #[{ on := 68, ground := Ground.guard }], guard := some (68, true) },
  { dst := some 134, op := Op.call { callee := Callee.value (Operand.func 11), args := #[Operand.const (Value.int IntKind.i64 1)], argTypes := #[3] }, type := 28, pos := "law.go:38", after := #[{ on := 68, ground := Ground.chain }, { on := 68, ground := Ground.guard }], guard := some (68, true) },
  { dst := some 135, op := Op.call { callee := Callee.value (Operand.func 14), args := #[Operand.tmp 133, Operand.const (Value.int IntKind.i64 70), Operand.tmp 134], argTypes := #[23, 3, 28] }, type := 25, pos := "law.go:38", after := #[{ on := 69, ground := Ground.data }, { on := 70, ground := Ground.data }, { on := 70, ground := Ground.chain }, { on := 68, ground := Ground.guard }], guard := some (68, true) },
  { dst := some 136, op := Op.binOp BinOp.eql 25 (Operand.tmp 135) (Operand.const (Value.int IntKind.i64 1)) 25, type := 4, pos := "law.go:38", after := #[{ on := 71, ground := Ground.data }, { on := 68, ground := Ground.guard }], guard := some (68, true) },
  { dst := some 137, op := Op.pick (Operand.tmp 132) (Operand.tmp 136) (Operand.const (Value.bool false)), type := 4, pos := "law.go:38", after := #[{ on := 68, ground := Ground.data }, { on := 72, ground := Ground.data }], guard := none },
  { dst := some 138, op := Op.move (Operand.tmp 137), type := 4, pos := "law.go:38", after := #[{ on := 73, ground := Ground.data }, { on := 71, ground := Ground.chain }], guard := none },
  { dst := some 139, op := Op.move (Operand.tmp 12), type := 23, pos := "law.go:38", after := #[{ on := 74, ground := Ground.guard }], guard := some (74, true) },
  { dst := some 140, op := Op.call { callee := Callee.value (Operand.func 22), args := #[Operand.tmp 139], argTypes := #[23] }, type := 3, pos := "law.go:38", after := #[{ on := 75, ground := Ground.data }, { on := 74, ground := Ground.chain }, { on := 74, ground := Ground.guard }], guard := some (74, true) },
  { dst := some 141, op := Op.binOp BinOp.eql 3 (Operand.tmp 140) (Operand.const (Value.int IntKind.i64 0)) 3, type := 4, pos := "law.go:38", after := #[{ on := 76, ground := Ground.data }, { on := 74, ground := Ground.guard }], guard := some (74, true) },
  { dst := some 142, op := Op.pick (Operand.tmp 138) (Operand.tmp 141) (Operand.const (Value.bool false)), type := 4, pos := "law.go:38", after := #[{ on := 74, ground := Ground.data }, { on := 77, ground := Ground.data }], guard := none },
  { dst := some 143, op := Op.move (Operand.tmp 142), type := 4, pos := "law.go:38", after := #[{ on := 78, ground := Ground.data }, { on := 76, ground := Ground.chain }], guard := none },
  { dst := some 144, op := Op.move (Operand.tmp 12), type := 23, pos := "law.go:38", after := #[{ on := 79, ground := Ground.guard }], guard := some (79, true) },
  { dst := some 145, op := Op.call { callee := Callee.value (Operand.func 23), args := #[Operand.tmp 144], argTypes := #[23] }, type := 23, pos := "law.go:38", after := #[{ on := 80, ground := Ground.data }, { on := 79, ground := Ground.chain }, { on := 79, ground := Ground.guard }], guard := some (79, true) },
  { dst := some 146, op := Op.binOp BinOp.eql 23 (Operand.tmp 145) (Operand.const (Value.pointer none)) 23, type := 4, pos := "law.go:38", after := #[{ on := 81, ground := Ground.data }, { on := 79, ground := Ground.guard }], guard := some (79, true) },
  { dst := some 147, op := Op.pick (Operand.tmp 143) (Operand.tmp 146) (Operand.const (Value.bool false)), type := 4, pos := "law.go:38", after := #[{ on := 79, ground := Ground.data }, { on := 82, ground := Ground.data }], guard := none },
  { dst := some 148, op := Op.move (Operand.tmp 147), type := 4, pos := "law.go:38", after := #[{ on := 83, ground := Ground.data }, { on := 81, ground := Ground.chain }], guard := none },
  { dst := some 149, op := Op.move (Operand.tmp 1), type := 23, pos := "law.go:38", after := #[{ on := 84, ground := Ground.guard }], guard := some (84, true) },
  { dst := some 150, op := Op.call { callee := Callee.value (Operand.func 24), args := #[Operand.tmp 149, Operand.const (Value.int IntKind.i64 0)], argTypes := #[23, 3] }, type := 4, pos := "law.go:38", after := #[{ on := 85, ground := Ground.data }, { on := 84, ground := Ground.chain }, { on := 84, ground := Ground.guard }], guard := some (84, true) },
  { dst := some 151, op := Op.pick (Operand.tmp 148) (Operand.tmp 150) (Operand.const (Value.bool false)), type := 4, pos := "law.go:38", after := #[{ on := 84, ground := Ground.data }, { on := 86, ground := Ground.data }], guard := none },
  { dst := some 152, op := Op.move (Operand.tmp 151), type := 4, pos := "law.go:38", after := #[{ on := 87, ground := Ground.data }, { on := 86, ground := Ground.chain }], guard := none },
  { dst := some 153, op := Op.move (Operand.tmp 1), type := 23, pos := "law.go:38", after := #[{ on := 88, ground := Ground.guard }], guard := some (88, true) },
  { dst := some 154, op := Op.call { callee := Callee.value (Operand.func 25), args := #[Operand.tmp 153, Operand.const (Value.int IntKind.i64 1)], argTypes := #[23, 3] }, type := 4, pos := "law.go:38", after := #[{ on := 89, ground := Ground.data }, { on := 88, ground := Ground.chain }, { on := 88, ground := Ground.guard }], guard := some (88, true) },
  { dst := some 155, op := Op.pick (Operand.tmp 152) (Operand.tmp 154) (Operand.const (Value.bool false)), type := 4, pos := "law.go:38", after := #[{ on := 88, ground := Ground.data }, { on := 90, ground := Ground.data }], guard := none },
  { dst := some 156, op := Op.move (Operand.tmp 155), type := 4, pos := "law.go:38", after := #[{ on := 91, ground := Ground.data }, { on := 90, ground := Ground.chain }], guard := none },
  { dst := some 157, op := Op.move (Operand.tmp 1), type := 23, pos := "law.go:38", after := #[{ on := 92, ground := Ground.guard }], guard := some (92, true) },
  { dst := some 158, op := Op.call { callee := Callee.value (Operand.func 24), args := #[Operand.tmp 157, Operand.const (Value.int IntKind.i64 70)], argTypes := #[23, 3] }, type := 4, pos := "law.go:38", after := #[{ on := 93, ground := Ground.data }, { on := 92, ground := Ground.chain }, { on := 92, ground := Ground.guard }], guard := some (92, true) },
  { dst := some 159, op := Op.unOp UnOp.not 4 (Operand.tmp 158), type := 4, pos := "law.go:38", after := #[{ on := 94, ground := Ground.data }, { on := 92, ground := Ground.guard }], guard := some (92, true) },
  { dst := some 160, op := Op.pick (Operand.tmp 156) (Operand.tmp 159) (Operand.const (Value.bool false)), type := 4, pos := "law.go:38", after := #[{ on := 92, ground := Ground.data }, { on := 95, ground := Ground.data }], guard := none },
  { dst := some 0, op := Op.assign (Operand.tmp 160), type := 4, pos := "law.go:38", after := #[{ on := 96, ground := Ground.data }, { on := 94, ground := Ground.chain }, { on := 0, ground := Ground.phase }, { on := 1, ground := Ground.phase }, { on := 2, ground := Ground.phase }, { on := 3, ground := Ground.phase }, { on := 4, ground := Ground.phase }, { on := 5, ground := Ground.phase }, { on := 6, ground := Ground.phase }, { on := 7, ground := Ground.phase }, { on := 8, ground := Ground.phase }, { on := 9, ground := Ground.phase }, { on := 10, ground := Ground.phase }, { on := 11, ground := Ground.phase }, { on := 12, ground := Ground.phase }, { on := 13, ground := Ground.phase }, { on := 14, ground := Ground.phase }, { on := 15, ground := Ground.phase }, { on := 16, ground := Ground.phase }, { on := 17, ground := Ground.phase }, { on := 18, ground := Ground.phase }, { on := 19, ground := Ground.phase }, { on := 20, ground := Ground.phase }, { on := 21, ground := Ground.phase }, { on := 22, ground := Ground.phase }, { on := 23, ground := Ground.phase }, { on := 24, ground := Ground.phase }, { on := 25, ground := Ground.phase }, { on := 26, ground := Ground.phase }, { on := 27, ground := Ground.phase }, { on := 28, ground := Ground.phase }, { on := 29, ground := Ground.phase }, { on := 30, ground := Ground.phase }, { on := 31, ground := Ground.phase }, { on := 32, ground := Ground.phase }, { on := 33, ground := Ground.phase }, { on := 34, ground := Ground.phase }, { on := 35, ground := Ground.phase }, { on := 36, ground := Ground.phase }, { on := 37, ground := Ground.phase }, { on := 38, ground := Ground.phase }, { on := 39, ground := Ground.phase }, { on := 40, ground := Ground.phase }, { on := 41, ground := Ground.phase }, { on := 42, ground := Ground.phase }, { on := 43, ground := Ground.phase }, { on := 44, ground := Ground.phase }, { on := 45, ground := Ground.phase }, { on := 46, ground := Ground.phase }, { on := 47, ground := Ground.phase }, { on := 48, ground := Ground.phase }, { on := 49, ground := Ground.phase }, { on := 50, ground := Ground.phase }, { on := 51, ground := Ground.phase }, { on := 52, ground := Ground.phase }, { on := 53, ground := Ground.phase }, { on := 54, ground := Ground.phase }, { on := 55, ground := Ground.phase }, { on := 56, ground := Ground.phase }, { on := 57, ground := Ground.phase }, { on := 58, ground := Ground.phase }, { on := 59, ground := Ground.phase }, { on := 60, ground := Ground.phase }, { on := 61, ground := Ground.phase }, { on := 62, ground := Ground.phase }, { on := 63, ground := Ground.phase }, { on := 64, ground := Ground.phase }, { on := 65, ground := Ground.phase }, { on := 66, ground := Ground.phase }, { on := 67, ground := Ground.phase }, { on := 68, ground := Ground.phase }, { on := 69, ground := Ground.phase }, { on := 70, ground := Ground.phase }, { on := 71, ground := Ground.phase }, { on := 72, ground := Ground.phase }, { on := 73, ground := Ground.phase }, { on := 74, ground := Ground.phase }, { on := 75, ground := Ground.phase }, { on := 76, ground := Ground.phase }, { on := 77, ground := Ground.phase }, { on := 78, ground := Ground.phase }, { on := 79, ground := Ground.phase }, { on := 80, ground := Ground.phase }, { on := 81, ground := Ground.phase }, { on := 82, ground := Ground.phase }, { on := 83, ground := Ground.phase }, { on := 84, ground := Ground.phase }, { on := 85, ground := Ground.phase }, { on := 86, ground := Ground.phase }, { on := 87, ground := Ground.phase }, { on := 88, ground := Ground.phase }, { on := 89, ground := Ground.phase }, { on := 90, ground := Ground.phase }, { on := 91, ground := Ground.phase }, { on := 92, ground := Ground.phase }, { on := 93, ground := Ground.phase }, { on := 94, ground := Ground.phase }, { on := 95, ground := Ground.phase }, { on := 96, ground := Ground.phase }], guard := none }]
set_option maxRecDepth 100000 in
set_option maxHeartbeats 8000000 in
theorem names_any (w : World) : Calls Try.prog 3 #[] w fun e w' => e = .returned (.bool true) ∧ Below w.heap.size w w' := by
  go_enter Try.func3, Try.ntmps3
  go_wp2_with fail
  refine (lives_any w).mono ?_
  rintro e W1 ⟨rfl, hb0⟩
  have H0 := Lib.hid hb0
  clear hb0
  go_wp2_with fail
  refine (new_any W1).mono ?_
  rintro e W2 ⟨vb, G2, rfl, h2⟩
  have H2 := Lib.hid h2
  clear h2
  go_wp2_with fail
  refine (int1_any 1 _).mono ?_
  rintro e W3 ⟨rfl, hbb⟩
  have H3 := Lib.hid (H2.out.junk hbb)
  clear hbb H2
  go_wp2_with fail
  have cS := setdef_ok H3.out.vars 70 (by decide) nm_c1.1 nm_m.1 (0, 1)
  refine cS.mono ?_
  rintro e W4 ⟨rfl, hw⟩
  obtain ⟨G4, h4⟩ := H3.out.went hw
  have H4 := Lib.hid (show VK W1 W4 vb G4 (nm1) [] from h4)
  clear hw h4 cS H3
  go_wp2_with fail
  have cS := setscope_ok H4.out.vars 3 (by decide) (by decide)
  refine cS.mono ?_
  rintro e W5 ⟨rfl, hw⟩
  obtain ⟨G5, h5⟩ := H4.out.went hw
  have H5 := Lib.hid (show VK W1 W5 vb G5 (nm2) [] from h5)
  clear hw h5 cS H4
  go_wp2_with fail
  have cS := makelocal_ok H5.out.vars 70 (by decide) nm_c1.2.1 nm_m.2.1 (by decide)
  refine cS.mono ?_
  rintro e W6 ⟨rfl, hw⟩
  obtain ⟨G6, h6⟩ := H5.out.went hw
  have H6 := Lib.hid (show VK W1 W6 vb G6 (nm3) [] from h6)
  clear hw h6 cS H5
  go_wp2_with fail
  refine (int1_any 5 _).mono ?_
  rintro e W7 ⟨rfl, hbb⟩
  have H7 := Lib.hid (H6.out.junk hbb)
  clear hbb H6
  go_wp2_with fail
  have cS := set_ok H7.out.vars 70 (by decide) nm_c1.2.2.1 nm_m.2.2.1 (0, 5)
  refine cS.mono ?_
  rintro e W8 ⟨rfl, hw⟩
  obtain ⟨G8, h8⟩ := H7.out.went hw
  have H8 := Lib.hid (show VK W1 W8 vb G8 (nm4) [] from h8)
  clear hw h8 cS H7
  go_wp2_with fail
  have cS := setscope_0 H8.out.vars
  refine cS.mono ?_
  rintro e W9 ⟨rfl, hw⟩
  obtain ⟨G9, h9⟩ := H8.out.went hw
  have H9 := Lib.hid (show VK W1 W9 vb G9 (nm5) [] from h9)
  clear hw h9 cS H8
  go_wp2_with fail
  have cG := get_ok H9.out.vars 70 (by decide)
  rw [nm_v.1] at cG
  refine cG.mono ?_
  rintro e W10 ⟨rfl, hbb⟩
  have H10 := Lib.hid (H9.out.junk hbb)
  clear hbb cG H9
  go_wp2_with fail
  have h11 := H10.out.add (b := W10.heap.size) ((Below.refl _ _).alloc (Nat.le_refl _) (.cells #[.int .i64 0, .int .i64 1] 28)) (Nat.le_refl _) (alloc_at W10 _)
  generalize W10.alloc (.cells #[.int .i64 0, .int .i64 1] 28) = W11 at *
  generalize W10.heap.size = ba at *
  have H11 := Lib.hid h11
  clear h11 H10
  have cG := local_ok H11.out.vars 70 (by decide) 3 (by decide) (by decide) nm_v.2.2.1
  rw [nm_v.2.1] at cG
  refine cG.mono ?_
  rintro e W12 ⟨rfl, hbb⟩
  have H12 := Lib.hid (H11.out.junk hbb)
  clear hbb cG H11
  go_wp2_with fail
  have h13 := H12.out.add (b := W12.heap.size) ((Below.refl _ _).alloc (Nat.le_refl _) (.cells #[.int .i64 0, .int .i64 5] 28)) (Nat.le_refl _) (alloc_at W12 _)
  generalize W12.alloc (.cells #[.int .i64 0, .int .i64 5] 28) = W13 at *
  generalize W12.heap.size = bb at *
  have H13 := Lib.hid h13
  clear h13 H12
  have cS := setscope_ok H13.out.vars 3 (by decide) (by decide)
  refine cS.mono ?_
  rintro e W14 ⟨rfl, hw⟩
  obtain ⟨G14, h14⟩ := H13.out.went hw
  have H14 := Lib.hid (show VK W1 W14 vb G14 (nm6) [(bb, (.cells #[.int .i64 0, .int .i64 5] 28)), (ba, (.cells #[.int .i64 0, .int .i64 1] 28))] from h14)
  clear hw h14 cS H13
  go_wp2_with fail
  refine (int1_any 6 _).mono ?_
  rintro e W15 ⟨rfl, hbb⟩
  have H15 := Lib.hid (H14.out.junk hbb)
  clear hbb H14
  go_wp2_with fail
  have cS := bind_ok H15.out.vars 70 (by decide) nm_c1.2.2.2 nm_m.2.2.2.1 (0, 6) nm_b.1
  refine cS.mono ?_
  rintro e W16 ⟨rfl, hw⟩
  obtain ⟨G16, h16⟩ := H15.out.went hw
  have H16 := Lib.hid (show VK W1 W16 vb G16 (nm7) [(bb, (.cells #[.int .i64 0, .int .i64 5] 28)), (ba, (.cells #[.int .i64 0, .int .i64 1] 28))] from h16)
  clear hw h16 cS H15
  go_wp2_with fail
  have cS := killlocal_ok H16.out.vars 70 (by decide) (by decide)
  refine cS.mono ?_
  rintro e W17 ⟨rfl, hw⟩
  obtain ⟨G17, h17⟩ := H16.out.went hw
  have H17 := Lib.hid (show VK W1 W17 vb G17 (nm8) [(bb, (.cells #[.int .i64 0, .int .i64 5] 28)), (ba, (.cells #[.int .i64 0, .int .i64 1] 28))] from h17)
  clear hw h17 cS H16
  go_wp2_with fail
  have cS := unbind_ok H17.out.vars 0 (Nat.zero_le _) nm_b.2.1
  refine cS.mono ?_
  rintro e W18 ⟨rfl, hw⟩
  obtain ⟨G18, h18⟩ := H17.out.went hw
  have H18 := Lib.hid (show VK W1 W18 vb G18 (nm9) [(bb, (.cells #[.int .i64 0, .int .i64 5] 28)), (ba, (.cells #[.int .i64 0, .int .i64 1] 28))] from h18)
  clear hw h18 cS H17
  go_wp2_with fail
  have cG := get_ok H18.out.vars 70 (by decide)
  rw [nm_v.2.2.2.1] at cG
  refine cG.mono ?_
  rintro e W19 ⟨rfl, hbb⟩
  have H19 := Lib.hid (H18.out.junk hbb)
  clear hbb cG H18
  go_wp2_with fail
  have h20 := H19.out.add (b := W19.heap.size) ((Below.refl _ _).alloc (Nat.le_refl _) (.cells #[.int .i64 0, .int .i64 1] 28)) (Nat.le_refl _) (alloc_at W19 _)
  generalize W19.alloc (.cells #[.int .i64 0, .int .i64 1] 28) = W20 at *
  generalize W19.heap.size = bc at *
  have H20 := Lib.hid h20
  clear h20 H19
  have cG := get_ok H20.out.vars 1 (by decide)
  rw [nm_v.2.2.2.2] at cG
  refine cG.mono ?_
  rintro e W21 ⟨rfl, hbb⟩
  have H21 := Lib.hid (H20.out.junk hbb)
  clear hbb cG H20
  go_wp2_with fail
  have h22 := H21.out.add (b := W21.heap.size) ((Below.refl _ _).alloc (Nat.le_refl _) (.cells #[.int .i64 1, .int .i64 1] 28)) (Nat.le_refl _) (alloc_at W21 _)
  generalize W21.alloc (.cells #[.int .i64 1, .int .i64 1] 28) = W22 at *
  generalize W21.heap.size = bt at *
  have H22 := Lib.hid h22
  clear h22 H21
  have hS : ∀ X G m, VK W1 X vb G m [(bt, (.cells #[.int .i64 1, .int .i64 1] 28)), (bc, (.cells #[.int .i64 0, .int .i64 1] 28)), (bb, (.cells #[.int .i64 0, .int .i64 5] 28)), (ba, (.cells #[.int .i64 0, .int .i64 1] 28))] → X.cell? ⟨ba, 0, none⟩ = some (.int .i64 0) ∧ X.cell? ⟨ba, 1, none⟩ = some (.int .i64 1) ∧ X.cell? ⟨bb, 0, none⟩ = some (.int .i64 0) ∧ X.cell? ⟨bb, 1, none⟩ = some (.int .i64 5) ∧ X.cell? ⟨bc, 0, none⟩ = some (.int .i64 0) ∧ X.cell? ⟨bc, 1, none⟩ = some (.int .i64 1) ∧ X.cell? ⟨bt, 0, none⟩ = some (.int .i64 1) ∧ X.cell? ⟨bt, 1, none⟩ = some (.int .i64 1) := fun X G m h => by
    have et := (h.has _ (.head _)).1
    have ec := (h.has _ (.tail _ (.head _))).1
    have eb := (h.has _ (.tail _ (.tail _ (.head _)))).1
    have ea := (h.has _ (.tail _ (.tail _ (.tail _ (.head _))))).1
    exact ⟨(cell_at ea).trans rfl, (cell_at ea).trans rfl, (cell_at eb).trans rfl, (cell_at eb).trans rfl, (cell_at ec).trans rfl, (cell_at ec).trans rfl, (cell_at et).trans rfl, (cell_at et).trans rfl⟩
  have c0 : ∀ X G, VarsAt X vb G nm9 → Calls Try.prog 14 #[hptr vb, .int .i64 0, wv (0, 1)] X fun e w' => e = .returned (.int .i64 10) ∧ Below X.heap.size X w' := fun X G h => set_const h 0 (by decide) nm_m.2.2.2.2.1 (0, 1)
  have C0 := Lib.hid c0
  clear c0
  have c1 : ∀ X G, VarsAt X vb G nm9 → Calls Try.prog 14 #[hptr vb, .int .i64 (-1), wv (0, 1)] X fun e w' => e = .returned (.int .i64 8) ∧ Below X.heap.size X w' := fun X G h => set_bad h (-1) (by decide) (0, 1)
  have C1 := Lib.hid c1
  clear c1
  have c2 : ∀ X G, VarsAt X vb G nm9 → Calls Try.prog 14 #[hptr vb, .int .i64 16384, wv (0, 1)] X fun e w' => e = .returned (.int .i64 8) ∧ Below X.heap.size X w' := fun X G h => set_bad h 16384 (by decide) (0, 1)
  have C2 := Lib.hid c2
  clear c2
  have c3 : ∀ X, Calls Try.prog 14 #[.pointer none, .int .i64 70, wv (0, 1)] X fun e w' => e = .returned (.int .i64 1) ∧ Below X.heap.size X w' := fun X => set_nil 70 (0, 1) X
  have C3 := Lib.hid c3
  clear c3
  have c4 : ∀ X G, VarsAt X vb G nm9 → Calls Try.prog 12 #[hptr vb, .int .i64 0] X fun e w' => e = .returned (.int .i64 0) ∧ VWent X w' vb G nm10 := fun X G h => setscope_0 h
  have C4 := Lib.hid c4
  clear c4
  have c5 : ∀ X G, VarsAt X vb G nm10 → Calls Try.prog 13 #[hptr vb, .int .i64 70] X fun e w' => e = .returned (.int .i64 9) ∧ Below X.heap.size X w' := fun X G h => makelocal_state h 70 (by decide) nm_m.2.2.2.2.2.1 rfl
  have C5 := Lib.hid c5
  clear c5
  have c6 : ∀ X G, VarsAt X vb G nm10 → Calls Try.prog 21 #[hptr vb, .int .i64 70, .int .i64 0, wv (0, 1)] X fun e w' => e = .returned (.int .i64 3) ∧ Below X.heap.size X w' := fun X G h => setlocal_range h 70 (by decide) 0 (by decide) (0, 1)
  have C6 := Lib.hid c6
  clear c6
  have c7 : ∀ X G, VarsAt X vb G nm10 → Calls Try.prog 19 #[hptr vb, .int .i64 1] X fun e w' => e = .returned (.int .i64 3) ∧ Below X.heap.size X w' := fun X G h => unbind_bad h 1 (by rw [nm_b.2.2]; decide)
  have C7 := Lib.hid c7
  clear c7
  have c8 : ∀ X G, VarsAt X vb G nm10 → Calls Try.prog 24 #[hptr vb, .int .i64 0] X fun e w' => e = .returned (.bool true) ∧ w' = X := fun X G h => by have c := special_ok h 0 (by decide); rwa [nm_m.2.2.2.2.2.2.1] at c
  have C8 := Lib.hid c8
  clear c8
  have c9 : ∀ X G, VarsAt X vb G nm10 → Calls Try.prog 25 #[hptr vb, .int .i64 1] X fun e w' => e = .returned (.bool true) ∧ w' = X := fun X G h => by have c := const_ok h 1 (by decide); rwa [nm_m.2.2.2.2.2.2.2.1] at c
  have C9 := Lib.hid c9
  clear c9
  have ca : ∀ X G, VarsAt X vb G nm10 → Calls Try.prog 24 #[hptr vb, .int .i64 70] X fun e w' => e = .returned (.bool false) ∧ w' = X := fun X G h => by have c := special_ok h 70 (by decide); rwa [nm_m.2.2.2.2.2.2.2.2] at c
  have CA := Lib.hid ca
  clear ca
  have HS := Lib.hid hS
  clear hS
  have HV := Lib.hid (H22.out.junk ((Below.refl _ _).drew))
  clear H22
  change Code.wp _ (Code.region 11 opsN true) _ _ _
  have HS1 := HS.out _ _ _ HV.out
  refine wp_region_held_drew (S := fun X => X.cell? ⟨ba, 0, none⟩ = some (.int .i64 0) ∧ X.cell? ⟨ba, 1, none⟩ = some (.int .i64 1) ∧ X.cell? ⟨bb, 0, none⟩ = some (.int .i64 0) ∧ X.cell? ⟨bb, 1, none⟩ = some (.int .i64 5) ∧ X.cell? ⟨bc, 0, none⟩ = some (.int .i64 0) ∧ X.cell? ⟨bc, 1, none⟩ = some (.int .i64 1) ∧ X.cell? ⟨bt, 0, none⟩ = some (.int .i64 1) ∧ X.cell? ⟨bt, 1, none⟩ = some (.int .i64 1)) (by kernel_rfl) HS1 (fun hS => ?_)
  clear HS1
  refine wpAnyH_take (i := 0) (oi := { dst := some 64, op := Op.move (Operand.tmp 2), type := 25, pos := "law.go:38", after := #[], guard := none }) (v := .int .i64 0) (by kernel_rfl) (by decide +kernel) (by decide +kernel) (by decide +kernel) (fun _ _ _ h => h) (Or.inl ⟨by rfl, by (intro w9 hSw; (try dsimp only at hSw); go_simp)⟩) hS ?_
  try simp only [Act.put, List.setIfInBounds_toArray, List.set_cons_zero, List.set_cons_succ]
  refine wpAnyH_take (i := 1) (oi := { dst := some 65, op := Op.binOp BinOp.eql 25 (Operand.tmp 64) (Operand.const (Value.int IntKind.i64 0)) 25, type := 4, pos := "law.go:38", after := #[{ on := 0, ground := Ground.data }], guard := none }) (v := .bool true) (by kernel_rfl) (by decide +kernel) (by decide +kernel) (by decide +kernel) (fun _ _ _ h => h) (Or.inl ⟨by rfl, by (intro w9 hSw; (try dsimp only at hSw); go_simp)⟩) hS ?_
  try simp only [Act.put, List.setIfInBounds_toArray, List.set_cons_zero, List.set_cons_succ]
  refine wpAnyH_take (i := 2) (oi := { dst := some 66, op := Op.move (Operand.tmp 65), type := 4, pos := "law.go:38", after := #[{ on := 1, ground := Ground.data }], guard := none }) (v := .bool true) (by kernel_rfl) (by decide +kernel) (by decide +kernel) (by decide +kernel) (fun _ _ _ h => h) (Or.inl ⟨by rfl, by (intro w9 hSw; (try dsimp only at hSw); go_simp)⟩) hS ?_
  try simp only [Act.put, List.setIfInBounds_toArray, List.set_cons_zero, List.set_cons_succ]
  refine wpAnyH_take (i := 3) (oi := { dst := some 67, op := Op.move (Operand.tmp 7), type := 25, pos := "law.go:38", after := #[{ on := 2, ground := Ground.guard }], guard := some (2, true) }) (v := .int .i64 0) (by kernel_rfl) (by decide +kernel) (by decide +kernel) (by decide +kernel) (fun _ _ _ h => h) (Or.inl ⟨by rfl, by (intro w9 hSw; (try dsimp only at hSw); go_simp)⟩) hS ?_
  try simp only [Act.put, List.setIfInBounds_toArray, List.set_cons_zero, List.set_cons_succ]
  refine wpAnyH_take (i := 4) (oi := { dst := some 68, op := Op.binOp BinOp.eql 25 (Operand.tmp 67) (Operand.const (Value.int IntKind.i64 0)) 25, type := 4, pos := "law.go:38", after := #[{ on := 3, ground := Ground.data }, { on := 2, ground := Ground.guard }], guard := some (2, true) }) (v := .bool true) (by kernel_rfl) (by decide +kernel) (by decide +kernel) (by decide +kernel) (fun _ _ _ h => h) (Or.inl ⟨by rfl, by (intro w9 hSw; (try dsimp only at hSw); go_simp)⟩) hS ?_
  try simp only [Act.put, List.setIfInBounds_toArray, List.set_cons_zero, List.set_cons_succ]
  refine wpAnyH_take (i := 5) (oi := { dst := some 69, op := Op.pick (Operand.tmp 66) (Operand.tmp 68) (Operand.const (Value.bool false)), type := 4, pos := "law.go:38", after := #[{ on := 2, ground := Ground.data }, { on := 4, ground := Ground.data }], guard := none }) (v := .bool true) (by kernel_rfl) (by decide +kernel) (by decide +kernel) (by decide +kernel) (fun _ _ _ h => h) (Or.inl ⟨by rfl, by (intro w9 hSw; (try dsimp only at hSw); go_simp)⟩) hS ?_
  try simp only [Act.put, List.setIfInBounds_toArray, List.set_cons_zero, List.set_cons_succ]
  refine wpAnyH_take (i := 6) (oi := { dst := some 70, op := Op.move (Operand.tmp 69), type := 4, pos := "law.go:38", after := #[{ on := 5, ground := Ground.data }, { on := 2, ground := Ground.chain }], guard := none }) (v := .bool true) (by kernel_rfl) (by decide +kernel) (by decide +kernel) (by decide +kernel) (fun _ _ _ h => h) (Or.inl ⟨by rfl, by (intro w9 hSw; (try dsimp only at hSw); go_simp)⟩) hS ?_
  try simp only [Act.put, List.setIfInBounds_toArray, List.set_cons_zero, List.set_cons_succ]
  refine wpAnyH_take (i := 7) (oi := { dst := some 71, op := Op.load 28 (Operand.tmp 3), type := 28, pos := "law.go:38", after := #[{ on := 6, ground := Ground.guard }], guard := some (6, true) }) (v := wv (0, 1)) (by kernel_rfl) (by decide +kernel) (by decide +kernel) (by decide +kernel) (fun _ _ _ h => h) (Or.inl ⟨by rfl, by (intro w9 hSw; (try dsimp only at hSw); go_simp)⟩) hS ?_
  try simp only [Act.put, List.setIfInBounds_toArray, List.set_cons_zero, List.set_cons_succ]
  refine wpAnyH_ready (rs := [8]) (by decide +kernel) (by simp) (AllReadyH.cons (i := 8) (o := { dst := some 72, op := Op.call { callee := Callee.value (Operand.func 11), args := #[Operand.const (Value.int IntKind.i64 1)], argTypes := #[3] }, type := 28, pos := "law.go:38", after := #[{ on := 6, ground := Ground.chain }, { on := 6, ground := Ground.guard }], guard := some (6, true) }) (by kernel_rfl) (fun K hK => ?_) AllReadyH.nil)
  rw [if_pos (by rfl)]
  go_simp
  refine (int1_any 1 _).mono ?_
  rintro e wq ⟨rfl, hb2⟩
  have HV2 := Lib.hid (HV.out.junk hb2)
  clear HV hb2
  have HV := HV2
  clear HV2
  have HS1 := HS.out _ _ _ HV.out
  refine hK.out _ _ HS1 (fun hS2 => ?_)
  clear hK K hS
  have hS := hS2
  clear hS2 HS1
  try simp only [Act.put, List.setIfInBounds_toArray, List.set_cons_zero, List.set_cons_succ]
  refine wpAnyH_take (i := 9) (oi := { dst := some 73, op := Op.binOp BinOp.eql 28 (Operand.tmp 71) (Operand.tmp 72) 28, type := 4, pos := "law.go:38", after := #[{ on := 7, ground := Ground.data }, { on := 8, ground := Ground.data }, { on := 6, ground := Ground.guard }], guard := some (6, true) }) (v := .bool true) (by kernel_rfl) (by decide +kernel) (by decide +kernel) (by decide +kernel) (fun _ _ _ h => h) (Or.inl ⟨by rfl, by (intro w9 hSw; (try dsimp only at hSw); go_simp)⟩) hS ?_
  try simp only [Act.put, List.setIfInBounds_toArray, List.set_cons_zero, List.set_cons_succ]
  refine wpAnyH_take (i := 10) (oi := { dst := some 74, op := Op.pick (Operand.tmp 70) (Operand.tmp 73) (Operand.const (Value.bool false)), type := 4, pos := "law.go:38", after := #[{ on := 6, ground := Ground.data }, { on := 9, ground := Ground.data }], guard := none }) (v := .bool true) (by kernel_rfl) (by decide +kernel) (by decide +kernel) (by decide +kernel) (fun _ _ _ h => h) (Or.inl ⟨by rfl, by (intro w9 hSw; (try dsimp only at hSw); go_simp)⟩) hS ?_
  try simp only [Act.put, List.setIfInBounds_toArray, List.set_cons_zero, List.set_cons_succ]
  refine wpAnyH_take (i := 11) (oi := { dst := some 75, op := Op.move (Operand.tmp 74), type := 4, pos := "law.go:38", after := #[{ on := 10, ground := Ground.data }, { on := 8, ground := Ground.chain }], guard := none }) (v := .bool true) (by kernel_rfl) (by decide +kernel) (by decide +kernel) (by decide +kernel) (fun _ _ _ h => h) (Or.inl ⟨by rfl, by (intro w9 hSw; (try dsimp only at hSw); go_simp)⟩) hS ?_
  try simp only [Act.put, List.setIfInBounds_toArray, List.set_cons_zero, List.set_cons_succ]
  refine wpAnyH_take (i := 12) (oi := { dst := some 76, op := Op.load 28 (Operand.tmp 5), type := 28, pos := "law.go:38", after := #[{ on := 11, ground := Ground.guard }], guard := some (11, true) }) (v := wv (0, 5)) (by kernel_rfl) (by decide +kernel) (by decide +kernel) (by decide +kernel) (fun _ _ _ h => h) (Or.inl ⟨by rfl, by (intro w9 hSw; (try dsimp only at hSw); go_simp)⟩) hS ?_
  try simp only [Act.put, List.setIfInBounds_toArray, List.set_cons_zero, List.set_cons_succ]
  refine wpAnyH_ready (rs := [13]) (by decide +kernel) (by simp) (AllReadyH.cons (i := 13) (o := { dst := some 77, op := Op.call { callee := Callee.value (Operand.func 11), args := #[Operand.const (Value.int IntKind.i64 5)], argTypes := #[3] }, type := 28, pos := "law.go:38", after := #[{ on := 11, ground := Ground.chain }, { on := 11, ground := Ground.guard }], guard := some (11, true) }) (by kernel_rfl) (fun K hK => ?_) AllReadyH.nil)
  rw [if_pos (by rfl)]
  go_simp
  refine (int1_any 5 _).mono ?_
  rintro e wq ⟨rfl, hb2⟩
  have HV2 := Lib.hid (HV.out.junk hb2)
  clear HV hb2
  have HV := HV2
  clear HV2
  have HS1 := HS.out _ _ _ HV.out
  refine hK.out _ _ HS1 (fun hS2 => ?_)
  clear hK K hS
  have hS := hS2
  clear hS2 HS1
  try simp only [Act.put, List.setIfInBounds_toArray, List.set_cons_zero, List.set_cons_succ]
  refine wpAnyH_take (i := 14) (oi := { dst := some 78, op := Op.binOp BinOp.eql 28 (Operand.tmp 76) (Operand.tmp 77) 28, type := 4, pos := "law.go:38", after := #[{ on := 12, ground := Ground.data }, { on := 13, ground := Ground.data }, { on := 11, ground := Ground.guard }], guard := some (11, true) }) (v := .bool true) (by kernel_rfl) (by decide +kernel) (by decide +kernel) (by decide +kernel) (fun _ _ _ h => h) (Or.inl ⟨by rfl, by (intro w9 hSw; (try dsimp only at hSw); go_simp)⟩) hS ?_
  try simp only [Act.put, List.setIfInBounds_toArray, List.set_cons_zero, List.set_cons_succ]
  refine wpAnyH_take (i := 15) (oi := { dst := some 79, op := Op.pick (Operand.tmp 75) (Operand.tmp 78) (Operand.const (Value.bool false)), type := 4, pos := "law.go:38", after := #[{ on := 11, ground := Ground.data }, { on := 14, ground := Ground.data }], guard := none }) (v := .bool true) (by kernel_rfl) (by decide +kernel) (by decide +kernel) (by decide +kernel) (fun _ _ _ h => h) (Or.inl ⟨by rfl, by (intro w9 hSw; (try dsimp only at hSw); go_simp)⟩) hS ?_
  try simp only [Act.put, List.setIfInBounds_toArray, List.set_cons_zero, List.set_cons_succ]
  refine wpAnyH_take (i := 16) (oi := { dst := some 80, op := Op.move (Operand.tmp 79), type := 4, pos := "law.go:38", after := #[{ on := 15, ground := Ground.data }, { on := 13, ground := Ground.chain }], guard := none }) (v := .bool true) (by kernel_rfl) (by decide +kernel) (by decide +kernel) (by decide +kernel) (fun _ _ _ h => h) (Or.inl ⟨by rfl, by (intro w9 hSw; (try dsimp only at hSw); go_simp)⟩) hS ?_
  try simp only [Act.put, List.setIfInBounds_toArray, List.set_cons_zero, List.set_cons_succ]
  refine wpAnyH_take (i := 17) (oi := { dst := some 81, op := Op.load 28 (Operand.tmp 8), type := 28, pos := "law.go:38", after := #[{ on := 16, ground := Ground.guard }], guard := some (16, true) }) (v := wv (0, 1)) (by kernel_rfl) (by decide +kernel) (by decide +kernel) (by decide +kernel) (fun _ _ _ h => h) (Or.inl ⟨by rfl, by (intro w9 hSw; (try dsimp only at hSw); go_simp)⟩) hS ?_
  try simp only [Act.put, List.setIfInBounds_toArray, List.set_cons_zero, List.set_cons_succ]
  refine wpAnyH_ready (rs := [18]) (by decide +kernel) (by simp) (AllReadyH.cons (i := 18) (o := { dst := some 82, op := Op.call { callee := Callee.value (Operand.func 11), args := #[Operand.const (Value.int IntKind.i64 1)], argTypes := #[3] }, type := 28, pos := "law.go:38", after := #[{ on := 16, ground := Ground.chain }, { on := 16, ground := Ground.guard }], guard := some (16, true) }) (by kernel_rfl) (fun K hK => ?_) AllReadyH.nil)
  rw [if_pos (by rfl)]
  go_simp
  refine (int1_any 1 _).mono ?_
  rintro e wq ⟨rfl, hb2⟩
  have HV2 := Lib.hid (HV.out.junk hb2)
  clear HV hb2
  have HV := HV2
  clear HV2
  have HS1 := HS.out _ _ _ HV.out
  refine hK.out _ _ HS1 (fun hS2 => ?_)
  clear hK K hS
  have hS := hS2
  clear hS2 HS1
  try simp only [Act.put, List.setIfInBounds_toArray, List.set_cons_zero, List.set_cons_succ]
  refine wpAnyH_take (i := 19) (oi := { dst := some 83, op := Op.binOp BinOp.eql 28 (Operand.tmp 81) (Operand.tmp 82) 28, type := 4, pos := "law.go:38", after := #[{ on := 17, ground := Ground.data }, { on := 18, ground := Ground.data }, { on := 16, ground := Ground.guard }], guard := some (16, true) }) (v := .bool true) (by kernel_rfl) (by decide +kernel) (by decide +kernel) (by decide +kernel) (fun _ _ _ h => h) (Or.inl ⟨by rfl, by (intro w9 hSw; (try dsimp only at hSw); go_simp)⟩) hS ?_
  try simp only [Act.put, List.setIfInBounds_toArray, List.set_cons_zero, List.set_cons_succ]
  refine wpAnyH_take (i := 20) (oi := { dst := some 84, op := Op.pick (Operand.tmp 80) (Operand.tmp 83) (Operand.const (Value.bool false)), type := 4, pos := "law.go:38", after := #[{ on := 16, ground := Ground.data }, { on := 19, ground := Ground.data }], guard := none }) (v := .bool true) (by kernel_rfl) (by decide +kernel) (by decide +kernel) (by decide +kernel) (fun _ _ _ h => h) (Or.inl ⟨by rfl, by (intro w9 hSw; (try dsimp only at hSw); go_simp)⟩) hS ?_
  try simp only [Act.put, List.setIfInBounds_toArray, List.set_cons_zero, List.set_cons_succ]
  refine wpAnyH_take (i := 21) (oi := { dst := some 85, op := Op.move (Operand.tmp 84), type := 4, pos := "law.go:38", after := #[{ on := 20, ground := Ground.data }, { on := 18, ground := Ground.chain }], guard := none }) (v := .bool true) (by kernel_rfl) (by decide +kernel) (by decide +kernel) (by decide +kernel) (fun _ _ _ h => h) (Or.inl ⟨by rfl, by (intro w9 hSw; (try dsimp only at hSw); go_simp)⟩) hS ?_
  try simp only [Act.put, List.setIfInBounds_toArray, List.set_cons_zero, List.set_cons_succ]
  refine wpAnyH_take (i := 22) (oi := { dst := some 86, op := Op.move (Operand.tmp 1), type := 23, pos := "law.go:38", after := #[{ on := 21, ground := Ground.guard }], guard := some (21, true) }) (v := hptr vb) (by kernel_rfl) (by decide +kernel) (by decide +kernel) (by decide +kernel) (fun _ _ _ h => h) (Or.inl ⟨by rfl, by (intro w9 hSw; (try dsimp only at hSw); go_simp)⟩) hS ?_
  try simp only [Act.put, List.setIfInBounds_toArray, List.set_cons_zero, List.set_cons_succ]
  refine wpAnyH_ready (rs := [23]) (by decide +kernel) (by simp) (AllReadyH.cons (i := 23) (o := { dst := some 87, op := Op.call { callee := Callee.value (Operand.func 11), args := #[Operand.const (Value.int IntKind.i64 1)], argTypes := #[3] }, type := 28, pos := "law.go:38", after := #[{ on := 21, ground := Ground.chain }, { on := 21, ground := Ground.guard }], guard := some (21, true) }) (by kernel_rfl) (fun K hK => ?_) AllReadyH.nil)
  rw [if_pos (by rfl)]
  go_simp
  refine (int1_any 1 _).mono ?_
  rintro e wq ⟨rfl, hb2⟩
  have HV2 := Lib.hid (HV.out.junk hb2)
  clear HV hb2
  have HV := HV2
  clear HV2
  have HS1 := HS.out _ _ _ HV.out
  refine hK.out _ _ HS1 (fun hS2 => ?_)
  clear hK K hS
  have hS := hS2
  clear hS2 HS1
  try simp only [Act.put, List.setIfInBounds_toArray, List.set_cons_zero, List.set_cons_succ]
  refine wpAnyH_ready (rs := [24]) (by decide +kernel) (by simp) (AllReadyH.cons (i := 24) (o := { dst := some 88, op := Op.call { callee := Callee.value (Operand.func 14), args := #[Operand.tmp 86, Operand.const (Value.int IntKind.i64 0), Operand.tmp 87], argTypes := #[23, 3, 28] }, type := 25, pos := "law.go:38", after := #[{ on := 22, ground := Ground.data }, { on := 23, ground := Ground.data }, { on := 23, ground := Ground.chain }, { on := 21, ground := Ground.guard }], guard := some (21, true) }) (by kernel_rfl) (fun K hK => ?_) AllReadyH.nil)
  rw [if_pos (by rfl)]
  go_simp
  refine (C0.out _ _ HV.out.vars).mono ?_
  rintro e wq ⟨rfl, hb2⟩
  have HV2 := Lib.hid (HV.out.junk hb2)
  clear HV hb2
  have HV := HV2
  clear HV2
  have HS1 := HS.out _ _ _ HV.out
  refine hK.out _ _ HS1 (fun hS2 => ?_)
  clear hK K hS
  have hS := hS2
  clear hS2 HS1
  try simp only [Act.put, List.setIfInBounds_toArray, List.set_cons_zero, List.set_cons_succ]
  refine wpAnyH_take (i := 25) (oi := { dst := some 89, op := Op.binOp BinOp.eql 25 (Operand.tmp 88) (Operand.const (Value.int IntKind.i64 10)) 25, type := 4, pos := "law.go:38", after := #[{ on := 24, ground := Ground.data }, { on := 21, ground := Ground.guard }], guard := some (21, true) }) (v := .bool true) (by kernel_rfl) (by decide +kernel) (by decide +kernel) (by decide +kernel) (fun _ _ _ h => h) (Or.inl ⟨by rfl, by (intro w9 hSw; (try dsimp only at hSw); go_simp)⟩) hS ?_
  try simp only [Act.put, List.setIfInBounds_toArray, List.set_cons_zero, List.set_cons_succ]
  refine wpAnyH_take (i := 26) (oi := { dst := some 90, op := Op.pick (Operand.tmp 85) (Operand.tmp 89) (Operand.const (Value.bool false)), type := 4, pos := "law.go:38", after := #[{ on := 21, ground := Ground.data }, { on := 25, ground := Ground.data }], guard := none }) (v := .bool true) (by kernel_rfl) (by decide +kernel) (by decide +kernel) (by decide +kernel) (fun _ _ _ h => h) (Or.inl ⟨by rfl, by (intro w9 hSw; (try dsimp only at hSw); go_simp)⟩) hS ?_
  try simp only [Act.put, List.setIfInBounds_toArray, List.set_cons_zero, List.set_cons_succ]
  refine wpAnyH_take (i := 27) (oi := { dst := some 91, op := Op.move (Operand.tmp 90), type := 4, pos := "law.go:38", after := #[{ on := 26, ground := Ground.data }, { on := 24, ground := Ground.chain }], guard := none }) (v := .bool true) (by kernel_rfl) (by decide +kernel) (by decide +kernel) (by decide +kernel) (fun _ _ _ h => h) (Or.inl ⟨by rfl, by (intro w9 hSw; (try dsimp only at hSw); go_simp)⟩) hS ?_
  try simp only [Act.put, List.setIfInBounds_toArray, List.set_cons_zero, List.set_cons_succ]
  refine wpAnyH_take (i := 28) (oi := { dst := some 92, op := Op.move (Operand.tmp 11), type := 4, pos := "law.go:38", after := #[{ on := 27, ground := Ground.guard }], guard := some (27, true) }) (v := .bool true) (by kernel_rfl) (by decide +kernel) (by decide +kernel) (by decide +kernel) (fun _ _ _ h => h) (Or.inl ⟨by rfl, by (intro w9 hSw; (try dsimp only at hSw); go_simp)⟩) hS ?_
  try simp only [Act.put, List.setIfInBounds_toArray, List.set_cons_zero, List.set_cons_succ]
  refine wpAnyH_take (i := 29) (oi := { dst := some 93, op := Op.pick (Operand.tmp 91) (Operand.tmp 92) (Operand.const (Value.bool false)), type := 4, pos := "law.go:38", after := #[{ on := 27, ground := Ground.data }, { on := 28, ground := Ground.data }], guard := none }) (v := .bool true) (by kernel_rfl) (by decide +kernel) (by decide +kernel) (by decide +kernel) (fun _ _ _ h => h) (Or.inl ⟨by rfl, by (intro w9 hSw; (try dsimp only at hSw); go_simp)⟩) hS ?_
  try simp only [Act.put, List.setIfInBounds_toArray, List.set_cons_zero, List.set_cons_succ]
  refine wpAnyH_take (i := 30) (oi := { dst := some 94, op := Op.move (Operand.tmp 93), type := 4, pos := "law.go:38", after := #[{ on := 29, ground := Ground.data }, { on := 27, ground := Ground.chain }], guard := none }) (v := .bool true) (by kernel_rfl) (by decide +kernel) (by decide +kernel) (by decide +kernel) (fun _ _ _ h => h) (Or.inl ⟨by rfl, by (intro w9 hSw; (try dsimp only at hSw); go_simp)⟩) hS ?_
  try simp only [Act.put, List.setIfInBounds_toArray, List.set_cons_zero, List.set_cons_succ]
  refine wpAnyH_take (i := 31) (oi := { dst := some 95, op := Op.load 28 (Operand.tmp 10), type := 28, pos := "law.go:38", after := #[{ on := 30, ground := Ground.guard }], guard := some (30, true) }) (v := wv (1, 1)) (by kernel_rfl) (by decide +kernel) (by decide +kernel) (by decide +kernel) (fun _ _ _ h => h) (Or.inl ⟨by rfl, by (intro w9 hSw; (try dsimp only at hSw); go_simp)⟩) hS ?_
  try simp only [Act.put, List.setIfInBounds_toArray, List.set_cons_zero, List.set_cons_succ]
  refine wpAnyH_ready (rs := [32]) (by decide +kernel) (by simp) (AllReadyH.cons (i := 32) (o := { dst := some 96, op := Op.call { callee := Callee.value (Operand.func 20), args := #[], argTypes := #[] }, type := 28, pos := "law.go:38", after := #[{ on := 30, ground := Ground.chain }, { on := 30, ground := Ground.guard }], guard := some (30, true) }) (by kernel_rfl) (fun K hK => ?_) AllReadyH.nil)
  rw [if_pos (by rfl)]
  go_simp
  refine (T_any _).mono ?_
  rintro e wq ⟨rfl, hb2⟩
  have HV2 := Lib.hid (HV.out.junk hb2)
  clear HV hb2
  have HV := HV2
  clear HV2
  have HS1 := HS.out _ _ _ HV.out
  refine hK.out _ _ HS1 (fun hS2 => ?_)
  clear hK K hS
  have hS := hS2
  clear hS2 HS1
  try simp only [Act.put, List.setIfInBounds_toArray, List.set_cons_zero, List.set_cons_succ]
  refine wpAnyH_take (i := 33) (oi := { dst := some 97, op := Op.binOp BinOp.eql 28 (Operand.tmp 95) (Operand.tmp 96) 28, type := 4, pos := "law.go:38", after := #[{ on := 31, ground := Ground.data }, { on := 32, ground := Ground.data }, { on := 30, ground := Ground.guard }], guard := some (30, true) }) (v := .bool true) (by kernel_rfl) (by decide +kernel) (by decide +kernel) (by decide +kernel) (fun _ _ _ h => h) (Or.inl ⟨by rfl, by (intro w9 hSw; (try dsimp only at hSw); go_simp)⟩) hS ?_
  try simp only [Act.put, List.setIfInBounds_toArray, List.set_cons_zero, List.set_cons_succ]
  refine wpAnyH_take (i := 34) (oi := { dst := some 98, op := Op.pick (Operand.tmp 94) (Operand.tmp 97) (Operand.const (Value.bool false)), type := 4, pos := "law.go:38", after := #[{ on := 30, ground := Ground.data }, { on := 33, ground := Ground.data }], guard := none }) (v := .bool true) (by kernel_rfl) (by decide +kernel) (by decide +kernel) (by decide +kernel) (fun _ _ _ h => h) (Or.inl ⟨by rfl, by (intro w9 hSw; (try dsimp only at hSw); go_simp)⟩) hS ?_
  try simp only [Act.put, List.setIfInBounds_toArray, List.set_cons_zero, List.set_cons_succ]
  refine wpAnyH_take (i := 35) (oi := { dst := some 99, op := Op.move (Operand.tmp 98), type := 4, pos := "law.go:38", after := #[{ on := 34, ground := Ground.data }, { on := 32, ground := Ground.chain }], guard := none }) (v := .bool true) (by kernel_rfl) (by decide +kernel) (by decide +kernel) (by decide +kernel) (fun _ _ _ h => h) (Or.inl ⟨by rfl, by (intro w9 hSw; (try dsimp only at hSw); go_simp)⟩) hS ?_
  try simp only [Act.put, List.setIfInBounds_toArray, List.set_cons_zero, List.set_cons_succ]
  refine wpAnyH_take (i := 36) (oi := { dst := some 100, op := Op.move (Operand.tmp 1), type := 23, pos := "law.go:38", after := #[{ on := 35, ground := Ground.guard }], guard := some (35, true) }) (v := hptr vb) (by kernel_rfl) (by decide +kernel) (by decide +kernel) (by decide +kernel) (fun _ _ _ h => h) (Or.inl ⟨by rfl, by (intro w9 hSw; (try dsimp only at hSw); go_simp)⟩) hS ?_
  try simp only [Act.put, List.setIfInBounds_toArray, List.set_cons_zero, List.set_cons_succ]
  refine wpAnyH_ready (rs := [37]) (by decide +kernel) (by simp) (AllReadyH.cons (i := 37) (o := { dst := some 101, op := Op.call { callee := Callee.value (Operand.func 11), args := #[Operand.const (Value.int IntKind.i64 1)], argTypes := #[3] }, type := 28, pos := "law.go:38", after := #[{ on := 35, ground := Ground.chain }, { on := 35, ground := Ground.guard }], guard := some (35, true) }) (by kernel_rfl) (fun K hK => ?_) AllReadyH.nil)
  rw [if_pos (by rfl)]
  go_simp
  refine (int1_any 1 _).mono ?_
  rintro e wq ⟨rfl, hb2⟩
  have HV2 := Lib.hid (HV.out.junk hb2)
  clear HV hb2
  have HV := HV2
  clear HV2
  have HS1 := HS.out _ _ _ HV.out
  refine hK.out _ _ HS1 (fun hS2 => ?_)
  clear hK K hS
  have hS := hS2
  clear hS2 HS1
  try simp only [Act.put, List.setIfInBounds_toArray, List.set_cons_zero, List.set_cons_succ]
  refine wpAnyH_ready (rs := [38]) (by decide +kernel) (by simp) (AllReadyH.cons (i := 38) (o := { dst := some 102, op := Op.call { callee := Callee.value (Operand.func 14), args := #[Operand.tmp 100, Operand.const (Value.int IntKind.i64 (-1)), Operand.tmp 101], argTypes := #[23, 3, 28] }, type := 25, pos := "law.go:38", after := #[{ on := 36, ground := Ground.data }, { on := 37, ground := Ground.data }, { on := 37, ground := Ground.chain }, { on := 35, ground := Ground.guard }], guard := some (35, true) }) (by kernel_rfl) (fun K hK => ?_) AllReadyH.nil)
  rw [if_pos (by rfl)]
  go_simp
  refine (C1.out _ _ HV.out.vars).mono ?_
  rintro e wq ⟨rfl, hb2⟩
  have HV2 := Lib.hid (HV.out.junk hb2)
  clear HV hb2
  have HV := HV2
  clear HV2
  have HS1 := HS.out _ _ _ HV.out
  refine hK.out _ _ HS1 (fun hS2 => ?_)
  clear hK K hS
  have hS := hS2
  clear hS2 HS1
  try simp only [Act.put, List.setIfInBounds_toArray, List.set_cons_zero, List.set_cons_succ]
  refine wpAnyH_take (i := 39) (oi := { dst := some 103, op := Op.binOp BinOp.eql 25 (Operand.tmp 102) (Operand.const (Value.int IntKind.i64 8)) 25, type := 4, pos := "law.go:38", after := #[{ on := 38, ground := Ground.data }, { on := 35, ground := Ground.guard }], guard := some (35, true) }) (v := .bool true) (by kernel_rfl) (by decide +kernel) (by decide +kernel) (by decide +kernel) (fun _ _ _ h => h) (Or.inl ⟨by rfl, by (intro w9 hSw; (try dsimp only at hSw); go_simp)⟩) hS ?_
  try simp only [Act.put, List.setIfInBounds_toArray, List.set_cons_zero, List.set_cons_succ]
  refine wpAnyH_take (i := 40) (oi := { dst := some 104, op := Op.pick (Operand.tmp 99) (Operand.tmp 103) (Operand.const (Value.bool false)), type := 4, pos := "law.go:38", after := #[{ on := 35, ground := Ground.data }, { on := 39, ground := Ground.data }], guard := none }) (v := .bool true) (by kernel_rfl) (by decide +kernel) (by decide +kernel) (by decide +kernel) (fun _ _ _ h => h) (Or.inl ⟨by rfl, by (intro w9 hSw; (try dsimp only at hSw); go_simp)⟩) hS ?_
  try simp only [Act.put, List.setIfInBounds_toArray, List.set_cons_zero, List.set_cons_succ]
  refine wpAnyH_take (i := 41) (oi := { dst := some 105, op := Op.move (Operand.tmp 104), type := 4, pos := "law.go:38", after := #[{ on := 40, ground := Ground.data }, { on := 38, ground := Ground.chain }], guard := none }) (v := .bool true) (by kernel_rfl) (by decide +kernel) (by decide +kernel) (by decide +kernel) (fun _ _ _ h => h) (Or.inl ⟨by rfl, by (intro w9 hSw; (try dsimp only at hSw); go_simp)⟩) hS ?_
  try simp only [Act.put, List.setIfInBounds_toArray, List.set_cons_zero, List.set_cons_succ]
  refine wpAnyH_take (i := 42) (oi := { dst := some 106, op := Op.move (Operand.tmp 1), type := 23, pos := "law.go:38", after := #[{ on := 41, ground := Ground.guard }], guard := some (41, true) }) (v := hptr vb) (by kernel_rfl) (by decide +kernel) (by decide +kernel) (by decide +kernel) (fun _ _ _ h => h) (Or.inl ⟨by rfl, by (intro w9 hSw; (try dsimp only at hSw); go_simp)⟩) hS ?_
  try simp only [Act.put, List.setIfInBounds_toArray, List.set_cons_zero, List.set_cons_succ]
  refine wpAnyH_ready (rs := [43]) (by decide +kernel) (by simp) (AllReadyH.cons (i := 43) (o := { dst := some 107, op := Op.call { callee := Callee.value (Operand.func 11), args := #[Operand.const (Value.int IntKind.i64 1)], argTypes := #[3] }, type := 28, pos := "law.go:38", after := #[{ on := 41, ground := Ground.chain }, { on := 41, ground := Ground.guard }], guard := some (41, true) }) (by kernel_rfl) (fun K hK => ?_) AllReadyH.nil)
  rw [if_pos (by rfl)]
  go_simp
  refine (int1_any 1 _).mono ?_
  rintro e wq ⟨rfl, hb2⟩
  have HV2 := Lib.hid (HV.out.junk hb2)
  clear HV hb2
  have HV := HV2
  clear HV2
  have HS1 := HS.out _ _ _ HV.out
  refine hK.out _ _ HS1 (fun hS2 => ?_)
  clear hK K hS
  have hS := hS2
  clear hS2 HS1
  try simp only [Act.put, List.setIfInBounds_toArray, List.set_cons_zero, List.set_cons_succ]
  refine wpAnyH_ready (rs := [44]) (by decide +kernel) (by simp) (AllReadyH.cons (i := 44) (o := { dst := some 108, op := Op.call { callee := Callee.value (Operand.func 14), args := #[Operand.tmp 106, Operand.const (Value.int IntKind.i64 16384), Operand.tmp 107], argTypes := #[23, 3, 28] }, type := 25, pos := "law.go:38", after := #[{ on := 42, ground := Ground.data }, { on := 43, ground := Ground.data }, { on := 43, ground := Ground.chain }, { on := 41, ground := Ground.guard }], guard := some (41, true) }) (by kernel_rfl) (fun K hK => ?_) AllReadyH.nil)
  rw [if_pos (by rfl)]
  go_simp
  refine (C2.out _ _ HV.out.vars).mono ?_
  rintro e wq ⟨rfl, hb2⟩
  have HV2 := Lib.hid (HV.out.junk hb2)
  clear HV hb2
  have HV := HV2
  clear HV2
  have HS1 := HS.out _ _ _ HV.out
  refine hK.out _ _ HS1 (fun hS2 => ?_)
  clear hK K hS
  have hS := hS2
  clear hS2 HS1
  try simp only [Act.put, List.setIfInBounds_toArray, List.set_cons_zero, List.set_cons_succ]
  refine wpAnyH_take (i := 45) (oi := { dst := some 109, op := Op.binOp BinOp.eql 25 (Operand.tmp 108) (Operand.const (Value.int IntKind.i64 8)) 25, type := 4, pos := "law.go:38", after := #[{ on := 44, ground := Ground.data }, { on := 41, ground := Ground.guard }], guard := some (41, true) }) (v := .bool true) (by kernel_rfl) (by decide +kernel) (by decide +kernel) (by decide +kernel) (fun _ _ _ h => h) (Or.inl ⟨by rfl, by (intro w9 hSw; (try dsimp only at hSw); go_simp)⟩) hS ?_
  try simp only [Act.put, List.setIfInBounds_toArray, List.set_cons_zero, List.set_cons_succ]
  refine wpAnyH_take (i := 46) (oi := { dst := some 110, op := Op.pick (Operand.tmp 105) (Operand.tmp 109) (Operand.const (Value.bool false)), type := 4, pos := "law.go:38", after := #[{ on := 41, ground := Ground.data }, { on := 45, ground := Ground.data }], guard := none }) (v := .bool true) (by kernel_rfl) (by decide +kernel) (by decide +kernel) (by decide +kernel) (fun _ _ _ h => h) (Or.inl ⟨by rfl, by (intro w9 hSw; (try dsimp only at hSw); go_simp)⟩) hS ?_
  try simp only [Act.put, List.setIfInBounds_toArray, List.set_cons_zero, List.set_cons_succ]
  refine wpAnyH_take (i := 47) (oi := { dst := some 111, op := Op.move (Operand.tmp 110), type := 4, pos := "law.go:38", after := #[{ on := 46, ground := Ground.data }, { on := 44, ground := Ground.chain }], guard := none }) (v := .bool true) (by kernel_rfl) (by decide +kernel) (by decide +kernel) (by decide +kernel) (fun _ _ _ h => h) (Or.inl ⟨by rfl, by (intro w9 hSw; (try dsimp only at hSw); go_simp)⟩) hS ?_
  try simp only [Act.put, List.setIfInBounds_toArray, List.set_cons_zero, List.set_cons_succ]
  refine wpAnyH_take (i := 48) (oi := { dst := some 112, op := Op.move (Operand.tmp 1), type := 23, pos := "law.go:38", after := #[{ on := 47, ground := Ground.guard }], guard := some (47, true) }) (v := hptr vb) (by kernel_rfl) (by decide +kernel) (by decide +kernel) (by decide +kernel) (fun _ _ _ h => h) (Or.inl ⟨by rfl, by (intro w9 hSw; (try dsimp only at hSw); go_simp)⟩) hS ?_
  try simp only [Act.put, List.setIfInBounds_toArray, List.set_cons_zero, List.set_cons_succ]
  refine wpAnyH_ready (rs := [49]) (by decide +kernel) (by simp) (AllReadyH.cons (i := 49) (o := { dst := some 113, op := Op.call { callee := Callee.value (Operand.func 12), args := #[Operand.tmp 112, Operand.const (Value.int IntKind.i64 0)], argTypes := #[23, 3] }, type := 25, pos := "law.go:38", after := #[{ on := 48, ground := Ground.data }, { on := 47, ground := Ground.chain }, { on := 47, ground := Ground.guard }], guard := some (47, true) }) (by kernel_rfl) (fun K hK => ?_) AllReadyH.nil)
  rw [if_pos (by rfl)]
  go_simp
  refine (C4.out _ _ HV.out.vars).mono ?_
  rintro e wq ⟨rfl, hw2⟩
  obtain ⟨Gx, hv2⟩ := HV.out.went hw2
  have HV2 := Lib.hid hv2
  clear HV hw2 hv2
  have HV := HV2
  clear HV2
  have HS1 := HS.out _ _ _ HV.out
  refine hK.out _ _ HS1 (fun hS2 => ?_)
  clear hK K hS
  have hS := hS2
  clear hS2 HS1
  try simp only [Act.put, List.setIfInBounds_toArray, List.set_cons_zero, List.set_cons_succ]
  refine wpAnyH_take (i := 50) (oi := { dst := some 114, op := Op.binOp BinOp.eql 25 (Operand.tmp 113) (Operand.const (Value.int IntKind.i64 0)) 25, type := 4, pos := "law.go:38", after := #[{ on := 49, ground := Ground.data }, { on := 47, ground := Ground.guard }], guard := some (47, true) }) (v := .bool true) (by kernel_rfl) (by decide +kernel) (by decide +kernel) (by decide +kernel) (fun _ _ _ h => h) (Or.inl ⟨by rfl, by (intro w9 hSw; (try dsimp only at hSw); go_simp)⟩) hS ?_
  try simp only [Act.put, List.setIfInBounds_toArray, List.set_cons_zero, List.set_cons_succ]
  refine wpAnyH_take (i := 51) (oi := { dst := some 115, op := Op.pick (Operand.tmp 111) (Operand.tmp 114) (Operand.const (Value.bool false)), type := 4, pos := "law.go:38", after := #[{ on := 47, ground := Ground.data }, { on := 50, ground := Ground.data }], guard := none }) (v := .bool true) (by kernel_rfl) (by decide +kernel) (by decide +kernel) (by decide +kernel) (fun _ _ _ h => h) (Or.inl ⟨by rfl, by (intro w9 hSw; (try dsimp only at hSw); go_simp)⟩) hS ?_
  try simp only [Act.put, List.setIfInBounds_toArray, List.set_cons_zero, List.set_cons_succ]
  refine wpAnyH_take (i := 52) (oi := { dst := some 116, op := Op.move (Operand.tmp 115), type := 4, pos := "law.go:38", after := #[{ on := 51, ground := Ground.data }, { on := 49, ground := Ground.chain }], guard := none }) (v := .bool true) (by kernel_rfl) (by decide +kernel) (by decide +kernel) (by decide +kernel) (fun _ _ _ h => h) (Or.inl ⟨by rfl, by (intro w9 hSw; (try dsimp only at hSw); go_simp)⟩) hS ?_
  try simp only [Act.put, List.setIfInBounds_toArray, List.set_cons_zero, List.set_cons_succ]
  refine wpAnyH_take (i := 53) (oi := { dst := some 117, op := Op.move (Operand.tmp 1), type := 23, pos := "law.go:38", after := #[{ on := 52, ground := Ground.guard }], guard := some (52, true) }) (v := hptr vb) (by kernel_rfl) (by decide +kernel) (by decide +kernel) (by decide +kernel) (fun _ _ _ h => h) (Or.inl ⟨by rfl, by (intro w9 hSw; (try dsimp only at hSw); go_simp)⟩) hS ?_
  try simp only [Act.put, List.setIfInBounds_toArray, List.set_cons_zero, List.set_cons_succ]
  refine wpAnyH_ready (rs := [54]) (by decide +kernel) (by simp) (AllReadyH.cons (i := 54) (o := { dst := some 118, op := Op.call { callee := Callee.value (Operand.func 13), args := #[Operand.tmp 117, Operand.const (Value.int IntKind.i64 70)], argTypes := #[23, 3] }, type := 25, pos := "law.go:38", after := #[{ on := 53, ground := Ground.data }, { on := 52, ground := Ground.chain }, { on := 52, ground := Ground.guard }], guard := some (52, true) }) (by kernel_rfl) (fun K hK => ?_) AllReadyH.nil)
  rw [if_pos (by rfl)]
  go_simp
  refine (C5.out _ _ HV.out.vars).mono ?_
  rintro e wq ⟨rfl, hb2⟩
  have HV2 := Lib.hid (HV.out.junk hb2)
  clear HV hb2
  have HV := HV2
  clear HV2
  have HS1 := HS.out _ _ _ HV.out
  refine hK.out _ _ HS1 (fun hS2 => ?_)
  clear hK K hS
  have hS := hS2
  clear hS2 HS1
  try simp only [Act.put, List.setIfInBounds_toArray, List.set_cons_zero, List.set_cons_succ]
  refine wpAnyH_take (i := 55) (oi := { dst := some 119, op := Op.binOp BinOp.eql 25 (Operand.tmp 118) (Operand.const (Value.int IntKind.i64 9)) 25, type := 4, pos := "law.go:38", after := #[{ on := 54, ground := Ground.data }, { on := 52, ground := Ground.guard }], guard := some (52, true) }) (v := .bool true) (by kernel_rfl) (by decide +kernel) (by decide +kernel) (by decide +kernel) (fun _ _ _ h => h) (Or.inl ⟨by rfl, by (intro w9 hSw; (try dsimp only at hSw); go_simp)⟩) hS ?_
  try simp only [Act.put, List.setIfInBounds_toArray, List.set_cons_zero, List.set_cons_succ]
  refine wpAnyH_take (i := 56) (oi := { dst := some 120, op := Op.pick (Operand.tmp 116) (Operand.tmp 119) (Operand.const (Value.bool false)), type := 4, pos := "law.go:38", after := #[{ on := 52, ground := Ground.data }, { on := 55, ground := Ground.data }], guard := none }) (v := .bool true) (by kernel_rfl) (by decide +kernel) (by decide +kernel) (by decide +kernel) (fun _ _ _ h => h) (Or.inl ⟨by rfl, by (intro w9 hSw; (try dsimp only at hSw); go_simp)⟩) hS ?_
  try simp only [Act.put, List.setIfInBounds_toArray, List.set_cons_zero, List.set_cons_succ]
  refine wpAnyH_take (i := 57) (oi := { dst := some 121, op := Op.move (Operand.tmp 120), type := 4, pos := "law.go:38", after := #[{ on := 56, ground := Ground.data }, { on := 54, ground := Ground.chain }], guard := none }) (v := .bool true) (by kernel_rfl) (by decide +kernel) (by decide +kernel) (by decide +kernel) (fun _ _ _ h => h) (Or.inl ⟨by rfl, by (intro w9 hSw; (try dsimp only at hSw); go_simp)⟩) hS ?_
  try simp only [Act.put, List.setIfInBounds_toArray, List.set_cons_zero, List.set_cons_succ]
  refine wpAnyH_take (i := 58) (oi := { dst := some 122, op := Op.move (Operand.tmp 1), type := 23, pos := "law.go:38", after := #[{ on := 57, ground := Ground.guard }], guard := some (57, true) }) (v := hptr vb) (by kernel_rfl) (by decide +kernel) (by decide +kernel) (by decide +kernel) (fun _ _ _ h => h) (Or.inl ⟨by rfl, by (intro w9 hSw; (try dsimp only at hSw); go_simp)⟩) hS ?_
  try simp only [Act.put, List.setIfInBounds_toArray, List.set_cons_zero, List.set_cons_succ]
  refine wpAnyH_ready (rs := [59]) (by decide +kernel) (by simp) (AllReadyH.cons (i := 59) (o := { dst := some 123, op := Op.call { callee := Callee.value (Operand.func 11), args := #[Operand.const (Value.int IntKind.i64 1)], argTypes := #[3] }, type := 28, pos := "law.go:38", after := #[{ on := 57, ground := Ground.chain }, { on := 57, ground := Ground.guard }], guard := some (57, true) }) (by kernel_rfl) (fun K hK => ?_) AllReadyH.nil)
  rw [if_pos (by rfl)]
  go_simp
  refine (int1_any 1 _).mono ?_
  rintro e wq ⟨rfl, hb2⟩
  have HV2 := Lib.hid (HV.out.junk hb2)
  clear HV hb2
  have HV := HV2
  clear HV2
  have HS1 := HS.out _ _ _ HV.out
  refine hK.out _ _ HS1 (fun hS2 => ?_)
  clear hK K hS
  have hS := hS2
  clear hS2 HS1
  try simp only [Act.put, List.setIfInBounds_toArray, List.set_cons_zero, List.set_cons_succ]
  refine wpAnyH_ready (rs := [60]) (by decide +kernel) (by simp) (AllReadyH.cons (i := 60) (o := { dst := some 124, op := Op.call { callee := Callee.value (Operand.func 21), args := #[Operand.tmp 122, Operand.const (Value.int IntKind.i64 70), Operand.const (Value.int IntKind.i64 0), Operand.tmp 123], argTypes := #[23, 3, 3, 28] }, type := 25, pos := "law.go:38", after := #[{ on := 58, ground := Ground.data }, { on := 59, ground := Ground.data }, { on := 59, ground := Ground.chain }, { on := 57, ground := Ground.guard }], guard := some (57, true) }) (by kernel_rfl) (fun K hK => ?_) AllReadyH.nil)
  rw [if_pos (by rfl)]
  go_simp
  refine (C6.out _ _ HV.out.vars).mono ?_
  rintro e wq ⟨rfl, hb2⟩
  have HV2 := Lib.hid (HV.out.junk hb2)
  clear HV hb2
  have HV := HV2
  clear HV2
  have HS1 := HS.out _ _ _ HV.out
  refine hK.out _ _ HS1 (fun hS2 => ?_)
  clear hK K hS
  have hS := hS2
  clear hS2 HS1
  try simp only [Act.put, List.setIfInBounds_toArray, List.set_cons_zero, List.set_cons_succ]
  refine wpAnyH_take (i := 61) (oi := { dst := some 125, op := Op.binOp BinOp.eql 25 (Operand.tmp 124) (Operand.const (Value.int IntKind.i64 3)) 25, type := 4, pos := "law.go:38", after := #[{ on := 60, ground := Ground.data }, { on := 57, ground := Ground.guard }], guard := some (57, true) }) (v := .bool true) (by kernel_rfl) (by decide +kernel) (by decide +kernel) (by decide +kernel) (fun _ _ _ h => h) (Or.inl ⟨by rfl, by (intro w9 hSw; (try dsimp only at hSw); go_simp)⟩) hS ?_
  try simp only [Act.put, List.setIfInBounds_toArray, List.set_cons_zero, List.set_cons_succ]
  refine wpAnyH_take (i := 62) (oi := { dst := some 126, op := Op.pick (Operand.tmp 121) (Operand.tmp 125) (Operand.const (Value.bool false)), type := 4, pos := "law.go:38", after := #[{ on := 57, ground := Ground.data }, { on := 61, ground := Ground.data }], guard := none }) (v := .bool true) (by kernel_rfl) (by decide +kernel) (by decide +kernel) (by decide +kernel) (fun _ _ _ h => h) (Or.inl ⟨by rfl, by (intro w9 hSw; (try dsimp only at hSw); go_simp)⟩) hS ?_
  try simp only [Act.put, List.setIfInBounds_toArray, List.set_cons_zero, List.set_cons_succ]
  refine wpAnyH_take (i := 63) (oi := { dst := some 127, op := Op.move (Operand.tmp 126), type := 4, pos := "law.go:38", after := #[{ on := 62, ground := Ground.data }, { on := 60, ground := Ground.chain }], guard := none }) (v := .bool true) (by kernel_rfl) (by decide +kernel) (by decide +kernel) (by decide +kernel) (fun _ _ _ h => h) (Or.inl ⟨by rfl, by (intro w9 hSw; (try dsimp only at hSw); go_simp)⟩) hS ?_
  try simp only [Act.put, List.setIfInBounds_toArray, List.set_cons_zero, List.set_cons_succ]
  refine wpAnyH_take (i := 64) (oi := { dst := some 128, op := Op.move (Operand.tmp 1), type := 23, pos := "law.go:38", after := #[{ on := 63, ground := Ground.guard }], guard := some (63, true) }) (v := hptr vb) (by kernel_rfl) (by decide +kernel) (by decide +kernel) (by decide +kernel) (fun _ _ _ h => h) (Or.inl ⟨by rfl, by (intro w9 hSw; (try dsimp only at hSw); go_simp)⟩) hS ?_
  try simp only [Act.put, List.setIfInBounds_toArray, List.set_cons_zero, List.set_cons_succ]
  refine wpAnyH_ready (rs := [65]) (by decide +kernel) (by simp) (AllReadyH.cons (i := 65) (o := { dst := some 129, op := Op.call { callee := Callee.value (Operand.func 19), args := #[Operand.tmp 128, Operand.const (Value.int IntKind.i64 1)], argTypes := #[23, 3] }, type := 25, pos := "law.go:38", after := #[{ on := 64, ground := Ground.data }, { on := 63, ground := Ground.chain }, { on := 63, ground := Ground.guard }], guard := some (63, true) }) (by kernel_rfl) (fun K hK => ?_) AllReadyH.nil)
  rw [if_pos (by rfl)]
  go_simp
  refine (C7.out _ _ HV.out.vars).mono ?_
  rintro e wq ⟨rfl, hb2⟩
  have HV2 := Lib.hid (HV.out.junk hb2)
  clear HV hb2
  have HV := HV2
  clear HV2
  have HS1 := HS.out _ _ _ HV.out
  refine hK.out _ _ HS1 (fun hS2 => ?_)
  clear hK K hS
  have hS := hS2
  clear hS2 HS1
  try simp only [Act.put, List.setIfInBounds_toArray, List.set_cons_zero, List.set_cons_succ]
  refine wpAnyH_take (i := 66) (oi := { dst := some 130, op := Op.binOp BinOp.eql 25 (Operand.tmp 129) (Operand.const (Value.int IntKind.i64 3)) 25, type := 4, pos := "law.go:38", after := #[{ on := 65, ground := Ground.data }, { on := 63, ground := Ground.guard }], guard := some (63, true) }) (v := .bool true) (by kernel_rfl) (by decide +kernel) (by decide +kernel) (by decide +kernel) (fun _ _ _ h => h) (Or.inl ⟨by rfl, by (intro w9 hSw; (try dsimp only at hSw); go_simp)⟩) hS ?_
  try simp only [Act.put, List.setIfInBounds_toArray, List.set_cons_zero, List.set_cons_succ]
  refine wpAnyH_take (i := 67) (oi := { dst := some 131, op := Op.pick (Operand.tmp 127) (Operand.tmp 130) (Operand.const (Value.bool false)), type := 4, pos := "law.go:38", after := #[{ on := 63, ground := Ground.data }, { on := 66, ground := Ground.data }], guard := none }) (v := .bool true) (by kernel_rfl) (by decide +kernel) (by decide +kernel) (by decide +kernel) (fun _ _ _ h => h) (Or.inl ⟨by rfl, by (intro w9 hSw; (try dsimp only at hSw); go_simp)⟩) hS ?_
  try simp only [Act.put, List.setIfInBounds_toArray, List.set_cons_zero, List.set_cons_succ]
  refine wpAnyH_take (i := 68) (oi := { dst := some 132, op := Op.move (Operand.tmp 131), type := 4, pos := "law.go:38", after := #[{ on := 67, ground := Ground.data }, { on := 65, ground := Ground.chain }], guard := none }) (v := .bool true) (by kernel_rfl) (by decide +kernel) (by decide +kernel) (by decide +kernel) (fun _ _ _ h => h) (Or.inl ⟨by rfl, by (intro w9 hSw; (try dsimp only at hSw); go_simp)⟩) hS ?_
  try simp only [Act.put, List.setIfInBounds_toArray, List.set_cons_zero, List.set_cons_succ]
  refine wpAnyH_take (i := 69) (oi := { dst := some 133, op := Op.move (Operand.tmp 12), type := 23, pos := "law.go:38", after := #[{ on := 68, ground := Ground.guard }], guard := some (68, true) }) (v := .pointer none) (by kernel_rfl) (by decide +kernel) (by decide +kernel) (by decide +kernel) (fun _ _ _ h => h) (Or.inl ⟨by rfl, by (intro w9 hSw; (try dsimp only at hSw); go_simp)⟩) hS ?_
  try simp only [Act.put, List.setIfInBounds_toArray, List.set_cons_zero, List.set_cons_succ]
  refine wpAnyH_ready (rs := [70]) (by decide +kernel) (by simp) (AllReadyH.cons (i := 70) (o := { dst := some 134, op := Op.call { callee := Callee.value (Operand.func 11), args := #[Operand.const (Value.int IntKind.i64 1)], argTypes := #[3] }, type := 28, pos := "law.go:38", after := #[{ on := 68, ground := Ground.chain }, { on := 68, ground := Ground.guard }], guard := some (68, true) }) (by kernel_rfl) (fun K hK => ?_) AllReadyH.nil)
  rw [if_pos (by rfl)]
  go_simp
  refine (int1_any 1 _).mono ?_
  rintro e wq ⟨rfl, hb2⟩
  have HV2 := Lib.hid (HV.out.junk hb2)
  clear HV hb2
  have HV := HV2
  clear HV2
  have HS1 := HS.out _ _ _ HV.out
  refine hK.out _ _ HS1 (fun hS2 => ?_)
  clear hK K hS
  have hS := hS2
  clear hS2 HS1
  try simp only [Act.put, List.setIfInBounds_toArray, List.set_cons_zero, List.set_cons_succ]
  refine wpAnyH_ready (rs := [71]) (by decide +kernel) (by simp) (AllReadyH.cons (i := 71) (o := { dst := some 135, op := Op.call { callee := Callee.value (Operand.func 14), args := #[Operand.tmp 133, Operand.const (Value.int IntKind.i64 70), Operand.tmp 134], argTypes := #[23, 3, 28] }, type := 25, pos := "law.go:38", after := #[{ on := 69, ground := Ground.data }, { on := 70, ground := Ground.data }, { on := 70, ground := Ground.chain }, { on := 68, ground := Ground.guard }], guard := some (68, true) }) (by kernel_rfl) (fun K hK => ?_) AllReadyH.nil)
  rw [if_pos (by rfl)]
  go_simp
  refine (C3.out _).mono ?_
  rintro e wq ⟨rfl, hb2⟩
  have HV2 := Lib.hid (HV.out.junk hb2)
  clear HV hb2
  have HV := HV2
  clear HV2
  have HS1 := HS.out _ _ _ HV.out
  refine hK.out _ _ HS1 (fun hS2 => ?_)
  clear hK K hS
  have hS := hS2
  clear hS2 HS1
  try simp only [Act.put, List.setIfInBounds_toArray, List.set_cons_zero, List.set_cons_succ]
  refine wpAnyH_take (i := 72) (oi := { dst := some 136, op := Op.binOp BinOp.eql 25 (Operand.tmp 135) (Operand.const (Value.int IntKind.i64 1)) 25, type := 4, pos := "law.go:38", after := #[{ on := 71, ground := Ground.data }, { on := 68, ground := Ground.guard }], guard := some (68, true) }) (v := .bool true) (by kernel_rfl) (by decide +kernel) (by decide +kernel) (by decide +kernel) (fun _ _ _ h => h) (Or.inl ⟨by rfl, by (intro w9 hSw; (try dsimp only at hSw); go_simp)⟩) hS ?_
  try simp only [Act.put, List.setIfInBounds_toArray, List.set_cons_zero, List.set_cons_succ]
  refine wpAnyH_take (i := 73) (oi := { dst := some 137, op := Op.pick (Operand.tmp 132) (Operand.tmp 136) (Operand.const (Value.bool false)), type := 4, pos := "law.go:38", after := #[{ on := 68, ground := Ground.data }, { on := 72, ground := Ground.data }], guard := none }) (v := .bool true) (by kernel_rfl) (by decide +kernel) (by decide +kernel) (by decide +kernel) (fun _ _ _ h => h) (Or.inl ⟨by rfl, by (intro w9 hSw; (try dsimp only at hSw); go_simp)⟩) hS ?_
  try simp only [Act.put, List.setIfInBounds_toArray, List.set_cons_zero, List.set_cons_succ]
  refine wpAnyH_take (i := 74) (oi := { dst := some 138, op := Op.move (Operand.tmp 137), type := 4, pos := "law.go:38", after := #[{ on := 73, ground := Ground.data }, { on := 71, ground := Ground.chain }], guard := none }) (v := .bool true) (by kernel_rfl) (by decide +kernel) (by decide +kernel) (by decide +kernel) (fun _ _ _ h => h) (Or.inl ⟨by rfl, by (intro w9 hSw; (try dsimp only at hSw); go_simp)⟩) hS ?_
  try simp only [Act.put, List.setIfInBounds_toArray, List.set_cons_zero, List.set_cons_succ]
  refine wpAnyH_take (i := 75) (oi := { dst := some 139, op := Op.move (Operand.tmp 12), type := 23, pos := "law.go:38", after := #[{ on := 74, ground := Ground.guard }], guard := some (74, true) }) (v := .pointer none) (by kernel_rfl) (by decide +kernel) (by decide +kernel) (by decide +kernel) (fun _ _ _ h => h) (Or.inl ⟨by rfl, by (intro w9 hSw; (try dsimp only at hSw); go_simp)⟩) hS ?_
  try simp only [Act.put, List.setIfInBounds_toArray, List.set_cons_zero, List.set_cons_succ]
  refine wpAnyH_ready (rs := [76]) (by decide +kernel) (by simp) (AllReadyH.cons (i := 76) (o := { dst := some 140, op := Op.call { callee := Callee.value (Operand.func 22), args := #[Operand.tmp 139], argTypes := #[23] }, type := 3, pos := "law.go:38", after := #[{ on := 75, ground := Ground.data }, { on := 74, ground := Ground.chain }, { on := 74, ground := Ground.guard }], guard := some (74, true) }) (by kernel_rfl) (fun K hK => ?_) AllReadyH.nil)
  rw [if_pos (by rfl)]
  go_simp
  refine (depth_nil _).mono ?_
  rintro e wq ⟨rfl, rfl⟩
  have HS1 := HS.out _ _ _ HV.out
  refine hK.out _ _ HS1 (fun hS2 => ?_)
  clear hK K hS
  have hS := hS2
  clear hS2 HS1
  try simp only [Act.put, List.setIfInBounds_toArray, List.set_cons_zero, List.set_cons_succ]
  refine wpAnyH_take (i := 77) (oi := { dst := some 141, op := Op.binOp BinOp.eql 3 (Operand.tmp 140) (Operand.const (Value.int IntKind.i64 0)) 3, type := 4, pos := "law.go:38", after := #[{ on := 76, ground := Ground.data }, { on := 74, ground := Ground.guard }], guard := some (74, true) }) (v := .bool true) (by kernel_rfl) (by decide +kernel) (by decide +kernel) (by decide +kernel) (fun _ _ _ h => h) (Or.inl ⟨by rfl, by (intro w9 hSw; (try dsimp only at hSw); go_simp)⟩) hS ?_
  try simp only [Act.put, List.setIfInBounds_toArray, List.set_cons_zero, List.set_cons_succ]
  refine wpAnyH_take (i := 78) (oi := { dst := some 142, op := Op.pick (Operand.tmp 138) (Operand.tmp 141) (Operand.const (Value.bool false)), type := 4, pos := "law.go:38", after := #[{ on := 74, ground := Ground.data }, { on := 77, ground := Ground.data }], guard := none }) (v := .bool true) (by kernel_rfl) (by decide +kernel) (by decide +kernel) (by decide +kernel) (fun _ _ _ h => h) (Or.inl ⟨by rfl, by (intro w9 hSw; (try dsimp only at hSw); go_simp)⟩) hS ?_
  try simp only [Act.put, List.setIfInBounds_toArray, List.set_cons_zero, List.set_cons_succ]
  refine wpAnyH_take (i := 79) (oi := { dst := some 143, op := Op.move (Operand.tmp 142), type := 4, pos := "law.go:38", after := #[{ on := 78, ground := Ground.data }, { on := 76, ground := Ground.chain }], guard := none }) (v := .bool true) (by kernel_rfl) (by decide +kernel) (by decide +kernel) (by decide +kernel) (fun _ _ _ h => h) (Or.inl ⟨by rfl, by (intro w9 hSw; (try dsimp only at hSw); go_simp)⟩) hS ?_
  try simp only [Act.put, List.setIfInBounds_toArray, List.set_cons_zero, List.set_cons_succ]
  refine wpAnyH_take (i := 80) (oi := { dst := some 144, op := Op.move (Operand.tmp 12), type := 23, pos := "law.go:38", after := #[{ on := 79, ground := Ground.guard }], guard := some (79, true) }) (v := .pointer none) (by kernel_rfl) (by decide +kernel) (by decide +kernel) (by decide +kernel) (fun _ _ _ h => h) (Or.inl ⟨by rfl, by (intro w9 hSw; (try dsimp only at hSw); go_simp)⟩) hS ?_
  try simp only [Act.put, List.setIfInBounds_toArray, List.set_cons_zero, List.set_cons_succ]
  refine wpAnyH_ready (rs := [81]) (by decide +kernel) (by simp) (AllReadyH.cons (i := 81) (o := { dst := some 145, op := Op.call { callee := Callee.value (Operand.func 23), args := #[Operand.tmp 144], argTypes := #[23] }, type := 23, pos := "law.go:38", after := #[{ on := 80, ground := Ground.data }, { on := 79, ground := Ground.chain }, { on := 79, ground := Ground.guard }], guard := some (79, true) }) (by kernel_rfl) (fun K hK => ?_) AllReadyH.nil)
  rw [if_pos (by rfl)]
  go_simp
  refine (copy_nil _).mono ?_
  rintro e wq ⟨rfl, rfl⟩
  have HS1 := HS.out _ _ _ HV.out
  refine hK.out _ _ HS1 (fun hS2 => ?_)
  clear hK K hS
  have hS := hS2
  clear hS2 HS1
  try simp only [Act.put, List.setIfInBounds_toArray, List.set_cons_zero, List.set_cons_succ]
  refine wpAnyH_take (i := 82) (oi := { dst := some 146, op := Op.binOp BinOp.eql 23 (Operand.tmp 145) (Operand.const (Value.pointer none)) 23, type := 4, pos := "law.go:38", after := #[{ on := 81, ground := Ground.data }, { on := 79, ground := Ground.guard }], guard := some (79, true) }) (v := .bool true) (by kernel_rfl) (by decide +kernel) (by decide +kernel) (by decide +kernel) (fun _ _ _ h => h) (Or.inl ⟨by rfl, by (intro w9 hSw; (try dsimp only at hSw); go_simp)⟩) hS ?_
  try simp only [Act.put, List.setIfInBounds_toArray, List.set_cons_zero, List.set_cons_succ]
  refine wpAnyH_take (i := 83) (oi := { dst := some 147, op := Op.pick (Operand.tmp 143) (Operand.tmp 146) (Operand.const (Value.bool false)), type := 4, pos := "law.go:38", after := #[{ on := 79, ground := Ground.data }, { on := 82, ground := Ground.data }], guard := none }) (v := .bool true) (by kernel_rfl) (by decide +kernel) (by decide +kernel) (by decide +kernel) (fun _ _ _ h => h) (Or.inl ⟨by rfl, by (intro w9 hSw; (try dsimp only at hSw); go_simp)⟩) hS ?_
  try simp only [Act.put, List.setIfInBounds_toArray, List.set_cons_zero, List.set_cons_succ]
  refine wpAnyH_take (i := 84) (oi := { dst := some 148, op := Op.move (Operand.tmp 147), type := 4, pos := "law.go:38", after := #[{ on := 83, ground := Ground.data }, { on := 81, ground := Ground.chain }], guard := none }) (v := .bool true) (by kernel_rfl) (by decide +kernel) (by decide +kernel) (by decide +kernel) (fun _ _ _ h => h) (Or.inl ⟨by rfl, by (intro w9 hSw; (try dsimp only at hSw); go_simp)⟩) hS ?_
  try simp only [Act.put, List.setIfInBounds_toArray, List.set_cons_zero, List.set_cons_succ]
  refine wpAnyH_take (i := 85) (oi := { dst := some 149, op := Op.move (Operand.tmp 1), type := 23, pos := "law.go:38", after := #[{ on := 84, ground := Ground.guard }], guard := some (84, true) }) (v := hptr vb) (by kernel_rfl) (by decide +kernel) (by decide +kernel) (by decide +kernel) (fun _ _ _ h => h) (Or.inl ⟨by rfl, by (intro w9 hSw; (try dsimp only at hSw); go_simp)⟩) hS ?_
  try simp only [Act.put, List.setIfInBounds_toArray, List.set_cons_zero, List.set_cons_succ]
  refine wpAnyH_ready (rs := [86]) (by decide +kernel) (by simp) (AllReadyH.cons (i := 86) (o := { dst := some 150, op := Op.call { callee := Callee.value (Operand.func 24), args := #[Operand.tmp 149, Operand.const (Value.int IntKind.i64 0)], argTypes := #[23, 3] }, type := 4, pos := "law.go:38", after := #[{ on := 85, ground := Ground.data }, { on := 84, ground := Ground.chain }, { on := 84, ground := Ground.guard }], guard := some (84, true) }) (by kernel_rfl) (fun K hK => ?_) AllReadyH.nil)
  rw [if_pos (by rfl)]
  go_simp
  refine (C8.out _ _ HV.out.vars).mono ?_
  rintro e wq ⟨rfl, rfl⟩
  have HS1 := HS.out _ _ _ HV.out
  refine hK.out _ _ HS1 (fun hS2 => ?_)
  clear hK K hS
  have hS := hS2
  clear hS2 HS1
  try simp only [Act.put, List.setIfInBounds_toArray, List.set_cons_zero, List.set_cons_succ]
  refine wpAnyH_take (i := 87) (oi := { dst := some 151, op := Op.pick (Operand.tmp 148) (Operand.tmp 150) (Operand.const (Value.bool false)), type := 4, pos := "law.go:38", after := #[{ on := 84, ground := Ground.data }, { on := 86, ground := Ground.data }], guard := none }) (v := .bool true) (by kernel_rfl) (by decide +kernel) (by decide +kernel) (by decide +kernel) (fun _ _ _ h => h) (Or.inl ⟨by rfl, by (intro w9 hSw; (try dsimp only at hSw); go_simp)⟩) hS ?_
  try simp only [Act.put, List.setIfInBounds_toArray, List.set_cons_zero, List.set_cons_succ]
  refine wpAnyH_take (i := 88) (oi := { dst := some 152, op := Op.move (Operand.tmp 151), type := 4, pos := "law.go:38", after := #[{ on := 87, ground := Ground.data }, { on := 86, ground := Ground.chain }], guard := none }) (v := .bool true) (by kernel_rfl) (by decide +kernel) (by decide +kernel) (by decide +kernel) (fun _ _ _ h => h) (Or.inl ⟨by rfl, by (intro w9 hSw; (try dsimp only at hSw); go_simp)⟩) hS ?_
  try simp only [Act.put, List.setIfInBounds_toArray, List.set_cons_zero, List.set_cons_succ]
  refine wpAnyH_take (i := 89) (oi := { dst := some 153, op := Op.move (Operand.tmp 1), type := 23, pos := "law.go:38", after := #[{ on := 88, ground := Ground.guard }], guard := some (88, true) }) (v := hptr vb) (by kernel_rfl) (by decide +kernel) (by decide +kernel) (by decide +kernel) (fun _ _ _ h => h) (Or.inl ⟨by rfl, by (intro w9 hSw; (try dsimp only at hSw); go_simp)⟩) hS ?_
  try simp only [Act.put, List.setIfInBounds_toArray, List.set_cons_zero, List.set_cons_succ]
  refine wpAnyH_ready (rs := [90]) (by decide +kernel) (by simp) (AllReadyH.cons (i := 90) (o := { dst := some 154, op := Op.call { callee := Callee.value (Operand.func 25), args := #[Operand.tmp 153, Operand.const (Value.int IntKind.i64 1)], argTypes := #[23, 3] }, type := 4, pos := "law.go:38", after := #[{ on := 89, ground := Ground.data }, { on := 88, ground := Ground.chain }, { on := 88, ground := Ground.guard }], guard := some (88, true) }) (by kernel_rfl) (fun K hK => ?_) AllReadyH.nil)
  rw [if_pos (by rfl)]
  go_simp
  refine (C9.out _ _ HV.out.vars).mono ?_
  rintro e wq ⟨rfl, rfl⟩
  have HS1 := HS.out _ _ _ HV.out
  refine hK.out _ _ HS1 (fun hS2 => ?_)
  clear hK K hS
  have hS := hS2
  clear hS2 HS1
  try simp only [Act.put, List.setIfInBounds_toArray, List.set_cons_zero, List.set_cons_succ]
  refine wpAnyH_take (i := 91) (oi := { dst := some 155, op := Op.pick (Operand.tmp 152) (Operand.tmp 154) (Operand.const (Value.bool false)), type := 4, pos := "law.go:38", after := #[{ on := 88, ground := Ground.data }, { on := 90, ground := Ground.data }], guard := none }) (v := .bool true) (by kernel_rfl) (by decide +kernel) (by decide +kernel) (by decide +kernel) (fun _ _ _ h => h) (Or.inl ⟨by rfl, by (intro w9 hSw; (try dsimp only at hSw); go_simp)⟩) hS ?_
  try simp only [Act.put, List.setIfInBounds_toArray, List.set_cons_zero, List.set_cons_succ]
  refine wpAnyH_take (i := 92) (oi := { dst := some 156, op := Op.move (Operand.tmp 155), type := 4, pos := "law.go:38", after := #[{ on := 91, ground := Ground.data }, { on := 90, ground := Ground.chain }], guard := none }) (v := .bool true) (by kernel_rfl) (by decide +kernel) (by decide +kernel) (by decide +kernel) (fun _ _ _ h => h) (Or.inl ⟨by rfl, by (intro w9 hSw; (try dsimp only at hSw); go_simp)⟩) hS ?_
  try simp only [Act.put, List.setIfInBounds_toArray, List.set_cons_zero, List.set_cons_succ]
  refine wpAnyH_take (i := 93) (oi := { dst := some 157, op := Op.move (Operand.tmp 1), type := 23, pos := "law.go:38", after := #[{ on := 92, ground := Ground.guard }], guard := some (92, true) }) (v := hptr vb) (by kernel_rfl) (by decide +kernel) (by decide +kernel) (by decide +kernel) (fun _ _ _ h => h) (Or.inl ⟨by rfl, by (intro w9 hSw; (try dsimp only at hSw); go_simp)⟩) hS ?_
  try simp only [Act.put, List.setIfInBounds_toArray, List.set_cons_zero, List.set_cons_succ]
  refine wpAnyH_ready (rs := [94]) (by decide +kernel) (by simp) (AllReadyH.cons (i := 94) (o := { dst := some 158, op := Op.call { callee := Callee.value (Operand.func 24), args := #[Operand.tmp 157, Operand.const (Value.int IntKind.i64 70)], argTypes := #[23, 3] }, type := 4, pos := "law.go:38", after := #[{ on := 93, ground := Ground.data }, { on := 92, ground := Ground.chain }, { on := 92, ground := Ground.guard }], guard := some (92, true) }) (by kernel_rfl) (fun K hK => ?_) AllReadyH.nil)
  rw [if_pos (by rfl)]
  go_simp
  refine (CA.out _ _ HV.out.vars).mono ?_
  rintro e wq ⟨rfl, rfl⟩
  have HS1 := HS.out _ _ _ HV.out
  refine hK.out _ _ HS1 (fun hS2 => ?_)
  clear hK K hS
  have hS := hS2
  clear hS2 HS1
  try simp only [Act.put, List.setIfInBounds_toArray, List.set_cons_zero, List.set_cons_succ]
  refine wpAnyH_take (i := 95) (oi := { dst := some 159, op := Op.unOp UnOp.not 4 (Operand.tmp 158), type := 4, pos := "law.go:38", after := #[{ on := 94, ground := Ground.data }, { on := 92, ground := Ground.guard }], guard := some (92, true) }) (v := .bool true) (by kernel_rfl) (by decide +kernel) (by decide +kernel) (by decide +kernel) (fun _ _ _ h => h) (Or.inl ⟨by rfl, by (intro w9 hSw; (try dsimp only at hSw); go_simp)⟩) hS ?_
  try simp only [Act.put, List.setIfInBounds_toArray, List.set_cons_zero, List.set_cons_succ]
  refine wpAnyH_take (i := 96) (oi := { dst := some 160, op := Op.pick (Operand.tmp 156) (Operand.tmp 159) (Operand.const (Value.bool false)), type := 4, pos := "law.go:38", after := #[{ on := 92, ground := Ground.data }, { on := 95, ground := Ground.data }], guard := none }) (v := .bool true) (by kernel_rfl) (by decide +kernel) (by decide +kernel) (by decide +kernel) (fun _ _ _ h => h) (Or.inl ⟨by rfl, by (intro w9 hSw; (try dsimp only at hSw); go_simp)⟩) hS ?_
  try simp only [Act.put, List.setIfInBounds_toArray, List.set_cons_zero, List.set_cons_succ]
  refine wpAnyH_take (i := 97) (oi := { dst := some 0, op := Op.assign (Operand.tmp 160), type := 4, pos := "law.go:38", after := #[{ on := 96, ground := Ground.data }, { on := 94, ground := Ground.chain }, { on := 0, ground := Ground.phase }, { on := 1, ground := Ground.phase }, { on := 2, ground := Ground.phase }, { on := 3, ground := Ground.phase }, { on := 4, ground := Ground.phase }, { on := 5, ground := Ground.phase }, { on := 6, ground := Ground.phase }, { on := 7, ground := Ground.phase }, { on := 8, ground := Ground.phase }, { on := 9, ground := Ground.phase }, { on := 10, ground := Ground.phase }, { on := 11, ground := Ground.phase }, { on := 12, ground := Ground.phase }, { on := 13, ground := Ground.phase }, { on := 14, ground := Ground.phase }, { on := 15, ground := Ground.phase }, { on := 16, ground := Ground.phase }, { on := 17, ground := Ground.phase }, { on := 18, ground := Ground.phase }, { on := 19, ground := Ground.phase }, { on := 20, ground := Ground.phase }, { on := 21, ground := Ground.phase }, { on := 22, ground := Ground.phase }, { on := 23, ground := Ground.phase }, { on := 24, ground := Ground.phase }, { on := 25, ground := Ground.phase }, { on := 26, ground := Ground.phase }, { on := 27, ground := Ground.phase }, { on := 28, ground := Ground.phase }, { on := 29, ground := Ground.phase }, { on := 30, ground := Ground.phase }, { on := 31, ground := Ground.phase }, { on := 32, ground := Ground.phase }, { on := 33, ground := Ground.phase }, { on := 34, ground := Ground.phase }, { on := 35, ground := Ground.phase }, { on := 36, ground := Ground.phase }, { on := 37, ground := Ground.phase }, { on := 38, ground := Ground.phase }, { on := 39, ground := Ground.phase }, { on := 40, ground := Ground.phase }, { on := 41, ground := Ground.phase }, { on := 42, ground := Ground.phase }, { on := 43, ground := Ground.phase }, { on := 44, ground := Ground.phase }, { on := 45, ground := Ground.phase }, { on := 46, ground := Ground.phase }, { on := 47, ground := Ground.phase }, { on := 48, ground := Ground.phase }, { on := 49, ground := Ground.phase }, { on := 50, ground := Ground.phase }, { on := 51, ground := Ground.phase }, { on := 52, ground := Ground.phase }, { on := 53, ground := Ground.phase }, { on := 54, ground := Ground.phase }, { on := 55, ground := Ground.phase }, { on := 56, ground := Ground.phase }, { on := 57, ground := Ground.phase }, { on := 58, ground := Ground.phase }, { on := 59, ground := Ground.phase }, { on := 60, ground := Ground.phase }, { on := 61, ground := Ground.phase }, { on := 62, ground := Ground.phase }, { on := 63, ground := Ground.phase }, { on := 64, ground := Ground.phase }, { on := 65, ground := Ground.phase }, { on := 66, ground := Ground.phase }, { on := 67, ground := Ground.phase }, { on := 68, ground := Ground.phase }, { on := 69, ground := Ground.phase }, { on := 70, ground := Ground.phase }, { on := 71, ground := Ground.phase }, { on := 72, ground := Ground.phase }, { on := 73, ground := Ground.phase }, { on := 74, ground := Ground.phase }, { on := 75, ground := Ground.phase }, { on := 76, ground := Ground.phase }, { on := 77, ground := Ground.phase }, { on := 78, ground := Ground.phase }, { on := 79, ground := Ground.phase }, { on := 80, ground := Ground.phase }, { on := 81, ground := Ground.phase }, { on := 82, ground := Ground.phase }, { on := 83, ground := Ground.phase }, { on := 84, ground := Ground.phase }, { on := 85, ground := Ground.phase }, { on := 86, ground := Ground.phase }, { on := 87, ground := Ground.phase }, { on := 88, ground := Ground.phase }, { on := 89, ground := Ground.phase }, { on := 90, ground := Ground.phase }, { on := 91, ground := Ground.phase }, { on := 92, ground := Ground.phase }, { on := 93, ground := Ground.phase }, { on := 94, ground := Ground.phase }, { on := 95, ground := Ground.phase }, { on := 96, ground := Ground.phase }], guard := none }) (v := .bool true) (by kernel_rfl) (by decide +kernel) (by decide +kernel) (by decide +kernel) (fun _ _ _ h => h) (Or.inl ⟨by rfl, by (intro w9 hSw; (try dsimp only at hSw); go_simp)⟩) hS ?_
  try simp only [Act.put, List.setIfInBounds_toArray, List.set_cons_zero]
  refine wpAnyH_done (by decide +kernel) ?_ _
  go_wp2
  go_ret
  exact ⟨rfl, H0.out.trans (HV.out.below.mono H0.out.size)⟩
end Go.Proofs.Ytgkblfegjmeolaa
