/- The library's functions that this seat's program holds are laid at its numbers, in plain words. Conditions: none. -/
import Derived.Test.YthglpfmbmmlbjaaDoorProg
import Derived.Shelf.Lays
import Derived.Shelf.LaysM
import Derived.KernelRfl
namespace Go.Proofs
open Go.Shelf

def Tryd.laysIndexRune_ren : Go.Shelf.Ren := ⟨fun | 119 => 38 | 137 => 37 | 152 => 36 | 217 => 41 | 224 => 39 | 225 => 40 | 266 => 42 | n => n, fun | 46 => 62 | n => n, fun | n => n⟩
theorem Tryd.laysIndexRune : Lays.n152 Tryd.prog Tryd.laysIndexRune_ren := {
  mixed := by kernel_rfl,
  f119 := Tryd.func38.trans (congrArg some (by kernel_rfl)),
  f137 := Tryd.func37.trans (congrArg some (by kernel_rfl)),
  f152 := Tryd.func36.trans (congrArg some (by kernel_rfl)),
  f217 := Tryd.func41.trans (congrArg some (by kernel_rfl)),
  f224 := Tryd.func39.trans (congrArg some (by kernel_rfl)),
  f225 := Tryd.func40.trans (congrArg some (by kernel_rfl)),
  f266 := Tryd.func42.trans (congrArg some (by kernel_rfl)),
  t0 := Tryd.underlying0,
  a0 := Tryd.isAgg0,
  z0 := Tryd.sizeOf0,
  v0 := Tryd.zeroValue0,
  t3 := Tryd.underlying3,
  a3 := Tryd.isAgg3,
  z3 := Tryd.sizeOf3,
  v3 := Tryd.zeroValue3,
  t4 := Tryd.underlying4,
  a4 := Tryd.isAgg4,
  z4 := Tryd.sizeOf4,
  v4 := Tryd.zeroValue4,
  t5 := Tryd.underlying5,
  a5 := Tryd.isAgg5,
  z5 := Tryd.sizeOf5,
  v5 := Tryd.zeroValue5,
  t9 := Tryd.underlying9,
  a9 := Tryd.isAgg9,
  z9 := Tryd.sizeOf9,
  v9 := Tryd.zeroValue9,
  t21 := Tryd.underlying21,
  a21 := Tryd.isAgg21,
  z21 := Tryd.sizeOf21,
  v21 := Tryd.zeroValue21,
  t46 := Tryd.underlying62,
  a46 := Tryd.isAgg62,
  z46 := Tryd.sizeOf62,
  v46 := Tryd.zeroValue62 }

def Tryd.laysIndexByte_ren : Go.Shelf.Ren := ⟨fun | 137 => 37 | 217 => 41 | 266 => 42 | n => n, fun | n => n, fun | n => n⟩
theorem Tryd.laysIndexByte : Lays.n137 Tryd.prog Tryd.laysIndexByte_ren := {
  mixed := by kernel_rfl,
  f137 := Tryd.func37.trans (congrArg some (by kernel_rfl)),
  f217 := Tryd.func41.trans (congrArg some (by kernel_rfl)),
  f266 := Tryd.func42.trans (congrArg some (by kernel_rfl)),
  t3 := Tryd.underlying3,
  a3 := Tryd.isAgg3,
  z3 := Tryd.sizeOf3,
  v3 := Tryd.zeroValue3,
  t5 := Tryd.underlying5,
  a5 := Tryd.isAgg5,
  z5 := Tryd.sizeOf5,
  v5 := Tryd.zeroValue5,
  t9 := Tryd.underlying9,
  a9 := Tryd.isAgg9,
  z9 := Tryd.sizeOf9,
  v9 := Tryd.zeroValue9 }
end Go.Proofs
