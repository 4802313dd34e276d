/- The library's functions that this seat's program holds are laid at its numbers, in plain words. Conditions: none. -/
import Derived.Test.YteccfoiegjhppaaProg
import Derived.Shelf.Lays
import Derived.Shelf.LaysM
import Derived.KernelRfl
namespace Go.Proofs
open Go.Shelf

def Try.laysIndexRune_ren : Go.Shelf.Ren := ⟨fun | 119 => 23 | 137 => 22 | 152 => 19 | 217 => 31 | 224 => 24 | 225 => 25 | 266 => 32 | n => n, fun | 46 => 47 | n => n, fun | n => n⟩
theorem Try.laysIndexRune : Lays.n152 Try.prog Try.laysIndexRune_ren := {
  mixed := by kernel_rfl,
  f119 := Try.func23.trans (congrArg some (by kernel_rfl)),
  f137 := Try.func22.trans (congrArg some (by kernel_rfl)),
  f152 := Try.func19.trans (congrArg some (by kernel_rfl)),
  f217 := Try.func31.trans (congrArg some (by kernel_rfl)),
  f224 := Try.func24.trans (congrArg some (by kernel_rfl)),
  f225 := Try.func25.trans (congrArg some (by kernel_rfl)),
  f266 := Try.func32.trans (congrArg some (by kernel_rfl)),
  t0 := Try.underlying0,
  a0 := Try.isAgg0,
  z0 := Try.sizeOf0,
  v0 := Try.zeroValue0,
  t3 := Try.underlying3,
  a3 := Try.isAgg3,
  z3 := Try.sizeOf3,
  v3 := Try.zeroValue3,
  t4 := Try.underlying4,
  a4 := Try.isAgg4,
  z4 := Try.sizeOf4,
  v4 := Try.zeroValue4,
  t5 := Try.underlying5,
  a5 := Try.isAgg5,
  z5 := Try.sizeOf5,
  v5 := Try.zeroValue5,
  t9 := Try.underlying9,
  a9 := Try.isAgg9,
  z9 := Try.sizeOf9,
  v9 := Try.zeroValue9,
  t21 := Try.underlying21,
  a21 := Try.isAgg21,
  z21 := Try.sizeOf21,
  v21 := Try.zeroValue21,
  t46 := Try.underlying47,
  a46 := Try.isAgg47,
  z46 := Try.sizeOf47,
  v46 := Try.zeroValue47 }

def Try.laysIndexByte_ren : Go.Shelf.Ren := ⟨fun | 137 => 22 | 217 => 31 | 266 => 32 | n => n, fun | n => n, fun | n => n⟩
theorem Try.laysIndexByte : Lays.n137 Try.prog Try.laysIndexByte_ren := {
  mixed := by kernel_rfl,
  f137 := Try.func22.trans (congrArg some (by kernel_rfl)),
  f217 := Try.func31.trans (congrArg some (by kernel_rfl)),
  f266 := Try.func32.trans (congrArg some (by kernel_rfl)),
  t3 := Try.underlying3,
  a3 := Try.isAgg3,
  z3 := Try.sizeOf3,
  v3 := Try.zeroValue3,
  t5 := Try.underlying5,
  a5 := Try.isAgg5,
  z5 := Try.sizeOf5,
  v5 := Try.zeroValue5,
  t9 := Try.underlying9,
  a9 := Try.isAgg9,
  z9 := Try.sizeOf9,
  v9 := Try.zeroValue9 }
end Go.Proofs
