/- The library's functions that this seat's program holds are laid at its numbers, in plain words. Conditions: none. -/
import Derived.Test.YtmaclplhphfkiaaDoorProg
import Derived.Shelf.Lays
import Derived.Shelf.LaysM
import Derived.KernelRfl
namespace Go.Proofs
open Go.Shelf

def Tryd.laysIndexByte_ren : Go.Shelf.Ren := ⟨fun | 137 => 130 | 217 => 161 | 266 => 186 | n => n, fun | n => n, fun | n => n⟩
theorem Tryd.laysIndexByte : Lays.n137 Tryd.prog Tryd.laysIndexByte_ren := {
  mixed := by kernel_rfl,
  f137 := Tryd.func130.trans (congrArg some (by kernel_rfl)),
  f217 := Tryd.func161.trans (congrArg some (by kernel_rfl)),
  f266 := Tryd.func186.trans (congrArg some (by kernel_rfl)),
  t3 := Tryd.underlying3,
  a3 := Tryd.isAgg3,
  z3 := Tryd.sizeOf3,
  v3 := Tryd.zeroValue3,
  t5 := Tryd.underlying5,
  a5 := Tryd.isAgg5,
  z5 := Tryd.sizeOf5,
  v5 := Tryd.zeroValue5,
  t9 := Tryd.underlying9,
  a9 := Tryd.isAgg9,
  z9 := Tryd.sizeOf9,
  v9 := Tryd.zeroValue9 }
end Go.Proofs
