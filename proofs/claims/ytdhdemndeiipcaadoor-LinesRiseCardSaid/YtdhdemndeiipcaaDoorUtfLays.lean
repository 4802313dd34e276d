/- The library's functions that this seat's program holds are laid at its numbers, in plain words. Conditions: none. -/
import Derived.Test.YtdhdemndeiipcaaDoorProg
import Derived.Shelf.Lays
import Derived.KernelRfl
namespace Go.Proofs
open Go.Shelf

def Tryd.laysDecode_ren : Go.Shelf.Ren := ⟨fun | 197 => 34 | 260 => 36 | n => n, fun | 46 => 56 | 105 => 52 | 119 => 55 | 138 => 58 | 139 => 59 | n => n, fun | 3 => 0 | 4 => 1 | n => n⟩
theorem Tryd.laysDecode : Lays.n197 Tryd.prog Tryd.laysDecode_ren := {
  mixed := by kernel_rfl,
  f197 := Tryd.func34.trans (congrArg some (by kernel_rfl)),
  f260 := Tryd.func36.trans (congrArg some (by kernel_rfl)),
  t0 := Tryd.underlying0,
  a0 := Tryd.isAgg0,
  z0 := Tryd.sizeOf0,
  v0 := Tryd.zeroValue0,
  t3 := Tryd.underlying3,
  a3 := Tryd.isAgg3,
  z3 := Tryd.sizeOf3,
  v3 := Tryd.zeroValue3,
  t4 := Tryd.underlying4,
  a4 := Tryd.isAgg4,
  z4 := Tryd.sizeOf4,
  v4 := Tryd.zeroValue4,
  t5 := Tryd.underlying5,
  a5 := Tryd.isAgg5,
  z5 := Tryd.sizeOf5,
  v5 := Tryd.zeroValue5,
  t9 := Tryd.underlying9,
  a9 := Tryd.isAgg9,
  z9 := Tryd.sizeOf9,
  v9 := Tryd.zeroValue9,
  t21 := Tryd.underlying21,
  a21 := Tryd.isAgg21,
  z21 := Tryd.sizeOf21,
  v21 := Tryd.zeroValue21,
  t46 := Tryd.underlying56,
  a46 := Tryd.isAgg56,
  z46 := Tryd.sizeOf56,
  v46 := Tryd.zeroValue56,
  t105 := Tryd.underlying52,
  a105 := Tryd.isAgg52,
  z105 := Tryd.sizeOf52,
  v105 := Tryd.zeroValue52,
  t119 := Tryd.underlying55,
  a119 := Tryd.isAgg55,
  z119 := Tryd.sizeOf55,
  t138 := Tryd.underlying58,
  a138 := Tryd.isAgg58,
  z138 := Tryd.sizeOf58,
  v138 := Tryd.zeroValue58,
  t139 := Tryd.underlying59,
  a139 := Tryd.isAgg59,
  z139 := Tryd.sizeOf59,
  v139 := Tryd.zeroValue59,
  g3 := by kernel_rfl,
  g4 := by kernel_rfl }
end Go.Proofs
