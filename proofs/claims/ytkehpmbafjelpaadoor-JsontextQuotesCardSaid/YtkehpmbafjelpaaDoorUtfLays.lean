/- The library's functions that this seat's program holds are laid at its numbers, in plain words. Conditions: none. -/
import Derived.Test.YtkehpmbafjelpaaDoorProg
import Derived.Shelf.Lays
import Derived.Shelf.LaysM
import Derived.KernelRfl
namespace Go.Proofs
open Go.Shelf

def Tryd.laysDecode_ren : Go.Shelf.Ren := ⟨fun | 197 => 145 | 260 => 149 | n => n, fun | 46 => 90 | 105 => 159 | 119 => 110 | 138 => 112 | 139 => 113 | n => n, fun | 3 => 0 | 4 => 1 | n => n⟩
theorem Tryd.laysDecode : Lays.n197 Tryd.prog Tryd.laysDecode_ren := {
  mixed := by kernel_rfl,
  f197 := Tryd.func145.trans (congrArg some (by kernel_rfl)),
  f260 := Tryd.func149.trans (congrArg some (by kernel_rfl)),
  t0 := Tryd.underlying0,
  a0 := Tryd.isAgg0,
  z0 := Tryd.sizeOf0,
  v0 := Tryd.zeroValue0,
  t3 := Tryd.underlying3,
  a3 := Tryd.isAgg3,
  z3 := Tryd.sizeOf3,
  v3 := Tryd.zeroValue3,
  t4 := Tryd.underlying4,
  a4 := Tryd.isAgg4,
  z4 := Tryd.sizeOf4,
  v4 := Tryd.zeroValue4,
  t5 := Tryd.underlying5,
  a5 := Tryd.isAgg5,
  z5 := Tryd.sizeOf5,
  v5 := Tryd.zeroValue5,
  t9 := Tryd.underlying9,
  a9 := Tryd.isAgg9,
  z9 := Tryd.sizeOf9,
  v9 := Tryd.zeroValue9,
  t21 := Tryd.underlying21,
  a21 := Tryd.isAgg21,
  z21 := Tryd.sizeOf21,
  v21 := Tryd.zeroValue21,
  t46 := Tryd.underlying90,
  a46 := Tryd.isAgg90,
  z46 := Tryd.sizeOf90,
  v46 := Tryd.zeroValue90,
  t105 := Tryd.underlying159,
  a105 := Tryd.isAgg159,
  z105 := Tryd.sizeOf159,
  v105 := Tryd.zeroValue159,
  t119 := Tryd.underlying110,
  a119 := Tryd.isAgg110,
  z119 := Tryd.sizeOf110,
  t138 := Tryd.underlying112,
  a138 := Tryd.isAgg112,
  z138 := Tryd.sizeOf112,
  v138 := Tryd.zeroValue112,
  t139 := Tryd.underlying113,
  a139 := Tryd.isAgg113,
  z139 := Tryd.sizeOf113,
  v139 := Tryd.zeroValue113,
  g3 := by kernel_rfl,
  g4 := by kernel_rfl }
end Go.Proofs
