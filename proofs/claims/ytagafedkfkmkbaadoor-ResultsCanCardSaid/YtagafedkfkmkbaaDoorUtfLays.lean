/- The library's functions that this seat's program holds are laid at its numbers, in plain words. Conditions: none. -/
import Derived.Test.YtagafedkfkmkbaaDoorProg
import Derived.Shelf.Lays
import Derived.Shelf.LaysM
import Derived.KernelRfl
namespace Go.Proofs
open Go.Shelf

def Tryd.laysDecode_ren : Go.Shelf.Ren := ⟨fun | 197 => 175 | 260 => 181 | n => n, fun | 46 => 166 | 105 => 188 | 119 => 162 | 138 => 164 | 139 => 165 | n => n, fun | 3 => 0 | 4 => 1 | n => n⟩
theorem Tryd.laysDecode : Lays.n197 Tryd.prog Tryd.laysDecode_ren := {
  mixed := by kernel_rfl,
  f197 := Tryd.func175.trans (congrArg some (by kernel_rfl)),
  f260 := Tryd.func181.trans (congrArg some (by kernel_rfl)),
  t0 := Tryd.underlying0,
  a0 := Tryd.isAgg0,
  z0 := Tryd.sizeOf0,
  v0 := Tryd.zeroValue0,
  t3 := Tryd.underlying3,
  a3 := Tryd.isAgg3,
  z3 := Tryd.sizeOf3,
  v3 := Tryd.zeroValue3,
  t4 := Tryd.underlying4,
  a4 := Tryd.isAgg4,
  z4 := Tryd.sizeOf4,
  v4 := Tryd.zeroValue4,
  t5 := Tryd.underlying5,
  a5 := Tryd.isAgg5,
  z5 := Tryd.sizeOf5,
  v5 := Tryd.zeroValue5,
  t9 := Tryd.underlying9,
  a9 := Tryd.isAgg9,
  z9 := Tryd.sizeOf9,
  v9 := Tryd.zeroValue9,
  t21 := Tryd.underlying21,
  a21 := Tryd.isAgg21,
  z21 := Tryd.sizeOf21,
  v21 := Tryd.zeroValue21,
  t46 := Tryd.underlying166,
  a46 := Tryd.isAgg166,
  z46 := Tryd.sizeOf166,
  v46 := Tryd.zeroValue166,
  t105 := Tryd.underlying188,
  a105 := Tryd.isAgg188,
  z105 := Tryd.sizeOf188,
  v105 := Tryd.zeroValue188,
  t119 := Tryd.underlying162,
  a119 := Tryd.isAgg162,
  z119 := Tryd.sizeOf162,
  t138 := Tryd.underlying164,
  a138 := Tryd.isAgg164,
  z138 := Tryd.sizeOf164,
  v138 := Tryd.zeroValue164,
  t139 := Tryd.underlying165,
  a139 := Tryd.isAgg165,
  z139 := Tryd.sizeOf165,
  v139 := Tryd.zeroValue165,
  g3 := by kernel_rfl,
  g4 := by kernel_rfl }
end Go.Proofs
