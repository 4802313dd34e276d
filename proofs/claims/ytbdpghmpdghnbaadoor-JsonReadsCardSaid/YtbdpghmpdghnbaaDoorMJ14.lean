/- The library's functions that this seat's program holds are laid at its numbers, in plain words. Conditions: none. -/
import Derived.Test.YtbdpghmpdghnbaaDoorProg
import Derived.Shelf.Lays
import Derived.Shelf.LaysM
import Derived.KernelRfl
namespace Go.Proofs
open Go.Shelf

def Tryd.laysDecode_ren : Go.Shelf.Ren := ⟨fun | 197 => 51 | 260 => 53 | n => n, fun | 46 => 68 | 105 => 69 | 119 => 78 | 138 => 80 | 139 => 81 | n => n, fun | 3 => 1 | 4 => 2 | n => n⟩
theorem Tryd.laysDecode : Lays.n197 Tryd.prog Tryd.laysDecode_ren := {
  mixed := by kernel_rfl,
  f197 := Tryd.func51.trans (congrArg some (by kernel_rfl)),
  f260 := Tryd.func53.trans (congrArg some (by kernel_rfl)),
  t0 := Tryd.underlying0,
  a0 := Tryd.isAgg0,
  z0 := Tryd.sizeOf0,
  v0 := Tryd.zeroValue0,
  t3 := Tryd.underlying3,
  a3 := Tryd.isAgg3,
  z3 := Tryd.sizeOf3,
  v3 := Tryd.zeroValue3,
  t4 := Tryd.underlying4,
  a4 := Tryd.isAgg4,
  z4 := Tryd.sizeOf4,
  v4 := Tryd.zeroValue4,
  t5 := Tryd.underlying5,
  a5 := Tryd.isAgg5,
  z5 := Tryd.sizeOf5,
  v5 := Tryd.zeroValue5,
  t9 := Tryd.underlying9,
  a9 := Tryd.isAgg9,
  z9 := Tryd.sizeOf9,
  v9 := Tryd.zeroValue9,
  t21 := Tryd.underlying21,
  a21 := Tryd.isAgg21,
  z21 := Tryd.sizeOf21,
  v21 := Tryd.zeroValue21,
  t46 := Tryd.underlying68,
  a46 := Tryd.isAgg68,
  z46 := Tryd.sizeOf68,
  v46 := Tryd.zeroValue68,
  t105 := Tryd.underlying69,
  a105 := Tryd.isAgg69,
  z105 := Tryd.sizeOf69,
  v105 := Tryd.zeroValue69,
  t119 := Tryd.underlying78,
  a119 := Tryd.isAgg78,
  z119 := Tryd.sizeOf78,
  t138 := Tryd.underlying80,
  a138 := Tryd.isAgg80,
  z138 := Tryd.sizeOf80,
  v138 := Tryd.zeroValue80,
  t139 := Tryd.underlying81,
  a139 := Tryd.isAgg81,
  z139 := Tryd.sizeOf81,
  v139 := Tryd.zeroValue81,
  g3 := by kernel_rfl,
  g4 := by kernel_rfl }
end Go.Proofs
