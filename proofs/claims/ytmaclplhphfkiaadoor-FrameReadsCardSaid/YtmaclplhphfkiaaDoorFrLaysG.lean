/- The library's functions that this seat's program holds are laid at its numbers, in plain words. Conditions: none. -/
import Derived.Test.YtmaclplhphfkiaaDoorProg
import Derived.Shelf.Lays
import Derived.Shelf.LaysM
import Derived.Shelf.GgClosureLib.Lays
import Derived.KernelRfl
namespace Go.Proofs
open Go.Shelf

def Tryd.laysContainsFunc_ren : Go.Shelf.Ren := ⟨fun | 15 => 183 | 17 => 154 | 20 => 194 | n => n, fun | 23 => 174 | n => n, fun | n => n⟩
theorem Tryd.laysContainsFunc : LaysGw.n17 Tryd.prog Tryd.laysContainsFunc_ren := {
  mixed := by kernel_rfl,
  f15 := Tryd.func183.trans (congrArg some (by kernel_rfl)),
  f17 := Tryd.func154.trans (congrArg some (by kernel_rfl)),
  f20 := Tryd.func194.trans (congrArg some (by kernel_rfl)),
  t0 := Tryd.underlying0,
  a0 := Tryd.isAgg0,
  z0 := Tryd.sizeOf0,
  v0 := Tryd.zeroValue0,
  i0 := by kernel_rfl,
  t3 := Tryd.underlying3,
  a3 := Tryd.isAgg3,
  z3 := Tryd.sizeOf3,
  v3 := Tryd.zeroValue3,
  i3 := by kernel_rfl,
  t4 := Tryd.underlying4,
  a4 := Tryd.isAgg4,
  z4 := Tryd.sizeOf4,
  v4 := Tryd.zeroValue4,
  i4 := by kernel_rfl,
  t9 := Tryd.underlying9,
  a9 := Tryd.isAgg9,
  z9 := Tryd.sizeOf9,
  v9 := Tryd.zeroValue9,
  i9 := by kernel_rfl,
  t21 := Tryd.underlying21,
  a21 := Tryd.isAgg21,
  z21 := Tryd.sizeOf21,
  v21 := Tryd.zeroValue21,
  i21 := by kernel_rfl,
  t23 := Tryd.underlying174,
  a23 := Tryd.isAgg174,
  z23 := Tryd.sizeOf174,
  v23 := Tryd.zeroValue174,
  i23 := by kernel_rfl }
end Go.Proofs
