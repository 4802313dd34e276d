/- The library's functions that this seat's program holds are laid at its numbers, in plain words. Conditions: none. -/
import Derived.Test.YtgcdfkoobbijeaaDoorProg
import Derived.Shelf.Lays
import Derived.Shelf.LaysM
import Derived.KernelRfl
import Derived.Test.YtgcdfkoobbijeaaDoorMR05
import Derived.Test.YtgcdfkoobbijeaaDoorMR03
import Derived.Shelf.Strconv.Clone
namespace Go.Proofs
open Go.Shelf

def Tryd.laysClone_ren : Go.Shelf.Ren := ⟨fun | 316 => 96 | n => n, fun | 37 => 56 | 127 => 121 | n => n, fun | n => n⟩
theorem Tryd.laysClone : LaysM.n316 Tryd.prog Tryd.laysClone_ren := {
  mixed := by kernel_rfl,
  f316 := Tryd.func96.trans (congrArg some (by kernel_rfl)),
  t0 := Tryd.underlying0,
  a0 := Tryd.isAgg0,
  z0 := Tryd.sizeOf0,
  v0 := Tryd.zeroValue0,
  t3 := Tryd.underlying3,
  a3 := Tryd.isAgg3,
  z3 := Tryd.sizeOf3,
  v3 := Tryd.zeroValue3,
  t4 := Tryd.underlying4,
  a4 := Tryd.isAgg4,
  z4 := Tryd.sizeOf4,
  v4 := Tryd.zeroValue4,
  t9 := Tryd.underlying9,
  a9 := Tryd.isAgg9,
  z9 := Tryd.sizeOf9,
  v9 := Tryd.zeroValue9,
  t37 := Tryd.underlying56,
  a37 := Tryd.isAgg56,
  z37 := Tryd.sizeOf56,
  v37 := Tryd.zeroValue56,
  t127 := Tryd.underlying121,
  a127 := Tryd.isAgg121,
  z127 := Tryd.sizeOf121,
  v127 := Tryd.zeroValue121,
  t5 := Tryd.underlying5,
  a5 := Tryd.isAgg5,
  z5 := Tryd.sizeOf5,
  v5 := Tryd.zeroValue5,
  i0 := by kernel_rfl,
  i3 := by kernel_rfl,
  i4 := by kernel_rfl,
  i5 := by kernel_rfl,
  i9 := by kernel_rfl,
  i37 := by kernel_rfl,
  i127 := by kernel_rfl }

def Tryd.laysIndexByte_ren : Go.Shelf.Ren := ⟨fun | 137 => 121 | 217 => 141 | 266 => 156 | n => n, fun | n => n, fun | n => n⟩
theorem Tryd.laysIndexByte : Lays.n137 Tryd.prog Tryd.laysIndexByte_ren := {
  mixed := by kernel_rfl,
  f137 := Tryd.func121.trans (congrArg some (by kernel_rfl)),
  f217 := Tryd.func141.trans (congrArg some (by kernel_rfl)),
  f266 := Tryd.func156.trans (congrArg some (by kernel_rfl)),
  t3 := Tryd.underlying3,
  a3 := Tryd.isAgg3,
  z3 := Tryd.sizeOf3,
  v3 := Tryd.zeroValue3,
  t5 := Tryd.underlying5,
  a5 := Tryd.isAgg5,
  z5 := Tryd.sizeOf5,
  v5 := Tryd.zeroValue5,
  t9 := Tryd.underlying9,
  a9 := Tryd.isAgg9,
  z9 := Tryd.sizeOf9,
  v9 := Tryd.zeroValue9 }
end Go.Proofs

namespace Go.Proofs.YtgcdfkoobbijeaaDoor
open Go Go.RowKit Go.Lib

def StrB (x : ByteArray) (w : World) (en : Ending) (w' : World) : Prop := en = .returned (.string x) ∧ Below w.heap.size w w'
set_option maxRecDepth 100000 in
set_option maxHeartbeats 1000000 in
theorem strClone_any (x : ByteArray) (w : World) (hx : x.size ≤ 140737488355328) :
    Calls Tryd.prog 65 #[.string x] w (StrB x w) := by
  have h := fun W => Any.stringslite_Clone Tryd.laysClone x W (by omega)
  go_enter Tryd.func65, Tryd.ntmps65
  go_wp2_with fail
  refine (h _).mono ?_
  rintro en w' ⟨rfl, hB⟩
  go_wp2_with fail
  go_ret
  exact ⟨rfl, hB⟩
end Go.Proofs.YtgcdfkoobbijeaaDoor
