/- The library's functions that this seat's program holds are laid at its numbers, in plain words. Conditions: none. -/
import Derived.Test.YthabbebjmkjmfaaProg
import Derived.Shelf.Lays
import Derived.Shelf.LaysM
import Derived.KernelRfl
namespace Go.Proofs
open Go.Shelf

def Try.laysClone_ren : Go.Shelf.Ren := ⟨fun | 316 => 15 | n => n, fun | 37 => 40 | 127 => 41 | n => n, fun | n => n⟩
theorem Try.laysClone : LaysM.n316 Try.prog Try.laysClone_ren := {
  mixed := by kernel_rfl,
  f316 := Try.func15.trans (congrArg some (by kernel_rfl)),
  t0 := Try.underlying0,
  a0 := Try.isAgg0,
  z0 := Try.sizeOf0,
  v0 := Try.zeroValue0,
  t3 := Try.underlying3,
  a3 := Try.isAgg3,
  z3 := Try.sizeOf3,
  v3 := Try.zeroValue3,
  t4 := Try.underlying4,
  a4 := Try.isAgg4,
  z4 := Try.sizeOf4,
  v4 := Try.zeroValue4,
  t9 := Try.underlying9,
  a9 := Try.isAgg9,
  z9 := Try.sizeOf9,
  v9 := Try.zeroValue9,
  t37 := Try.underlying40,
  a37 := Try.isAgg40,
  z37 := Try.sizeOf40,
  v37 := Try.zeroValue40,
  t127 := Try.underlying41,
  a127 := Try.isAgg41,
  z127 := Try.sizeOf41,
  v127 := Try.zeroValue41,
  t5 := Try.underlying5,
  a5 := Try.isAgg5,
  z5 := Try.sizeOf5,
  v5 := Try.zeroValue5,
  i0 := by kernel_rfl,
  i3 := by kernel_rfl,
  i4 := by kernel_rfl,
  i5 := by kernel_rfl,
  i9 := by kernel_rfl,
  i37 := by kernel_rfl,
  i127 := by kernel_rfl }
end Go.Proofs
