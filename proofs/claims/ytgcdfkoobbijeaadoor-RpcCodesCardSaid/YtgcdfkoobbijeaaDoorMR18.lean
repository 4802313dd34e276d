/- The document's own Next: what it answers, by the scan. Conditions: a string of at most 10^12 bytes; an offset within it. -/
import Derived.Test.YtgcdfkoobbijeaaDoorMR15
import Derived.Test.YtgcdfkoobbijeaaDoorMR16
import Derived.Test.YtgcdfkoobbijeaaDoorMR17
import Derived.Test.YtgcdfkoobbijeaaDoorProg
import Derived.Shelf.Lays
import Derived.Shelf.LaysM
import Derived.KernelRfl
namespace Go.Proofs.YtgcdfkoobbijeaaDoor
open Go Go.RowKit Go.Lib

theorem refNext_any (s : ByteArray) (i : Nat) (w : World) (hi : i < s.size) (hs : s.size ≤ 1000000000000) :
    Calls Tryd.prog 72 #[.string s, .int .i64 i] w (NextIs (U.nr s i) (U.nk s i) (U.nb s i) w) := by
  have h256 := s[i].toNat_lt
  by_cases h1 : s[i].toNat < 128
  · exact refNext_ascii s i w hi hs (by omega)
  by_cases h2 : s[i].toNat < 192
  · exact refNext_lone s i w hi hs (by omega)
  by_cases h3 : s[i].toNat < 224
  · by_cases hz : s.size < i + 2
    · exact refNext_short2 s i w hi hs (by omega) (by omega) (by omega)
    · exact refNext_long2 s i w hi hs (by omega) (by omega) (by omega)
  by_cases h4 : s[i].toNat < 240
  · by_cases hz : s.size < i + 3
    · exact refNext_short3 s i w hi hs (by omega) (by omega) (by omega)
    · exact refNext_long3 s i w hi hs (by omega) (by omega) (by omega)
  by_cases h5 : s[i].toNat < 248
  · by_cases hz : s.size < i + 4
    · exact refNext_short4 s i w hi hs (by omega) (by omega) (by omega)
    · exact refNext_long4 s i w hi hs (by omega) (by omega) (by omega)
  exact refNext_lone s i w hi hs (by omega)
theorem refNext_bad (s : ByteArray) (i : Nat) (w : World) (hi : i < s.size) (hs : s.size ≤ 1000000000000) (h : U.bad s i = true) :
    Calls Tryd.prog 72 #[.string s, .int .i64 i] w (NextIs 0 0 false w) := by
  have := refNext_any s i w hi hs
  rwa [U.nr_bad h, U.nk_bad h, U.nb_bad h] at this
theorem refNext_good (s : ByteArray) (i : Nat) (w : World) (hi : i < s.size) (hs : s.size ≤ 1000000000000) (h : U.bad s i = false) :
    Calls Tryd.prog 72 #[.string s, .int .i64 i] w (NextIs (U.ch s i) (U.wd s i) true w) := by
  have := refNext_any s i w hi hs
  rwa [U.nr_good h, U.nk_good h, U.nb_good h] at this

end Go.Proofs.YtgcdfkoobbijeaaDoor

namespace Go.Proofs
open Go.Shelf

def Tryd.laysValid_ren : Go.Shelf.Ren := ⟨fun | 196 => 113 | 259 => 133 | n => n, fun | 46 => 112 | 53 => 131 | 119 => 138 | 138 => 140 | 139 => 141 | n => n, fun | 3 => 2 | 4 => 3 | n => n⟩
theorem Tryd.laysValid : Lays.n196 Tryd.prog Tryd.laysValid_ren := {
  mixed := by kernel_rfl,
  f196 := Tryd.func113.trans (congrArg some (by kernel_rfl)),
  f259 := Tryd.func133.trans (congrArg some (by kernel_rfl)),
  t0 := Tryd.underlying0,
  a0 := Tryd.isAgg0,
  z0 := Tryd.sizeOf0,
  v0 := Tryd.zeroValue0,
  t3 := Tryd.underlying3,
  a3 := Tryd.isAgg3,
  z3 := Tryd.sizeOf3,
  v3 := Tryd.zeroValue3,
  t4 := Tryd.underlying4,
  a4 := Tryd.isAgg4,
  z4 := Tryd.sizeOf4,
  v4 := Tryd.zeroValue4,
  t5 := Tryd.underlying5,
  a5 := Tryd.isAgg5,
  z5 := Tryd.sizeOf5,
  v5 := Tryd.zeroValue5,
  t9 := Tryd.underlying9,
  a9 := Tryd.isAgg9,
  z9 := Tryd.sizeOf9,
  v9 := Tryd.zeroValue9,
  t12 := Tryd.underlying12,
  a12 := Tryd.isAgg12,
  z12 := Tryd.sizeOf12,
  v12 := Tryd.zeroValue12,
  t46 := Tryd.underlying112,
  a46 := Tryd.isAgg112,
  z46 := Tryd.sizeOf112,
  v46 := Tryd.zeroValue112,
  t53 := Tryd.underlying131,
  a53 := Tryd.isAgg131,
  z53 := Tryd.sizeOf131,
  v53 := Tryd.zeroValue131,
  t119 := Tryd.underlying138,
  a119 := Tryd.isAgg138,
  z119 := Tryd.sizeOf138,
  t138 := Tryd.underlying140,
  a138 := Tryd.isAgg140,
  z138 := Tryd.sizeOf140,
  v138 := Tryd.zeroValue140,
  t139 := Tryd.underlying141,
  a139 := Tryd.isAgg141,
  z139 := Tryd.sizeOf141,
  v139 := Tryd.zeroValue141,
  g3 := by kernel_rfl,
  g4 := by kernel_rfl }

def Tryd.laysAppend_ren : Go.Shelf.Ren := ⟨fun | 242 => 97 | 278 => 120 | n => n, fun | 37 => 56 | 46 => 112 | 51 => 122 | n => n, fun | n => n⟩
theorem Tryd.laysAppend : Lays.n242 Tryd.prog Tryd.laysAppend_ren := {
  mixed := by kernel_rfl,
  f242 := Tryd.func97.trans (congrArg some (by kernel_rfl)),
  f278 := Tryd.func120.trans (congrArg some (by kernel_rfl)),
  t4 := Tryd.underlying4,
  a4 := Tryd.isAgg4,
  z4 := Tryd.sizeOf4,
  v4 := Tryd.zeroValue4,
  t5 := Tryd.underlying5,
  a5 := Tryd.isAgg5,
  z5 := Tryd.sizeOf5,
  v5 := Tryd.zeroValue5,
  t21 := Tryd.underlying21,
  a21 := Tryd.isAgg21,
  z21 := Tryd.sizeOf21,
  v21 := Tryd.zeroValue21,
  t37 := Tryd.underlying56,
  a37 := Tryd.isAgg56,
  z37 := Tryd.sizeOf56,
  v37 := Tryd.zeroValue56,
  t46 := Tryd.underlying112,
  a46 := Tryd.isAgg112,
  z46 := Tryd.sizeOf112,
  v46 := Tryd.zeroValue112,
  t51 := Tryd.underlying122,
  a51 := Tryd.isAgg122,
  z51 := Tryd.sizeOf122,
  v51 := Tryd.zeroValue122 }
end Go.Proofs
