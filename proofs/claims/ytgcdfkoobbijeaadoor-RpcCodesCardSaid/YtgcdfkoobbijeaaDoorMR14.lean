/- The library's functions that this seat's program holds are laid at its numbers, in plain words. Conditions: none. -/
import Derived.Test.YtgcdfkoobbijeaaDoorProg
import Derived.Shelf.Lays
import Derived.Shelf.LaysM
import Derived.KernelRfl
import Derived.Test.YtgcdfkoobbijeaaDoorMR12
import Derived.Test.YtgcdfkoobbijeaaDoorMR13
import Derived.Shelf.Unicode.DecodeAny
namespace Go.Proofs
open Go.Shelf

def Tryd.laysDecode_ren : Go.Shelf.Ren := ⟨fun | 197 => 158 | 260 => 164 | n => n, fun | 46 => 112 | 105 => 168 | 119 => 138 | 138 => 140 | 139 => 141 | n => n, fun | 3 => 2 | 4 => 3 | n => n⟩
theorem Tryd.laysDecode : Lays.n197 Tryd.prog Tryd.laysDecode_ren := {
  mixed := by kernel_rfl,
  f197 := Tryd.func158.trans (congrArg some (by kernel_rfl)),
  f260 := Tryd.func164.trans (congrArg some (by kernel_rfl)),
  t0 := Tryd.underlying0,
  a0 := Tryd.isAgg0,
  z0 := Tryd.sizeOf0,
  v0 := Tryd.zeroValue0,
  t3 := Tryd.underlying3,
  a3 := Tryd.isAgg3,
  z3 := Tryd.sizeOf3,
  v3 := Tryd.zeroValue3,
  t4 := Tryd.underlying4,
  a4 := Tryd.isAgg4,
  z4 := Tryd.sizeOf4,
  v4 := Tryd.zeroValue4,
  t5 := Tryd.underlying5,
  a5 := Tryd.isAgg5,
  z5 := Tryd.sizeOf5,
  v5 := Tryd.zeroValue5,
  t9 := Tryd.underlying9,
  a9 := Tryd.isAgg9,
  z9 := Tryd.sizeOf9,
  v9 := Tryd.zeroValue9,
  t21 := Tryd.underlying21,
  a21 := Tryd.isAgg21,
  z21 := Tryd.sizeOf21,
  v21 := Tryd.zeroValue21,
  t46 := Tryd.underlying112,
  a46 := Tryd.isAgg112,
  z46 := Tryd.sizeOf112,
  v46 := Tryd.zeroValue112,
  t105 := Tryd.underlying168,
  a105 := Tryd.isAgg168,
  z105 := Tryd.sizeOf168,
  v105 := Tryd.zeroValue168,
  t119 := Tryd.underlying138,
  a119 := Tryd.isAgg138,
  z119 := Tryd.sizeOf138,
  t138 := Tryd.underlying140,
  a138 := Tryd.isAgg140,
  z138 := Tryd.sizeOf140,
  v138 := Tryd.zeroValue140,
  t139 := Tryd.underlying141,
  a139 := Tryd.isAgg141,
  z139 := Tryd.sizeOf141,
  v139 := Tryd.zeroValue141,
  g3 := by kernel_rfl,
  g4 := by kernel_rfl }
end Go.Proofs

namespace Go.Proofs
open Go Go.RowKit Go.Shelf Go.Lib

namespace YtgcdfkoobbijeaaDoor
def Tabs (w : World) : Prop := Lib.Utf8Tabs (Tryd.laysDecode_ren.g 3) (Tryd.laysDecode_ren.g 4) w

def BoolIs (b : Bool) (w : World) (e : Ending) (w' : World) : Prop := e = .returned (.bool b) ∧ Below w.heap.size w w'
def PairIs (a b : Nat) (w : World) (e : Ending) (w' : World) : Prop := e = .returned (.tuple #[.int .i32 a, .int .i64 b]) ∧ Below w.heap.size w w'
theorem decode_any (s : ByteArray) (i : Nat) (w : World) (hi : i < s.size) (hT : Tabs w) :
    Calls Tryd.prog 158 #[.string (s.extract i s.size)] w (PairIs (U.ch s i) (U.wd s i) w) := by
  have := Any.utf8_DecodeRuneInString Tryd.laysDecode (s.extract i s.size) w hT
  have e : Lib.decodeGo (s.extract i s.size) = (U.ch s i, U.wd s i) := by
    unfold Lib.decodeGo
    rw [if_neg (by rw [Lib.ext_size]; omega), U.ext_decode]
    rfl
  rw [e] at this
  exact this
end YtgcdfkoobbijeaaDoor
end Go.Proofs

namespace Go.Proofs.YtgcdfkoobbijeaaDoor
open Go Go.RowKit Go.Shelf Go.Lib

theorem tabs_below {w w' : World} (hT : Tabs w) (h : Below w.heap.size w w') : Tabs w' := Utf8Tabs_below hT h

/-! ### Next -/
set_option maxHeartbeats 400000 in
set_option maxRecDepth 100000 in
theorem utfNext_out (s : ByteArray) (i : Int) (w : World) (hs : s.size ≤ 1000000000000) (hi : i < 0 ∨ (s.size : Int) ≤ i) :
    Calls Tryd.prog 144 #[.string s, .int .i64 i] w (NextIs 0 0 false w) := by
  rcases hi with hi | hi
  all_goals
    go_enter Tryd.func144, Tryd.ntmps144
    go_wp2_with fail
    go_ret3
    exact ⟨rfl, Below.refl _ _⟩
set_option maxHeartbeats 400000 in
set_option maxRecDepth 100000 in
theorem utfNext_bad (s : ByteArray) (i : Nat) (w : World) (hi : i < s.size) (_hs : s.size ≤ 1000000000000) (hT : Tabs w) (h : U.bad s i = true) :
    Calls Tryd.prog 144 #[.string s, .int .i64 i] w (NextIs 0 0 false w) := by
  have hc := decode_any s i w hi hT
  obtain ⟨h1, h2⟩ := (U.bad_iff s i).1 h
  rw [h1, h2] at hc
  have i1 : ¬ ((i : Int) < 0) := by omega
  have i2 : (i : Int) < (s.size : Int) := by omega
  clear h h1 h2
  go_enter Tryd.func144, Tryd.ntmps144
  go_wp2_with fail
  refine hc.mono ?_
  rintro e w' ⟨rfl, hb⟩
  go_wp2_with fail
  go_ret3
  exact ⟨rfl, hb⟩
set_option maxHeartbeats 400000 in
set_option maxRecDepth 100000 in
theorem utfNext_good (s : ByteArray) (i : Nat) (w : World) (hi : i < s.size) (_hs : s.size ≤ 1000000000000) (hT : Tabs w) (h : U.bad s i = false) :
    Calls Tryd.prog 144 #[.string s, .int .i64 i] w (NextIs (U.ch s i) (U.wd s i) true w) := by
  have hc := decode_any s i w hi hT
  have hn : ¬ (U.ch s i = 65533 ∧ U.wd s i = 1) := fun hx => by rw [(U.bad_iff s i).2 hx] at h; cases h
  have i1 : ¬ ((i : Int) < 0) := by omega
  have i2 : (i : Int) < (s.size : Int) := by omega
  clear h
  generalize U.ch s i = c at *
  generalize U.wd s i = d at *
  by_cases hq : c = 65533
  · have e1 : ((c : Int) == 65533) = true := by rw [beq_iff_eq]; omega
    have e2 : ((d : Int) == 1) = false := by rw [beq_eq_false_iff_ne]; omega
    clear hn hq
    go_enter Tryd.func144, Tryd.ntmps144
    go_wp2_with fail
    refine hc.mono ?_
    rintro e w' ⟨rfl, hb⟩
    go_wp2_with fail
    go_ret3
    exact ⟨rfl, hb⟩
  · have e1 : ((c : Int) == 65533) = false := by rw [beq_eq_false_iff_ne]; omega
    clear hn hq
    go_enter Tryd.func144, Tryd.ntmps144
    go_wp2_with fail
    refine hc.mono ?_
    rintro e w' ⟨rfl, hb⟩
    go_wp2_with fail
    go_ret3
    exact ⟨rfl, hb⟩
theorem utfNext_any (s : ByteArray) (i : Nat) (w : World) (hi : i < s.size) (hs : s.size ≤ 1000000000000) (hT : Tabs w) :
    Calls Tryd.prog 144 #[.string s, .int .i64 i] w (NextIs (U.nr s i) (U.nk s i) (U.nb s i) w) := by
  cases h : U.bad s i
  · rw [U.nr_good h, U.nk_good h, U.nb_good h]; exact utfNext_good s i w hi hs hT h
  · rw [U.nr_bad h, U.nk_bad h, U.nb_bad h]; exact utfNext_bad s i w hi hs hT h
end Go.Proofs.YtgcdfkoobbijeaaDoor
