/- The document's own Next and step: what each answers, by the scan. Conditions: a string of at most 10^12 bytes; an offset within it. -/
import Derived.Test.YtjeopabnddekgaaDoorME08
import Derived.Test.YtjeopabnddekgaaDoorME09
import Derived.Test.YtjeopabnddekgaaDoorME10
import Derived.Laws.RangeAny
import Derived.Test.YtjeopabnddekgaaDoorProg
import Derived.Shelf.Lays
import Derived.Shelf.LaysM
import Derived.KernelRfl
import Derived.Test.YtjeopabnddekgaaDoorME01
import Derived.Shelf.Unicode.DecodeAny
namespace Go.Proofs.YtjeopabnddekgaaDoor
open Go Go.RowKit Go.Lib

theorem refNext_any (s : ByteArray) (i : Nat) (w : World) (hi : i < s.size) (hs : s.size ≤ 1000000000000) :
    Calls Tryd.prog 71 #[.string s, .int .i64 i] w (NextIs (U.nr s i) (U.nk s i) (U.nb s i) w) := by
  have h256 := s[i].toNat_lt
  by_cases h1 : s[i].toNat < 128
  · exact refNext_ascii s i w hi hs (by omega)
  by_cases h2 : s[i].toNat < 192
  · exact refNext_lone s i w hi hs (by omega)
  by_cases h3 : s[i].toNat < 224
  · by_cases hz : s.size < i + 2
    · exact refNext_short2 s i w hi hs (by omega) (by omega) (by omega)
    · exact refNext_long2 s i w hi hs (by omega) (by omega) (by omega)
  by_cases h4 : s[i].toNat < 240
  · by_cases hz : s.size < i + 3
    · exact refNext_short3 s i w hi hs (by omega) (by omega) (by omega)
    · exact refNext_long3 s i w hi hs (by omega) (by omega) (by omega)
  by_cases h5 : s[i].toNat < 248
  · by_cases hz : s.size < i + 4
    · exact refNext_short4 s i w hi hs (by omega) (by omega) (by omega)
    · exact refNext_long4 s i w hi hs (by omega) (by omega) (by omega)
  exact refNext_lone s i w hi hs (by omega)
theorem refNext_bad (s : ByteArray) (i : Nat) (w : World) (hi : i < s.size) (hs : s.size ≤ 1000000000000) (h : U.bad s i = true) :
    Calls Tryd.prog 71 #[.string s, .int .i64 i] w (NextIs 0 0 false w) := by
  have := refNext_any s i w hi hs
  rwa [U.nr_bad h, U.nk_bad h, U.nb_bad h] at this
theorem refNext_good (s : ByteArray) (i : Nat) (w : World) (hi : i < s.size) (hs : s.size ≤ 1000000000000) (h : U.bad s i = false) :
    Calls Tryd.prog 71 #[.string s, .int .i64 i] w (NextIs (U.ch s i) (U.wd s i) true w) := by
  have := refNext_any s i w hi hs
  rwa [U.nr_good h, U.nk_good h, U.nb_good h] at this

def StepIs (a b : Nat) (w : World) (e : Ending) (w' : World) : Prop := e = .returned (.tuple #[.int .i64 a, .int .i64 b]) ∧ Below w.heap.size w w'
set_option maxHeartbeats 400000 in
set_option maxRecDepth 100000 in
theorem step_any (s : ByteArray) (i : Nat) (w : World) (hi : i < s.size) (hs : s.size ≤ 1000000000000) :
    Calls Tryd.prog 76 #[.string s, .int .i64 i] w (StepIs (U.wd s i) (U.un s i) w) := by
  cases hbad : U.bad s i
  · have hc := refNext_good s i w hi hs hbad
    have hf := U.facts s i hi
    by_cases hu : 65536 ≤ U.ch s i
    · have hun : U.un s i = 2 := by unfold U.un; rw [if_pos hu]
      rw [hun]
      have e1 : decide ((65536 : Int) ≤ (U.ch s i : Int)) = true := decide_eq_true (by omega)
      generalize U.ch s i = c at *
      generalize U.wd s i = d at *
      clear hbad hun hu hf
      go_enter Tryd.func76, Tryd.ntmps76
      go_wp2_with fail
      refine hc.mono ?_
      rintro e w' ⟨rfl, hb⟩
      go_wp2_with fail
      go_ret2
      exact ⟨rfl, hb⟩
    · have hun : U.un s i = 1 := by unfold U.un; rw [if_neg hu]
      rw [hun]
      have e1 : decide ((65536 : Int) ≤ (U.ch s i : Int)) = false := decide_eq_false (by omega)
      generalize U.ch s i = c at *
      generalize U.wd s i = d at *
      clear hbad hun hu hf
      go_enter Tryd.func76, Tryd.ntmps76
      go_wp2_with fail
      refine hc.mono ?_
      rintro e w' ⟨rfl, hb⟩
      go_wp2_with fail
      go_ret2
      exact ⟨rfl, hb⟩
  · have hc := refNext_bad s i w hi hs hbad
    obtain ⟨h1, h2⟩ := U.bad_un hbad
    rw [h1, h2]
    clear hbad h1 h2
    go_enter Tryd.func76, Tryd.ntmps76
    go_wp2_with fail
    refine hc.mono ?_
    rintro e w' ⟨rfl, hb⟩
    go_wp2_with fail
    go_ret2
    exact ⟨rfl, hb⟩

def IntIs (a : Nat) (w : World) (e : Ending) (w' : World) : Prop := e = .returned (.int .i64 a) ∧ Below w.heap.size w w'
end Go.Proofs.YtjeopabnddekgaaDoor

namespace Go.Proofs.YtjeopabnddekgaaDoor
open Go Go.RowKit Go.Lib

set_option maxHeartbeats 400000 in
theorem width_two (r : Int) (w : World) (h : decide ((65536 : Int) ≤ r) = true) :
    Calls Tryd.prog 101 #[.int .i32 r] w fun e w' => e = .returned (.int .i64 2) ∧ w = w' := by
  go_enter Tryd.func101, Tryd.ntmps101
  go_wp2_with fail
  go_ret
  exact ⟨rfl, rfl⟩
set_option maxHeartbeats 400000 in
theorem width_one (r : Int) (w : World) (h : decide ((65536 : Int) ≤ r) = false) :
    Calls Tryd.prog 101 #[.int .i32 r] w fun e w' => e = .returned (.int .i64 1) ∧ w = w' := by
  go_enter Tryd.func101, Tryd.ntmps101
  go_wp2_with fail
  go_ret
  exact ⟨rfl, rfl⟩
theorem width_any (s : ByteArray) (i : Nat) (w : World) :
    Calls Tryd.prog 101 #[.int .i32 (U.ch s i)] w fun e w' => e = .returned (.int .i64 (U.un s i)) ∧ w = w' := by
  unfold U.un
  by_cases h : 65536 ≤ U.ch s i
  · rw [if_pos h]; exact width_two _ w (decide_eq_true (by omega))
  · rw [if_neg h]; exact width_one _ w (decide_eq_false (by omega))

set_option maxHeartbeats 400000 in
set_option maxRecDepth 100000 in
theorem utfUnits_any (s : ByteArray) (w : World) (hs : s.size ≤ 1000000000000) :
    Calls Tryd.prog 90 #[.string s] w fun e w' => e = .returned (.int .i64 (U.units s)) ∧ ∃ pos, w' = w.iter s pos := by
  go_enter Tryd.func90, Tryd.ntmps90
  go_wp2_with fail
  go_loopw [3] (fun n wr => ∃ f pos m : Nat, wr = w.iter s pos ∧ n = .int .i64 m ∧ pos ≤ s.size ∧ m ≤ pos ∧ Hid (m + U.unitsFrom s f pos = U.units s ∧ s.size ≤ pos + f)) (fun _ wr => s.size - wr.iterPos w.heap.size)
  case atStart => exact ⟨s.size, 0, 0, rfl, rfl, by omega, by omega, Lib.hid ⟨by unfold U.units; omega, by omega⟩⟩
  case round =>
    obtain ⟨f, pos, m, rfl, rfl, hp, hm, HU⟩ := hrel
    by_cases hlt : pos < s.size
    · have hw1 := U.wd_pos hlt
      have hw2 := U.wd_le hlt
      have hu := U.un_le hlt
      obtain ⟨f', rfl⟩ : ∃ f', f = f' + 1 := ⟨f - 1, by have := HU.out.2; omega⟩
      have HS := Lib.hid (U.unitsFrom_step s f' pos hlt)
      have hc := fun W => width_any s pos W
      have hnx : ∀ ty, (Instr.next (.pointer (some ⟨w.heap.size, 0, none⟩)) true ty).run Tryd.prog (w.iter s pos) = .ok (.tuple #[.bool true, .int .i64 pos, .int .i32 (U.ch s pos)]) (w.iter s (pos + U.wd s pos)) := fun ty => run_next_any w s pos ty hlt
      generalize U.wd s pos = d at *
      generalize U.un s pos = v at *
      generalize U.ch s pos = c at *
      go_wp2_with fail
      refine (hc _).mono ?_
      rintro e w' ⟨rfl, rfl⟩
      go_wp2_with fail
      go_roundw
      case rel =>
        refine ⟨f', pos + d, m + v, rfl, by go_num, by omega, by omega, Lib.hid ⟨?_, ?_⟩⟩
        · have := HU.out.1; rw [HS.out] at this; omega
        · have := HU.out.2; omega
      case measure => simp; omega
    · have hnx : ∀ ty, (Instr.next (.pointer (some ⟨w.heap.size, 0, none⟩)) true ty).run Tryd.prog (w.iter s pos) = _ := fun ty => run_next_end w s pos ty hlt
      go_wp2_with fail
      go_ret
      refine ⟨?_, _, rfl⟩
      have := HU.out.1
      rw [U.unitsFrom_end s f pos hlt] at this
      rw [← this]; rfl

/-! ### the program's Cut: the units that are left, counted down -/
set_option maxHeartbeats 400000 in
set_option maxRecDepth 100000 in
theorem utfCut_below (s : ByteArray) (u : Int) (w : World) (hu : u < 0) :
    Calls Tryd.prog 83 #[.string s, .int .i64 u] w (IntIs 0 w) := by
  go_enter Tryd.func83, Tryd.ntmps83
  go_wp2_with fail
  go_ret
  exact ⟨rfl, Below.refl _ _⟩
theorem below_iter (w : World) (s : ByteArray) (p : Nat) : Below w.heap.size w (w.iter s p) := (Below.refl _ _).alloc (Nat.le_refl _) _
set_option maxHeartbeats 400000 in
set_option maxRecDepth 100000 in
theorem utfCut_from (s : ByteArray) (u : Int) (w : World) (hs : s.size ≤ 1000000000000) (hu0 : 0 ≤ u) (hu1 : u ≤ 9223372036854775807) :
    Calls Tryd.prog 83 #[.string s, .int .i64 u] w (IntIs (U.cut s u) w) := by
  go_enter Tryd.func83, Tryd.ntmps83
  go_wp2_with fail
  go_loopw [1] (fun v wr => ∃ f pos m : Nat, wr = w.iter s pos ∧ v = .int .i64 (u - m) ∧ (m : Int) ≤ u ∧ pos ≤ s.size ∧ m ≤ pos ∧ Hid (U.cutFrom s u f pos m = U.cut s u ∧ s.size ≤ pos + f)) (fun _ wr => s.size - wr.iterPos w.heap.size)
  case atStart => exact ⟨s.size, 0, 0, rfl, by go_num, by omega, by omega, by omega, Lib.hid ⟨rfl, by omega⟩⟩
  case round =>
    obtain ⟨f, pos, m, rfl, rfl, hmu, hp, hm, HU⟩ := hrel
    by_cases hlt : pos < s.size
    · have hw1 := U.wd_pos hlt
      have hw2 := U.wd_le hlt
      have hun := U.un_le hlt
      obtain ⟨f', rfl⟩ : ∃ f', f = f' + 1 := ⟨f - 1, by have := HU.out.2; omega⟩
      have hc := fun W => width_any s pos W
      have hnx : ∀ ty, (Instr.next (.pointer (some ⟨w.heap.size, 0, none⟩)) true ty).run Tryd.prog (w.iter s pos) = .ok (.tuple #[.bool true, .int .i64 pos, .int .i32 (U.ch s pos)]) (w.iter s (pos + U.wd s pos)) := fun ty => run_next_any w s pos ty hlt
      by_cases hst : u < ((m + U.un s pos : Nat) : Int)
      · have HS := Lib.hid (U.cutFrom_stop s u f' pos m hlt hst)
        generalize U.wd s pos = d at *
        generalize U.un s pos = v at *
        generalize U.ch s pos = c at *
        have e1 : decide (u - (m : Int) - (v : Int) < 0) = true := decide_eq_true (by omega)
        clear hst
        go_wp2_with fail
        refine (hc _).mono ?_
        rintro e w' ⟨rfl, rfl⟩
        go_wp2_with fail
        go_ret
        refine ⟨?_, below_iter _ _ _⟩
        have := HU.out.1
        rw [HS.out] at this
        rw [← this]
        rfl
      · have HS := Lib.hid (U.cutFrom_step s u f' pos m hlt hst)
        generalize U.wd s pos = d at *
        generalize U.un s pos = v at *
        generalize U.ch s pos = c at *
        have e1 : decide (u - (m : Int) - (v : Int) < 0) = false := decide_eq_false (by omega)
        have h2 : (m : Int) + (v : Int) ≤ u := by omega
        clear hst
        go_wp2_with fail
        refine (hc _).mono ?_
        rintro e w' ⟨rfl, rfl⟩
        go_wp2_with fail
        go_roundw
        case rel =>
          refine ⟨f', pos + d, m + v, rfl, ?_, by omega, by omega, by omega, Lib.hid ⟨?_, ?_⟩⟩
          · congr 1; omega
          · have := HU.out.1; rw [HS.out] at this; exact this
          · have := HU.out.2; omega
        case measure => simp; omega
    · have hnx : ∀ ty, (Instr.next (.pointer (some ⟨w.heap.size, 0, none⟩)) true ty).run Tryd.prog (w.iter s pos) = _ := fun ty => run_next_end w s pos ty hlt
      go_wp2_with fail
      go_ret
      refine ⟨congrArg (fun n : Nat => Ending.returned (.int .i64 n)) (show s.size = U.cut s u from ?_), below_iter _ _ _⟩
      have := HU.out.1
      rw [U.cutFrom_end s u f pos m hlt] at this
      omega
namespace U
theorem cut_below (s : ByteArray) (u : Int) (h : u < 0) : cut s u = 0 := by
  unfold cut
  by_cases hp : 0 < s.size
  · obtain ⟨f, hf⟩ : ∃ f, s.size = f + 1 := ⟨s.size - 1, by omega⟩
    rw [hf]
    exact cutFrom_stop s u f 0 0 hp (by omega)
  · exact cutFrom_end s u s.size 0 0 hp
end U
theorem utfCut_any (s : ByteArray) (u : Int) (w : World) (hs : s.size ≤ 1000000000000) (hu1 : u ≤ 9223372036854775807) :
    Calls Tryd.prog 83 #[.string s, .int .i64 u] w (IntIs (U.cut s u) w) := by
  by_cases h : u < 0
  · rw [U.cut_below s u h]; exact utfCut_below s u w h
  · exact utfCut_from s u w hs (by omega) hu1

theorem utfUnits_is (s : ByteArray) (w : World) (hs : s.size ≤ 1000000000000) :
    Calls Tryd.prog 90 #[.string s] w (IntIs (U.units s) w) :=
  (utfUnits_any s w hs).mono fun _ _ ⟨h, p, hp⟩ => ⟨h, hp ▸ below_iter w s p⟩

end Go.Proofs.YtjeopabnddekgaaDoor

namespace Go.Proofs
open Go.Shelf

def Tryd.laysDecode_ren : Go.Shelf.Ren := ⟨fun | 197 => 103 | 260 => 105 | n => n, fun | 46 => 152 | 105 => 157 | 119 => 148 | 138 => 150 | 139 => 151 | n => n, fun | 3 => 0 | 4 => 1 | n => n⟩
theorem Tryd.laysDecode : Lays.n197 Tryd.prog Tryd.laysDecode_ren := {
  mixed := by kernel_rfl,
  f197 := Tryd.func103.trans (congrArg some (by kernel_rfl)),
  f260 := Tryd.func105.trans (congrArg some (by kernel_rfl)),
  t0 := Tryd.underlying0,
  a0 := Tryd.isAgg0,
  z0 := Tryd.sizeOf0,
  v0 := Tryd.zeroValue0,
  t3 := Tryd.underlying3,
  a3 := Tryd.isAgg3,
  z3 := Tryd.sizeOf3,
  v3 := Tryd.zeroValue3,
  t4 := Tryd.underlying4,
  a4 := Tryd.isAgg4,
  z4 := Tryd.sizeOf4,
  v4 := Tryd.zeroValue4,
  t5 := Tryd.underlying5,
  a5 := Tryd.isAgg5,
  z5 := Tryd.sizeOf5,
  v5 := Tryd.zeroValue5,
  t9 := Tryd.underlying9,
  a9 := Tryd.isAgg9,
  z9 := Tryd.sizeOf9,
  v9 := Tryd.zeroValue9,
  t21 := Tryd.underlying21,
  a21 := Tryd.isAgg21,
  z21 := Tryd.sizeOf21,
  v21 := Tryd.zeroValue21,
  t46 := Tryd.underlying152,
  a46 := Tryd.isAgg152,
  z46 := Tryd.sizeOf152,
  v46 := Tryd.zeroValue152,
  t105 := Tryd.underlying157,
  a105 := Tryd.isAgg157,
  z105 := Tryd.sizeOf157,
  v105 := Tryd.zeroValue157,
  t119 := Tryd.underlying148,
  a119 := Tryd.isAgg148,
  z119 := Tryd.sizeOf148,
  t138 := Tryd.underlying150,
  a138 := Tryd.isAgg150,
  z138 := Tryd.sizeOf150,
  v138 := Tryd.zeroValue150,
  t139 := Tryd.underlying151,
  a139 := Tryd.isAgg151,
  z139 := Tryd.sizeOf151,
  v139 := Tryd.zeroValue151,
  g3 := by kernel_rfl,
  g4 := by kernel_rfl }
end Go.Proofs

namespace Go.Proofs
open Go Go.RowKit Go.Shelf Go.Lib

namespace YtjeopabnddekgaaDoor
def Tabs (w : World) : Prop := Lib.Utf8Tabs (Tryd.laysDecode_ren.g 3) (Tryd.laysDecode_ren.g 4) w

def BoolIs (b : Bool) (w : World) (e : Ending) (w' : World) : Prop := e = .returned (.bool b) ∧ Below w.heap.size w w'
def PairIs (a b : Nat) (w : World) (e : Ending) (w' : World) : Prop := e = .returned (.tuple #[.int .i32 a, .int .i64 b]) ∧ Below w.heap.size w w'
theorem decode_any (s : ByteArray) (i : Nat) (w : World) (hi : i < s.size) (hT : Tabs w) :
    Calls Tryd.prog 103 #[.string (s.extract i s.size)] w (PairIs (U.ch s i) (U.wd s i) w) := by
  have := Any.utf8_DecodeRuneInString Tryd.laysDecode (s.extract i s.size) w hT
  have e : Lib.decodeGo (s.extract i s.size) = (U.ch s i, U.wd s i) := by
    unfold Lib.decodeGo
    rw [if_neg (by rw [Lib.ext_size]; omega), U.ext_decode]
    rfl
  rw [e] at this
  exact this
end YtjeopabnddekgaaDoor
end Go.Proofs

namespace Go.Proofs.YtjeopabnddekgaaDoor
open Go Go.RowKit Go.Shelf Go.Lib

theorem tabs_below {w w' : World} (hT : Tabs w) (h : Below w.heap.size w w') : Tabs w' := Utf8Tabs_below hT h

/-! ### Next -/
set_option maxHeartbeats 400000 in
set_option maxRecDepth 100000 in
theorem utfNext_out (s : ByteArray) (i : Int) (w : World) (hs : s.size ≤ 1000000000000) (hi : i < 0 ∨ (s.size : Int) ≤ i) :
    Calls Tryd.prog 93 #[.string s, .int .i64 i] w (NextIs 0 0 false w) := by
  rcases hi with hi | hi
  all_goals
    go_enter Tryd.func93, Tryd.ntmps93
    go_wp2_with fail
    go_ret3
    exact ⟨rfl, Below.refl _ _⟩
set_option maxHeartbeats 400000 in
set_option maxRecDepth 100000 in
theorem utfNext_bad (s : ByteArray) (i : Nat) (w : World) (hi : i < s.size) (_hs : s.size ≤ 1000000000000) (hT : Tabs w) (h : U.bad s i = true) :
    Calls Tryd.prog 93 #[.string s, .int .i64 i] w (NextIs 0 0 false w) := by
  have hc := decode_any s i w hi hT
  obtain ⟨h1, h2⟩ := (U.bad_iff s i).1 h
  rw [h1, h2] at hc
  have i1 : ¬ ((i : Int) < 0) := by omega
  have i2 : (i : Int) < (s.size : Int) := by omega
  clear h h1 h2
  go_enter Tryd.func93, Tryd.ntmps93
  go_wp2_with fail
  refine hc.mono ?_
  rintro e w' ⟨rfl, hb⟩
  go_wp2_with fail
  go_ret3
  exact ⟨rfl, hb⟩
set_option maxHeartbeats 400000 in
set_option maxRecDepth 100000 in
theorem utfNext_good (s : ByteArray) (i : Nat) (w : World) (hi : i < s.size) (_hs : s.size ≤ 1000000000000) (hT : Tabs w) (h : U.bad s i = false) :
    Calls Tryd.prog 93 #[.string s, .int .i64 i] w (NextIs (U.ch s i) (U.wd s i) true w) := by
  have hc := decode_any s i w hi hT
  have hn : ¬ (U.ch s i = 65533 ∧ U.wd s i = 1) := fun hx => by rw [(U.bad_iff s i).2 hx] at h; cases h
  have i1 : ¬ ((i : Int) < 0) := by omega
  have i2 : (i : Int) < (s.size : Int) := by omega
  clear h
  generalize U.ch s i = c at *
  generalize U.wd s i = d at *
  by_cases hq : c = 65533
  · have e1 : ((c : Int) == 65533) = true := by rw [beq_iff_eq]; omega
    have e2 : ((d : Int) == 1) = false := by rw [beq_eq_false_iff_ne]; omega
    clear hn hq
    go_enter Tryd.func93, Tryd.ntmps93
    go_wp2_with fail
    refine hc.mono ?_
    rintro e w' ⟨rfl, hb⟩
    go_wp2_with fail
    go_ret3
    exact ⟨rfl, hb⟩
  · have e1 : ((c : Int) == 65533) = false := by rw [beq_eq_false_iff_ne]; omega
    clear hn hq
    go_enter Tryd.func93, Tryd.ntmps93
    go_wp2_with fail
    refine hc.mono ?_
    rintro e w' ⟨rfl, hb⟩
    go_wp2_with fail
    go_ret3
    exact ⟨rfl, hb⟩
theorem utfNext_any (s : ByteArray) (i : Nat) (w : World) (hi : i < s.size) (hs : s.size ≤ 1000000000000) (hT : Tabs w) :
    Calls Tryd.prog 93 #[.string s, .int .i64 i] w (NextIs (U.nr s i) (U.nk s i) (U.nb s i) w) := by
  cases h : U.bad s i
  · rw [U.nr_good h, U.nk_good h, U.nb_good h]; exact utfNext_good s i w hi hs hT h
  · rw [U.nr_bad h, U.nk_bad h, U.nb_bad h]; exact utfNext_bad s i w hi hs hT h
set_option maxHeartbeats 400000 in
set_option maxRecDepth 100000 in
theorem refNext_out (s : ByteArray) (i : Int) (w : World) (hs : s.size ≤ 1000000000000) (hi : i < 0 ∨ (s.size : Int) ≤ i) :
    Calls Tryd.prog 71 #[.string s, .int .i64 i] w (NextIs 0 0 false w) := by
  rcases hi with hi | hi
  all_goals
    go_enter Tryd.func71, Tryd.ntmps71
    go_wp2_with fail
    go_ret3
    exact ⟨rfl, Below.refl _ _⟩

/-! ### Begin -/
set_option maxHeartbeats 400000 in
set_option maxRecDepth 100000 in
theorem refBegin_out (s : ByteArray) (i : Int) (w : World) (hs : s.size ≤ 1000000000000) (h : (s.size : Int) ≤ i) :
    Calls Tryd.prog 86 #[.string s, .int .i64 i] w (IntIs s.size w) := by
  have h0 : ¬ (i < 0) := by omega
  go_enter Tryd.func86, Tryd.ntmps86
  go_wp2_with fail
  go_ret
  exact ⟨rfl, Below.refl _ _⟩
set_option maxHeartbeats 400000 in
set_option maxRecDepth 100000 in
theorem refBegin_below (s : ByteArray) (i : Int) (w : World) (_hs : s.size ≤ 1000000000000) (h : i < 0) :
    Calls Tryd.prog 86 #[.string s, .int .i64 i] w (IntIs 0 w) := by
  go_enter Tryd.func86, Tryd.ntmps86
  go_wp2_with fail
  go_ret
  exact ⟨rfl, Below.refl _ _⟩
set_option maxHeartbeats 400000 in
set_option maxRecDepth 100000 in
theorem utfBegin_out (s : ByteArray) (i : Int) (w : World) (hs : s.size ≤ 1000000000000) (h : (s.size : Int) ≤ i) :
    Calls Tryd.prog 69 #[.string s, .int .i64 i] w (IntIs s.size w) := by
  have h0 : ¬ (i < 0) := by omega
  go_enter Tryd.func69, Tryd.ntmps69
  go_wp2_with fail
  go_ret
  exact ⟨rfl, Below.refl _ _⟩
set_option maxHeartbeats 400000 in
set_option maxRecDepth 100000 in
theorem utfBegin_below (s : ByteArray) (i : Int) (w : World) (_hs : s.size ≤ 1000000000000) (h : i < 0) :
    Calls Tryd.prog 69 #[.string s, .int .i64 i] w (IntIs 0 w) := by
  go_enter Tryd.func69, Tryd.ntmps69
  go_wp2_with fail
  go_ret
  exact ⟨rfl, Below.refl _ _⟩
set_option maxHeartbeats 400000 in
set_option maxRecDepth 100000 in
theorem refBegin_any (s : ByteArray) (i : Nat) (w : World) (hi : i < s.size) (hs : s.size ≤ 1000000000000) :
    Calls Tryd.prog 86 #[.string s, .int .i64 i] w (IntIs (U.bgn s i) w) := by
  have i1 : ¬ ((i : Int) < 0) := by omega
  have i2 : (i : Int) < (s.size : Int) := by omega
  go_enter Tryd.func86, Tryd.ntmps86
  go_wp2_with fail
  go_loopw [5] (fun p wr => ∃ f pos : Nat, p = .int .i64 pos ∧ pos ≤ i ∧ Hid (U.bg s f pos i = U.bgn s i ∧ s.size ≤ pos + f) ∧ Below w.heap.size w wr) (fun p _ => s.size - (RowKit.intOf p).toNat)
  case atStart => exact ⟨s.size, 0, rfl, by omega, Lib.hid ⟨rfl, by omega⟩, Below.refl _ _⟩
  case round =>
    obtain ⟨f, pos, rfl, hp, HU, hbl⟩ := hrel
    have hlt : pos < s.size := by omega
    have hw1 := U.wd_pos hlt
    have hw2 := U.wd_le hlt
    obtain ⟨f', rfl⟩ : ∃ f', f = f' + 1 := ⟨f - 1, by have := HU.out.2; omega⟩
    have hc := fun W => step_any s pos W hlt hs
    by_cases hst : i < pos + U.wd s pos
    · have HS := Lib.hid (U.bg_stop s f' pos i hst)
      have e1 : decide ((i : Int) < (pos : Int) + (U.wd s pos : Int)) = true := decide_eq_true (by omega)
      clear hst
      generalize U.wd s pos = d at *
      generalize U.un s pos = c at *
      go_wp2_with fail
      refine (hc _).mono ?_
      rintro e w' ⟨rfl, hb⟩
      go_wp2_with fail
      go_ret
      refine ⟨?_, hbl.trans (hb.mono hbl.size)⟩
      rw [← HU.out.1, HS.out]
      rfl
    · have HS := Lib.hid (U.bg_step s f' pos i hst)
      have e1 : decide ((i : Int) < (pos : Int) + (U.wd s pos : Int)) = false := decide_eq_false (by omega)
      generalize U.wd s pos = d at *
      generalize U.un s pos = c at *
      have e2 : (pos : Int) + (d : Int) ≤ (i : Int) := by omega
      clear hst
      go_wp2_with fail
      refine (hc _).mono ?_
      rintro e w' ⟨rfl, hb⟩
      go_wp2_with fail
      go_roundw
      case rel =>
        refine ⟨f', pos + d, by go_num, by omega, Lib.hid ⟨?_, ?_⟩, hbl.trans (hb.mono hbl.size)⟩
        · rw [← HS.out]; exact HU.out.1
        · have := HU.out.2; omega
      case measure => simp [RowKit.intOf]; omega
end Go.Proofs.YtjeopabnddekgaaDoor
