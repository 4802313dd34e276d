/- The program's Next and Begin, and the document's own Begin: what each answers, by the scan. Conditions: a string of at most 10^12 bytes; the library's two tables as its text lays them. -/
import Derived.Test.YtdigkgoaldgodaaDoorMD13
import Derived.Test.YtdigkgoaldgodaaDoorMD03
import Derived.Test.YtdigkgoaldgodaaDoorProg
import Derived.Shelf.Lays
import Derived.Shelf.LaysM
import Derived.KernelRfl
namespace Go.Proofs.YtdigkgoaldgodaaDoor
open Go Go.RowKit Go.Shelf Go.Lib

theorem tabs_below {w w' : World} (hT : Tabs w) (h : Below w.heap.size w w') : Tabs w' := Utf8Tabs_below hT h

/-! ### Next -/
set_option maxHeartbeats 400000 in
set_option maxRecDepth 100000 in
theorem utfNext_out (s : ByteArray) (i : Int) (w : World) (hs : s.size ≤ 1000000000000) (hi : i < 0 ∨ (s.size : Int) ≤ i) :
    Calls Tryd.prog 77 #[.string s, .int .i64 i] w (NextIs 0 0 false w) := by
  rcases hi with hi | hi
  all_goals
    go_enter Tryd.func77, Tryd.ntmps77
    go_wp2_with fail
    go_ret3
    exact ⟨rfl, Below.refl _ _⟩
set_option maxHeartbeats 400000 in
set_option maxRecDepth 100000 in
theorem utfNext_bad (s : ByteArray) (i : Nat) (w : World) (hi : i < s.size) (_hs : s.size ≤ 1000000000000) (hT : Tabs w) (h : U.bad s i = true) :
    Calls Tryd.prog 77 #[.string s, .int .i64 i] w (NextIs 0 0 false w) := by
  have hc := decode_any s i w hi hT
  obtain ⟨h1, h2⟩ := (U.bad_iff s i).1 h
  rw [h1, h2] at hc
  have i1 : ¬ ((i : Int) < 0) := by omega
  have i2 : (i : Int) < (s.size : Int) := by omega
  clear h h1 h2
  go_enter Tryd.func77, Tryd.ntmps77
  go_wp2_with fail
  refine hc.mono ?_
  rintro e w' ⟨rfl, hb⟩
  go_wp2_with fail
  go_ret3
  exact ⟨rfl, hb⟩
set_option maxHeartbeats 400000 in
set_option maxRecDepth 100000 in
theorem utfNext_good (s : ByteArray) (i : Nat) (w : World) (hi : i < s.size) (_hs : s.size ≤ 1000000000000) (hT : Tabs w) (h : U.bad s i = false) :
    Calls Tryd.prog 77 #[.string s, .int .i64 i] w (NextIs (U.ch s i) (U.wd s i) true w) := by
  have hc := decode_any s i w hi hT
  have hn : ¬ (U.ch s i = 65533 ∧ U.wd s i = 1) := fun hx => by rw [(U.bad_iff s i).2 hx] at h; cases h
  have i1 : ¬ ((i : Int) < 0) := by omega
  have i2 : (i : Int) < (s.size : Int) := by omega
  clear h
  generalize U.ch s i = c at *
  generalize U.wd s i = d at *
  by_cases hq : c = 65533
  · have e1 : ((c : Int) == 65533) = true := by rw [beq_iff_eq]; omega
    have e2 : ((d : Int) == 1) = false := by rw [beq_eq_false_iff_ne]; omega
    clear hn hq
    go_enter Tryd.func77, Tryd.ntmps77
    go_wp2_with fail
    refine hc.mono ?_
    rintro e w' ⟨rfl, hb⟩
    go_wp2_with fail
    go_ret3
    exact ⟨rfl, hb⟩
  · have e1 : ((c : Int) == 65533) = false := by rw [beq_eq_false_iff_ne]; omega
    clear hn hq
    go_enter Tryd.func77, Tryd.ntmps77
    go_wp2_with fail
    refine hc.mono ?_
    rintro e w' ⟨rfl, hb⟩
    go_wp2_with fail
    go_ret3
    exact ⟨rfl, hb⟩
theorem utfNext_any (s : ByteArray) (i : Nat) (w : World) (hi : i < s.size) (hs : s.size ≤ 1000000000000) (hT : Tabs w) :
    Calls Tryd.prog 77 #[.string s, .int .i64 i] w (NextIs (U.nr s i) (U.nk s i) (U.nb s i) w) := by
  cases h : U.bad s i
  · rw [U.nr_good h, U.nk_good h, U.nb_good h]; exact utfNext_good s i w hi hs hT h
  · rw [U.nr_bad h, U.nk_bad h, U.nb_bad h]; exact utfNext_bad s i w hi hs hT h
set_option maxHeartbeats 400000 in
set_option maxRecDepth 100000 in
theorem refNext_out (s : ByteArray) (i : Int) (w : World) (hs : s.size ≤ 1000000000000) (hi : i < 0 ∨ (s.size : Int) ≤ i) :
    Calls Tryd.prog 56 #[.string s, .int .i64 i] w (NextIs 0 0 false w) := by
  rcases hi with hi | hi
  all_goals
    go_enter Tryd.func56, Tryd.ntmps56
    go_wp2_with fail
    go_ret3
    exact ⟨rfl, Below.refl _ _⟩

/-! ### Begin -/
set_option maxHeartbeats 400000 in
set_option maxRecDepth 100000 in
theorem refBegin_out (s : ByteArray) (i : Int) (w : World) (hs : s.size ≤ 1000000000000) (h : (s.size : Int) ≤ i) :
    Calls Tryd.prog 71 #[.string s, .int .i64 i] w (IntIs s.size w) := by
  have h0 : ¬ (i < 0) := by omega
  go_enter Tryd.func71, Tryd.ntmps71
  go_wp2_with fail
  go_ret
  exact ⟨rfl, Below.refl _ _⟩
set_option maxHeartbeats 400000 in
set_option maxRecDepth 100000 in
theorem refBegin_below (s : ByteArray) (i : Int) (w : World) (_hs : s.size ≤ 1000000000000) (h : i < 0) :
    Calls Tryd.prog 71 #[.string s, .int .i64 i] w (IntIs 0 w) := by
  go_enter Tryd.func71, Tryd.ntmps71
  go_wp2_with fail
  go_ret
  exact ⟨rfl, Below.refl _ _⟩
set_option maxHeartbeats 400000 in
set_option maxRecDepth 100000 in
theorem utfBegin_out (s : ByteArray) (i : Int) (w : World) (hs : s.size ≤ 1000000000000) (h : (s.size : Int) ≤ i) :
    Calls Tryd.prog 54 #[.string s, .int .i64 i] w (IntIs s.size w) := by
  have h0 : ¬ (i < 0) := by omega
  go_enter Tryd.func54, Tryd.ntmps54
  go_wp2_with fail
  go_ret
  exact ⟨rfl, Below.refl _ _⟩
set_option maxHeartbeats 400000 in
set_option maxRecDepth 100000 in
theorem utfBegin_below (s : ByteArray) (i : Int) (w : World) (_hs : s.size ≤ 1000000000000) (h : i < 0) :
    Calls Tryd.prog 54 #[.string s, .int .i64 i] w (IntIs 0 w) := by
  go_enter Tryd.func54, Tryd.ntmps54
  go_wp2_with fail
  go_ret
  exact ⟨rfl, Below.refl _ _⟩
set_option maxHeartbeats 400000 in
set_option maxRecDepth 100000 in
theorem refBegin_any (s : ByteArray) (i : Nat) (w : World) (hi : i < s.size) (hs : s.size ≤ 1000000000000) :
    Calls Tryd.prog 71 #[.string s, .int .i64 i] w (IntIs (U.bgn s i) w) := by
  have i1 : ¬ ((i : Int) < 0) := by omega
  have i2 : (i : Int) < (s.size : Int) := by omega
  go_enter Tryd.func71, Tryd.ntmps71
  go_wp2_with fail
  go_loopw [5] (fun p wr => ∃ f pos : Nat, p = .int .i64 pos ∧ pos ≤ i ∧ Hid (U.bg s f pos i = U.bgn s i ∧ s.size ≤ pos + f) ∧ Below w.heap.size w wr) (fun p _ => s.size - (RowKit.intOf p).toNat)
  case atStart => exact ⟨s.size, 0, rfl, by omega, Lib.hid ⟨rfl, by omega⟩, Below.refl _ _⟩
  case round =>
    obtain ⟨f, pos, rfl, hp, HU, hbl⟩ := hrel
    have hlt : pos < s.size := by omega
    have hw1 := U.wd_pos hlt
    have hw2 := U.wd_le hlt
    obtain ⟨f', rfl⟩ : ∃ f', f = f' + 1 := ⟨f - 1, by have := HU.out.2; omega⟩
    have hc := fun W => step_any s pos W hlt hs
    by_cases hst : i < pos + U.wd s pos
    · have HS := Lib.hid (U.bg_stop s f' pos i hst)
      have e1 : decide ((i : Int) < (pos : Int) + (U.wd s pos : Int)) = true := decide_eq_true (by omega)
      clear hst
      generalize U.wd s pos = d at *
      generalize U.un s pos = c at *
      go_wp2_with fail
      refine (hc _).mono ?_
      rintro e w' ⟨rfl, hb⟩
      go_wp2_with fail
      go_ret
      refine ⟨?_, hbl.trans (hb.mono hbl.size)⟩
      rw [← HU.out.1, HS.out]
      rfl
    · have HS := Lib.hid (U.bg_step s f' pos i hst)
      have e1 : decide ((i : Int) < (pos : Int) + (U.wd s pos : Int)) = false := decide_eq_false (by omega)
      generalize U.wd s pos = d at *
      generalize U.un s pos = c at *
      have e2 : (pos : Int) + (d : Int) ≤ (i : Int) := by omega
      clear hst
      go_wp2_with fail
      refine (hc _).mono ?_
      rintro e w' ⟨rfl, hb⟩
      go_wp2_with fail
      go_roundw
      case rel =>
        refine ⟨f', pos + d, by go_num, by omega, Lib.hid ⟨?_, ?_⟩, hbl.trans (hb.mono hbl.size)⟩
        · rw [← HS.out]; exact HU.out.1
        · have := HU.out.2; omega
      case measure => simp [RowKit.intOf]; omega
end Go.Proofs.YtdigkgoaldgodaaDoor

namespace Go.Proofs.YtdigkgoaldgodaaDoor
open Go Go.RowKit Go.Shelf Go.Lib

set_option maxHeartbeats 400000 in
set_option maxRecDepth 100000 in
theorem utfBegin_any (s : ByteArray) (i : Nat) (w : World) (hi : i < s.size) (hs : s.size ≤ 1000000000000) (hT : Tabs w) :
    Calls Tryd.prog 54 #[.string s, .int .i64 i] w (IntIs (U.bgn s i) w) := by
  have HT := Lib.hid hT
  clear hT
  have i1 : ¬ ((i : Int) < 0) := by omega
  have i2 : (i : Int) < (s.size : Int) := by omega
  obtain ⟨L, hL, hL'⟩ : ∃ L : Int, (if (i : Int) - 4 + 1 < 0 then 0 else (i : Int) - 4 + 1) = L ∧ 0 ≤ L ∧ L ≤ i ∧ (i ≤ L + 3) ∧ (L = ((i - 3 : Nat) : Int)) := ⟨_, rfl, by split <;> omega⟩
  go_enter Tryd.func54, Tryd.ntmps54
  go_wp2_with fail
  all_goals
    go_loopw [5] (fun p wr => ∃ q : Nat, p = .int .i64 q ∧ q ≤ i ∧ Hid (∀ r, i ≤ r + 3 → r < q → ¬ (U.bad s r = false ∧ i < r + U.wd s r)) ∧ Below w.heap.size w wr) (fun p _ => i - (RowKit.intOf p).toNat)
    case atStart => exact ⟨i - 3, by go_num, by omega, Lib.hid (fun r h1 h2 => by omega), Below.refl _ _⟩
    case round =>
      obtain ⟨q, rfl, hq, HU, hbl⟩ := hrel
      have HTr := Lib.hid (tabs_below HT.out hbl)
      by_cases hlt : q < i
      · have hqs : q < s.size := by omega
        have hw1 := U.wd_pos hqs
        have hw2 := U.wd_le hqs
        cases hbad : U.bad s q
        · have hc := utfNext_good s q _ hqs hs HTr.out hbad
          by_cases hin : i < q + U.wd s q
          · have HS := Lib.hid (U.good_bgn s q i hqs hbad (by omega) hin)
            have e1 : decide ((i : Int) < (q : Int) + (U.wd s q : Int)) = true := decide_eq_true (by omega)
            clear hin hbad
            generalize U.wd s q = d at *
            generalize U.ch s q = c at *
            go_wp2_with fail
            refine hc.mono ?_
            rintro e w' ⟨rfl, hb⟩
            go_wp2_with fail
            go_ret
            refine ⟨?_, hbl.trans (hb.mono hbl.size)⟩
            rw [HS.out]
            rfl
          · have HS := Lib.hid hin
            have e1 : decide ((i : Int) < (q : Int) + (U.wd s q : Int)) = false := decide_eq_false (by omega)
            clear hin hbad
            generalize hd : U.wd s q = d at *
            have HD := Lib.hid hd
            clear hd
            generalize U.ch s q = c at *
            go_wp2_with fail
            refine hc.mono ?_
            rintro e w' ⟨rfl, hb⟩
            go_wp2_with fail
            go_roundw
            case rel =>
              refine ⟨q + 1, by go_num, by omega, Lib.hid (fun r h1 h2 h3 => ?_), hbl.trans (hb.mono hbl.size)⟩
              by_cases hr : r = q
              · subst hr
                rw [HD.out] at h3
                exact HS.out h3.2
              · exact HU.out r h1 (by omega) h3
            case measure => simp [RowKit.intOf]; omega
        · have hc := utfNext_bad s q _ hqs hs HTr.out hbad
          have HS := Lib.hid hbad
          clear hbad
          go_wp2_with fail
          refine hc.mono ?_
          rintro e w' ⟨rfl, hb⟩
          go_wp2_with fail
          go_roundw
          case rel =>
            refine ⟨q + 1, by go_num, by omega, Lib.hid (fun r h1 h2 h3 => ?_), hbl.trans (hb.mono hbl.size)⟩
            by_cases hr : r = q
            · subst hr
              rw [HS.out] at h3
              cases h3.1
            · exact HU.out r h1 (by omega) h3
          case measure => simp [RowKit.intOf]; omega
      · obtain rfl : q = i := by omega
        have HS := Lib.hid (U.bgn_self s q hi HU.out)
        go_wp2_with fail
        go_ret
        refine ⟨?_, hbl⟩
        rw [HS.out]
        rfl
end Go.Proofs.YtdigkgoaldgodaaDoor

namespace Go.Proofs.YtdigkgoaldgodaaDoor
open Go Go.RowKit Go.Shelf Go.Lib

/-- what Next answers, at any offset -/
def nxR (s : ByteArray) (i : Int) : Int := if 0 ≤ i ∧ i < s.size then U.nr s i.toNat else 0
def nxK (s : ByteArray) (i : Int) : Int := if 0 ≤ i ∧ i < s.size then U.nk s i.toNat else 0
def nxB (s : ByteArray) (i : Int) : Bool := if 0 ≤ i ∧ i < s.size then U.nb s i.toNat else false
/-- what Begin answers, at any offset -/
def bgnAt (s : ByteArray) (i : Int) : Nat := if i < 0 then 0 else if i < s.size then U.bgn s i.toNat else s.size

theorem utfNext_all (s : ByteArray) (i : Int) (w : World) (hs : s.size ≤ 1000000000000) (hT : Tabs w) :
    Calls Tryd.prog 77 #[.string s, .int .i64 i] w (NextIs (nxR s i) (nxK s i) (nxB s i) w) := by
  unfold nxR nxK nxB
  by_cases h : 0 ≤ i ∧ i < s.size
  · rw [if_pos h, if_pos h, if_pos h]
    obtain ⟨n, rfl⟩ := Int.eq_ofNat_of_zero_le h.1
    rw [Int.toNat_natCast]
    exact utfNext_any s n w (by omega) hs hT
  · rw [if_neg h, if_neg h, if_neg h]
    exact utfNext_out s i w hs (by omega)
theorem refNext_all (s : ByteArray) (i : Int) (w : World) (hs : s.size ≤ 1000000000000) :
    Calls Tryd.prog 56 #[.string s, .int .i64 i] w (NextIs (nxR s i) (nxK s i) (nxB s i) w) := by
  unfold nxR nxK nxB
  by_cases h : 0 ≤ i ∧ i < s.size
  · rw [if_pos h, if_pos h, if_pos h]
    obtain ⟨n, rfl⟩ := Int.eq_ofNat_of_zero_le h.1
    rw [Int.toNat_natCast]
    exact refNext_any s n w (by omega) hs
  · rw [if_neg h, if_neg h, if_neg h]
    exact refNext_out s i w hs (by omega)
theorem utfBegin_all (s : ByteArray) (i : Int) (w : World) (hs : s.size ≤ 1000000000000) (hT : Tabs w) :
    Calls Tryd.prog 54 #[.string s, .int .i64 i] w (IntIs (bgnAt s i) w) := by
  unfold bgnAt
  by_cases h0 : i < 0
  · rw [if_pos h0]; exact utfBegin_below s i w hs h0
  rw [if_neg h0]
  by_cases h : i < s.size
  · rw [if_pos h]
    obtain ⟨n, rfl⟩ := Int.eq_ofNat_of_zero_le (show 0 ≤ i by omega)
    rw [Int.toNat_natCast]
    exact utfBegin_any s n w (by omega) hs hT
  · rw [if_neg h]; exact utfBegin_out s i w hs (by omega)
theorem refBegin_all (s : ByteArray) (i : Int) (w : World) (hs : s.size ≤ 1000000000000) :
    Calls Tryd.prog 71 #[.string s, .int .i64 i] w (IntIs (bgnAt s i) w) := by
  unfold bgnAt
  by_cases h0 : i < 0
  · rw [if_pos h0]; exact refBegin_below s i w hs h0
  rw [if_neg h0]
  by_cases h : i < s.size
  · rw [if_pos h]
    obtain ⟨n, rfl⟩ := Int.eq_ofNat_of_zero_le (show 0 ≤ i by omega)
    rw [Int.toNat_natCast]
    exact refBegin_any s n w (by omega) hs
  · rw [if_neg h]; exact refBegin_out s i w hs (by omega)

namespace U
theorem bgnAt_facts (s : ByteArray) (i : Int) : ∃ j n, st s j 0 0 = (bgnAt s i, n) ∧ bgnAt s i ≤ s.size ∧ (0 ≤ i → (bgnAt s i : Int) ≤ i) := by
  unfold bgnAt
  by_cases h0 : i < 0
  · rw [if_pos h0]
    exact ⟨0, 0, rfl, Nat.zero_le _, fun h => by omega⟩
  rw [if_neg h0]
  by_cases h : i < s.size
  · rw [if_pos h]
    obtain ⟨j, n, hj⟩ := reach s i.toNat (by omega)
    have := bgn_has s i.toNat (by omega)
    exact ⟨j, n, hj, by omega, fun _ => by omega⟩
  · rw [if_neg h]
    obtain ⟨j, n, hj⟩ := st_to_end s s.size 0 0 (Nat.zero_le _) (by omega)
    exact ⟨j, n, hj, Nat.le_refl _, fun _ => by omega⟩
theorem bgnAt_back (s : ByteArray) (j p n : Nat) (h : st s j 0 0 = (p, n)) (hp : p ≤ s.size) : bgnAt s (p : Nat) = p := by
  unfold bgnAt
  rw [if_neg (by omega)]
  by_cases hlt : p < s.size
  · rw [if_pos (by omega), Int.toNat_natCast, start_back s j p n h hlt]
  · rw [if_neg (by omega)]; omega
end U
end Go.Proofs.YtdigkgoaldgodaaDoor

namespace Go.Proofs
open Go.Shelf

def Tryd.laysBString_ren : Go.Shelf.Ren := ⟨fun | 169 => 37 | n => n, fun | 37 => 70 | 70 => 69 | 127 => 115 | n => n, fun | n => n⟩
theorem Tryd.laysBString : Lays.n169 Tryd.prog Tryd.laysBString_ren := {
  mixed := by kernel_rfl,
  f169 := Tryd.func37.trans (congrArg some (by kernel_rfl)),
  t0 := Tryd.underlying0,
  a0 := Tryd.isAgg0,
  z0 := Tryd.sizeOf0,
  v0 := Tryd.zeroValue0,
  t3 := Tryd.underlying3,
  a3 := Tryd.isAgg3,
  z3 := Tryd.sizeOf3,
  v3 := Tryd.zeroValue3,
  t9 := Tryd.underlying9,
  a9 := Tryd.isAgg9,
  z9 := Tryd.sizeOf9,
  v9 := Tryd.zeroValue9,
  t37 := Tryd.underlying70,
  a37 := Tryd.isAgg70,
  z37 := Tryd.sizeOf70,
  v37 := Tryd.zeroValue70,
  t70 := Tryd.underlying69,
  a70 := Tryd.isAgg69,
  z70 := Tryd.sizeOf69,
  v70 := Tryd.zeroValue69,
  t72 := Tryd.underlying72,
  a72 := Tryd.isAgg72,
  z72 := Tryd.sizeOf72,
  v72 := Tryd.zeroValue72,
  t127 := Tryd.underlying115,
  a127 := Tryd.isAgg115,
  z127 := Tryd.sizeOf115,
  v127 := Tryd.zeroValue115 }

def Tryd.laysHasPrefix_ren : Go.Shelf.Ren := ⟨fun | 99 => 40 | 206 => 64 | n => n, fun | n => n, fun | n => n⟩
theorem Tryd.laysHasPrefix : Lays.n99 Tryd.prog Tryd.laysHasPrefix_ren := {
  mixed := by kernel_rfl,
  f99 := Tryd.func40.trans (congrArg some (by kernel_rfl)),
  f206 := Tryd.func64.trans (congrArg some (by kernel_rfl)),
  t3 := Tryd.underlying3,
  a3 := Tryd.isAgg3,
  z3 := Tryd.sizeOf3,
  v3 := Tryd.zeroValue3,
  t4 := Tryd.underlying4,
  a4 := Tryd.isAgg4,
  z4 := Tryd.sizeOf4,
  v4 := Tryd.zeroValue4,
  t9 := Tryd.underlying9,
  a9 := Tryd.isAgg9,
  z9 := Tryd.sizeOf9,
  v9 := Tryd.zeroValue9 }

def Tryd.laysHasSuffix_ren : Go.Shelf.Ren := ⟨fun | 100 => 75 | 207 => 86 | n => n, fun | n => n, fun | n => n⟩
theorem Tryd.laysHasSuffix : Lays.n100 Tryd.prog Tryd.laysHasSuffix_ren := {
  mixed := by kernel_rfl,
  f100 := Tryd.func75.trans (congrArg some (by kernel_rfl)),
  f207 := Tryd.func86.trans (congrArg some (by kernel_rfl)),
  t3 := Tryd.underlying3,
  a3 := Tryd.isAgg3,
  z3 := Tryd.sizeOf3,
  v3 := Tryd.zeroValue3,
  t4 := Tryd.underlying4,
  a4 := Tryd.isAgg4,
  z4 := Tryd.sizeOf4,
  v4 := Tryd.zeroValue4,
  t9 := Tryd.underlying9,
  a9 := Tryd.isAgg9,
  z9 := Tryd.sizeOf9,
  v9 := Tryd.zeroValue9 }
end Go.Proofs
