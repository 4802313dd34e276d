/- The program's Begin, at an offset within the string: it answers where the item begins that has the byte. Conditions: a string of at most 10^12 bytes; the library's two tables as its text lays them. -/
import Derived.Test.YtjeopabnddekgaaDoorME11
import Derived.Test.YtjeopabnddekgaaDoorME02
import Derived.Test.YtjeopabnddekgaaDoorProg
import Derived.Shelf.Lays
import Derived.Shelf.LaysM
import Derived.KernelRfl
import Derived.Test.YtjeopabnddekgaaDoorME06
import Derived.Test.YtjeopabnddekgaaDoorME07
import Derived.Shelf.Strings.Prefix
import Derived.Shelf.Strconv.Clone
namespace Go.Proofs.YtjeopabnddekgaaDoor
open Go Go.RowKit Go.Shelf Go.Lib

set_option maxHeartbeats 400000 in
set_option maxRecDepth 100000 in
theorem utfBegin_any (s : ByteArray) (i : Nat) (w : World) (hi : i < s.size) (hs : s.size ≤ 1000000000000) (hT : Tabs w) :
    Calls Tryd.prog 69 #[.string s, .int .i64 i] w (IntIs (U.bgn s i) w) := by
  have HT := Lib.hid hT
  clear hT
  have i1 : ¬ ((i : Int) < 0) := by omega
  have i2 : (i : Int) < (s.size : Int) := by omega
  obtain ⟨L, hL, hL'⟩ : ∃ L : Int, (if (i : Int) - 4 + 1 < 0 then 0 else (i : Int) - 4 + 1) = L ∧ 0 ≤ L ∧ L ≤ i ∧ (i ≤ L + 3) ∧ (L = ((i - 3 : Nat) : Int)) := ⟨_, rfl, by split <;> omega⟩
  go_enter Tryd.func69, Tryd.ntmps69
  go_wp2_with fail
  all_goals
    go_loopw [5] (fun p wr => ∃ q : Nat, p = .int .i64 q ∧ q ≤ i ∧ Hid (∀ r, i ≤ r + 3 → r < q → ¬ (U.bad s r = false ∧ i < r + U.wd s r)) ∧ Below w.heap.size w wr) (fun p _ => i - (RowKit.intOf p).toNat)
    case atStart => exact ⟨i - 3, by go_num, by omega, Lib.hid (fun r h1 h2 => by omega), Below.refl _ _⟩
    case round =>
      obtain ⟨q, rfl, hq, HU, hbl⟩ := hrel
      have HTr := Lib.hid (tabs_below HT.out hbl)
      by_cases hlt : q < i
      · have hqs : q < s.size := by omega
        have hw1 := U.wd_pos hqs
        have hw2 := U.wd_le hqs
        cases hbad : U.bad s q
        · have hc := utfNext_good s q _ hqs hs HTr.out hbad
          by_cases hin : i < q + U.wd s q
          · have HS := Lib.hid (U.good_bgn s q i hqs hbad (by omega) hin)
            have e1 : decide ((i : Int) < (q : Int) + (U.wd s q : Int)) = true := decide_eq_true (by omega)
            clear hin hbad
            generalize U.wd s q = d at *
            generalize U.ch s q = c at *
            go_wp2_with fail
            refine hc.mono ?_
            rintro e w' ⟨rfl, hb⟩
            go_wp2_with fail
            go_ret
            refine ⟨?_, hbl.trans (hb.mono hbl.size)⟩
            rw [HS.out]
            rfl
          · have HS := Lib.hid hin
            have e1 : decide ((i : Int) < (q : Int) + (U.wd s q : Int)) = false := decide_eq_false (by omega)
            clear hin hbad
            generalize hd : U.wd s q = d at *
            have HD := Lib.hid hd
            clear hd
            generalize U.ch s q = c at *
            go_wp2_with fail
            refine hc.mono ?_
            rintro e w' ⟨rfl, hb⟩
            go_wp2_with fail
            go_roundw
            case rel =>
              refine ⟨q + 1, by go_num, by omega, Lib.hid (fun r h1 h2 h3 => ?_), hbl.trans (hb.mono hbl.size)⟩
              by_cases hr : r = q
              · subst hr
                rw [HD.out] at h3
                exact HS.out h3.2
              · exact HU.out r h1 (by omega) h3
            case measure => simp [RowKit.intOf]; omega
        · have hc := utfNext_bad s q _ hqs hs HTr.out hbad
          have HS := Lib.hid hbad
          clear hbad
          go_wp2_with fail
          refine hc.mono ?_
          rintro e w' ⟨rfl, hb⟩
          go_wp2_with fail
          go_roundw
          case rel =>
            refine ⟨q + 1, by go_num, by omega, Lib.hid (fun r h1 h2 h3 => ?_), hbl.trans (hb.mono hbl.size)⟩
            by_cases hr : r = q
            · subst hr
              rw [HS.out] at h3
              cases h3.1
            · exact HU.out r h1 (by omega) h3
          case measure => simp [RowKit.intOf]; omega
      · obtain rfl : q = i := by omega
        have HS := Lib.hid (U.bgn_self s q hi HU.out)
        go_wp2_with fail
        go_ret
        refine ⟨?_, hbl⟩
        rw [HS.out]
        rfl
end Go.Proofs.YtjeopabnddekgaaDoor

namespace Go.Proofs.YtjeopabnddekgaaDoor
open Go Go.RowKit Go.Shelf Go.Lib

/-- what Next answers, at any offset -/
def nxR (s : ByteArray) (i : Int) : Int := if 0 ≤ i ∧ i < s.size then U.nr s i.toNat else 0
def nxK (s : ByteArray) (i : Int) : Int := if 0 ≤ i ∧ i < s.size then U.nk s i.toNat else 0
def nxB (s : ByteArray) (i : Int) : Bool := if 0 ≤ i ∧ i < s.size then U.nb s i.toNat else false
/-- what Begin answers, at any offset -/
def bgnAt (s : ByteArray) (i : Int) : Nat := if i < 0 then 0 else if i < s.size then U.bgn s i.toNat else s.size

theorem utfNext_all (s : ByteArray) (i : Int) (w : World) (hs : s.size ≤ 1000000000000) (hT : Tabs w) :
    Calls Tryd.prog 93 #[.string s, .int .i64 i] w (NextIs (nxR s i) (nxK s i) (nxB s i) w) := by
  unfold nxR nxK nxB
  by_cases h : 0 ≤ i ∧ i < s.size
  · rw [if_pos h, if_pos h, if_pos h]
    obtain ⟨n, rfl⟩ := Int.eq_ofNat_of_zero_le h.1
    rw [Int.toNat_natCast]
    exact utfNext_any s n w (by omega) hs hT
  · rw [if_neg h, if_neg h, if_neg h]
    exact utfNext_out s i w hs (by omega)
theorem refNext_all (s : ByteArray) (i : Int) (w : World) (hs : s.size ≤ 1000000000000) :
    Calls Tryd.prog 71 #[.string s, .int .i64 i] w (NextIs (nxR s i) (nxK s i) (nxB s i) w) := by
  unfold nxR nxK nxB
  by_cases h : 0 ≤ i ∧ i < s.size
  · rw [if_pos h, if_pos h, if_pos h]
    obtain ⟨n, rfl⟩ := Int.eq_ofNat_of_zero_le h.1
    rw [Int.toNat_natCast]
    exact refNext_any s n w (by omega) hs
  · rw [if_neg h, if_neg h, if_neg h]
    exact refNext_out s i w hs (by omega)
theorem utfBegin_all (s : ByteArray) (i : Int) (w : World) (hs : s.size ≤ 1000000000000) (hT : Tabs w) :
    Calls Tryd.prog 69 #[.string s, .int .i64 i] w (IntIs (bgnAt s i) w) := by
  unfold bgnAt
  by_cases h0 : i < 0
  · rw [if_pos h0]; exact utfBegin_below s i w hs h0
  rw [if_neg h0]
  by_cases h : i < s.size
  · rw [if_pos h]
    obtain ⟨n, rfl⟩ := Int.eq_ofNat_of_zero_le (show 0 ≤ i by omega)
    rw [Int.toNat_natCast]
    exact utfBegin_any s n w (by omega) hs hT
  · rw [if_neg h]; exact utfBegin_out s i w hs (by omega)
theorem refBegin_all (s : ByteArray) (i : Int) (w : World) (hs : s.size ≤ 1000000000000) :
    Calls Tryd.prog 86 #[.string s, .int .i64 i] w (IntIs (bgnAt s i) w) := by
  unfold bgnAt
  by_cases h0 : i < 0
  · rw [if_pos h0]; exact refBegin_below s i w hs h0
  rw [if_neg h0]
  by_cases h : i < s.size
  · rw [if_pos h]
    obtain ⟨n, rfl⟩ := Int.eq_ofNat_of_zero_le (show 0 ≤ i by omega)
    rw [Int.toNat_natCast]
    exact refBegin_any s n w (by omega) hs
  · rw [if_neg h]; exact refBegin_out s i w hs (by omega)

namespace U
theorem bgnAt_facts (s : ByteArray) (i : Int) : ∃ j n, st s j 0 0 = (bgnAt s i, n) ∧ bgnAt s i ≤ s.size ∧ (0 ≤ i → (bgnAt s i : Int) ≤ i) := by
  unfold bgnAt
  by_cases h0 : i < 0
  · rw [if_pos h0]
    exact ⟨0, 0, rfl, Nat.zero_le _, fun h => by omega⟩
  rw [if_neg h0]
  by_cases h : i < s.size
  · rw [if_pos h]
    obtain ⟨j, n, hj⟩ := reach s i.toNat (by omega)
    have := bgn_has s i.toNat (by omega)
    exact ⟨j, n, hj, by omega, fun _ => by omega⟩
  · rw [if_neg h]
    obtain ⟨j, n, hj⟩ := st_to_end s s.size 0 0 (Nat.zero_le _) (by omega)
    exact ⟨j, n, hj, Nat.le_refl _, fun _ => by omega⟩
theorem bgnAt_back (s : ByteArray) (j p n : Nat) (h : st s j 0 0 = (p, n)) (hp : p ≤ s.size) : bgnAt s (p : Nat) = p := by
  unfold bgnAt
  rw [if_neg (by omega)]
  by_cases hlt : p < s.size
  · rw [if_pos (by omega), Int.toNat_natCast, start_back s j p n h hlt]
  · rw [if_neg (by omega)]; omega
end U
end Go.Proofs.YtjeopabnddekgaaDoor

namespace Go.Proofs
open Go.Shelf

def Tryd.laysBString_ren : Go.Shelf.Ren := ⟨fun | 169 => 48 | n => n, fun | 37 => 91 | 70 => 90 | 72 => 93 | 127 => 141 | n => n, fun | n => n⟩
theorem Tryd.laysBString : Lays.n169 Tryd.prog Tryd.laysBString_ren := {
  mixed := by kernel_rfl,
  f169 := Tryd.func48.trans (congrArg some (by kernel_rfl)),
  t0 := Tryd.underlying0,
  a0 := Tryd.isAgg0,
  z0 := Tryd.sizeOf0,
  v0 := Tryd.zeroValue0,
  t3 := Tryd.underlying3,
  a3 := Tryd.isAgg3,
  z3 := Tryd.sizeOf3,
  v3 := Tryd.zeroValue3,
  t9 := Tryd.underlying9,
  a9 := Tryd.isAgg9,
  z9 := Tryd.sizeOf9,
  v9 := Tryd.zeroValue9,
  t37 := Tryd.underlying91,
  a37 := Tryd.isAgg91,
  z37 := Tryd.sizeOf91,
  v37 := Tryd.zeroValue91,
  t70 := Tryd.underlying90,
  a70 := Tryd.isAgg90,
  z70 := Tryd.sizeOf90,
  v70 := Tryd.zeroValue90,
  t72 := Tryd.underlying93,
  a72 := Tryd.isAgg93,
  z72 := Tryd.sizeOf93,
  v72 := Tryd.zeroValue93,
  t127 := Tryd.underlying141,
  a127 := Tryd.isAgg141,
  z127 := Tryd.sizeOf141,
  v127 := Tryd.zeroValue141 }

def Tryd.laysHasPrefix_ren : Go.Shelf.Ren := ⟨fun | 99 => 51 | 206 => 79 | n => n, fun | n => n, fun | n => n⟩
theorem Tryd.laysHasPrefix : Lays.n99 Tryd.prog Tryd.laysHasPrefix_ren := {
  mixed := by kernel_rfl,
  f99 := Tryd.func51.trans (congrArg some (by kernel_rfl)),
  f206 := Tryd.func79.trans (congrArg some (by kernel_rfl)),
  t3 := Tryd.underlying3,
  a3 := Tryd.isAgg3,
  z3 := Tryd.sizeOf3,
  v3 := Tryd.zeroValue3,
  t4 := Tryd.underlying4,
  a4 := Tryd.isAgg4,
  z4 := Tryd.sizeOf4,
  v4 := Tryd.zeroValue4,
  t9 := Tryd.underlying9,
  a9 := Tryd.isAgg9,
  z9 := Tryd.sizeOf9,
  v9 := Tryd.zeroValue9 }

def Tryd.laysHasSuffix_ren : Go.Shelf.Ren := ⟨fun | 100 => 92 | 207 => 102 | n => n, fun | n => n, fun | n => n⟩
theorem Tryd.laysHasSuffix : Lays.n100 Tryd.prog Tryd.laysHasSuffix_ren := {
  mixed := by kernel_rfl,
  f100 := Tryd.func92.trans (congrArg some (by kernel_rfl)),
  f207 := Tryd.func102.trans (congrArg some (by kernel_rfl)),
  t3 := Tryd.underlying3,
  a3 := Tryd.isAgg3,
  z3 := Tryd.sizeOf3,
  v3 := Tryd.zeroValue3,
  t4 := Tryd.underlying4,
  a4 := Tryd.isAgg4,
  z4 := Tryd.sizeOf4,
  v4 := Tryd.zeroValue4,
  t9 := Tryd.underlying9,
  a9 := Tryd.isAgg9,
  z9 := Tryd.sizeOf9,
  v9 := Tryd.zeroValue9 }
end Go.Proofs

namespace Go.Proofs
open Go.Shelf

def Tryd.laysClone_ren : Go.Shelf.Ren := ⟨fun | 316 => 88 | n => n, fun | 37 => 91 | 127 => 141 | n => n, fun | n => n⟩
theorem Tryd.laysClone : LaysM.n316 Tryd.prog Tryd.laysClone_ren := {
  mixed := by kernel_rfl,
  f316 := Tryd.func88.trans (congrArg some (by kernel_rfl)),
  t0 := Tryd.underlying0,
  a0 := Tryd.isAgg0,
  z0 := Tryd.sizeOf0,
  v0 := Tryd.zeroValue0,
  t3 := Tryd.underlying3,
  a3 := Tryd.isAgg3,
  z3 := Tryd.sizeOf3,
  v3 := Tryd.zeroValue3,
  t4 := Tryd.underlying4,
  a4 := Tryd.isAgg4,
  z4 := Tryd.sizeOf4,
  v4 := Tryd.zeroValue4,
  t9 := Tryd.underlying9,
  a9 := Tryd.isAgg9,
  z9 := Tryd.sizeOf9,
  v9 := Tryd.zeroValue9,
  t37 := Tryd.underlying91,
  a37 := Tryd.isAgg91,
  z37 := Tryd.sizeOf91,
  v37 := Tryd.zeroValue91,
  t127 := Tryd.underlying141,
  a127 := Tryd.isAgg141,
  z127 := Tryd.sizeOf141,
  v127 := Tryd.zeroValue141,
  t5 := Tryd.underlying5,
  a5 := Tryd.isAgg5,
  z5 := Tryd.sizeOf5,
  v5 := Tryd.zeroValue5,
  i0 := by kernel_rfl,
  i3 := by kernel_rfl,
  i4 := by kernel_rfl,
  i5 := by kernel_rfl,
  i9 := by kernel_rfl,
  i37 := by kernel_rfl,
  i127 := by kernel_rfl }
end Go.Proofs

namespace Go.Proofs.YtjeopabnddekgaaDoor
open Go Go.RowKit Go.Lib

theorem hp_head (s : ByteArray) (b : UInt8) : Lib.hasPrefix s.data.toList [b] = decide (s.data.toList.head? = some b) := by
  cases s.data.toList with
  | nil => simp [Lib.hasPrefix]
  | cons a l =>
    show ((b == a) && true) = _
    rw [List.head?_cons, Bool.and_true, Bool.eq_iff_iff, beq_iff_eq, decide_eq_true_iff]
    exact ⟨fun h => by rw [h], fun h => (Option.some.inj h).symm⟩
theorem hs_last (s : ByteArray) (b : UInt8) : Lib.hasSuffix s.data.toList [b] = decide (s.data.toList.getLast? = some b) := by
  unfold Lib.hasSuffix
  rw [Bool.eq_iff_iff, List.isSuffixOf_iff_suffix, decide_eq_true_iff]
  generalize s.data.toList = l
  constructor
  · rintro ⟨t, rfl⟩
    simp
  · intro h
    obtain ⟨t, rfl⟩ := List.getLast?_eq_some_iff.1 h
    exact ⟨t, rfl⟩
theorem prefix_any (s : ByteArray) (w : World) : Calls Tryd.prog 51 #[.string s, .string ⟨#[10]⟩] w fun e w' => e = .returned (.bool (R.cn s).f) ∧ Below w.heap.size w w' := by
  refine (Any.strings_HasPrefix Tryd.laysHasPrefix s ⟨#[10]⟩ w).mono ?_
  rintro e w' ⟨rfl, rfl⟩
  exact ⟨by rw [show (⟨#[10]⟩ : ByteArray).data.toList = [10] from rfl, hp_head]; rfl, Below.refl _ _⟩
theorem suffix_any (s : ByteArray) (w : World) (hs : s.size ≤ 1099511627776) : Calls Tryd.prog 92 #[.string s, .string ⟨#[13]⟩] w fun e w' => e = .returned (.bool (R.cn s).e) ∧ Below w.heap.size w w' := by
  refine (Any.strings_HasSuffix Tryd.laysHasSuffix s ⟨#[13]⟩ w (by omega)).mono ?_
  rintro e w' ⟨rfl, rfl⟩
  exact ⟨by rw [show (⟨#[13]⟩ : ByteArray).data.toList = [13] from rfl, hs_last]; rfl, Below.refl _ _⟩
set_option maxRecDepth 100000 in
set_option maxHeartbeats 1000000 in
theorem clone_any (x : ByteArray) (w : World) (hx : x.size ≤ 140737488355328) :
    Calls Tryd.prog 64 #[.string x] w fun e w' => e = .returned (.string x) ∧ Below w.heap.size w w' := by
  have h := fun W => Any.stringslite_Clone Tryd.laysClone x W (by omega)
  go_enter Tryd.func64, Tryd.ntmps64
  go_wp2_with fail
  refine (h _).mono ?_
  rintro en w' ⟨rfl, hB⟩
  go_wp2_with fail
  go_ret
  exact ⟨rfl, hB⟩
set_option maxHeartbeats 4000000 in
set_option maxRecDepth 100000 in
theorem measure_any (s : ByteArray) (w : World) (hs : s.size ≤ 1000000000000) :
    Calls Tryd.prog 68 #[.string s] w (CnIs (R.cn s) w) := by
  have HU := Lib.hid (fun W => utfUnits_is s W hs)
  have HM := Lib.hid (fun W => many_any s W hs)
  have HP := Lib.hid (fun W => prefix_any s W)
  have HS := Lib.hid (fun W => suffix_any s W (by omega))
  obtain ⟨m, hm⟩ : ∃ m, L.mny s = m + 1 := ⟨L.mny s - 1, by have := L.mny_pos s; omega⟩
  have hl := L.mny_le s
  have hk : (R.cn s).k = m := by show L.mny s - 1 = m; omega
  rw [hm] at HM hl
  rw [Int.natCast_add] at HM
  have e1 : (R.cn s).b = s.size := rfl
  have e2 : (R.cn s).u = U.units s := rfl
  rw [← e2] at HU
  rw [← hk] at HM hl
  have HK := Lib.hid hk
  clear hk hm e2
  have hl' : ((R.cn s).k : Int) ≤ 1000000000000 := by omega
  go_enter Tryd.func68, Tryd.ntmps68
  go_wp2_with fail
  have hB0 := (Below.refl w.heap.size w).alloc (Nat.le_refl _) (.cells #[Value.int .i64 0, Value.int .i64 0, Value.int .i64 0, .bool false, .bool false] 96)
  have hr0 := CnRow.new w R.Cn.none
  have hz0 := World.size_alloc w (.cells #[Value.int .i64 0, Value.int .i64 0, Value.int .i64 0, .bool false, .bool false] 96)
  have hr0 : CnRow (w.alloc (.cells #[Value.int .i64 0, Value.int .i64 0, Value.int .i64 0, .bool false, .bool false] 96)) w.heap.size R.Cn.none := hr0
  have H0 := Lib.hid (And.intro hB0 (And.intro hr0 hz0))
  clear hB0 hr0 hz0
  generalize w.alloc (.cells #[Value.int .i64 0, Value.int .i64 0, Value.int .i64 0, .bool false, .bool false] 96) = W0 at *
  refine (HU.out _).mono ?_
  rintro e w1 ⟨rfl, hB1⟩
  have H1 := Lib.hid (And.intro (H0.out.1.trans (hB1.mono H0.out.1.size)) (H0.out.2.1.below hB1 (by have := H0.out.2.2; omega)))
  have hz1 : w.heap.size < w1.heap.size := by have := H0.out.2.2; have := hB1.size; omega
  clear hB1 H0
  go_wp2_with fail
  refine (HM.out _).mono ?_
  rintro e w2 ⟨rfl, hB2⟩
  have H2 := Lib.hid (And.intro (H1.out.1.trans (hB2.mono H1.out.1.size)) (H1.out.2.below hB2 hz1))
  have hz2 : w.heap.size < w2.heap.size := by have := hB2.size; omega
  clear hB2 H1
  go_wp2_with fail
  refine (HP.out _).mono ?_
  rintro e w3 ⟨rfl, hB3⟩
  have H3 := Lib.hid (And.intro (H2.out.1.trans (hB3.mono H2.out.1.size)) (H2.out.2.below hB3 hz2))
  have hz3 : w.heap.size < w3.heap.size := by have := hB3.size; omega
  clear hB3 H2
  go_wp2_with fail
  refine (HS.out _).mono ?_
  rintro e w4 ⟨rfl, hB4⟩
  have HB4 := Lib.hid (below_setRow (H3.out.1.trans (hB4.mono H3.out.1.size)) (Nat.le_refl w.heap.size))
  have hr := H3.out.2.below hB4 hz3
  clear hB4 H3
  go_wp2_with (refine wpList_store_row rfl 96 _ _ rfl (w.heap.size) #[Value.int .i64 (((R.cn s).b : Nat) : Int), Value.int .i64 (((R.cn s).u : Nat) : Int), Value.int .i64 (((R.cn s).k : Nat) : Int), Value.bool (R.cn s).f, Value.bool (R.cn s).e] (by rfl) (by rfl) 96 _ hr info_counts rfl (one_counts _) ?_)
  exact cn_ret (by rfl) _ _ w.heap.size (R.cn s) (by rfl) rfl (hr.set _) ⟨rfl, HB4.out _⟩
end Go.Proofs.YtjeopabnddekgaaDoor
