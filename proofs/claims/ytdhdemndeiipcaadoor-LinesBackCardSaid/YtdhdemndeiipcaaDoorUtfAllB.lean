/- What Next and Begin answer, at any offset, the program's and the document's own. Conditions: a string of at most 10^12 bytes; the library's two tables as its text lays them. -/
import Derived.Test.YtdhdemndeiipcaaDoorUtfBeginB
import Derived.Test.YtdhdemndeiipcaaDoorUtfMathS
namespace Go.Proofs.YtdhdemndeiipcaaDoor
open Go Go.RowKit Go.Shelf Go.Lib

/-- what Next answers, at any offset -/
def nxR (s : ByteArray) (i : Int) : Int := if 0 ≤ i ∧ i < s.size then U.nr s i.toNat else 0
def nxK (s : ByteArray) (i : Int) : Int := if 0 ≤ i ∧ i < s.size then U.nk s i.toNat else 0
def nxB (s : ByteArray) (i : Int) : Bool := if 0 ≤ i ∧ i < s.size then U.nb s i.toNat else false
/-- what Begin answers, at any offset -/
def bgnAt (s : ByteArray) (i : Int) : Nat := if i < 0 then 0 else if i < s.size then U.bgn s i.toNat else s.size

theorem utfNext_all (s : ByteArray) (i : Int) (w : World) (hs : s.size ≤ 1000000000000) (hT : Tabs w) :
    Calls Tryd.prog 26 #[.string s, .int .i64 i] w (NextIs (nxR s i) (nxK s i) (nxB s i) w) := by
  unfold nxR nxK nxB
  by_cases h : 0 ≤ i ∧ i < s.size
  · rw [if_pos h, if_pos h, if_pos h]
    obtain ⟨n, rfl⟩ := Int.eq_ofNat_of_zero_le h.1
    rw [Int.toNat_natCast]
    exact utfNext_any s n w (by omega) hs hT
  · rw [if_neg h, if_neg h, if_neg h]
    exact utfNext_out s i w hs (by omega)
theorem refNext_all (s : ByteArray) (i : Int) (w : World) (hs : s.size ≤ 1000000000000) :
    Calls Tryd.prog 35 #[.string s, .int .i64 i] w (NextIs (nxR s i) (nxK s i) (nxB s i) w) := by
  unfold nxR nxK nxB
  by_cases h : 0 ≤ i ∧ i < s.size
  · rw [if_pos h, if_pos h, if_pos h]
    obtain ⟨n, rfl⟩ := Int.eq_ofNat_of_zero_le h.1
    rw [Int.toNat_natCast]
    exact refNext_any s n w (by omega) hs
  · rw [if_neg h, if_neg h, if_neg h]
    exact refNext_out s i w hs (by omega)
theorem utfBegin_all (s : ByteArray) (i : Int) (w : World) (hs : s.size ≤ 1000000000000) (hT : Tabs w) :
    Calls Tryd.prog 14 #[.string s, .int .i64 i] w (IntIs (bgnAt s i) w) := by
  unfold bgnAt
  by_cases h0 : i < 0
  · rw [if_pos h0]; exact utfBegin_below s i w hs h0
  rw [if_neg h0]
  by_cases h : i < s.size
  · rw [if_pos h]
    obtain ⟨n, rfl⟩ := Int.eq_ofNat_of_zero_le (show 0 ≤ i by omega)
    rw [Int.toNat_natCast]
    exact utfBegin_any s n w (by omega) hs hT
  · rw [if_neg h]; exact utfBegin_out s i w hs (by omega)
theorem refBegin_all (s : ByteArray) (i : Int) (w : World) (hs : s.size ≤ 1000000000000) :
    Calls Tryd.prog 23 #[.string s, .int .i64 i] w (IntIs (bgnAt s i) w) := by
  unfold bgnAt
  by_cases h0 : i < 0
  · rw [if_pos h0]; exact refBegin_below s i w hs h0
  rw [if_neg h0]
  by_cases h : i < s.size
  · rw [if_pos h]
    obtain ⟨n, rfl⟩ := Int.eq_ofNat_of_zero_le (show 0 ≤ i by omega)
    rw [Int.toNat_natCast]
    exact refBegin_any s n w (by omega) hs
  · rw [if_neg h]; exact refBegin_out s i w hs (by omega)

namespace U
theorem bgnAt_facts (s : ByteArray) (i : Int) : ∃ j n, st s j 0 0 = (bgnAt s i, n) ∧ bgnAt s i ≤ s.size ∧ (0 ≤ i → (bgnAt s i : Int) ≤ i) := by
  unfold bgnAt
  by_cases h0 : i < 0
  · rw [if_pos h0]
    exact ⟨0, 0, rfl, Nat.zero_le _, fun h => by omega⟩
  rw [if_neg h0]
  by_cases h : i < s.size
  · rw [if_pos h]
    obtain ⟨j, n, hj⟩ := reach s i.toNat (by omega)
    have := bgn_has s i.toNat (by omega)
    exact ⟨j, n, hj, by omega, fun _ => by omega⟩
  · rw [if_neg h]
    obtain ⟨j, n, hj⟩ := st_to_end s s.size 0 0 (Nat.zero_le _) (by omega)
    exact ⟨j, n, hj, Nat.le_refl _, fun _ => by omega⟩
theorem bgnAt_back (s : ByteArray) (j p n : Nat) (h : st s j 0 0 = (p, n)) (hp : p ≤ s.size) : bgnAt s (p : Nat) = p := by
  unfold bgnAt
  rw [if_neg (by omega)]
  by_cases hlt : p < s.size
  · rw [if_pos (by omega), Int.toNat_natCast, start_back s j p n h hlt]
  · rw [if_neg (by omega)]; omega
end U
end Go.Proofs.YtdhdemndeiipcaaDoor
