/- The statement on Next, Valid and Begin, walked: whatever the string and the offset, it answers true. Conditions: the string's length is one that Go can hold; the library's two tables as its text lays them. -/
import Derived.Test.YteoeamdfglmmoaaDoorUtfBegin
namespace Go.Proofs.YteoeamdfglmmoaaDoor
open Go Go.RowKit Go.Shelf Go.Lib

/-- what Next answers, at any offset -/
def nxR (s : ByteArray) (i : Int) : Int := if 0 ≤ i ∧ i < s.size then U.nr s i.toNat else 0
def nxK (s : ByteArray) (i : Int) : Int := if 0 ≤ i ∧ i < s.size then U.nk s i.toNat else 0
def nxB (s : ByteArray) (i : Int) : Bool := if 0 ≤ i ∧ i < s.size then U.nb s i.toNat else false
/-- what Begin answers, at any offset -/
def bgnAt (s : ByteArray) (i : Int) : Nat := if i < 0 then 0 else if i < s.size then U.bgn s i.toNat else s.size

theorem utfNext_all (s : ByteArray) (i : Int) (w : World) (hs : s.size ≤ 1000000000000) (hT : Tabs w) :
    Calls Tryd.prog 9 #[.string s, .int .i64 i] w (NextIs (nxR s i) (nxK s i) (nxB s i) w) := by
  unfold nxR nxK nxB
  by_cases h : 0 ≤ i ∧ i < s.size
  · rw [if_pos h, if_pos h, if_pos h]
    obtain ⟨n, rfl⟩ := Int.eq_ofNat_of_zero_le h.1
    rw [Int.toNat_natCast]
    exact utfNext_any s n w (by omega) hs hT
  · rw [if_neg h, if_neg h, if_neg h]
    exact utfNext_out s i w hs (by omega)
theorem refNext_all (s : ByteArray) (i : Int) (w : World) (hs : s.size ≤ 1000000000000) :
    Calls Tryd.prog 10 #[.string s, .int .i64 i] w (NextIs (nxR s i) (nxK s i) (nxB s i) w) := by
  unfold nxR nxK nxB
  by_cases h : 0 ≤ i ∧ i < s.size
  · rw [if_pos h, if_pos h, if_pos h]
    obtain ⟨n, rfl⟩ := Int.eq_ofNat_of_zero_le h.1
    rw [Int.toNat_natCast]
    exact refNext_any s n w (by omega) hs
  · rw [if_neg h, if_neg h, if_neg h]
    exact refNext_out s i w hs (by omega)
theorem utfBegin_all (s : ByteArray) (i : Int) (w : World) (hs : s.size ≤ 1000000000000) (hT : Tabs w) :
    Calls Tryd.prog 13 #[.string s, .int .i64 i] w (IntIs (bgnAt s i) w) := by
  unfold bgnAt
  by_cases h0 : i < 0
  · rw [if_pos h0]; exact utfBegin_below s i w hs h0
  rw [if_neg h0]
  by_cases h : i < s.size
  · rw [if_pos h]
    obtain ⟨n, rfl⟩ := Int.eq_ofNat_of_zero_le (show 0 ≤ i by omega)
    rw [Int.toNat_natCast]
    exact utfBegin_any s n w (by omega) hs hT
  · rw [if_neg h]; exact utfBegin_out s i w hs (by omega)
theorem refBegin_all (s : ByteArray) (i : Int) (w : World) (hs : s.size ≤ 1000000000000) :
    Calls Tryd.prog 14 #[.string s, .int .i64 i] w (IntIs (bgnAt s i) w) := by
  unfold bgnAt
  by_cases h0 : i < 0
  · rw [if_pos h0]; exact refBegin_below s i w hs h0
  rw [if_neg h0]
  by_cases h : i < s.size
  · rw [if_pos h]
    obtain ⟨n, rfl⟩ := Int.eq_ofNat_of_zero_le (show 0 ≤ i by omega)
    rw [Int.toNat_natCast]
    exact refBegin_any s n w (by omega) hs
  · rw [if_neg h]; exact refBegin_out s i w hs (by omega)

def LawIs (w : World) (e : Ending) (w' : World) : Prop := e = .returned (.bool true) ∧ Below w.heap.size w w'
set_option maxHeartbeats 400000 in
set_option maxRecDepth 100000 in
theorem tellsLaw_long (s : ByteArray) (i : Int) (w : World) (hs : s.size ≤ 9223372036854775807) (hl : decide ((262144 : Int) < (s.size : Int)) = true) :
    Calls Tryd.prog 3 #[.string s, .int .i64 i] w (LawIs w) := by
  have hc := fun (a : Addr) (W : World) (h : W.cell? a = some (.string s)) => long1_any s a W hs h
  rw [hl] at hc
  clear hl
  go_enter Tryd.func3, Tryd.ntmps3
  go_wp2_with fail
  refine (hc _ _ (by simp)).mono ?_
  rintro e w' ⟨rfl, rfl⟩
  go_wp2_with fail
  go_ret
  exact ⟨rfl, (Below.refl _ _).alloc (Nat.le_refl _) _⟩

set_option maxHeartbeats 400000 in
set_option maxRecDepth 100000 in
theorem tellsLaw_short (s : ByteArray) (i : Int) (w : World) (hs : s.size ≤ 262144) (hT : Tabs w) :
    Calls Tryd.prog 3 #[.string s, .int .i64 i] w (LawIs w) := by
  have hc := fun (a : Addr) (W : World) (h : W.cell? a = some (.string s)) => long1_any s a W (by omega) h
  rw [decide_eq_false (by omega)] at hc
  have h1 := fun W (hW : Tabs W) => utfNext_all s i W (by omega) hW
  have h2 := fun W => refNext_all s i W (by omega)
  have h3 := fun W (hW : Tabs W) => utfValid_any s W (by omega) hW
  have h4 := fun W => refValid_any s W (by omega)
  have h5 := fun W (hW : Tabs W) => utfBegin_all s i W (by omega) hW
  have h6 := fun W => refBegin_all s i W (by omega)
  generalize nxR s i = r at *
  generalize nxK s i = k at *
  generalize nxB s i = b at *
  generalize U.valid s = v at *
  generalize bgnAt s i = g at *
  have b0 : Below w.heap.size w (w.alloc (Obj.cells #[Value.string s] 9)) := (Below.refl _ _).alloc (Nat.le_refl _) _
  have HT := Lib.hid hT
  clear hT
  go_enter Tryd.func3, Tryd.ntmps3
  go_wp2_with fail
  refine (hc _ _ (by simp)).mono ?_
  rintro e w' ⟨rfl, rfl⟩
  go_wp2_with fail
  refine (h1 _ (tabs_below HT.out b0)).mono ?_
  rintro e w1 ⟨rfl, b1⟩
  have b1' := b0.trans (b1.mono b0.size)
  clear b1
  go_wp2_with fail
  refine (h2 _).mono ?_
  rintro e w2 ⟨rfl, b2⟩
  have b2' := b1'.trans (b2.mono b1'.size)
  clear b2
  go_wp2_with fail
  refine (h3 _ (tabs_below HT.out b2')).mono ?_
  rintro e w3 ⟨rfl, b3⟩
  have b3' := b2'.trans (b3.mono b2'.size)
  clear b3
  go_wp2_with fail
  refine (h4 _).mono ?_
  rintro e w4 ⟨rfl, b4⟩
  have b4' := b3'.trans (b4.mono b3'.size)
  clear b4
  go_wp2_with fail
  refine (h5 _ (tabs_below HT.out b4')).mono ?_
  rintro e w5 ⟨rfl, b5⟩
  have b5' := b4'.trans (b5.mono b4'.size)
  clear b5
  go_wp2_with fail
  refine (h6 _).mono ?_
  rintro e w6 ⟨rfl, b6⟩
  have b6' := b5'.trans (b6.mono b5'.size)
  clear b6
  go_wp2_with fail
  go_ret
  exact ⟨rfl, b6'⟩

theorem tellsLaw_any (s : ByteArray) (i : Int) (w : World) (hs : s.size ≤ 9223372036854775807) (hT : Tabs w) :
    Calls Tryd.prog 3 #[.string s, .int .i64 i] w (LawIs w) := by
  by_cases h : s.size ≤ 262144
  · exact tellsLaw_short s i w h hT
  · exact tellsLaw_long s i w hs (decide_eq_true (by omega))
end Go.Proofs.YteoeamdfglmmoaaDoor
