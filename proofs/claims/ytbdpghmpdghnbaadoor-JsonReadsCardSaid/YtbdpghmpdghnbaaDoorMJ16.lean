/- The program's Next: what each answers, by the scan. Conditions: a string of at most 10^12 bytes; the library's two tables as its text lays them. -/
import Derived.Test.YtbdpghmpdghnbaaDoorMJ15
namespace Go.Proofs.YtbdpghmpdghnbaaDoor
open Go Go.RowKit Go.Shelf Go.Lib

theorem tabs_below {w w' : World} (hT : Tabs w) (h : Below w.heap.size w w') : Tabs w' := Utf8Tabs_below hT h

/-! ### Next -/
set_option maxHeartbeats 400000 in
set_option maxRecDepth 100000 in
theorem utfNext_out (s : ByteArray) (i : Int) (w : World) (hs : s.size ≤ 1000000000000) (hi : i < 0 ∨ (s.size : Int) ≤ i) :
    Calls Tryd.prog 47 #[.string s, .int .i64 i] w (NextIs 0 0 false w) := by
  rcases hi with hi | hi
  all_goals
    go_enter Tryd.func47, Tryd.ntmps47
    go_wp2_with fail
    go_ret3
    exact ⟨rfl, Below.refl _ _⟩
set_option maxHeartbeats 400000 in
set_option maxRecDepth 100000 in
theorem utfNext_bad (s : ByteArray) (i : Nat) (w : World) (hi : i < s.size) (_hs : s.size ≤ 1000000000000) (hT : Tabs w) (h : U.bad s i = true) :
    Calls Tryd.prog 47 #[.string s, .int .i64 i] w (NextIs 0 0 false w) := by
  have hc := decode_any s i w hi hT
  obtain ⟨h1, h2⟩ := (U.bad_iff s i).1 h
  rw [h1, h2] at hc
  have i1 : ¬ ((i : Int) < 0) := by omega
  have i2 : (i : Int) < (s.size : Int) := by omega
  clear h h1 h2
  go_enter Tryd.func47, Tryd.ntmps47
  go_wp2_with fail
  refine hc.mono ?_
  rintro e w' ⟨rfl, hb⟩
  go_wp2_with fail
  go_ret3
  exact ⟨rfl, hb⟩
set_option maxHeartbeats 400000 in
set_option maxRecDepth 100000 in
theorem utfNext_good (s : ByteArray) (i : Nat) (w : World) (hi : i < s.size) (_hs : s.size ≤ 1000000000000) (hT : Tabs w) (h : U.bad s i = false) :
    Calls Tryd.prog 47 #[.string s, .int .i64 i] w (NextIs (U.ch s i) (U.wd s i) true w) := by
  have hc := decode_any s i w hi hT
  have hn : ¬ (U.ch s i = 65533 ∧ U.wd s i = 1) := fun hx => by rw [(U.bad_iff s i).2 hx] at h; cases h
  have i1 : ¬ ((i : Int) < 0) := by omega
  have i2 : (i : Int) < (s.size : Int) := by omega
  clear h
  generalize U.ch s i = c at *
  generalize U.wd s i = d at *
  by_cases hq : c = 65533
  · have e1 : ((c : Int) == 65533) = true := by rw [beq_iff_eq]; omega
    have e2 : ((d : Int) == 1) = false := by rw [beq_eq_false_iff_ne]; omega
    clear hn hq
    go_enter Tryd.func47, Tryd.ntmps47
    go_wp2_with fail
    refine hc.mono ?_
    rintro e w' ⟨rfl, hb⟩
    go_wp2_with fail
    go_ret3
    exact ⟨rfl, hb⟩
  · have e1 : ((c : Int) == 65533) = false := by rw [beq_eq_false_iff_ne]; omega
    clear hn hq
    go_enter Tryd.func47, Tryd.ntmps47
    go_wp2_with fail
    refine hc.mono ?_
    rintro e w' ⟨rfl, hb⟩
    go_wp2_with fail
    go_ret3
    exact ⟨rfl, hb⟩
theorem utfNext_any (s : ByteArray) (i : Nat) (w : World) (hi : i < s.size) (hs : s.size ≤ 1000000000000) (hT : Tabs w) :
    Calls Tryd.prog 47 #[.string s, .int .i64 i] w (NextIs (U.nr s i) (U.nk s i) (U.nb s i) w) := by
  cases h : U.bad s i
  · rw [U.nr_good h, U.nk_good h, U.nb_good h]; exact utfNext_good s i w hi hs hT h
  · rw [U.nr_bad h, U.nk_bad h, U.nb_bad h]; exact utfNext_bad s i w hi hs hT h
end Go.Proofs.YtbdpghmpdghnbaaDoor
