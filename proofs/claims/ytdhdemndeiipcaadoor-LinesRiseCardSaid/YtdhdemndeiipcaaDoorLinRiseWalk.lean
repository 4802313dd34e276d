/- The statement on two offsets' places, walked: whatever the string and the offsets, it answers true. Conditions: such as Go can hold; the library's two tables as its text lays them. -/
import Derived.Test.YtdhdemndeiipcaaDoorLinAwake
import Derived.Test.YtdhdemndeiipcaaDoorLinMathB
namespace Go.Proofs.YtdhdemndeiipcaaDoor
open Go Go.RowKit Go.Shelf Go.Lib

set_option maxHeartbeats 400000 in
set_option maxRecDepth 100000 in
theorem riseLaw_long (s : ByteArray) (i j : Int) (w : World) (_hs : s.size ≤ 9223372036854775807) (hT : Tabs w) (hl : (20000 : Int) < (s.size : Int)) :
    Calls Tryd.prog 6 #[.string s, .int .i64 i, .int .i64 j] w (SaysTrue w) := by
  have hw := linAwake_any w hT
  go_enter Tryd.func6, Tryd.ntmps6
  go_wp2_with fail
  refine hw.mono ?_
  rintro e w0 ⟨rfl, b0⟩
  go_wp2_with fail
  go_ret
  exact ⟨rfl, b0⟩

set_option maxRecDepth 100000 in
set_option maxHeartbeats 2000000 in
theorem riseLaw_short (s : ByteArray) (i j : Int) (w : World) (hs : s.size ≤ 20000) (hT : Tabs w) :
    Calls Tryd.prog 6 #[.string s, .int .i64 i, .int .i64 j] w (SaysTrue w) := by
  have hw := linAwake_any w hT
  have h1 := fun W (hW : Tabs W) => pos_any s (min i j) W (by omega) hW
  have h2 := fun W (hW : Tabs W) => pos_any s (max i j) W (by omega) hW
  have hm := pos_mono s (show min i j ≤ max i j by omega)
  unfold PosIs at h1 h2
  generalize posL s (bgnAt s (min i j)) = n1 at *
  generalize posC s (bgnAt s (min i j)) = u1 at *
  generalize posL s (bgnAt s (max i j)) = n2 at *
  generalize posC s (bgnAt s (max i j)) = u2 at *
  have HT := Lib.hid hT
  clear hT
  have d0 : decide ((20000 : Int) < (s.size : Int)) = false := decide_eq_false (by omega)
  rcases hm with hm | ⟨rfl, hm⟩
  · have d1 : decide (n1 < n2) = true := decide_eq_true hm
    go_enter Tryd.func6, Tryd.ntmps6
    go_wp2_with fail
    refine hw.mono ?_
    rintro e w0 ⟨rfl, b0⟩
    go_wp2_with fail
    refine (h1 _ (tabs_below HT.out b0)).mono ?_
    rintro e w1 ⟨rfl, b1⟩
    have b1' := b0.trans (b1.mono b0.size)
    clear b1 b0
    go_wp2_with fail
    refine (h2 _ (tabs_below HT.out b1')).mono ?_
    rintro e w2 ⟨rfl, b2⟩
    have b2' := b1'.trans (b2.mono b1'.size)
    clear b2 b1'
    go_wp2_with fail
    go_ret
    exact ⟨rfl, (b2'.alloc b2'.size _).alloc (by have := b2'.size; simp; omega) _⟩
  · have d1 : decide (u1 ≤ u2) = true := decide_eq_true hm
    go_enter Tryd.func6, Tryd.ntmps6
    go_wp2_with fail
    refine hw.mono ?_
    rintro e w0 ⟨rfl, b0⟩
    go_wp2_with fail
    refine (h1 _ (tabs_below HT.out b0)).mono ?_
    rintro e w1 ⟨rfl, b1⟩
    have b1' := b0.trans (b1.mono b0.size)
    clear b1 b0
    go_wp2_with fail
    refine (h2 _ (tabs_below HT.out b1')).mono ?_
    rintro e w2 ⟨rfl, b2⟩
    have b2' := b1'.trans (b2.mono b1'.size)
    clear b2 b1'
    go_wp2_with fail
    go_ret
    exact ⟨rfl, (b2'.alloc b2'.size _).alloc (by have := b2'.size; simp; omega) _⟩
theorem riseLaw_any (s : ByteArray) (i j : Int) (w : World) (hs : s.size ≤ 9223372036854775807) (_hi : -9223372036854775808 ≤ i ∧ i ≤ 9223372036854775807) (_hj : -9223372036854775808 ≤ j ∧ j ≤ 9223372036854775807) (hT : Tabs w) :
    Calls Tryd.prog 6 #[.string s, .int .i64 i, .int .i64 j] w (SaysTrue w) := by
  by_cases h : s.size ≤ 20000
  · exact riseLaw_short s i j w h hT
  · exact riseLaw_long s i j w hs hT (by omega)
end Go.Proofs.YtdhdemndeiipcaaDoor
