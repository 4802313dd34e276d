/- The statement on the way from an offset to a place by lines and back, walked: whatever the string, the offset and the place, it answers true. Conditions: such as Go can hold; the library's two tables as its text lays them. -/
import Derived.Test.YtdhdemndeiipcaaDoorLinAwake
import Derived.Test.YtdhdemndeiipcaaDoorLinMathB
namespace Go.Proofs.YtdhdemndeiipcaaDoor
open Go Go.RowKit Go.Shelf Go.Lib

set_option maxHeartbeats 400000 in
set_option maxRecDepth 100000 in
theorem lbLaw_long (s : ByteArray) (i l c : Int) (w : World) (_hs : s.size ≤ 9223372036854775807) (hT : Tabs w) (hl : (20000 : Int) < (s.size : Int)) :
    Calls Tryd.prog 4 #[.string s, .int .i64 i, .agg #[.int .i64 l, .int .i64 c]] w (SaysTrue w) := by
  have hw := linAwake_any (w.alloc (.cells #[.int .i64 l, .int .i64 c] 23)) (tabs_below hT ((Below.refl _ _).alloc (Nat.le_refl _) _))
  go_enter Tryd.func4, Tryd.ntmps4
  go_wp2_with fail
  refine hw.mono ?_
  rintro e w0 ⟨rfl, b0⟩
  go_wp2_with fail
  go_ret
  exact ⟨rfl, ((Below.refl _ w).alloc (Nat.le_refl _) _).trans (b0.mono (by simp))⟩

/-- what the calls of the statement answer -/
structure Knows (s : ByteArray) (i l c : Int) (b n u bk k n2 u2 : Nat) : Prop where
  begin : ∀ W, Tabs W → Calls Tryd.prog 14 #[.string s, .int .i64 i] W (IntIs b W)
  pos : ∀ W, Tabs W → Calls Tryd.prog 9 #[.string s, .int .i64 i] W fun e w' => e = .returned (.agg #[.int .i64 n, .int .i64 u]) ∧ Below W.heap.size W w'
  back : ∀ W, Calls Tryd.prog 7 #[.string s, .agg #[.int .i64 n, .int .i64 u]] W (IntIs bk W)
  offset : ∀ W, Calls Tryd.prog 7 #[.string s, .agg #[.int .i64 l, .int .i64 c]] W (IntIs k W)
  pos2 : ∀ W, Tabs W → Calls Tryd.prog 9 #[.string s, .int .i64 k] W fun e w' => e = .returned (.agg #[.int .i64 n2, .int .i64 u2]) ∧ Below W.heap.size W w'
  begin2 : ∀ W, Tabs W → Calls Tryd.prog 14 #[.string s, .int .i64 k] W (IntIs k W)
  back2 : ∀ W, Calls Tryd.prog 7 #[.string s, .agg #[.int .i64 n2, .int .i64 u2]] W (IntIs k W)
  le : k ≤ s.size

set_option maxRecDepth 100000 in
set_option maxHeartbeats 2000000 in
theorem lbLaw_0n (s : ByteArray) (i l c : Int) (w : World) (hs : s.size ≤ 20000) (hT : Tabs w) (n u k n2 u2 : Nat) (K : Knows s i l c (0) n u (0) k n2 u2) (hk : k = s.size) (X : Int) (hX : max l 0 = X) (hline : ∀ W, Calls Tryd.prog 15 #[.string s, .int .i64 X] W fun e w' => e = .returned (.tuple #[.agg #[.int .i64 0, .int .i64 0], .bool false]) ∧ Below W.heap.size W w') :
    Calls Tryd.prog 4 #[.string s, .int .i64 i, .agg #[.int .i64 l, .int .i64 c]] w (SaysTrue w) := by
  obtain ⟨h1, h2, h3, h4, h5, h6, h7, hle⟩ := K
  have hw := linAwake_any (w.alloc (.cells #[.int .i64 l, .int .i64 c] 23)) (tabs_below hT ((Below.refl _ _).alloc (Nat.le_refl _) _))
  have d0 : decide ((20000 : Int) < (s.size : Int)) = false := decide_eq_false (by omega)
  subst hk
  have b0 := Boxed2.new w 23 (.int .i64 l) (.int .i64 c)
  have hB0 := (Below.refl _ w).alloc (Nat.le_refl _) (.cells #[.int .i64 l, .int .i64 c] 23)
  have HT := Lib.hid hT
  clear hT
  go_enter Tryd.func4, Tryd.ntmps4
  go_wp2_with fail
  refine hw.mono ?_
  rintro e w1 ⟨rfl, c1⟩
  have b1 := b0.below c1
  have hB1 := hB0.trans (c1.mono hB0.size)
  clear c1 hB0 b0
  go_wp2_with fail
  refine (h1 _ (tabs_below HT.out hB1)).mono ?_
  rintro e w2 ⟨rfl, c2⟩
  have b2 := b1.below c2
  have hB2 := hB1.trans (c2.mono hB1.size)
  clear c2 hB1 b1
  go_wp2_with fail
  refine (h2 _ (tabs_below HT.out hB2)).mono ?_
  rintro e w3 ⟨rfl, c3⟩
  have b3 := b2.below c3
  have hB3 := hB2.trans (c3.mono hB2.size)
  clear c3 hB2 b2
  go_wp2_with fail
  refine (h3 _).mono ?_
  rintro e w4 ⟨rfl, c4⟩
  have b4 := b3.below c4
  have hB4 := hB3.trans (c4.mono hB3.size)
  clear c4 hB3 b3
  have x0 := b4.cell0
  have x1 := b4.cell1
  go_wp2_with fail
  refine (h4 _).mono ?_
  rintro e w5 ⟨rfl, c5⟩
  have b5 := b4.below c5
  have hB5 := hB4.trans (c5.mono hB4.size)
  clear c5 hB4 b4 x0 x1
  go_wp2_with fail
  refine (h5 _ (tabs_below HT.out hB5)).mono ?_
  rintro e w6 ⟨rfl, c6⟩
  have b6 := (b5.below c6).alloc (.cells #[.int .i64 n2, .int .i64 u2] 23)
  have q6 := Boxed2.new w6 23 (.int .i64 n2) (.int .i64 u2)
  have hB6' := hB5.trans (c6.mono hB5.size)
  have hB6 := hB6'.alloc hB6'.size (.cells #[.int .i64 n2, .int .i64 u2] 23)
  clear c6 hB5 b5 hB6'
  go_wp2_with fail
  refine (h6 _ (tabs_below HT.out hB6)).mono ?_
  rintro e w7 ⟨rfl, c7⟩
  have b7 := b6.below c7
  have q7 := q6.below c7
  have hB7 := hB6.trans (c7.mono hB6.size)
  clear c7 hB6 b6 q6
  have y0 := q7.cell0
  have y1 := q7.cell1
  go_wp2_with fail
  refine (h7 _).mono ?_
  rintro e w8 ⟨rfl, c8⟩
  have b8 := b7.below c8
  have q8 := q7.below c8
  have hB8 := hB7.trans (c8.mono hB7.size)
  clear c8 hB7 b7 q7 y0 y1
  have x0 := b8.cell0
  have x1 := b8.cell1
  go_wp2_with fail
  refine (hline _).mono ?_
  rintro e w9 ⟨rfl, c9⟩
  have b9 := (b8.below c9).alloc (.cells #[.int .i64 0, .int .i64 0] 29)
  have q9 := (q8.below c9).alloc (.cells #[.int .i64 0, .int .i64 0] 29)
  have z9 := Boxed2.new w9 29 (.int .i64 0) (.int .i64 0)
  have hB9' := hB8.trans (c9.mono hB8.size)
  have hB9 := hB9'.alloc hB9'.size (.cells #[.int .i64 0, .int .i64 0] 29)
  clear c9 hB8 b8 q8 hB9' x0 x1
  have x0 := b9.cell0
  have x1 := b9.cell1
  have y0 := q9.cell0
  have y1 := q9.cell1
  have v0 := z9.cell0
  have v1 := z9.cell1
  go_wp2_with fail
  go_ret
  exact ⟨rfl, hB9⟩

set_option maxRecDepth 100000 in
set_option maxHeartbeats 2000000 in
theorem lbLaw_0y (s : ByteArray) (i l c : Int) (w : World) (hs : s.size ≤ 20000) (hT : Tabs w) (n u k n2 u2 : Nat) (K : Knows s i l c (0) n u (0) k n2 u2) (f t : Nat) (Y : Int) (hX : max l 0 = (n2 : Int)) (hY : max c 0 = Y) (hu : (u2 : Int) ≤ Y) (hf : f ≤ k) (ht : k ≤ t) (hline : ∀ W, Calls Tryd.prog 15 #[.string s, .int .i64 n2] W fun e w' => e = .returned (.tuple #[.agg #[.int .i64 f, .int .i64 t], .bool true]) ∧ Below W.heap.size W w') :
    Calls Tryd.prog 4 #[.string s, .int .i64 i, .agg #[.int .i64 l, .int .i64 c]] w (SaysTrue w) := by
  obtain ⟨h1, h2, h3, h4, h5, h6, h7, hle⟩ := K
  have hw := linAwake_any (w.alloc (.cells #[.int .i64 l, .int .i64 c] 23)) (tabs_below hT ((Below.refl _ _).alloc (Nat.le_refl _) _))
  have d0 : decide ((20000 : Int) < (s.size : Int)) = false := decide_eq_false (by omega)
  have b0 := Boxed2.new w 23 (.int .i64 l) (.int .i64 c)
  have hB0 := (Below.refl _ w).alloc (Nat.le_refl _) (.cells #[.int .i64 l, .int .i64 c] 23)
  have HT := Lib.hid hT
  clear hT
  go_enter Tryd.func4, Tryd.ntmps4
  go_wp2_with fail
  refine hw.mono ?_
  rintro e w1 ⟨rfl, c1⟩
  have b1 := b0.below c1
  have hB1 := hB0.trans (c1.mono hB0.size)
  clear c1 hB0 b0
  go_wp2_with fail
  refine (h1 _ (tabs_below HT.out hB1)).mono ?_
  rintro e w2 ⟨rfl, c2⟩
  have b2 := b1.below c2
  have hB2 := hB1.trans (c2.mono hB1.size)
  clear c2 hB1 b1
  go_wp2_with fail
  refine (h2 _ (tabs_below HT.out hB2)).mono ?_
  rintro e w3 ⟨rfl, c3⟩
  have b3 := b2.below c3
  have hB3 := hB2.trans (c3.mono hB2.size)
  clear c3 hB2 b2
  go_wp2_with fail
  refine (h3 _).mono ?_
  rintro e w4 ⟨rfl, c4⟩
  have b4 := b3.below c4
  have hB4 := hB3.trans (c4.mono hB3.size)
  clear c4 hB3 b3
  have x0 := b4.cell0
  have x1 := b4.cell1
  go_wp2_with fail
  refine (h4 _).mono ?_
  rintro e w5 ⟨rfl, c5⟩
  have b5 := b4.below c5
  have hB5 := hB4.trans (c5.mono hB4.size)
  clear c5 hB4 b4 x0 x1
  go_wp2_with fail
  refine (h5 _ (tabs_below HT.out hB5)).mono ?_
  rintro e w6 ⟨rfl, c6⟩
  have b6 := (b5.below c6).alloc (.cells #[.int .i64 n2, .int .i64 u2] 23)
  have q6 := Boxed2.new w6 23 (.int .i64 n2) (.int .i64 u2)
  have hB6' := hB5.trans (c6.mono hB5.size)
  have hB6 := hB6'.alloc hB6'.size (.cells #[.int .i64 n2, .int .i64 u2] 23)
  clear c6 hB5 b5 hB6'
  go_wp2_with fail
  refine (h6 _ (tabs_below HT.out hB6)).mono ?_
  rintro e w7 ⟨rfl, c7⟩
  have b7 := b6.below c7
  have q7 := q6.below c7
  have hB7 := hB6.trans (c7.mono hB6.size)
  clear c7 hB6 b6 q6
  have y0 := q7.cell0
  have y1 := q7.cell1
  go_wp2_with fail
  refine (h7 _).mono ?_
  rintro e w8 ⟨rfl, c8⟩
  have b8 := b7.below c8
  have q8 := q7.below c8
  have hB8 := hB7.trans (c8.mono hB7.size)
  clear c8 hB7 b7 q7 y0 y1
  have x0 := b8.cell0
  have x1 := b8.cell1
  go_wp2_with fail
  refine (hline _).mono ?_
  rintro e w9 ⟨rfl, c9⟩
  have b9 := (b8.below c9).alloc (.cells #[.int .i64 f, .int .i64 t] 29)
  have q9 := (q8.below c9).alloc (.cells #[.int .i64 f, .int .i64 t] 29)
  have z9 := Boxed2.new w9 29 (.int .i64 f) (.int .i64 t)
  have hB9' := hB8.trans (c9.mono hB8.size)
  have hB9 := hB9'.alloc hB9'.size (.cells #[.int .i64 f, .int .i64 t] 29)
  clear c9 hB8 b8 q8 hB9' x0 x1
  have x0 := b9.cell0
  have x1 := b9.cell1
  have y0 := q9.cell0
  have y1 := q9.cell1
  have v0 := z9.cell0
  have v1 := z9.cell1
  go_wp2_with fail
  go_ret
  exact ⟨rfl, hB9⟩

set_option maxRecDepth 100000 in
set_option maxHeartbeats 2000000 in
theorem lbLaw_1n (s : ByteArray) (i l c : Int) (w : World) (hs : s.size ≤ 20000) (hT : Tabs w) (m : Nat) (hm : m + 1 = s.size) (n u k n2 u2 : Nat) (K : Knows s i l c (m + 1) n u (m + 1) k n2 u2) (hk : k = s.size) (X : Int) (hX : max l 0 = X) (hline : ∀ W, Calls Tryd.prog 15 #[.string s, .int .i64 X] W fun e w' => e = .returned (.tuple #[.agg #[.int .i64 0, .int .i64 0], .bool false]) ∧ Below W.heap.size W w') :
    Calls Tryd.prog 4 #[.string s, .int .i64 i, .agg #[.int .i64 l, .int .i64 c]] w (SaysTrue w) := by
  obtain ⟨h1, h2, h3, h4, h5, h6, h7, hle⟩ := K
  have hw := linAwake_any (w.alloc (.cells #[.int .i64 l, .int .i64 c] 23)) (tabs_below hT ((Below.refl _ _).alloc (Nat.le_refl _) _))
  have d0 : decide ((20000 : Int) < (s.size : Int)) = false := decide_eq_false (by omega)
  have d1 : decide (m + 1 < s.size) = false := decide_eq_false (by omega)
  subst hk
  have b0 := Boxed2.new w 23 (.int .i64 l) (.int .i64 c)
  have hB0 := (Below.refl _ w).alloc (Nat.le_refl _) (.cells #[.int .i64 l, .int .i64 c] 23)
  have HT := Lib.hid hT
  clear hT
  go_enter Tryd.func4, Tryd.ntmps4
  go_wp2_with fail
  refine hw.mono ?_
  rintro e w1 ⟨rfl, c1⟩
  have b1 := b0.below c1
  have hB1 := hB0.trans (c1.mono hB0.size)
  clear c1 hB0 b0
  go_wp2_with fail
  refine (h1 _ (tabs_below HT.out hB1)).mono ?_
  rintro e w2 ⟨rfl, c2⟩
  have b2 := b1.below c2
  have hB2 := hB1.trans (c2.mono hB1.size)
  clear c2 hB1 b1
  go_wp2_with fail
  refine (h2 _ (tabs_below HT.out hB2)).mono ?_
  rintro e w3 ⟨rfl, c3⟩
  have b3 := b2.below c3
  have hB3 := hB2.trans (c3.mono hB2.size)
  clear c3 hB2 b2
  go_wp2_with fail
  refine (h3 _).mono ?_
  rintro e w4 ⟨rfl, c4⟩
  have b4 := b3.below c4
  have hB4 := hB3.trans (c4.mono hB3.size)
  clear c4 hB3 b3
  have x0 := b4.cell0
  have x1 := b4.cell1
  go_wp2_with fail
  refine (h4 _).mono ?_
  rintro e w5 ⟨rfl, c5⟩
  have b5 := b4.below c5
  have hB5 := hB4.trans (c5.mono hB4.size)
  clear c5 hB4 b4 x0 x1
  go_wp2_with fail
  refine (h5 _ (tabs_below HT.out hB5)).mono ?_
  rintro e w6 ⟨rfl, c6⟩
  have b6 := (b5.below c6).alloc (.cells #[.int .i64 n2, .int .i64 u2] 23)
  have q6 := Boxed2.new w6 23 (.int .i64 n2) (.int .i64 u2)
  have hB6' := hB5.trans (c6.mono hB5.size)
  have hB6 := hB6'.alloc hB6'.size (.cells #[.int .i64 n2, .int .i64 u2] 23)
  clear c6 hB5 b5 hB6'
  go_wp2_with fail
  refine (h6 _ (tabs_below HT.out hB6)).mono ?_
  rintro e w7 ⟨rfl, c7⟩
  have b7 := b6.below c7
  have q7 := q6.below c7
  have hB7 := hB6.trans (c7.mono hB6.size)
  clear c7 hB6 b6 q6
  have y0 := q7.cell0
  have y1 := q7.cell1
  go_wp2_with fail
  refine (h7 _).mono ?_
  rintro e w8 ⟨rfl, c8⟩
  have b8 := b7.below c8
  have q8 := q7.below c8
  have hB8 := hB7.trans (c8.mono hB7.size)
  clear c8 hB7 b7 q7 y0 y1
  have x0 := b8.cell0
  have x1 := b8.cell1
  go_wp2_with fail
  refine (hline _).mono ?_
  rintro e w9 ⟨rfl, c9⟩
  have b9 := (b8.below c9).alloc (.cells #[.int .i64 0, .int .i64 0] 29)
  have q9 := (q8.below c9).alloc (.cells #[.int .i64 0, .int .i64 0] 29)
  have z9 := Boxed2.new w9 29 (.int .i64 0) (.int .i64 0)
  have hB9' := hB8.trans (c9.mono hB8.size)
  have hB9 := hB9'.alloc hB9'.size (.cells #[.int .i64 0, .int .i64 0] 29)
  clear c9 hB8 b8 q8 hB9' x0 x1
  have x0 := b9.cell0
  have x1 := b9.cell1
  have y0 := q9.cell0
  have y1 := q9.cell1
  have v0 := z9.cell0
  have v1 := z9.cell1
  go_wp2_with fail
  go_ret
  exact ⟨rfl, hB9⟩

set_option maxRecDepth 100000 in
set_option maxHeartbeats 2000000 in
theorem lbLaw_1y (s : ByteArray) (i l c : Int) (w : World) (hs : s.size ≤ 20000) (hT : Tabs w) (m : Nat) (hm : m + 1 = s.size) (n u k n2 u2 : Nat) (K : Knows s i l c (m + 1) n u (m + 1) k n2 u2) (f t : Nat) (Y : Int) (hX : max l 0 = (n2 : Int)) (hY : max c 0 = Y) (hu : (u2 : Int) ≤ Y) (hf : f ≤ k) (ht : k ≤ t) (hline : ∀ W, Calls Tryd.prog 15 #[.string s, .int .i64 n2] W fun e w' => e = .returned (.tuple #[.agg #[.int .i64 f, .int .i64 t], .bool true]) ∧ Below W.heap.size W w') :
    Calls Tryd.prog 4 #[.string s, .int .i64 i, .agg #[.int .i64 l, .int .i64 c]] w (SaysTrue w) := by
  obtain ⟨h1, h2, h3, h4, h5, h6, h7, hle⟩ := K
  have hw := linAwake_any (w.alloc (.cells #[.int .i64 l, .int .i64 c] 23)) (tabs_below hT ((Below.refl _ _).alloc (Nat.le_refl _) _))
  have d0 : decide ((20000 : Int) < (s.size : Int)) = false := decide_eq_false (by omega)
  have d1 : decide (m + 1 < s.size) = false := decide_eq_false (by omega)
  have b0 := Boxed2.new w 23 (.int .i64 l) (.int .i64 c)
  have hB0 := (Below.refl _ w).alloc (Nat.le_refl _) (.cells #[.int .i64 l, .int .i64 c] 23)
  have HT := Lib.hid hT
  clear hT
  go_enter Tryd.func4, Tryd.ntmps4
  go_wp2_with fail
  refine hw.mono ?_
  rintro e w1 ⟨rfl, c1⟩
  have b1 := b0.below c1
  have hB1 := hB0.trans (c1.mono hB0.size)
  clear c1 hB0 b0
  go_wp2_with fail
  refine (h1 _ (tabs_below HT.out hB1)).mono ?_
  rintro e w2 ⟨rfl, c2⟩
  have b2 := b1.below c2
  have hB2 := hB1.trans (c2.mono hB1.size)
  clear c2 hB1 b1
  go_wp2_with fail
  refine (h2 _ (tabs_below HT.out hB2)).mono ?_
  rintro e w3 ⟨rfl, c3⟩
  have b3 := b2.below c3
  have hB3 := hB2.trans (c3.mono hB2.size)
  clear c3 hB2 b2
  go_wp2_with fail
  refine (h3 _).mono ?_
  rintro e w4 ⟨rfl, c4⟩
  have b4 := b3.below c4
  have hB4 := hB3.trans (c4.mono hB3.size)
  clear c4 hB3 b3
  have x0 := b4.cell0
  have x1 := b4.cell1
  go_wp2_with fail
  refine (h4 _).mono ?_
  rintro e w5 ⟨rfl, c5⟩
  have b5 := b4.below c5
  have hB5 := hB4.trans (c5.mono hB4.size)
  clear c5 hB4 b4 x0 x1
  go_wp2_with fail
  refine (h5 _ (tabs_below HT.out hB5)).mono ?_
  rintro e w6 ⟨rfl, c6⟩
  have b6 := (b5.below c6).alloc (.cells #[.int .i64 n2, .int .i64 u2] 23)
  have q6 := Boxed2.new w6 23 (.int .i64 n2) (.int .i64 u2)
  have hB6' := hB5.trans (c6.mono hB5.size)
  have hB6 := hB6'.alloc hB6'.size (.cells #[.int .i64 n2, .int .i64 u2] 23)
  clear c6 hB5 b5 hB6'
  go_wp2_with fail
  refine (h6 _ (tabs_below HT.out hB6)).mono ?_
  rintro e w7 ⟨rfl, c7⟩
  have b7 := b6.below c7
  have q7 := q6.below c7
  have hB7 := hB6.trans (c7.mono hB6.size)
  clear c7 hB6 b6 q6
  have y0 := q7.cell0
  have y1 := q7.cell1
  go_wp2_with fail
  refine (h7 _).mono ?_
  rintro e w8 ⟨rfl, c8⟩
  have b8 := b7.below c8
  have q8 := q7.below c8
  have hB8 := hB7.trans (c8.mono hB7.size)
  clear c8 hB7 b7 q7 y0 y1
  have x0 := b8.cell0
  have x1 := b8.cell1
  go_wp2_with fail
  refine (hline _).mono ?_
  rintro e w9 ⟨rfl, c9⟩
  have b9 := (b8.below c9).alloc (.cells #[.int .i64 f, .int .i64 t] 29)
  have q9 := (q8.below c9).alloc (.cells #[.int .i64 f, .int .i64 t] 29)
  have z9 := Boxed2.new w9 29 (.int .i64 f) (.int .i64 t)
  have hB9' := hB8.trans (c9.mono hB8.size)
  have hB9 := hB9'.alloc hB9'.size (.cells #[.int .i64 f, .int .i64 t] 29)
  clear c9 hB8 b8 q8 hB9' x0 x1
  have x0 := b9.cell0
  have x1 := b9.cell1
  have y0 := q9.cell0
  have y1 := q9.cell1
  have v0 := z9.cell0
  have v1 := z9.cell1
  go_wp2_with fail
  go_ret
  exact ⟨rfl, hB9⟩

set_option maxRecDepth 100000 in
set_option maxHeartbeats 2000000 in
theorem lbLaw_2n (s : ByteArray) (i l c : Int) (w : World) (hs : s.size ≤ 20000) (hT : Tabs w) (m : Nat) (hm : m + 1 < s.size) (hx : ¬ (s[m]).toNat = 13) (n u k n2 u2 : Nat) (K : Knows s i l c (m + 1) n u (m + 1) k n2 u2) (hk : k = s.size) (X : Int) (hX : max l 0 = X) (hline : ∀ W, Calls Tryd.prog 15 #[.string s, .int .i64 X] W fun e w' => e = .returned (.tuple #[.agg #[.int .i64 0, .int .i64 0], .bool false]) ∧ Below W.heap.size W w') :
    Calls Tryd.prog 4 #[.string s, .int .i64 i, .agg #[.int .i64 l, .int .i64 c]] w (SaysTrue w) := by
  obtain ⟨h1, h2, h3, h4, h5, h6, h7, hle⟩ := K
  have hw := linAwake_any (w.alloc (.cells #[.int .i64 l, .int .i64 c] 23)) (tabs_below hT ((Below.refl _ _).alloc (Nat.le_refl _) _))
  have d0 : decide ((20000 : Int) < (s.size : Int)) = false := decide_eq_false (by omega)
  have d2 : ((s[m].toNat : Int) == 13) = false := by simp; omega
  clear hx
  subst hk
  have b0 := Boxed2.new w 23 (.int .i64 l) (.int .i64 c)
  have hB0 := (Below.refl _ w).alloc (Nat.le_refl _) (.cells #[.int .i64 l, .int .i64 c] 23)
  have HT := Lib.hid hT
  clear hT
  go_enter Tryd.func4, Tryd.ntmps4
  go_wp2_with fail
  refine hw.mono ?_
  rintro e w1 ⟨rfl, c1⟩
  have b1 := b0.below c1
  have hB1 := hB0.trans (c1.mono hB0.size)
  clear c1 hB0 b0
  go_wp2_with fail
  refine (h1 _ (tabs_below HT.out hB1)).mono ?_
  rintro e w2 ⟨rfl, c2⟩
  have b2 := b1.below c2
  have hB2 := hB1.trans (c2.mono hB1.size)
  clear c2 hB1 b1
  go_wp2_with fail
  refine (h2 _ (tabs_below HT.out hB2)).mono ?_
  rintro e w3 ⟨rfl, c3⟩
  have b3 := b2.below c3
  have hB3 := hB2.trans (c3.mono hB2.size)
  clear c3 hB2 b2
  go_wp2_with fail
  refine (h3 _).mono ?_
  rintro e w4 ⟨rfl, c4⟩
  have b4 := b3.below c4
  have hB4 := hB3.trans (c4.mono hB3.size)
  clear c4 hB3 b3
  have x0 := b4.cell0
  have x1 := b4.cell1
  go_wp2_with fail
  refine (h4 _).mono ?_
  rintro e w5 ⟨rfl, c5⟩
  have b5 := b4.below c5
  have hB5 := hB4.trans (c5.mono hB4.size)
  clear c5 hB4 b4 x0 x1
  go_wp2_with fail
  refine (h5 _ (tabs_below HT.out hB5)).mono ?_
  rintro e w6 ⟨rfl, c6⟩
  have b6 := (b5.below c6).alloc (.cells #[.int .i64 n2, .int .i64 u2] 23)
  have q6 := Boxed2.new w6 23 (.int .i64 n2) (.int .i64 u2)
  have hB6' := hB5.trans (c6.mono hB5.size)
  have hB6 := hB6'.alloc hB6'.size (.cells #[.int .i64 n2, .int .i64 u2] 23)
  clear c6 hB5 b5 hB6'
  go_wp2_with fail
  refine (h6 _ (tabs_below HT.out hB6)).mono ?_
  rintro e w7 ⟨rfl, c7⟩
  have b7 := b6.below c7
  have q7 := q6.below c7
  have hB7 := hB6.trans (c7.mono hB6.size)
  clear c7 hB6 b6 q6
  have y0 := q7.cell0
  have y1 := q7.cell1
  go_wp2_with fail
  refine (h7 _).mono ?_
  rintro e w8 ⟨rfl, c8⟩
  have b8 := b7.below c8
  have q8 := q7.below c8
  have hB8 := hB7.trans (c8.mono hB7.size)
  clear c8 hB7 b7 q7 y0 y1
  have x0 := b8.cell0
  have x1 := b8.cell1
  go_wp2_with fail
  refine (hline _).mono ?_
  rintro e w9 ⟨rfl, c9⟩
  have b9 := (b8.below c9).alloc (.cells #[.int .i64 0, .int .i64 0] 29)
  have q9 := (q8.below c9).alloc (.cells #[.int .i64 0, .int .i64 0] 29)
  have z9 := Boxed2.new w9 29 (.int .i64 0) (.int .i64 0)
  have hB9' := hB8.trans (c9.mono hB8.size)
  have hB9 := hB9'.alloc hB9'.size (.cells #[.int .i64 0, .int .i64 0] 29)
  clear c9 hB8 b8 q8 hB9' x0 x1
  have x0 := b9.cell0
  have x1 := b9.cell1
  have y0 := q9.cell0
  have y1 := q9.cell1
  have v0 := z9.cell0
  have v1 := z9.cell1
  go_wp2_with fail
  go_ret
  exact ⟨rfl, hB9⟩

set_option maxRecDepth 100000 in
set_option maxHeartbeats 2000000 in
theorem lbLaw_2y (s : ByteArray) (i l c : Int) (w : World) (hs : s.size ≤ 20000) (hT : Tabs w) (m : Nat) (hm : m + 1 < s.size) (hx : ¬ (s[m]).toNat = 13) (n u k n2 u2 : Nat) (K : Knows s i l c (m + 1) n u (m + 1) k n2 u2) (f t : Nat) (Y : Int) (hX : max l 0 = (n2 : Int)) (hY : max c 0 = Y) (hu : (u2 : Int) ≤ Y) (hf : f ≤ k) (ht : k ≤ t) (hline : ∀ W, Calls Tryd.prog 15 #[.string s, .int .i64 n2] W fun e w' => e = .returned (.tuple #[.agg #[.int .i64 f, .int .i64 t], .bool true]) ∧ Below W.heap.size W w') :
    Calls Tryd.prog 4 #[.string s, .int .i64 i, .agg #[.int .i64 l, .int .i64 c]] w (SaysTrue w) := by
  obtain ⟨h1, h2, h3, h4, h5, h6, h7, hle⟩ := K
  have hw := linAwake_any (w.alloc (.cells #[.int .i64 l, .int .i64 c] 23)) (tabs_below hT ((Below.refl _ _).alloc (Nat.le_refl _) _))
  have d0 : decide ((20000 : Int) < (s.size : Int)) = false := decide_eq_false (by omega)
  have d2 : ((s[m].toNat : Int) == 13) = false := by simp; omega
  clear hx
  have b0 := Boxed2.new w 23 (.int .i64 l) (.int .i64 c)
  have hB0 := (Below.refl _ w).alloc (Nat.le_refl _) (.cells #[.int .i64 l, .int .i64 c] 23)
  have HT := Lib.hid hT
  clear hT
  go_enter Tryd.func4, Tryd.ntmps4
  go_wp2_with fail
  refine hw.mono ?_
  rintro e w1 ⟨rfl, c1⟩
  have b1 := b0.below c1
  have hB1 := hB0.trans (c1.mono hB0.size)
  clear c1 hB0 b0
  go_wp2_with fail
  refine (h1 _ (tabs_below HT.out hB1)).mono ?_
  rintro e w2 ⟨rfl, c2⟩
  have b2 := b1.below c2
  have hB2 := hB1.trans (c2.mono hB1.size)
  clear c2 hB1 b1
  go_wp2_with fail
  refine (h2 _ (tabs_below HT.out hB2)).mono ?_
  rintro e w3 ⟨rfl, c3⟩
  have b3 := b2.below c3
  have hB3 := hB2.trans (c3.mono hB2.size)
  clear c3 hB2 b2
  go_wp2_with fail
  refine (h3 _).mono ?_
  rintro e w4 ⟨rfl, c4⟩
  have b4 := b3.below c4
  have hB4 := hB3.trans (c4.mono hB3.size)
  clear c4 hB3 b3
  have x0 := b4.cell0
  have x1 := b4.cell1
  go_wp2_with fail
  refine (h4 _).mono ?_
  rintro e w5 ⟨rfl, c5⟩
  have b5 := b4.below c5
  have hB5 := hB4.trans (c5.mono hB4.size)
  clear c5 hB4 b4 x0 x1
  go_wp2_with fail
  refine (h5 _ (tabs_below HT.out hB5)).mono ?_
  rintro e w6 ⟨rfl, c6⟩
  have b6 := (b5.below c6).alloc (.cells #[.int .i64 n2, .int .i64 u2] 23)
  have q6 := Boxed2.new w6 23 (.int .i64 n2) (.int .i64 u2)
  have hB6' := hB5.trans (c6.mono hB5.size)
  have hB6 := hB6'.alloc hB6'.size (.cells #[.int .i64 n2, .int .i64 u2] 23)
  clear c6 hB5 b5 hB6'
  go_wp2_with fail
  refine (h6 _ (tabs_below HT.out hB6)).mono ?_
  rintro e w7 ⟨rfl, c7⟩
  have b7 := b6.below c7
  have q7 := q6.below c7
  have hB7 := hB6.trans (c7.mono hB6.size)
  clear c7 hB6 b6 q6
  have y0 := q7.cell0
  have y1 := q7.cell1
  go_wp2_with fail
  refine (h7 _).mono ?_
  rintro e w8 ⟨rfl, c8⟩
  have b8 := b7.below c8
  have q8 := q7.below c8
  have hB8 := hB7.trans (c8.mono hB7.size)
  clear c8 hB7 b7 q7 y0 y1
  have x0 := b8.cell0
  have x1 := b8.cell1
  go_wp2_with fail
  refine (hline _).mono ?_
  rintro e w9 ⟨rfl, c9⟩
  have b9 := (b8.below c9).alloc (.cells #[.int .i64 f, .int .i64 t] 29)
  have q9 := (q8.below c9).alloc (.cells #[.int .i64 f, .int .i64 t] 29)
  have z9 := Boxed2.new w9 29 (.int .i64 f) (.int .i64 t)
  have hB9' := hB8.trans (c9.mono hB8.size)
  have hB9 := hB9'.alloc hB9'.size (.cells #[.int .i64 f, .int .i64 t] 29)
  clear c9 hB8 b8 q8 hB9' x0 x1
  have x0 := b9.cell0
  have x1 := b9.cell1
  have y0 := q9.cell0
  have y1 := q9.cell1
  have v0 := z9.cell0
  have v1 := z9.cell1
  go_wp2_with fail
  go_ret
  exact ⟨rfl, hB9⟩

set_option maxRecDepth 100000 in
set_option maxHeartbeats 2000000 in
theorem lbLaw_3n (s : ByteArray) (i l c : Int) (w : World) (hs : s.size ≤ 20000) (hT : Tabs w) (m : Nat) (hm : m + 1 < s.size) (hx : (s[m]).toNat = 13) (hy : ¬ (s[m + 1]).toNat = 10) (n u k n2 u2 : Nat) (K : Knows s i l c (m + 1) n u (m + 1) k n2 u2) (hk : k = s.size) (X : Int) (hX : max l 0 = X) (hline : ∀ W, Calls Tryd.prog 15 #[.string s, .int .i64 X] W fun e w' => e = .returned (.tuple #[.agg #[.int .i64 0, .int .i64 0], .bool false]) ∧ Below W.heap.size W w') :
    Calls Tryd.prog 4 #[.string s, .int .i64 i, .agg #[.int .i64 l, .int .i64 c]] w (SaysTrue w) := by
  obtain ⟨h1, h2, h3, h4, h5, h6, h7, hle⟩ := K
  have hw := linAwake_any (w.alloc (.cells #[.int .i64 l, .int .i64 c] 23)) (tabs_below hT ((Below.refl _ _).alloc (Nat.le_refl _) _))
  have d0 : decide ((20000 : Int) < (s.size : Int)) = false := decide_eq_false (by omega)
  have d2 : ((s[m].toNat : Int) == 13) = true := by simp; omega
  have d3 : ((s[m + 1].toNat : Int) == 10) = false := by simp; omega
  clear hx hy
  subst hk
  have b0 := Boxed2.new w 23 (.int .i64 l) (.int .i64 c)
  have hB0 := (Below.refl _ w).alloc (Nat.le_refl _) (.cells #[.int .i64 l, .int .i64 c] 23)
  have HT := Lib.hid hT
  clear hT
  go_enter Tryd.func4, Tryd.ntmps4
  go_wp2_with fail
  refine hw.mono ?_
  rintro e w1 ⟨rfl, c1⟩
  have b1 := b0.below c1
  have hB1 := hB0.trans (c1.mono hB0.size)
  clear c1 hB0 b0
  go_wp2_with fail
  refine (h1 _ (tabs_below HT.out hB1)).mono ?_
  rintro e w2 ⟨rfl, c2⟩
  have b2 := b1.below c2
  have hB2 := hB1.trans (c2.mono hB1.size)
  clear c2 hB1 b1
  go_wp2_with fail
  refine (h2 _ (tabs_below HT.out hB2)).mono ?_
  rintro e w3 ⟨rfl, c3⟩
  have b3 := b2.below c3
  have hB3 := hB2.trans (c3.mono hB2.size)
  clear c3 hB2 b2
  go_wp2_with fail
  refine (h3 _).mono ?_
  rintro e w4 ⟨rfl, c4⟩
  have b4 := b3.below c4
  have hB4 := hB3.trans (c4.mono hB3.size)
  clear c4 hB3 b3
  have x0 := b4.cell0
  have x1 := b4.cell1
  go_wp2_with fail
  refine (h4 _).mono ?_
  rintro e w5 ⟨rfl, c5⟩
  have b5 := b4.below c5
  have hB5 := hB4.trans (c5.mono hB4.size)
  clear c5 hB4 b4 x0 x1
  go_wp2_with fail
  refine (h5 _ (tabs_below HT.out hB5)).mono ?_
  rintro e w6 ⟨rfl, c6⟩
  have b6 := (b5.below c6).alloc (.cells #[.int .i64 n2, .int .i64 u2] 23)
  have q6 := Boxed2.new w6 23 (.int .i64 n2) (.int .i64 u2)
  have hB6' := hB5.trans (c6.mono hB5.size)
  have hB6 := hB6'.alloc hB6'.size (.cells #[.int .i64 n2, .int .i64 u2] 23)
  clear c6 hB5 b5 hB6'
  go_wp2_with fail
  refine (h6 _ (tabs_below HT.out hB6)).mono ?_
  rintro e w7 ⟨rfl, c7⟩
  have b7 := b6.below c7
  have q7 := q6.below c7
  have hB7 := hB6.trans (c7.mono hB6.size)
  clear c7 hB6 b6 q6
  have y0 := q7.cell0
  have y1 := q7.cell1
  go_wp2_with fail
  refine (h7 _).mono ?_
  rintro e w8 ⟨rfl, c8⟩
  have b8 := b7.below c8
  have q8 := q7.below c8
  have hB8 := hB7.trans (c8.mono hB7.size)
  clear c8 hB7 b7 q7 y0 y1
  have x0 := b8.cell0
  have x1 := b8.cell1
  go_wp2_with fail
  refine (hline _).mono ?_
  rintro e w9 ⟨rfl, c9⟩
  have b9 := (b8.below c9).alloc (.cells #[.int .i64 0, .int .i64 0] 29)
  have q9 := (q8.below c9).alloc (.cells #[.int .i64 0, .int .i64 0] 29)
  have z9 := Boxed2.new w9 29 (.int .i64 0) (.int .i64 0)
  have hB9' := hB8.trans (c9.mono hB8.size)
  have hB9 := hB9'.alloc hB9'.size (.cells #[.int .i64 0, .int .i64 0] 29)
  clear c9 hB8 b8 q8 hB9' x0 x1
  have x0 := b9.cell0
  have x1 := b9.cell1
  have y0 := q9.cell0
  have y1 := q9.cell1
  have v0 := z9.cell0
  have v1 := z9.cell1
  go_wp2_with fail
  go_ret
  exact ⟨rfl, hB9⟩

set_option maxRecDepth 100000 in
set_option maxHeartbeats 2000000 in
theorem lbLaw_3y (s : ByteArray) (i l c : Int) (w : World) (hs : s.size ≤ 20000) (hT : Tabs w) (m : Nat) (hm : m + 1 < s.size) (hx : (s[m]).toNat = 13) (hy : ¬ (s[m + 1]).toNat = 10) (n u k n2 u2 : Nat) (K : Knows s i l c (m + 1) n u (m + 1) k n2 u2) (f t : Nat) (Y : Int) (hX : max l 0 = (n2 : Int)) (hY : max c 0 = Y) (hu : (u2 : Int) ≤ Y) (hf : f ≤ k) (ht : k ≤ t) (hline : ∀ W, Calls Tryd.prog 15 #[.string s, .int .i64 n2] W fun e w' => e = .returned (.tuple #[.agg #[.int .i64 f, .int .i64 t], .bool true]) ∧ Below W.heap.size W w') :
    Calls Tryd.prog 4 #[.string s, .int .i64 i, .agg #[.int .i64 l, .int .i64 c]] w (SaysTrue w) := by
  obtain ⟨h1, h2, h3, h4, h5, h6, h7, hle⟩ := K
  have hw := linAwake_any (w.alloc (.cells #[.int .i64 l, .int .i64 c] 23)) (tabs_below hT ((Below.refl _ _).alloc (Nat.le_refl _) _))
  have d0 : decide ((20000 : Int) < (s.size : Int)) = false := decide_eq_false (by omega)
  have d2 : ((s[m].toNat : Int) == 13) = true := by simp; omega
  have d3 : ((s[m + 1].toNat : Int) == 10) = false := by simp; omega
  clear hx hy
  have b0 := Boxed2.new w 23 (.int .i64 l) (.int .i64 c)
  have hB0 := (Below.refl _ w).alloc (Nat.le_refl _) (.cells #[.int .i64 l, .int .i64 c] 23)
  have HT := Lib.hid hT
  clear hT
  go_enter Tryd.func4, Tryd.ntmps4
  go_wp2_with fail
  refine hw.mono ?_
  rintro e w1 ⟨rfl, c1⟩
  have b1 := b0.below c1
  have hB1 := hB0.trans (c1.mono hB0.size)
  clear c1 hB0 b0
  go_wp2_with fail
  refine (h1 _ (tabs_below HT.out hB1)).mono ?_
  rintro e w2 ⟨rfl, c2⟩
  have b2 := b1.below c2
  have hB2 := hB1.trans (c2.mono hB1.size)
  clear c2 hB1 b1
  go_wp2_with fail
  refine (h2 _ (tabs_below HT.out hB2)).mono ?_
  rintro e w3 ⟨rfl, c3⟩
  have b3 := b2.below c3
  have hB3 := hB2.trans (c3.mono hB2.size)
  clear c3 hB2 b2
  go_wp2_with fail
  refine (h3 _).mono ?_
  rintro e w4 ⟨rfl, c4⟩
  have b4 := b3.below c4
  have hB4 := hB3.trans (c4.mono hB3.size)
  clear c4 hB3 b3
  have x0 := b4.cell0
  have x1 := b4.cell1
  go_wp2_with fail
  refine (h4 _).mono ?_
  rintro e w5 ⟨rfl, c5⟩
  have b5 := b4.below c5
  have hB5 := hB4.trans (c5.mono hB4.size)
  clear c5 hB4 b4 x0 x1
  go_wp2_with fail
  refine (h5 _ (tabs_below HT.out hB5)).mono ?_
  rintro e w6 ⟨rfl, c6⟩
  have b6 := (b5.below c6).alloc (.cells #[.int .i64 n2, .int .i64 u2] 23)
  have q6 := Boxed2.new w6 23 (.int .i64 n2) (.int .i64 u2)
  have hB6' := hB5.trans (c6.mono hB5.size)
  have hB6 := hB6'.alloc hB6'.size (.cells #[.int .i64 n2, .int .i64 u2] 23)
  clear c6 hB5 b5 hB6'
  go_wp2_with fail
  refine (h6 _ (tabs_below HT.out hB6)).mono ?_
  rintro e w7 ⟨rfl, c7⟩
  have b7 := b6.below c7
  have q7 := q6.below c7
  have hB7 := hB6.trans (c7.mono hB6.size)
  clear c7 hB6 b6 q6
  have y0 := q7.cell0
  have y1 := q7.cell1
  go_wp2_with fail
  refine (h7 _).mono ?_
  rintro e w8 ⟨rfl, c8⟩
  have b8 := b7.below c8
  have q8 := q7.below c8
  have hB8 := hB7.trans (c8.mono hB7.size)
  clear c8 hB7 b7 q7 y0 y1
  have x0 := b8.cell0
  have x1 := b8.cell1
  go_wp2_with fail
  refine (hline _).mono ?_
  rintro e w9 ⟨rfl, c9⟩
  have b9 := (b8.below c9).alloc (.cells #[.int .i64 f, .int .i64 t] 29)
  have q9 := (q8.below c9).alloc (.cells #[.int .i64 f, .int .i64 t] 29)
  have z9 := Boxed2.new w9 29 (.int .i64 f) (.int .i64 t)
  have hB9' := hB8.trans (c9.mono hB8.size)
  have hB9 := hB9'.alloc hB9'.size (.cells #[.int .i64 f, .int .i64 t] 29)
  clear c9 hB8 b8 q8 hB9' x0 x1
  have x0 := b9.cell0
  have x1 := b9.cell1
  have y0 := q9.cell0
  have y1 := q9.cell1
  have v0 := z9.cell0
  have v1 := z9.cell1
  go_wp2_with fail
  go_ret
  exact ⟨rfl, hB9⟩

set_option maxRecDepth 100000 in
set_option maxHeartbeats 2000000 in
theorem lbLaw_4n (s : ByteArray) (i l c : Int) (w : World) (hs : s.size ≤ 20000) (hT : Tabs w) (m : Nat) (hm : m + 1 < s.size) (hx : (s[m]).toNat = 13) (hy : (s[m + 1]).toNat = 10) (n u k n2 u2 : Nat) (K : Knows s i l c (m + 1) n u (m) k n2 u2) (hk : k = s.size) (X : Int) (hX : max l 0 = X) (hline : ∀ W, Calls Tryd.prog 15 #[.string s, .int .i64 X] W fun e w' => e = .returned (.tuple #[.agg #[.int .i64 0, .int .i64 0], .bool false]) ∧ Below W.heap.size W w') :
    Calls Tryd.prog 4 #[.string s, .int .i64 i, .agg #[.int .i64 l, .int .i64 c]] w (SaysTrue w) := by
  obtain ⟨h1, h2, h3, h4, h5, h6, h7, hle⟩ := K
  have hw := linAwake_any (w.alloc (.cells #[.int .i64 l, .int .i64 c] 23)) (tabs_below hT ((Below.refl _ _).alloc (Nat.le_refl _) _))
  have d0 : decide ((20000 : Int) < (s.size : Int)) = false := decide_eq_false (by omega)
  have d2 : ((s[m].toNat : Int) == 13) = true := by simp; omega
  have d3 : ((s[m + 1].toNat : Int) == 10) = true := by simp; omega
  clear hx hy
  subst hk
  have b0 := Boxed2.new w 23 (.int .i64 l) (.int .i64 c)
  have hB0 := (Below.refl _ w).alloc (Nat.le_refl _) (.cells #[.int .i64 l, .int .i64 c] 23)
  have HT := Lib.hid hT
  clear hT
  go_enter Tryd.func4, Tryd.ntmps4
  go_wp2_with fail
  refine hw.mono ?_
  rintro e w1 ⟨rfl, c1⟩
  have b1 := b0.below c1
  have hB1 := hB0.trans (c1.mono hB0.size)
  clear c1 hB0 b0
  go_wp2_with fail
  refine (h1 _ (tabs_below HT.out hB1)).mono ?_
  rintro e w2 ⟨rfl, c2⟩
  have b2 := b1.below c2
  have hB2 := hB1.trans (c2.mono hB1.size)
  clear c2 hB1 b1
  go_wp2_with fail
  refine (h2 _ (tabs_below HT.out hB2)).mono ?_
  rintro e w3 ⟨rfl, c3⟩
  have b3 := b2.below c3
  have hB3 := hB2.trans (c3.mono hB2.size)
  clear c3 hB2 b2
  go_wp2_with fail
  refine (h3 _).mono ?_
  rintro e w4 ⟨rfl, c4⟩
  have b4 := b3.below c4
  have hB4 := hB3.trans (c4.mono hB3.size)
  clear c4 hB3 b3
  have x0 := b4.cell0
  have x1 := b4.cell1
  go_wp2_with fail
  refine (h4 _).mono ?_
  rintro e w5 ⟨rfl, c5⟩
  have b5 := b4.below c5
  have hB5 := hB4.trans (c5.mono hB4.size)
  clear c5 hB4 b4 x0 x1
  go_wp2_with fail
  refine (h5 _ (tabs_below HT.out hB5)).mono ?_
  rintro e w6 ⟨rfl, c6⟩
  have b6 := (b5.below c6).alloc (.cells #[.int .i64 n2, .int .i64 u2] 23)
  have q6 := Boxed2.new w6 23 (.int .i64 n2) (.int .i64 u2)
  have hB6' := hB5.trans (c6.mono hB5.size)
  have hB6 := hB6'.alloc hB6'.size (.cells #[.int .i64 n2, .int .i64 u2] 23)
  clear c6 hB5 b5 hB6'
  go_wp2_with fail
  refine (h6 _ (tabs_below HT.out hB6)).mono ?_
  rintro e w7 ⟨rfl, c7⟩
  have b7 := b6.below c7
  have q7 := q6.below c7
  have hB7 := hB6.trans (c7.mono hB6.size)
  clear c7 hB6 b6 q6
  have y0 := q7.cell0
  have y1 := q7.cell1
  go_wp2_with fail
  refine (h7 _).mono ?_
  rintro e w8 ⟨rfl, c8⟩
  have b8 := b7.below c8
  have q8 := q7.below c8
  have hB8 := hB7.trans (c8.mono hB7.size)
  clear c8 hB7 b7 q7 y0 y1
  have x0 := b8.cell0
  have x1 := b8.cell1
  go_wp2_with fail
  refine (hline _).mono ?_
  rintro e w9 ⟨rfl, c9⟩
  have b9 := (b8.below c9).alloc (.cells #[.int .i64 0, .int .i64 0] 29)
  have q9 := (q8.below c9).alloc (.cells #[.int .i64 0, .int .i64 0] 29)
  have z9 := Boxed2.new w9 29 (.int .i64 0) (.int .i64 0)
  have hB9' := hB8.trans (c9.mono hB8.size)
  have hB9 := hB9'.alloc hB9'.size (.cells #[.int .i64 0, .int .i64 0] 29)
  clear c9 hB8 b8 q8 hB9' x0 x1
  have x0 := b9.cell0
  have x1 := b9.cell1
  have y0 := q9.cell0
  have y1 := q9.cell1
  have v0 := z9.cell0
  have v1 := z9.cell1
  go_wp2_with fail
  go_ret
  exact ⟨rfl, hB9⟩

set_option maxRecDepth 100000 in
set_option maxHeartbeats 2000000 in
theorem lbLaw_4y (s : ByteArray) (i l c : Int) (w : World) (hs : s.size ≤ 20000) (hT : Tabs w) (m : Nat) (hm : m + 1 < s.size) (hx : (s[m]).toNat = 13) (hy : (s[m + 1]).toNat = 10) (n u k n2 u2 : Nat) (K : Knows s i l c (m + 1) n u (m) k n2 u2) (f t : Nat) (Y : Int) (hX : max l 0 = (n2 : Int)) (hY : max c 0 = Y) (hu : (u2 : Int) ≤ Y) (hf : f ≤ k) (ht : k ≤ t) (hline : ∀ W, Calls Tryd.prog 15 #[.string s, .int .i64 n2] W fun e w' => e = .returned (.tuple #[.agg #[.int .i64 f, .int .i64 t], .bool true]) ∧ Below W.heap.size W w') :
    Calls Tryd.prog 4 #[.string s, .int .i64 i, .agg #[.int .i64 l, .int .i64 c]] w (SaysTrue w) := by
  obtain ⟨h1, h2, h3, h4, h5, h6, h7, hle⟩ := K
  have hw := linAwake_any (w.alloc (.cells #[.int .i64 l, .int .i64 c] 23)) (tabs_below hT ((Below.refl _ _).alloc (Nat.le_refl _) _))
  have d0 : decide ((20000 : Int) < (s.size : Int)) = false := decide_eq_false (by omega)
  have d2 : ((s[m].toNat : Int) == 13) = true := by simp; omega
  have d3 : ((s[m + 1].toNat : Int) == 10) = true := by simp; omega
  clear hx hy
  have b0 := Boxed2.new w 23 (.int .i64 l) (.int .i64 c)
  have hB0 := (Below.refl _ w).alloc (Nat.le_refl _) (.cells #[.int .i64 l, .int .i64 c] 23)
  have HT := Lib.hid hT
  clear hT
  go_enter Tryd.func4, Tryd.ntmps4
  go_wp2_with fail
  refine hw.mono ?_
  rintro e w1 ⟨rfl, c1⟩
  have b1 := b0.below c1
  have hB1 := hB0.trans (c1.mono hB0.size)
  clear c1 hB0 b0
  go_wp2_with fail
  refine (h1 _ (tabs_below HT.out hB1)).mono ?_
  rintro e w2 ⟨rfl, c2⟩
  have b2 := b1.below c2
  have hB2 := hB1.trans (c2.mono hB1.size)
  clear c2 hB1 b1
  go_wp2_with fail
  refine (h2 _ (tabs_below HT.out hB2)).mono ?_
  rintro e w3 ⟨rfl, c3⟩
  have b3 := b2.below c3
  have hB3 := hB2.trans (c3.mono hB2.size)
  clear c3 hB2 b2
  go_wp2_with fail
  refine (h3 _).mono ?_
  rintro e w4 ⟨rfl, c4⟩
  have b4 := b3.below c4
  have hB4 := hB3.trans (c4.mono hB3.size)
  clear c4 hB3 b3
  have x0 := b4.cell0
  have x1 := b4.cell1
  go_wp2_with fail
  refine (h4 _).mono ?_
  rintro e w5 ⟨rfl, c5⟩
  have b5 := b4.below c5
  have hB5 := hB4.trans (c5.mono hB4.size)
  clear c5 hB4 b4 x0 x1
  go_wp2_with fail
  refine (h5 _ (tabs_below HT.out hB5)).mono ?_
  rintro e w6 ⟨rfl, c6⟩
  have b6 := (b5.below c6).alloc (.cells #[.int .i64 n2, .int .i64 u2] 23)
  have q6 := Boxed2.new w6 23 (.int .i64 n2) (.int .i64 u2)
  have hB6' := hB5.trans (c6.mono hB5.size)
  have hB6 := hB6'.alloc hB6'.size (.cells #[.int .i64 n2, .int .i64 u2] 23)
  clear c6 hB5 b5 hB6'
  go_wp2_with fail
  refine (h6 _ (tabs_below HT.out hB6)).mono ?_
  rintro e w7 ⟨rfl, c7⟩
  have b7 := b6.below c7
  have q7 := q6.below c7
  have hB7 := hB6.trans (c7.mono hB6.size)
  clear c7 hB6 b6 q6
  have y0 := q7.cell0
  have y1 := q7.cell1
  go_wp2_with fail
  refine (h7 _).mono ?_
  rintro e w8 ⟨rfl, c8⟩
  have b8 := b7.below c8
  have q8 := q7.below c8
  have hB8 := hB7.trans (c8.mono hB7.size)
  clear c8 hB7 b7 q7 y0 y1
  have x0 := b8.cell0
  have x1 := b8.cell1
  go_wp2_with fail
  refine (hline _).mono ?_
  rintro e w9 ⟨rfl, c9⟩
  have b9 := (b8.below c9).alloc (.cells #[.int .i64 f, .int .i64 t] 29)
  have q9 := (q8.below c9).alloc (.cells #[.int .i64 f, .int .i64 t] 29)
  have z9 := Boxed2.new w9 29 (.int .i64 f) (.int .i64 t)
  have hB9' := hB8.trans (c9.mono hB8.size)
  have hB9 := hB9'.alloc hB9'.size (.cells #[.int .i64 f, .int .i64 t] 29)
  clear c9 hB8 b8 q8 hB9' x0 x1
  have x0 := b9.cell0
  have x1 := b9.cell1
  have y0 := q9.cell0
  have y1 := q9.cell1
  have v0 := z9.cell0
  have v1 := z9.cell1
  go_wp2_with fail
  go_ret
  exact ⟨rfl, hB9⟩
end Go.Proofs.YtdhdemndeiipcaaDoor
