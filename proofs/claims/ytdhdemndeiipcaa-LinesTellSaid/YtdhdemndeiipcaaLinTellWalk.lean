/- The statement on lines, walked: whatever the string and the number, it answers true. Conditions: such as Go can hold. -/
import Derived.Test.YtdhdemndeiipcaaLinSame
namespace Go.Proofs.Ytdhdemndeiipcaa
open Go Go.RowKit Go.Shelf Go.Lib

def SaysTrue (w : World) (e : Ending) (w' : World) : Prop := e = .returned (.bool true) ∧ Below w.heap.size w w'

set_option maxHeartbeats 400000 in
theorem tellLaw_long (s : ByteArray) (n : Int) (w : World) (_hs : s.size ≤ 9223372036854775807) (hl : (20000 : Int) < (s.size : Int)) :
    Calls Try.prog 3 #[.string s, .int .i64 n] w (SaysTrue w) := by
  go_enter Try.func3, Try.ntmps3
  go_wp2_with fail
  go_ret
  exact ⟨rfl, Below.refl _ _⟩

theorem below_grown {w w' : World} (h : Below w.heap.size w w') : w.grownBy w' none := ⟨h.os, h.tape, h.output, h.size, fun k hk _ => h.block k hk⟩
theorem ownsRow_below {w w' : World} {n₀ e size k : Nat} {v : Value} {xs : List Value} (h : w.ownsRow n₀ e size v k xs) (hB : Below w.heap.size w w') : w'.ownsRow n₀ e size v k xs := h.kept (below_grown hB) (by cases hv : v.ownBlock <;> simp)
theorem Boxed2.below {w w' : World} {B : Nat} {t : TypeId} {u v : Value} (h : Boxed2 w B t u v) (hB : Below w.heap.size w w') : Boxed2 w' B t u v := h.kept (below_grown hB) (by simp)
def LineAs (X Y : Int) (b : Bool) (w : World) (e : Ending) (w' : World) : Prop := e = .returned (.tuple #[.agg #[.int .i64 X, .int .i64 Y], .bool b]) ∧ Below w.heap.size w w'
theorem lines_both (s : ByteArray) (n : Int) (hs : s.size ≤ 100000000000) : ∃ X Y b, (∀ w, Calls Try.prog 5 #[.string s, .int .i64 n] w (LineAs X Y b w)) ∧ (∀ w, Calls Try.prog 6 #[.string s, .int .i64 n] w (LineAs X Y b w)) := by
  by_cases h : n < 0 ∨ (L.mny s : Int) ≤ n
  · refine ⟨0, 0, false, fun w => (line_is s n w (by omega)).mono ?_, fun w => (refLine_is s n w hs).mono ?_⟩
    all_goals
      rintro e w' ⟨⟨k, rfl, hk, _⟩ | ⟨_, rfl⟩, hB⟩
      · omega
      · exact ⟨rfl, hB⟩
  · obtain ⟨k, rfl⟩ : ∃ k : Nat, n = k := ⟨n.toNat, by omega⟩
    refine ⟨L.fr s k, L.to s k, true, fun w => (line_is s k w (by omega)).mono ?_, fun w => (refLine_is s k w hs).mono ?_⟩
    all_goals
      rintro e w' ⟨⟨j, hj, _, rfl⟩ | ⟨hn, _⟩, hB⟩
      · obtain rfl : k = j := by omega
        exact ⟨rfl, hB⟩
      · omega

set_option maxRecDepth 100000 in
set_option maxHeartbeats 2000000 in
theorem tellLaw_short (s : ByteArray) (n : Int) (w : World) (hs : s.size ≤ 20000) :
    Calls Try.prog 3 #[.string s, .int .i64 n] w (SaysTrue w) := by
  obtain ⟨X, Y, b, hl1, hl2⟩ := lines_both s n (by omega)
  have hm1 := L.mny_pos s
  have hm2 := L.mny_le s
  have hst := fun W => starts_any s W (by omega)
  have hrs := fun W => refStarts_any s W (by omega)
  have hmy := fun W => many_any s W (by omega)
  have hrm := fun W => refMany_any s W (by omega)
  have hcl : Hid (∀ (W : World) (n₀ g cap : Nat), W.ownsRow n₀ 3 1 (.slice (some ⟨g, 0, none⟩) (L.mny s) cap) (L.mny s) (offs s (List.range (L.mny s))) → Hid (∀ j, j < L.mny s → W.cell? ⟨g, j, none⟩ = some (.int .i64 (L.fr s j)))) := Lib.hid (fun W n₀ g cap h => Lib.hid (fun j hj => offs_cell h hj))
  have d0 : decide ((20000 : Int) < (s.size : Int)) = false := decide_eq_false (by omega)
  go_enter Try.func3, Try.ntmps3
  go_wp2_with fail
  refine (hst _).mono ?_
  rintro e w1 ⟨g1, cap1, rfl, hown1, hB1⟩
  have HO1 := Lib.hid hown1
  clear hown1
  go_wp2_with fail
  refine (hl1 _).mono ?_
  rintro e w2 ⟨rfl, hB2⟩
  go_wp2_with fail
  refine (hl2 _).mono ?_
  rintro e w3 ⟨rfl, hB3⟩
  go_wp2_with fail
  refine (hrs _).mono ?_
  rintro e w4 ⟨g2, cap2, rfl, hown2, hB4⟩
  have bX1 := ((Boxed2.new w2 25 (.int .i64 X) (.int .i64 Y)).below hB3).alloc (.cells #[.int .i64 X, .int .i64 Y] 25)
  have bX2 := bX1.below hB4
  have bY2 := (Boxed2.new w3 25 (.int .i64 X) (.int .i64 Y)).below hB4
  clear bX1
  have hz2 := hB2.size
  have hz3 := hB3.size
  have hz4 := hB4.size
  simp only [World.size_alloc] at hz3 hz4
  have hB13 : Below w1.heap.size w1 w3 := (hB2.alloc hB2.size _).trans (hB3.mono (by simp; omega))
  have hB14 : Below w1.heap.size w1 w4 := (hB13.alloc hB13.size _).trans (hB4.mono (by simp; omega))
  have HO4 := Lib.hid (ownsRow_below HO1.out hB14)
  have hs1 := same_true g1 g2 (L.mny s) cap1 cap2 (fun j => (L.fr s j : Int)) w4 (by omega) (hcl.out _ _ _ _ HO4.out) (hcl.out _ _ _ _ hown2)
  clear hown2
  have hB04 := hB1.trans (hB14.mono hB1.size)
  clear HO1 hB1 hB2 hB3 hB4 hB13 hB14
  go_wp2_with fail
  refine hs1.mono ?_
  rintro e w5 ⟨rfl, q, rfl⟩
  have hD := below_drewN (Below.refl w4.heap.size w4) q
  have bX3 := bX2.below hD
  have bY3 := bY2.below hD
  have HO5 := Lib.hid (ownsRow_below HO4.out hD)
  have hB05 := below_drewN hB04 q
  clear bX2 bY2 HO4 hB04 hs1 hD
  generalize w4.drewN q = w5 at *
  go_wp2_with fail
  refine (hmy _).mono ?_
  rintro e w6 ⟨rfl, hB6⟩
  go_wp2_with fail
  refine (hrm _).mono ?_
  rintro e w7 ⟨rfl, hB7⟩
  have hB67 := hB6.trans (hB7.mono hB6.size)
  have bX4 := bX3.below hB67
  have bY4 := bY3.below hB67
  have HO7 := Lib.hid (ownsRow_below HO5.out hB67)
  have hB07 := hB05.trans (hB67.mono hB05.size)
  clear bX3 bY3 HO5 hB05 hB6 hB7 hB67
  have x0 := bX4.cell0
  have x1 := bX4.cell1
  have y0 := bY4.cell0
  have y1 := bY4.cell1
  go_wp2_with fail
  clear x0 x1 y0 y1 bX4 bY4 hz2 hz3 hz4 hl1 hl2 hmy hrm
  go_loopw [10] (fun i wr => ∃ (j : Nat) (xs : List Value), i = .int .i64 j ∧ j ≤ L.mny s ∧ Hid (wr.ownsRow w.heap.size 3 1 (.slice (some ⟨g1, 0, none⟩) (L.mny s) cap1) (L.mny s) xs ∧ Below w.heap.size w wr)) (fun i _ => L.mny s - (RowKit.intOf i).toNat)
  case atStart => exact ⟨0, _, rfl, by omega, Lib.hid ⟨HO7.out, hB07⟩⟩
  case round =>
    obtain ⟨j, xs, rfl, hj, HW⟩ := hrel
    by_cases hlt : j < L.mny s
    · have hx := HW.out.1.1
      have hc1 := HW.out.1.cellAt j (by omega)
      have hf1 := HW.out.1.frozenAt j
      rw [List.getElem?_eq_getElem (by omega)] at hc1
      generalize xs[j] = u at hc1
      clear hx
      go_wp2_with fail
      go_roundw
      case rel =>
        obtain ⟨h1, h2⟩ := HW.out.1.stored j (.int .i64 (-9))
        exact ⟨j + 1, _, by go_num, by omega, Lib.hid ⟨h1, HW.out.2.setCell (p := ⟨g1, j, none⟩) ((HW.out.1.lt g1 rfl).1) _⟩⟩
      case measure => simp [RowKit.intOf]; omega
    · obtain rfl : j = L.mny s := by omega
      go_wp2_with fail
      refine (hst _).mono ?_
      rintro e w8 ⟨g3, cap3, rfl, hown3, hB8⟩
      have HO3 := Lib.hid hown3
      clear hown3
      go_wp2_with fail
      refine (hrs _).mono ?_
      rintro e w9 ⟨g4, cap4, rfl, hown4, hB9⟩
      have hs2 := same_true g3 g4 (L.mny s) cap3 cap4 (fun j => (L.fr s j : Int)) w9 (by omega) (hcl.out _ _ _ _ (ownsRow_below HO3.out hB9)) (hcl.out _ _ _ _ hown4)
      have hB89 := hB8.trans (hB9.mono hB8.size)
      have hB09 := Lib.hid (HW.out.2.trans (hB89.mono HW.out.2.size))
      clear hown4 hB8 hB9 hB89
      go_wp2_with fail
      refine hs2.mono ?_
      rintro e w10 ⟨rfl, q2, rfl⟩
      go_wp2_with fail
      go_ret
      exact ⟨rfl, below_drewN hB09.out q2⟩

theorem tellLaw_any (s : ByteArray) (n : Int) (w : World) (hs : s.size ≤ 9223372036854775807) :
    Calls Try.prog 3 #[.string s, .int .i64 n] w (SaysTrue w) := by
  by_cases h : s.size ≤ 20000
  · exact tellLaw_short s n w h
  · exact tellLaw_long s n w hs (by omega)
end Go.Proofs.Ytdhdemndeiipcaa
