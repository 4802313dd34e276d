/- The statement on places by lines, walked: whatever the string, the places and the offset, it answers true. Conditions: such as Go can hold; the library's two tables as its text lays them. -/
import Derived.Test.YtdhdemndeiipcaaDoorLinRefPos
import Derived.Test.YtdhdemndeiipcaaDoorLinOffsets
namespace Go.Proofs.YtdhdemndeiipcaaDoor
open Go Go.RowKit Go.Shelf Go.Lib

def SaysTrue (w : World) (e : Ending) (w' : World) : Prop := e = .returned (.bool true) ∧ Below w.heap.size w w'

set_option maxHeartbeats 400000 in
set_option maxRecDepth 100000 in
theorem placesLaw_long (s : ByteArray) (l1 c1 l2 c2 i : Int) (w : World) (_hs : s.size ≤ 9223372036854775807) (hl : (20000 : Int) < (s.size : Int)) :
    Calls Tryd.prog 3 #[.string s, .agg #[.int .i64 l1, .int .i64 c1], .agg #[.int .i64 l2, .int .i64 c2], .int .i64 i] w (SaysTrue w) := by
  go_enter Tryd.func3, Tryd.ntmps3
  go_wp2_with fail
  go_ret
  exact ⟨rfl, ((Below.refl _ _).alloc (Nat.le_refl _) _).alloc (by simp) _⟩

def Six (B : Nat) (l1 c1 l2 c2 : Int) (W : World) : Prop :=
  W.cell? ⟨B, 0, none⟩ = some (.int .i64 l1) ∧ W.cell? ⟨B, 1, none⟩ = some (.int .i64 c1) ∧ W.cell? ⟨B + 1 + 1, 0, none⟩ = some (.int .i64 l1) ∧ W.cell? ⟨B + 1 + 1, 1, none⟩ = some (.int .i64 c1) ∧ W.cell? ⟨B + 1 + 1, 2, none⟩ = some (.int .i64 l2) ∧ W.cell? ⟨B + 1 + 1, 3, none⟩ = some (.int .i64 c2)
theorem Six.below {B : Nat} {l1 c1 l2 c2 : Int} {W W' : World} (h : Six B l1 c1 l2 c2 W) (hB : Below W.heap.size W W') (hlt : B + 1 + 1 < W.heap.size) : Six B l1 c1 l2 c2 W' :=
  ⟨(hB.cell (p := ⟨B, 0, none⟩) (by show B < _; omega)).trans h.1, (hB.cell (p := ⟨B, 1, none⟩) (by show B < _; omega)).trans h.2.1, (hB.cell (p := ⟨B + 1 + 1, 0, none⟩) hlt).trans h.2.2.1, (hB.cell (p := ⟨B + 1 + 1, 1, none⟩) hlt).trans h.2.2.2.1, (hB.cell (p := ⟨B + 1 + 1, 2, none⟩) hlt).trans h.2.2.2.2.1, (hB.cell (p := ⟨B + 1 + 1, 3, none⟩) hlt).trans h.2.2.2.2.2⟩
theorem Six.drew {B : Nat} {l1 c1 l2 c2 : Int} {W : World} (h : Six B l1 c1 l2 c2 W) : Six B l1 c1 l2 c2 W.drew := h

set_option maxRecDepth 100000 in
set_option maxHeartbeats 2000000 in
theorem placesLaw_short (s : ByteArray) (l1 c1 l2 c2 i : Int) (w : World) (hs : s.size ≤ 20000) (hc1 : c1 ≤ 9223372036854775807) (hc2 : c2 ≤ 9223372036854775807) (hT : Tabs w) :
    Calls Tryd.prog 3 #[.string s, .agg #[.int .i64 l1, .int .i64 c1], .agg #[.int .i64 l2, .int .i64 c2], .int .i64 i] w (SaysTrue w) := by
  have h1 := fun W => offset_any s l1 c1 W (by omega) hc1
  have h2 := fun W => refOffset_any s l1 c1 W (by omega)
  have h3 := fun W (hW : Tabs W) => pos_any s i W (by omega) hW
  have h4 := fun W => refPos_any s i W (by omega)
  have h5 := fun W => offsets_any s l1 c1 l2 c2 W (by omega) hc1 hc2
  have h6 := fun W => refOffsets_any s l1 c1 l2 c2 W (by omega)
  unfold PosIs at h3 h4
  generalize bgnAt s i = b at *
  generalize posL s b = n at *
  generalize posC s b = u at *
  generalize ofs s l1 c1 = x at *
  generalize ofs s l2 c2 = y at *
  unfold SpanIs at h5 h6
  generalize min (x : Int) (y : Int) = lo at *
  generalize max (x : Int) (y : Int) = hi at *
  have HT := Lib.hid hT
  clear hT
  have d0 : decide ((20000 : Int) < (s.size : Int)) = false := decide_eq_false (by omega)
  go_enter Tryd.func3, Tryd.ntmps3
  go_wp2_with fail
  have p0 : Six w.heap.size l1 c1 l2 c2 (((w.alloc (Obj.cells #[.int .i64 l1, .int .i64 c1] 23)).alloc (Obj.cells #[.int .i64 l2, .int .i64 c2] 23)).alloc (Obj.cells #[.int .i64 l1, .int .i64 c1, .int .i64 l2, .int .i64 c2] 25)) := by
    have ba := ((Boxed2.new w 23 (.int .i64 l1) (.int .i64 c1)).alloc (Obj.cells #[.int .i64 l2, .int .i64 c2] 23)).alloc (Obj.cells #[.int .i64 l1, .int .i64 c1, .int .i64 l2, .int .i64 c2] 25)
    have bb := World.alloc_heap_new ((w.alloc (Obj.cells #[.int .i64 l1, .int .i64 c1] 23)).alloc (Obj.cells #[.int .i64 l2, .int .i64 c2] 23)) (Obj.cells #[.int .i64 l1, .int .i64 c1, .int .i64 l2, .int .i64 c2] 25)
    rw [World.size_alloc, World.size_alloc] at bb
    exact ⟨ba.cell0, ba.cell1, (cell_of_row _ _ 0 _ _ (0, 0) bb).trans rfl, (cell_of_row _ _ 1 _ _ (0, 0) bb).trans rfl, (cell_of_row _ _ 2 _ _ (0, 0) bb).trans rfl, (cell_of_row _ _ 3 _ _ (0, 0) bb).trans rfl⟩
  have hB0 := (((Below.refl _ w).alloc (Nat.le_refl _) (Obj.cells #[.int .i64 l1, .int .i64 c1] 23)).alloc (by simp) (Obj.cells #[.int .i64 l2, .int .i64 c2] 23)).alloc (by simp; omega) (Obj.cells #[.int .i64 l1, .int .i64 c1, .int .i64 l2, .int .i64 c2] 25)
  have z0 : w.heap.size + 1 + 1 < (((w.alloc (Obj.cells #[.int .i64 l1, .int .i64 c1] 23)).alloc (Obj.cells #[.int .i64 l2, .int .i64 c2] 23)).alloc (Obj.cells #[.int .i64 l1, .int .i64 c1, .int .i64 l2, .int .i64 c2] 25)).heap.size := by simp
  generalize ((w.alloc (Obj.cells #[.int .i64 l1, .int .i64 c1] 23)).alloc (Obj.cells #[.int .i64 l2, .int .i64 c2] 23)).alloc (Obj.cells #[.int .i64 l1, .int .i64 c1, .int .i64 l2, .int .i64 c2] 25) = W at *
  obtain ⟨q1, q2, q3, q4, q5, q6⟩ := id p0
  have hBd := Lib.hid hB0.drew
  clear hB0
  go_region_held3 (fun w' => w'.cell? ⟨w.heap.size, 0, none⟩ = some (.int .i64 l1) ∧ w'.cell? ⟨w.heap.size, 1, none⟩ = some (.int .i64 c1) ∧ w'.cell? ⟨w.heap.size + 1 + 1, 0, none⟩ = some (.int .i64 l1) ∧ w'.cell? ⟨w.heap.size + 1 + 1, 1, none⟩ = some (.int .i64 c1) ∧ w'.cell? ⟨w.heap.size + 1 + 1, 2, none⟩ = some (.int .i64 l2) ∧ w'.cell? ⟨w.heap.size + 1 + 1, 3, none⟩ = some (.int .i64 c2))
    (first | exact p6 | exact p5 | exact p4 | exact p3 | exact p2 | exact p1 | exact p0.drew | exact p0)
    (first
      | (go_at_call 7; (with_reducible refine (h1 _).mono ?_); rintro e w1 ⟨rfl, hB1⟩; have p1 := p0.drew.below hB1 z0; have z1 := Nat.lt_of_lt_of_le z0 hB1.size; have b1 := Lib.hid (hBd.out.trans (hB1.mono hBd.out.size)); clear hB1)
      | (go_at_call 8; (with_reducible refine (h2 _).mono ?_); rintro e w2 ⟨rfl, hB2⟩; have p2 := p1.below hB2 z1; have z2 := Nat.lt_of_lt_of_le z1 hB2.size; have b2 := Lib.hid (b1.out.trans (hB2.mono b1.out.size)); clear hB2)
      | (go_at_call 9; (with_reducible refine (h3 _ (tabs_below HT.out b2.out)).mono ?_); rintro e w3 ⟨rfl, hB3⟩; have p3 := p2.below hB3 z2; have z3 := Nat.lt_of_lt_of_le z2 hB3.size; have b3 := Lib.hid (b2.out.trans (hB3.mono b2.out.size)); clear hB3)
      | (go_at_call 10; (with_reducible refine (h4 _).mono ?_); rintro e w4 ⟨rfl, hB4⟩; have p4 := p3.below hB4 z3; have z4 := Nat.lt_of_lt_of_le z3 hB4.size; have b4 := Lib.hid (b3.out.trans (hB4.mono b3.out.size)); clear hB4)
      | (go_at_call 11; (with_reducible refine (h5 _).mono ?_); rintro e w5 ⟨rfl, hB5⟩; have p5 := p4.below hB5 z4; have z5 := Nat.lt_of_lt_of_le z4 hB5.size; have b5 := Lib.hid (b4.out.trans (hB5.mono b4.out.size)); clear hB5)
      | (go_at_call 12; (with_reducible refine (h6 _).mono ?_); rintro e w6 ⟨rfl, hB6⟩; have p6 := p5.below hB6 z5; have z6 := Nat.lt_of_lt_of_le z5 hB6.size; have b6 := Lib.hid (b5.out.trans (hB6.mono b5.out.size)); clear hB6))
  go_wp2_with fail
  go_ret
  exact ⟨rfl, b6.out⟩

theorem placesLaw_any (s : ByteArray) (l1 c1 l2 c2 i : Int) (w : World) (hs : s.size ≤ 9223372036854775807) (hc1 : c1 ≤ 9223372036854775807) (hc2 : c2 ≤ 9223372036854775807) (_hi : -9223372036854775808 ≤ i ∧ i ≤ 9223372036854775807) (hT : Tabs w) :
    Calls Tryd.prog 3 #[.string s, .agg #[.int .i64 l1, .int .i64 c1], .agg #[.int .i64 l2, .int .i64 c2], .int .i64 i] w (SaysTrue w) := by
  by_cases h : s.size ≤ 20000
  · exact placesLaw_short s l1 c1 l2 c2 i w h hc1 hc2 hT
  · exact placesLaw_long s l1 c1 l2 c2 i w hs (by omega)
end Go.Proofs.YtdhdemndeiipcaaDoor
