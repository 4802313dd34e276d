/- The statement on Units and Cut, walked: whatever the string and the number, it answers true. Conditions: the string's length and the number are such as Go can hold. -/
import Derived.Test.YteoeamdfglmmoaaUtfOwn
namespace Go.Proofs.Yteoeamdfglmmoaa
open Go Go.RowKit Go.Lib

theorem utfUnits_is (s : ByteArray) (w : World) (hs : s.size ≤ 1000000000000) :
    Calls Try.prog 5 #[.string s] w (IntIs (U.units s) w) :=
  (utfUnits_any s w hs).mono fun _ _ ⟨h, p, hp⟩ => ⟨h, hp ▸ below_iter w s p⟩

set_option maxHeartbeats 400000 in
set_option maxRecDepth 100000 in
theorem unitsLaw_long (s : ByteArray) (u : Int) (w : World) (hs : s.size ≤ 9223372036854775807) (hl : decide ((262144 : Int) < (s.size : Int)) = true) :
    Calls Try.prog 3 #[.string s, .int .i64 u] w fun e w' => e = .returned (.bool true) ∧ Below w.heap.size w w' := by
  have hc := fun (a : Addr) (W : World) (h : W.cell? a = some (.string s)) => long1_any s a W hs h
  rw [hl] at hc
  clear hl
  go_enter Try.func3, Try.ntmps3
  go_wp2_with fail
  refine (hc _ _ (by simp)).mono ?_
  rintro e w' ⟨rfl, rfl⟩
  go_wp2_with fail
  go_ret
  exact ⟨rfl, (Below.refl _ _).alloc (Nat.le_refl _) _⟩

set_option maxHeartbeats 400000 in
set_option maxRecDepth 100000 in
theorem unitsLaw_short (s : ByteArray) (u : Int) (w : World) (hs : s.size ≤ 262144) (hu : u ≤ 9223372036854775807) :
    Calls Try.prog 3 #[.string s, .int .i64 u] w fun e w' => e = .returned (.bool true) ∧ Below w.heap.size w w' := by
  have hc := fun (a : Addr) (W : World) (h : W.cell? a = some (.string s)) => long1_any s a W (by omega) h
  rw [decide_eq_false (by omega)] at hc
  have h1 := fun W => utfUnits_is s W (by omega)
  have h2 := fun W => refUnits_any s W (by omega)
  have h3 := fun W => utfCut_any s u W (by omega) hu
  have h4 := fun W => refCut_any s u W (by omega)
  generalize U.units s = m at *
  generalize U.cut s u = k at *
  go_enter Try.func3, Try.ntmps3
  go_wp2_with fail
  refine (hc _ _ (by simp)).mono ?_
  rintro e w' ⟨rfl, rfl⟩
  go_wp2_with fail
  refine (h1 _).mono ?_
  rintro e w1 ⟨rfl, b1⟩
  go_wp2_with fail
  refine (h2 _).mono ?_
  rintro e w2 ⟨rfl, b2⟩
  go_wp2_with fail
  refine (h3 _).mono ?_
  rintro e w3 ⟨rfl, b3⟩
  go_wp2_with fail
  refine (h4 _).mono ?_
  rintro e w4 ⟨rfl, b4⟩
  go_wp2_with fail
  go_ret
  have b0 : Below w.heap.size w (w.alloc (Obj.cells #[Value.string s] 9)) := (Below.refl _ _).alloc (Nat.le_refl _) _
  have b1' := b0.trans (b1.mono b0.size)
  have b2' := b1'.trans (b2.mono b1'.size)
  have b3' := b2'.trans (b3.mono b2'.size)
  exact ⟨rfl, b3'.trans (b4.mono b3'.size)⟩

theorem unitsLaw_any (s : ByteArray) (u : Int) (w : World) (hs : s.size ≤ 9223372036854775807) (hu : u ≤ 9223372036854775807) :
    Calls Try.prog 3 #[.string s, .int .i64 u] w fun e w' => e = .returned (.bool true) ∧ Below w.heap.size w w' := by
  by_cases h : s.size ≤ 262144
  · exact unitsLaw_short s u w h hu
  · exact unitsLaw_long s u w hs (decide_eq_true (by omega))
end Go.Proofs.Yteoeamdfglmmoaa
