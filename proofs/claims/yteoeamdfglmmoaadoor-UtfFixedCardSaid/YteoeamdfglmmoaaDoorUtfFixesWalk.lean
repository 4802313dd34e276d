/- The statements on Fix, walked: whatever the string, each answers true. Conditions: the string's length is one that Go can hold; the library's two tables as its text lays them. -/
import Derived.Test.YteoeamdfglmmoaaDoorUtfAwake
namespace Go.Proofs.YteoeamdfglmmoaaDoor
open Go Go.RowKit Go.Shelf Go.Lib

theorem same_list {a b : ByteArray} (h : a.toList = b.toList) : a = b := by
  rw [Lib.toList_data, Lib.toList_data] at h
  cases a; cases b
  congr 1
  exact Array.toList_inj.1 h
set_option maxHeartbeats 400000 in
set_option maxRecDepth 100000 in
theorem fixesLaw_long (s : ByteArray) (w : World) (hs : s.size ≤ 9223372036854775807) (hl : decide ((262144 : Int) < (s.size : Int)) = true) :
    Calls Tryd.prog 4 #[.string s] w (LawIs w) := by
  have hc := fun (a : Addr) (W : World) (h : W.cell? a = some (.string s)) => long1_any s a W hs h
  rw [hl] at hc
  clear hl
  go_enter Tryd.func4, Tryd.ntmps4
  go_wp2_with fail
  refine (hc _ _ (by simp)).mono ?_
  rintro e w' ⟨rfl, rfl⟩
  go_wp2_with fail
  go_ret
  exact ⟨rfl, (Below.refl _ _).alloc (Nat.le_refl _) _⟩

set_option maxHeartbeats 400000 in
set_option maxRecDepth 100000 in
theorem fixesLaw_short (s : ByteArray) (w : World) (hs : s.size ≤ 262144) (hT : Tabs w) :
    Calls Tryd.prog 4 #[.string s] w (LawIs w) := by
  have hc := fun (a : Addr) (W : World) (h : W.cell? a = some (.string s)) => long1_any s a W (by omega) h
  rw [decide_eq_false (by omega)] at hc
  have h1 := fun W (hW : Tabs W) => utfFix_any s W (by omega) hW
  have h2 := fun W => refFix_any s W (by omega)
  generalize U.fixS s = x at *
  have b0 : Below w.heap.size w (w.alloc (Obj.cells #[Value.string s] 9)) := (Below.refl _ _).alloc (Nat.le_refl _) _
  have HT := Lib.hid hT
  clear hT
  go_enter Tryd.func4, Tryd.ntmps4
  go_wp2_with fail
  refine (hc _ _ (by simp)).mono ?_
  rintro e w' ⟨rfl, rfl⟩
  go_wp2_with fail
  refine (h1 _ (tabs_below HT.out b0)).mono ?_
  rintro e w1 ⟨rfl, b1⟩
  have b1' := b0.trans (b1.mono b0.size)
  clear b1
  go_wp2_with fail
  refine (h2 _).mono ?_
  rintro e w2 ⟨rfl, b2⟩
  have b2' := b1'.trans (b2.mono b1'.size)
  clear b2
  go_wp2_with fail
  go_ret
  exact ⟨rfl, b2'⟩
theorem fixesLaw_any (s : ByteArray) (w : World) (hs : s.size ≤ 9223372036854775807) (hT : Tabs w) :
    Calls Tryd.prog 4 #[.string s] w (LawIs w) := by
  by_cases h : s.size ≤ 262144
  · exact fixesLaw_short s w h hT
  · exact fixesLaw_long s w hs (decide_eq_true (by omega))

set_option maxHeartbeats 400000 in
set_option maxRecDepth 100000 in
theorem fixedLaw_long (s : ByteArray) (w : World) (hs : s.size ≤ 9223372036854775807) (hT : Tabs w) (hl : decide ((262144 : Int) < (s.size : Int)) = true) :
    Calls Tryd.prog 5 #[.string s] w (LawIs w) := by
  have hc := fun (a : Addr) (W : World) (h : W.cell? a = some (.string s)) => long1_any s a W hs h
  rw [hl] at hc
  clear hl
  have hw := awake_any w hT
  go_enter Tryd.func5, Tryd.ntmps5
  go_wp2_with fail
  refine hw.mono ?_
  rintro e w0 ⟨rfl, b0⟩
  go_wp2_with fail
  refine (hc _ _ (by simp)).mono ?_
  rintro e w' ⟨rfl, rfl⟩
  go_wp2_with fail
  go_ret
  exact ⟨rfl, b0.alloc b0.size _⟩

set_option maxHeartbeats 400000 in
set_option maxRecDepth 100000 in
theorem fixedLaw_short (s : ByteArray) (w : World) (hs : s.size ≤ 262144) (hT : Tabs w) :
    Calls Tryd.prog 5 #[.string s] w (LawIs w) := by
  have hc := fun (a : Addr) (W : World) (h : W.cell? a = some (.string s)) => long1_any s a W (by omega) h
  rw [decide_eq_false (by omega)] at hc
  have hz := U.fix_size s
  have hw := awake_any w hT
  have h1 := fun W (hW : Tabs W) => utfFix_any s W (by omega) hW
  have h2 := fun W (hW : Tabs W) => utfValid_any (U.fixS s) W (by omega) hW
  rw [U.fix_valid] at h2
  have h3 := fun W => utfUnits_is (U.fixS s) W (by omega)
  rw [U.fix_units] at h3
  have h4 := fun W => utfUnits_is s W (by omega)
  have h5 := fun W (hW : Tabs W) => utfValid_any s W (by omega) hW
  have h6 := fun W (hW : Tabs W) => utfFix_any (U.fixS s) W (by omega) hW
  rw [U.fix_fix] at h6
  have hq : ((U.fixS s).toList == s.toList) = U.valid s := by
    rw [Bool.eq_iff_iff, beq_iff_eq, ← U.fix_same s]
    exact ⟨same_list, fun h => by rw [h]⟩
  generalize U.fixS s = x at *
  generalize U.units s = m at *
  generalize U.valid s = v at *
  have HT := Lib.hid hT
  clear hT hz
  go_enter Tryd.func5, Tryd.ntmps5
  go_wp2_with fail
  refine hw.mono ?_
  rintro e w0 ⟨rfl, b0⟩
  go_wp2_with fail
  refine (hc _ _ (by simp)).mono ?_
  rintro e w' ⟨rfl, rfl⟩
  have b0' : Below w.heap.size w (w0.alloc (Obj.cells #[Value.string s] 9)) := b0.alloc b0.size _
  clear b0
  go_wp2_with fail
  refine (h1 _ (tabs_below HT.out b0')).mono ?_
  rintro e w1 ⟨rfl, b1⟩
  have b1' := b0'.trans (b1.mono b0'.size)
  clear b1
  go_wp2_with fail
  refine (h2 _ (tabs_below HT.out b1')).mono ?_
  rintro e w2 ⟨rfl, b2⟩
  have b2' := b1'.trans (b2.mono b1'.size)
  clear b2
  go_wp2_with fail
  refine (h3 _).mono ?_
  rintro e w3 ⟨rfl, b3⟩
  have b3' := b2'.trans (b3.mono b2'.size)
  clear b3
  go_wp2_with fail
  refine (h4 _).mono ?_
  rintro e w4 ⟨rfl, b4⟩
  have b4' := b3'.trans (b4.mono b3'.size)
  clear b4
  go_wp2_with fail
  refine (h5 _ (tabs_below HT.out b4')).mono ?_
  rintro e w5 ⟨rfl, b5⟩
  have b5' := b4'.trans (b5.mono b4'.size)
  clear b5
  go_wp2_with fail
  refine (h6 _ (tabs_below HT.out b5')).mono ?_
  rintro e w6 ⟨rfl, b6⟩
  have b6' := b5'.trans (b6.mono b5'.size)
  clear b6
  go_wp2_with fail
  go_ret
  exact ⟨rfl, b6'⟩
theorem fixedLaw_any (s : ByteArray) (w : World) (hs : s.size ≤ 9223372036854775807) (hT : Tabs w) :
    Calls Tryd.prog 5 #[.string s] w (LawIs w) := by
  by_cases h : s.size ≤ 262144
  · exact fixedLaw_short s w h hT
  · exact fixedLaw_long s w hs hT (decide_eq_true (by omega))
end Go.Proofs.YteoeamdfglmmoaaDoor
