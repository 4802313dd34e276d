/- The program's width, Units and Cut: what each answers, by the scan. Conditions: a string of at most 10^12 bytes. -/
import Derived.Test.YtdhdemndeiipcaaDoorUtfRef
import Derived.Laws.RangeAny
namespace Go.Proofs.YtdhdemndeiipcaaDoor
open Go Go.RowKit Go.Lib

set_option maxHeartbeats 400000 in
theorem width_two (r : Int) (w : World) (h : decide ((65536 : Int) ≤ r) = true) :
    Calls Tryd.prog 28 #[.int .i32 r] w fun e w' => e = .returned (.int .i64 2) ∧ w = w' := by
  go_enter Tryd.func28, Tryd.ntmps28
  go_wp2_with fail
  go_ret
  exact ⟨rfl, rfl⟩
set_option maxHeartbeats 400000 in
theorem width_one (r : Int) (w : World) (h : decide ((65536 : Int) ≤ r) = false) :
    Calls Tryd.prog 28 #[.int .i32 r] w fun e w' => e = .returned (.int .i64 1) ∧ w = w' := by
  go_enter Tryd.func28, Tryd.ntmps28
  go_wp2_with fail
  go_ret
  exact ⟨rfl, rfl⟩
theorem width_any (s : ByteArray) (i : Nat) (w : World) :
    Calls Tryd.prog 28 #[.int .i32 (U.ch s i)] w fun e w' => e = .returned (.int .i64 (U.un s i)) ∧ w = w' := by
  unfold U.un
  by_cases h : 65536 ≤ U.ch s i
  · rw [if_pos h]; exact width_two _ w (decide_eq_true (by omega))
  · rw [if_neg h]; exact width_one _ w (decide_eq_false (by omega))

set_option maxHeartbeats 400000 in
set_option maxRecDepth 100000 in
theorem utfUnits_any (s : ByteArray) (w : World) (hs : s.size ≤ 1000000000000) :
    Calls Tryd.prog 22 #[.string s] w fun e w' => e = .returned (.int .i64 (U.units s)) ∧ ∃ pos, w' = w.iter s pos := by
  go_enter Tryd.func22, Tryd.ntmps22
  go_wp2_with fail
  go_loopw [3] (fun n wr => ∃ f pos m : Nat, wr = w.iter s pos ∧ n = .int .i64 m ∧ pos ≤ s.size ∧ m ≤ pos ∧ Hid (m + U.unitsFrom s f pos = U.units s ∧ s.size ≤ pos + f)) (fun _ wr => s.size - wr.iterPos w.heap.size)
  case atStart => exact ⟨s.size, 0, 0, rfl, rfl, by omega, by omega, Lib.hid ⟨by unfold U.units; omega, by omega⟩⟩
  case round =>
    obtain ⟨f, pos, m, rfl, rfl, hp, hm, HU⟩ := hrel
    by_cases hlt : pos < s.size
    · have hw1 := U.wd_pos hlt
      have hw2 := U.wd_le hlt
      have hu := U.un_le hlt
      obtain ⟨f', rfl⟩ : ∃ f', f = f' + 1 := ⟨f - 1, by have := HU.out.2; omega⟩
      have HS := Lib.hid (U.unitsFrom_step s f' pos hlt)
      have hc := fun W => width_any s pos W
      have hnx : ∀ ty, (Instr.next (.pointer (some ⟨w.heap.size, 0, none⟩)) true ty).run Tryd.prog (w.iter s pos) = .ok (.tuple #[.bool true, .int .i64 pos, .int .i32 (U.ch s pos)]) (w.iter s (pos + U.wd s pos)) := fun ty => run_next_any w s pos ty hlt
      generalize U.wd s pos = d at *
      generalize U.un s pos = v at *
      generalize U.ch s pos = c at *
      go_wp2_with fail
      refine (hc _).mono ?_
      rintro e w' ⟨rfl, rfl⟩
      go_wp2_with fail
      go_roundw
      case rel =>
        refine ⟨f', pos + d, m + v, rfl, by go_num, by omega, by omega, Lib.hid ⟨?_, ?_⟩⟩
        · have := HU.out.1; rw [HS.out] at this; omega
        · have := HU.out.2; omega
      case measure => simp; omega
    · have hnx : ∀ ty, (Instr.next (.pointer (some ⟨w.heap.size, 0, none⟩)) true ty).run Tryd.prog (w.iter s pos) = _ := fun ty => run_next_end w s pos ty hlt
      go_wp2_with fail
      go_ret
      refine ⟨?_, _, rfl⟩
      have := HU.out.1
      rw [U.unitsFrom_end s f pos hlt] at this
      rw [← this]; rfl

/-! ### the program's Cut: the units that are left, counted down -/
set_option maxHeartbeats 400000 in
set_option maxRecDepth 100000 in
theorem utfCut_below (s : ByteArray) (u : Int) (w : World) (hu : u < 0) :
    Calls Tryd.prog 18 #[.string s, .int .i64 u] w (IntIs 0 w) := by
  go_enter Tryd.func18, Tryd.ntmps18
  go_wp2_with fail
  go_ret
  exact ⟨rfl, Below.refl _ _⟩
theorem below_iter (w : World) (s : ByteArray) (p : Nat) : Below w.heap.size w (w.iter s p) := (Below.refl _ _).alloc (Nat.le_refl _) _
set_option maxHeartbeats 400000 in
set_option maxRecDepth 100000 in
theorem utfCut_from (s : ByteArray) (u : Int) (w : World) (hs : s.size ≤ 1000000000000) (hu0 : 0 ≤ u) (hu1 : u ≤ 9223372036854775807) :
    Calls Tryd.prog 18 #[.string s, .int .i64 u] w (IntIs (U.cut s u) w) := by
  go_enter Tryd.func18, Tryd.ntmps18
  go_wp2_with fail
  go_loopw [1] (fun v wr => ∃ f pos m : Nat, wr = w.iter s pos ∧ v = .int .i64 (u - m) ∧ (m : Int) ≤ u ∧ pos ≤ s.size ∧ m ≤ pos ∧ Hid (U.cutFrom s u f pos m = U.cut s u ∧ s.size ≤ pos + f)) (fun _ wr => s.size - wr.iterPos w.heap.size)
  case atStart => exact ⟨s.size, 0, 0, rfl, by go_num, by omega, by omega, by omega, Lib.hid ⟨rfl, by omega⟩⟩
  case round =>
    obtain ⟨f, pos, m, rfl, rfl, hmu, hp, hm, HU⟩ := hrel
    by_cases hlt : pos < s.size
    · have hw1 := U.wd_pos hlt
      have hw2 := U.wd_le hlt
      have hun := U.un_le hlt
      obtain ⟨f', rfl⟩ : ∃ f', f = f' + 1 := ⟨f - 1, by have := HU.out.2; omega⟩
      have hc := fun W => width_any s pos W
      have hnx : ∀ ty, (Instr.next (.pointer (some ⟨w.heap.size, 0, none⟩)) true ty).run Tryd.prog (w.iter s pos) = .ok (.tuple #[.bool true, .int .i64 pos, .int .i32 (U.ch s pos)]) (w.iter s (pos + U.wd s pos)) := fun ty => run_next_any w s pos ty hlt
      by_cases hst : u < ((m + U.un s pos : Nat) : Int)
      · have HS := Lib.hid (U.cutFrom_stop s u f' pos m hlt hst)
        generalize U.wd s pos = d at *
        generalize U.un s pos = v at *
        generalize U.ch s pos = c at *
        have e1 : decide (u - (m : Int) - (v : Int) < 0) = true := decide_eq_true (by omega)
        clear hst
        go_wp2_with fail
        refine (hc _).mono ?_
        rintro e w' ⟨rfl, rfl⟩
        go_wp2_with fail
        go_ret
        refine ⟨?_, below_iter _ _ _⟩
        have := HU.out.1
        rw [HS.out] at this
        rw [← this]
        rfl
      · have HS := Lib.hid (U.cutFrom_step s u f' pos m hlt hst)
        generalize U.wd s pos = d at *
        generalize U.un s pos = v at *
        generalize U.ch s pos = c at *
        have e1 : decide (u - (m : Int) - (v : Int) < 0) = false := decide_eq_false (by omega)
        have h2 : (m : Int) + (v : Int) ≤ u := by omega
        clear hst
        go_wp2_with fail
        refine (hc _).mono ?_
        rintro e w' ⟨rfl, rfl⟩
        go_wp2_with fail
        go_roundw
        case rel =>
          refine ⟨f', pos + d, m + v, rfl, ?_, by omega, by omega, by omega, Lib.hid ⟨?_, ?_⟩⟩
          · congr 1; omega
          · have := HU.out.1; rw [HS.out] at this; exact this
          · have := HU.out.2; omega
        case measure => simp; omega
    · have hnx : ∀ ty, (Instr.next (.pointer (some ⟨w.heap.size, 0, none⟩)) true ty).run Tryd.prog (w.iter s pos) = _ := fun ty => run_next_end w s pos ty hlt
      go_wp2_with fail
      go_ret
      refine ⟨congrArg (fun n : Nat => Ending.returned (.int .i64 n)) (show s.size = U.cut s u from ?_), below_iter _ _ _⟩
      have := HU.out.1
      rw [U.cutFrom_end s u f pos m hlt] at this
      omega
namespace U
theorem cut_below (s : ByteArray) (u : Int) (h : u < 0) : cut s u = 0 := by
  unfold cut
  by_cases hp : 0 < s.size
  · obtain ⟨f, hf⟩ : ∃ f, s.size = f + 1 := ⟨s.size - 1, by omega⟩
    rw [hf]
    exact cutFrom_stop s u f 0 0 hp (by omega)
  · exact cutFrom_end s u s.size 0 0 hp
end U
theorem utfCut_any (s : ByteArray) (u : Int) (w : World) (hs : s.size ≤ 1000000000000) (hu1 : u ≤ 9223372036854775807) :
    Calls Tryd.prog 18 #[.string s, .int .i64 u] w (IntIs (U.cut s u) w) := by
  by_cases h : u < 0
  · rw [U.cut_below s u h]; exact utfCut_below s u w h
  · exact utfCut_from s u w hs (by omega) hu1

theorem utfUnits_is (s : ByteArray) (w : World) (hs : s.size ≤ 1000000000000) :
    Calls Tryd.prog 22 #[.string s] w (IntIs (U.units s) w) :=
  (utfUnits_any s w hs).mono fun _ _ ⟨h, p, hp⟩ => ⟨h, hp ▸ below_iter w s p⟩

end Go.Proofs.YtdhdemndeiipcaaDoor
