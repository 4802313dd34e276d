/- The document's own Units and Cut: what each answers, by the scan. Conditions: a string of at most 10^12 bytes. -/
import Derived.Test.YtdhdemndeiipcaaDoorUtfRef
namespace Go.Proofs.YtdhdemndeiipcaaDoor
open Go Go.RowKit Go.Lib

set_option maxHeartbeats 400000 in
set_option maxRecDepth 100000 in
theorem refUnits_any (s : ByteArray) (w : World) (hs : s.size ≤ 1000000000000) :
    Calls Tryd.prog 25 #[.string s] w (IntIs (U.units s) w) := by
  go_enter Tryd.func25, Tryd.ntmps25
  go_wp2_with fail
  go_loopw [3, 4] (fun p n wr => ∃ f pos m : Nat, p = .int .i64 pos ∧ n = .int .i64 m ∧ pos ≤ s.size ∧ m ≤ pos ∧ Hid (m + U.unitsFrom s f pos = U.units s ∧ s.size ≤ pos + f) ∧ Below w.heap.size w wr) (fun p _ _ => s.size - (intOf p).toNat)
  case atStart => exact ⟨s.size, 0, 0, rfl, rfl, by omega, by omega, Lib.hid ⟨by unfold U.units; omega, by omega⟩, Below.refl _ _⟩
  case round =>
    obtain ⟨f, pos, m, rfl, rfl, hp, hm, HU, hbl⟩ := hrel
    by_cases hlt : pos < s.size
    · have hw1 := U.wd_pos hlt
      have hw2 := U.wd_le hlt
      have hu := U.un_le hlt
      obtain ⟨f', rfl⟩ : ∃ f', f = f' + 1 := ⟨f - 1, by have := HU.out.2; omega⟩
      have HS := Lib.hid (U.unitsFrom_step s f' pos hlt)
      have hc := fun W => step_any s pos W hlt hs
      go_wp2_with fail
      refine (hc _).mono ?_
      generalize U.wd s pos = d at *
      generalize U.un s pos = u at *
      rintro e w' ⟨rfl, hb⟩
      go_wp2_with fail
      go_roundw
      case rel =>
        refine ⟨f', pos + d, m + u, by go_num, by go_num, by omega, by omega, Lib.hid ⟨?_, ?_⟩, hbl.trans (hb.mono hbl.size)⟩
        · have := HU.out.1; rw [HS.out] at this; omega
        · have := HU.out.2; omega
      case measure => simp [intOf]; omega
    · go_wp2_with fail
      go_ret
      refine ⟨?_, hbl⟩
      have := HU.out.1
      rw [U.unitsFrom_end s f pos hlt] at this
      rw [← this]; rfl
set_option maxHeartbeats 400000 in
set_option maxRecDepth 100000 in
theorem refCut_any (s : ByteArray) (u : Int) (w : World) (hs : s.size ≤ 1000000000000) :
    Calls Tryd.prog 20 #[.string s, .int .i64 u] w (IntIs (U.cut s u) w) := by
  go_enter Tryd.func20, Tryd.ntmps20
  go_wp2_with fail
  go_loopw [5, 6] (fun p n wr => ∃ f pos m : Nat, p = .int .i64 pos ∧ n = .int .i64 m ∧ pos ≤ s.size ∧ m ≤ pos ∧ Hid (U.cutFrom s u f pos m = U.cut s u ∧ s.size ≤ pos + f) ∧ Below w.heap.size w wr) (fun p _ _ => s.size - (intOf p).toNat)
  case atStart => exact ⟨s.size, 0, 0, rfl, rfl, by omega, by omega, Lib.hid ⟨rfl, by omega⟩, Below.refl _ _⟩
  case round =>
    obtain ⟨f, pos, m, rfl, rfl, hp, hm, HU, hbl⟩ := hrel
    by_cases hlt : pos < s.size
    · have hw1 := U.wd_pos hlt
      have hw2 := U.wd_le hlt
      have hu := U.un_le hlt
      obtain ⟨f', rfl⟩ : ∃ f', f = f' + 1 := ⟨f - 1, by have := HU.out.2; omega⟩
      have hc := fun W => step_any s pos W hlt hs
      by_cases hst : u < ((m + U.un s pos : Nat) : Int)
      · have HS := Lib.hid (U.cutFrom_stop s u f' pos m hlt hst)
        generalize U.wd s pos = d at *
        generalize U.un s pos = v at *
        have e1 : decide (u < (m : Int) + (v : Int)) = true := decide_eq_true (by omega)
        clear hst
        go_wp2_with fail
        refine (hc _).mono ?_
        rintro e w' ⟨rfl, hb⟩
        go_wp2_with fail
        go_ret
        refine ⟨?_, hbl.trans (hb.mono hbl.size)⟩
        have := HU.out.1
        rw [HS.out] at this
        rw [← this]
        rfl
      · have HS := Lib.hid (U.cutFrom_step s u f' pos m hlt hst)
        generalize U.wd s pos = d at *
        generalize U.un s pos = v at *
        have e1 : decide (u < (m : Int) + (v : Int)) = false := decide_eq_false (by omega)
        clear hst
        go_wp2_with fail
        refine (hc _).mono ?_
        rintro e w' ⟨rfl, hb⟩
        go_wp2_with fail
        go_roundw
        case rel =>
          refine ⟨f', pos + d, m + v, by go_num, by go_num, by omega, by omega, Lib.hid ⟨?_, ?_⟩, hbl.trans (hb.mono hbl.size)⟩
          · have := HU.out.1; rw [HS.out] at this; exact this
          · have := HU.out.2; omega
        case measure => simp [intOf]; omega
    · go_wp2_with fail
      go_ret
      refine ⟨congrArg (fun n : Nat => Ending.returned (.int .i64 n)) (show s.size = U.cut s u from ?_), hbl⟩
      have := HU.out.1
      rw [U.cutFrom_end s u f pos m hlt] at this
      omega

end Go.Proofs.YtdhdemndeiipcaaDoor
