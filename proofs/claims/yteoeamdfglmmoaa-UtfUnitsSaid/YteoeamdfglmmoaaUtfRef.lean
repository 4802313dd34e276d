/- The document's own Next, step, Units and Cut, and the program's Units and Cut: what each answers, by the scan. Conditions: a string of at most 10^12 bytes; an offset within it. -/
import Derived.Test.YteoeamdfglmmoaaUtfNext2
import Derived.Test.YteoeamdfglmmoaaUtfNext3
import Derived.Test.YteoeamdfglmmoaaUtfNext4
namespace Go.Proofs.Yteoeamdfglmmoaa
open Go Go.RowKit Go.Lib

theorem refNext_any (s : ByteArray) (i : Nat) (w : World) (hi : i < s.size) (hs : s.size ≤ 1000000000000) :
    Calls Try.prog 11 #[.string s, .int .i64 i] w (NextIs (U.nr s i) (U.nk s i) (U.nb s i) w) := by
  have h256 := s[i].toNat_lt
  by_cases h1 : s[i].toNat < 128
  · exact refNext_ascii s i w hi hs (by omega)
  by_cases h2 : s[i].toNat < 192
  · exact refNext_lone s i w hi hs (by omega)
  by_cases h3 : s[i].toNat < 224
  · by_cases hz : s.size < i + 2
    · exact refNext_short2 s i w hi hs (by omega) (by omega) (by omega)
    · exact refNext_long2 s i w hi hs (by omega) (by omega) (by omega)
  by_cases h4 : s[i].toNat < 240
  · by_cases hz : s.size < i + 3
    · exact refNext_short3 s i w hi hs (by omega) (by omega) (by omega)
    · exact refNext_long3 s i w hi hs (by omega) (by omega) (by omega)
  by_cases h5 : s[i].toNat < 248
  · by_cases hz : s.size < i + 4
    · exact refNext_short4 s i w hi hs (by omega) (by omega) (by omega)
    · exact refNext_long4 s i w hi hs (by omega) (by omega) (by omega)
  exact refNext_lone s i w hi hs (by omega)
theorem refNext_bad (s : ByteArray) (i : Nat) (w : World) (hi : i < s.size) (hs : s.size ≤ 1000000000000) (h : U.bad s i = true) :
    Calls Try.prog 11 #[.string s, .int .i64 i] w (NextIs 0 0 false w) := by
  have := refNext_any s i w hi hs
  rwa [U.nr_bad h, U.nk_bad h, U.nb_bad h] at this
theorem refNext_good (s : ByteArray) (i : Nat) (w : World) (hi : i < s.size) (hs : s.size ≤ 1000000000000) (h : U.bad s i = false) :
    Calls Try.prog 11 #[.string s, .int .i64 i] w (NextIs (U.ch s i) (U.wd s i) true w) := by
  have := refNext_any s i w hi hs
  rwa [U.nr_good h, U.nk_good h, U.nb_good h] at this

def StepIs (a b : Nat) (w : World) (e : Ending) (w' : World) : Prop := e = .returned (.tuple #[.int .i64 a, .int .i64 b]) ∧ Below w.heap.size w w'
set_option maxHeartbeats 400000 in
set_option maxRecDepth 100000 in
theorem step_any (s : ByteArray) (i : Nat) (w : World) (hi : i < s.size) (hs : s.size ≤ 1000000000000) :
    Calls Try.prog 10 #[.string s, .int .i64 i] w (StepIs (U.wd s i) (U.un s i) w) := by
  cases hbad : U.bad s i
  · have hc := refNext_good s i w hi hs hbad
    have hf := U.facts s i hi
    by_cases hu : 65536 ≤ U.ch s i
    · have hun : U.un s i = 2 := by unfold U.un; rw [if_pos hu]
      rw [hun]
      have e1 : decide ((65536 : Int) ≤ (U.ch s i : Int)) = true := decide_eq_true (by omega)
      generalize U.ch s i = c at *
      generalize U.wd s i = d at *
      clear hbad hun hu hf
      go_enter Try.func10, Try.ntmps10
      go_wp2_with fail
      refine hc.mono ?_
      rintro e w' ⟨rfl, hb⟩
      go_wp2_with fail
      go_ret2
      exact ⟨rfl, hb⟩
    · have hun : U.un s i = 1 := by unfold U.un; rw [if_neg hu]
      rw [hun]
      have e1 : decide ((65536 : Int) ≤ (U.ch s i : Int)) = false := decide_eq_false (by omega)
      generalize U.ch s i = c at *
      generalize U.wd s i = d at *
      clear hbad hun hu hf
      go_enter Try.func10, Try.ntmps10
      go_wp2_with fail
      refine hc.mono ?_
      rintro e w' ⟨rfl, hb⟩
      go_wp2_with fail
      go_ret2
      exact ⟨rfl, hb⟩
  · have hc := refNext_bad s i w hi hs hbad
    obtain ⟨h1, h2⟩ := U.bad_un hbad
    rw [h1, h2]
    clear hbad h1 h2
    go_enter Try.func10, Try.ntmps10
    go_wp2_with fail
    refine hc.mono ?_
    rintro e w' ⟨rfl, hb⟩
    go_wp2_with fail
    go_ret2
    exact ⟨rfl, hb⟩

def IntIs (a : Nat) (w : World) (e : Ending) (w' : World) : Prop := e = .returned (.int .i64 a) ∧ Below w.heap.size w w'
set_option maxHeartbeats 400000 in
set_option maxRecDepth 100000 in
theorem refUnits_any (s : ByteArray) (w : World) (hs : s.size ≤ 1000000000000) :
    Calls Try.prog 6 #[.string s] w (IntIs (U.units s) w) := by
  go_enter Try.func6, Try.ntmps6
  go_wp2_with fail
  go_loopw [3, 4] (fun p n wr => ∃ f pos m : Nat, p = .int .i64 pos ∧ n = .int .i64 m ∧ pos ≤ s.size ∧ m ≤ pos ∧ Hid (m + U.unitsFrom s f pos = U.units s ∧ s.size ≤ pos + f) ∧ Below w.heap.size w wr) (fun p _ _ => s.size - (intOf p).toNat)
  case atStart => exact ⟨s.size, 0, 0, rfl, rfl, by omega, by omega, Lib.hid ⟨by unfold U.units; omega, by omega⟩, Below.refl _ _⟩
  case round =>
    obtain ⟨f, pos, m, rfl, rfl, hp, hm, HU, hbl⟩ := hrel
    by_cases hlt : pos < s.size
    · have hw1 := U.wd_pos hlt
      have hw2 := U.wd_le hlt
      have hu := U.un_le hlt
      obtain ⟨f', rfl⟩ : ∃ f', f = f' + 1 := ⟨f - 1, by have := HU.out.2; omega⟩
      have HS := Lib.hid (U.unitsFrom_step s f' pos hlt)
      have hc := fun W => step_any s pos W hlt hs
      go_wp2_with fail
      refine (hc _).mono ?_
      generalize U.wd s pos = d at *
      generalize U.un s pos = u at *
      rintro e w' ⟨rfl, hb⟩
      go_wp2_with fail
      go_roundw
      case rel =>
        refine ⟨f', pos + d, m + u, by go_num, by go_num, by omega, by omega, Lib.hid ⟨?_, ?_⟩, hbl.trans (hb.mono hbl.size)⟩
        · have := HU.out.1; rw [HS.out] at this; omega
        · have := HU.out.2; omega
      case measure => simp [intOf]; omega
    · go_wp2_with fail
      go_ret
      refine ⟨?_, hbl⟩
      have := HU.out.1
      rw [U.unitsFrom_end s f pos hlt] at this
      rw [← this]; rfl
end Go.Proofs.Yteoeamdfglmmoaa
