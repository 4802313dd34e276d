/- The document's own Next and step: what each answers, by the scan. Conditions: a string of at most 10^12 bytes; an offset within it. -/
import Derived.Test.YtdhdemndeiipcaaDoorUtfNext2
import Derived.Test.YtdhdemndeiipcaaDoorUtfNext3
import Derived.Test.YtdhdemndeiipcaaDoorUtfNext4
namespace Go.Proofs.YtdhdemndeiipcaaDoor
open Go Go.RowKit Go.Lib

theorem refNext_any (s : ByteArray) (i : Nat) (w : World) (hi : i < s.size) (hs : s.size ≤ 1000000000000) :
    Calls Tryd.prog 35 #[.string s, .int .i64 i] w (NextIs (U.nr s i) (U.nk s i) (U.nb s i) w) := by
  have h256 := s[i].toNat_lt
  by_cases h1 : s[i].toNat < 128
  · exact refNext_ascii s i w hi hs (by omega)
  by_cases h2 : s[i].toNat < 192
  · exact refNext_lone s i w hi hs (by omega)
  by_cases h3 : s[i].toNat < 224
  · by_cases hz : s.size < i + 2
    · exact refNext_short2 s i w hi hs (by omega) (by omega) (by omega)
    · exact refNext_long2 s i w hi hs (by omega) (by omega) (by omega)
  by_cases h4 : s[i].toNat < 240
  · by_cases hz : s.size < i + 3
    · exact refNext_short3 s i w hi hs (by omega) (by omega) (by omega)
    · exact refNext_long3 s i w hi hs (by omega) (by omega) (by omega)
  by_cases h5 : s[i].toNat < 248
  · by_cases hz : s.size < i + 4
    · exact refNext_short4 s i w hi hs (by omega) (by omega) (by omega)
    · exact refNext_long4 s i w hi hs (by omega) (by omega) (by omega)
  exact refNext_lone s i w hi hs (by omega)
theorem refNext_bad (s : ByteArray) (i : Nat) (w : World) (hi : i < s.size) (hs : s.size ≤ 1000000000000) (h : U.bad s i = true) :
    Calls Tryd.prog 35 #[.string s, .int .i64 i] w (NextIs 0 0 false w) := by
  have := refNext_any s i w hi hs
  rwa [U.nr_bad h, U.nk_bad h, U.nb_bad h] at this
theorem refNext_good (s : ByteArray) (i : Nat) (w : World) (hi : i < s.size) (hs : s.size ≤ 1000000000000) (h : U.bad s i = false) :
    Calls Tryd.prog 35 #[.string s, .int .i64 i] w (NextIs (U.ch s i) (U.wd s i) true w) := by
  have := refNext_any s i w hi hs
  rwa [U.nr_good h, U.nk_good h, U.nb_good h] at this

def StepIs (a b : Nat) (w : World) (e : Ending) (w' : World) : Prop := e = .returned (.tuple #[.int .i64 a, .int .i64 b]) ∧ Below w.heap.size w w'
set_option maxHeartbeats 400000 in
set_option maxRecDepth 100000 in
theorem step_any (s : ByteArray) (i : Nat) (w : World) (hi : i < s.size) (hs : s.size ≤ 1000000000000) :
    Calls Tryd.prog 30 #[.string s, .int .i64 i] w (StepIs (U.wd s i) (U.un s i) w) := by
  cases hbad : U.bad s i
  · have hc := refNext_good s i w hi hs hbad
    have hf := U.facts s i hi
    by_cases hu : 65536 ≤ U.ch s i
    · have hun : U.un s i = 2 := by unfold U.un; rw [if_pos hu]
      rw [hun]
      have e1 : decide ((65536 : Int) ≤ (U.ch s i : Int)) = true := decide_eq_true (by omega)
      generalize U.ch s i = c at *
      generalize U.wd s i = d at *
      clear hbad hun hu hf
      go_enter Tryd.func30, Tryd.ntmps30
      go_wp2_with fail
      refine hc.mono ?_
      rintro e w' ⟨rfl, hb⟩
      go_wp2_with fail
      go_ret2
      exact ⟨rfl, hb⟩
    · have hun : U.un s i = 1 := by unfold U.un; rw [if_neg hu]
      rw [hun]
      have e1 : decide ((65536 : Int) ≤ (U.ch s i : Int)) = false := decide_eq_false (by omega)
      generalize U.ch s i = c at *
      generalize U.wd s i = d at *
      clear hbad hun hu hf
      go_enter Tryd.func30, Tryd.ntmps30
      go_wp2_with fail
      refine hc.mono ?_
      rintro e w' ⟨rfl, hb⟩
      go_wp2_with fail
      go_ret2
      exact ⟨rfl, hb⟩
  · have hc := refNext_bad s i w hi hs hbad
    obtain ⟨h1, h2⟩ := U.bad_un hbad
    rw [h1, h2]
    clear hbad h1 h2
    go_enter Tryd.func30, Tryd.ntmps30
    go_wp2_with fail
    refine hc.mono ?_
    rintro e w' ⟨rfl, hb⟩
    go_wp2_with fail
    go_ret2
    exact ⟨rfl, hb⟩

def IntIs (a : Nat) (w : World) (e : Ending) (w' : World) : Prop := e = .returned (.int .i64 a) ∧ Below w.heap.size w w'
end Go.Proofs.YtdhdemndeiipcaaDoor
