/- Word, the program's own. Conditions: a string of at most 10^15 bytes. -/
import Derived.Test.YteccfoiegjhppaaDfWord
namespace Go.Proofs
open Go Go.RowKit Go.Lib
namespace Yteccfoiegjhppaa
namespace D
/-- what Word answers -/
def Wd (s : ByteArray) : Nat := if (run s).1 = 7 ∧ (run s).2 = s.size then wrd s else 0
end D
set_option maxHeartbeats 1000000 in
set_option maxRecDepth 100000 in
theorem Word_any (s : ByteArray) (hs : s.size ≤ 1000000000000000) (w : World) : Calls Try.prog 8 #[.string s] w (ByteB (D.Wd s) w) := by
  have hr := fun W => run_any s hs W
  have hw := fun W => word_any s W
  have hin := D.run_fits s
  unfold D.Wd
  generalize D.run s = R at *
  obtain ⟨q, n⟩ := R
  by_cases h7 : q = 7
  · subst h7
    by_cases hn : n < s.size
    · rw [if_neg (fun h => by have := h.2; simp only at this; omega)]
      clear hin
      go_enter Try.func8, Try.ntmps8
      go_wp2_with fail
      refine (hr _).mono ?_
      rintro e w1 ⟨rfl, hb1⟩
      go_wp2_with fail
      go_ret
      exact ⟨rfl, hb1⟩
    · rw [if_pos ⟨rfl, by have := hin.2.1; simp only at this ⊢; omega⟩]
      clear hin
      go_enter Try.func8, Try.ntmps8
      go_wp2_with fail
      refine (hr _).mono ?_
      rintro e w1 ⟨rfl, hb1⟩
      go_wp2_with fail
      refine (hw _).mono ?_
      rintro e w2 ⟨rfl, hb2⟩
      go_wp2_with fail
      go_ret
      exact ⟨rfl, hb1.trans (hb2.mono hb1.size)⟩
  · rw [if_neg (fun h => h7 h.1)]
    have e7 : ((q : Int) != 7) = true := by simp; omega
    clear hin h7
    go_enter Try.func8, Try.ntmps8
    go_wp2_with fail
    refine (hr _).mono ?_
    rintro e w1 ⟨rfl, hb1⟩
    go_wp2_with fail
    go_ret
    exact ⟨rfl, hb1⟩
end Yteccfoiegjhppaa
end Go.Proofs
