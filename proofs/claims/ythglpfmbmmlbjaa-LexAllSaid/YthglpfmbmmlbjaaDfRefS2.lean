/- The scanner's table, the document's. Conditions: a state, a class of the table. -/
import Derived.Test.YthglpfmbmmlbjaaDfLeadsA
namespace Go.Proofs.Ythglpfmbmmlbjaa
open Go Go.RowKit Go.Lib

set_option maxHeartbeats 1000000 in
set_option maxRecDepth 100000 in
theorem refStep_5 (c : Nat) (hc : c < 24) (w : World) : Calls Try.prog 23 #[.int .i64 5, .int .i64 c] w (IntB (D.stp 5 c) w) := by
  by_cases h8 : c = 8
  · subst h8
    clear hc
    go_enter Try.func23, Try.ntmps23
    go_wp2_with fail
    go_ret
    exact ⟨rfl, Below.refl _ _⟩
  by_cases h7 : c = 7
  · subst h7
    clear hc
    go_enter Try.func23, Try.ntmps23
    go_wp2_with fail
    go_ret
    exact ⟨rfl, Below.refl _ _⟩
  rw [show D.stp 5 c = 4 from all24 (P := fun c => ¬ c = 8 → ¬ c = 7 → D.stp 5 c = 4) (by decide +kernel) hc h8 h7]
  have g1 : decide ((c : Int) < 0) = false := decide_eq_false (by omega)
  have g2 : decide ((23 : Int) < (c : Int)) = false := decide_eq_false (by omega)
  have e8 : ((c : Int) == 8) = false := by simp; omega
  have f8 : ((c : Int) != 8) = true := by simp; omega
  have e7 : ((c : Int) == 7) = false := by simp; omega
  have f7 : ((c : Int) != 7) = true := by simp; omega
  clear hc h8 h7
  go_enter Try.func23, Try.ntmps23
  go_wp2_with fail
  go_ret
  exact ⟨rfl, Below.refl _ _⟩
set_option maxHeartbeats 1000000 in
set_option maxRecDepth 100000 in
theorem refStep_7 (c : Nat) (hc : c < 24) (w : World) : Calls Try.prog 23 #[.int .i64 7, .int .i64 c] w (IntB (D.stp 7 c) w) := by
  by_cases h3 : c = 3
  · subst h3
    clear hc
    go_enter Try.func23, Try.ntmps23
    go_wp2_with fail
    go_ret
    exact ⟨rfl, Below.refl _ _⟩
  by_cases h4 : c = 4
  · subst h4
    clear hc
    go_enter Try.func23, Try.ntmps23
    go_wp2_with fail
    go_ret
    exact ⟨rfl, Below.refl _ _⟩
  rw [show D.stp 7 c = -1 from all24 (P := fun c => ¬ c = 3 → ¬ c = 4 → D.stp 7 c = -1) (by decide +kernel) hc h3 h4]
  have g1 : decide ((c : Int) < 0) = false := decide_eq_false (by omega)
  have g2 : decide ((23 : Int) < (c : Int)) = false := decide_eq_false (by omega)
  have e3 : ((c : Int) == 3) = false := by simp; omega
  have f3 : ((c : Int) != 3) = true := by simp; omega
  have e4 : ((c : Int) == 4) = false := by simp; omega
  have f4 : ((c : Int) != 4) = true := by simp; omega
  clear hc h3 h4
  go_enter Try.func23, Try.ntmps23
  go_wp2_with fail
  go_ret
  exact ⟨rfl, Below.refl _ _⟩
set_option maxHeartbeats 1000000 in
set_option maxRecDepth 100000 in
theorem refStep_8 (c : Nat) (hc : c < 24) (w : World) : Calls Try.prog 23 #[.int .i64 8, .int .i64 c] w (IntB (D.stp 8 c) w) := by
  by_cases h4 : c = 4
  · subst h4
    clear hc
    go_enter Try.func23, Try.ntmps23
    go_wp2_with fail
    go_ret
    exact ⟨rfl, Below.refl _ _⟩
  rw [show D.stp 8 c = -1 from all24 (P := fun c => ¬ c = 4 → D.stp 8 c = -1) (by decide +kernel) hc h4]
  have g1 : decide ((c : Int) < 0) = false := decide_eq_false (by omega)
  have g2 : decide ((23 : Int) < (c : Int)) = false := decide_eq_false (by omega)
  have e4 : ((c : Int) == 4) = false := by simp; omega
  have f4 : ((c : Int) != 4) = true := by simp; omega
  clear hc h4
  go_enter Try.func23, Try.ntmps23
  go_wp2_with fail
  go_ret
  exact ⟨rfl, Below.refl _ _⟩
set_option maxHeartbeats 1000000 in
set_option maxRecDepth 100000 in
theorem refStep_9 (c : Nat) (hc : c < 24) (w : World) : Calls Try.prog 23 #[.int .i64 9, .int .i64 c] w (IntB (D.stp 9 c) w) := by
  by_cases h5 : c = 5
  · subst h5
    clear hc
    go_enter Try.func23, Try.ntmps23
    go_wp2_with fail
    go_ret
    exact ⟨rfl, Below.refl _ _⟩
  by_cases h6 : c = 6
  · subst h6
    clear hc
    go_enter Try.func23, Try.ntmps23
    go_wp2_with fail
    go_ret
    exact ⟨rfl, Below.refl _ _⟩
  by_cases h2 : c = 2
  · subst h2
    clear hc
    go_enter Try.func23, Try.ntmps23
    go_wp2_with fail
    go_ret
    exact ⟨rfl, Below.refl _ _⟩
  rw [show D.stp 9 c = 9 from all24 (P := fun c => ¬ c = 5 → ¬ c = 6 → ¬ c = 2 → D.stp 9 c = 9) (by decide +kernel) hc h5 h6 h2]
  have g1 : decide ((c : Int) < 0) = false := decide_eq_false (by omega)
  have g2 : decide ((23 : Int) < (c : Int)) = false := decide_eq_false (by omega)
  have e5 : ((c : Int) == 5) = false := by simp; omega
  have f5 : ((c : Int) != 5) = true := by simp; omega
  have e6 : ((c : Int) == 6) = false := by simp; omega
  have f6 : ((c : Int) != 6) = true := by simp; omega
  have e2 : ((c : Int) == 2) = false := by simp; omega
  have f2 : ((c : Int) != 2) = true := by simp; omega
  clear hc h5 h6 h2
  go_enter Try.func23, Try.ntmps23
  go_wp2_with fail
  go_ret
  exact ⟨rfl, Below.refl _ _⟩
end Go.Proofs.Ythglpfmbmmlbjaa
