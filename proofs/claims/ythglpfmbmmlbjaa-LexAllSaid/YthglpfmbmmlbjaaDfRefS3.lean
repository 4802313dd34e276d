/- The scanner's table, the document's. Conditions: a state, a class of the table. -/
import Derived.Test.YthglpfmbmmlbjaaDfLeadsA
namespace Go.Proofs.Ythglpfmbmmlbjaa
open Go Go.RowKit Go.Lib

set_option maxHeartbeats 1000000 in
set_option maxRecDepth 100000 in
theorem refStep_10 (c : Nat) (hc : c < 24) (w : World) : Calls Try.prog 23 #[.int .i64 10, .int .i64 c] w (IntB (D.stp 10 c) w) := by
  by_cases h2 : c = 2
  · subst h2
    clear hc
    go_enter Try.func23, Try.ntmps23
    go_wp2_with fail
    go_ret
    exact ⟨rfl, Below.refl _ _⟩
  rw [show D.stp 10 c = 9 from all24 (P := fun c => ¬ c = 2 → D.stp 10 c = 9) (by decide +kernel) hc h2]
  have g1 : decide ((c : Int) < 0) = false := decide_eq_false (by omega)
  have g2 : decide ((23 : Int) < (c : Int)) = false := decide_eq_false (by omega)
  have e2 : ((c : Int) == 2) = false := by simp; omega
  have f2 : ((c : Int) != 2) = true := by simp; omega
  clear hc h2
  go_enter Try.func23, Try.ntmps23
  go_wp2_with fail
  go_ret
  exact ⟨rfl, Below.refl _ _⟩
set_option maxHeartbeats 1000000 in
set_option maxRecDepth 100000 in
theorem refStep_12 (c : Nat) (hc : c < 24) (w : World) : Calls Try.prog 23 #[.int .i64 12, .int .i64 c] w (IntB (D.stp 12 c) w) := by
  by_cases h9 : c = 9
  · subst h9
    clear hc
    go_enter Try.func23, Try.ntmps23
    go_wp2_with fail
    go_ret
    exact ⟨rfl, Below.refl _ _⟩
  rw [show D.stp 12 c = -1 from all24 (P := fun c => ¬ c = 9 → D.stp 12 c = -1) (by decide +kernel) hc h9]
  have g1 : decide ((c : Int) < 0) = false := decide_eq_false (by omega)
  have g2 : decide ((23 : Int) < (c : Int)) = false := decide_eq_false (by omega)
  have e9 : ((c : Int) == 9) = false := by simp; omega
  have f9 : ((c : Int) != 9) = true := by simp; omega
  clear hc h9
  go_enter Try.func23, Try.ntmps23
  go_wp2_with fail
  go_ret
  exact ⟨rfl, Below.refl _ _⟩
set_option maxHeartbeats 1000000 in
set_option maxRecDepth 100000 in
theorem refStep_14 (c : Nat) (hc : c < 24) (w : World) : Calls Try.prog 23 #[.int .i64 14, .int .i64 c] w (IntB (D.stp 14 c) w) := by
  by_cases h9 : c = 9
  · subst h9
    clear hc
    go_enter Try.func23, Try.ntmps23
    go_wp2_with fail
    go_ret
    exact ⟨rfl, Below.refl _ _⟩
  rw [show D.stp 14 c = -1 from all24 (P := fun c => ¬ c = 9 → D.stp 14 c = -1) (by decide +kernel) hc h9]
  have g1 : decide ((c : Int) < 0) = false := decide_eq_false (by omega)
  have g2 : decide ((23 : Int) < (c : Int)) = false := decide_eq_false (by omega)
  have e9 : ((c : Int) == 9) = false := by simp; omega
  have f9 : ((c : Int) != 9) = true := by simp; omega
  clear hc h9
  go_enter Try.func23, Try.ntmps23
  go_wp2_with fail
  go_ret
  exact ⟨rfl, Below.refl _ _⟩
set_option maxHeartbeats 1000000 in
set_option maxRecDepth 100000 in
theorem refStep_16 (c : Nat) (hc : c < 24) (w : World) : Calls Try.prog 23 #[.int .i64 16, .int .i64 c] w (IntB (D.stp 16 c) w) := by
  by_cases h9 : c = 9
  · subst h9
    clear hc
    go_enter Try.func23, Try.ntmps23
    go_wp2_with fail
    go_ret
    exact ⟨rfl, Below.refl _ _⟩
  rw [show D.stp 16 c = -1 from all24 (P := fun c => ¬ c = 9 → D.stp 16 c = -1) (by decide +kernel) hc h9]
  have g1 : decide ((c : Int) < 0) = false := decide_eq_false (by omega)
  have g2 : decide ((23 : Int) < (c : Int)) = false := decide_eq_false (by omega)
  have e9 : ((c : Int) == 9) = false := by simp; omega
  have f9 : ((c : Int) != 9) = true := by simp; omega
  clear hc h9
  go_enter Try.func23, Try.ntmps23
  go_wp2_with fail
  go_ret
  exact ⟨rfl, Below.refl _ _⟩
end Go.Proofs.Ythglpfmbmmlbjaa
