/- The scanner's table, the document's. Conditions: a state, a class of the table. -/
import Derived.Test.YthglpfmbmmlbjaaDfLeadsA
namespace Go.Proofs.Ythglpfmbmmlbjaa
open Go Go.RowKit Go.Lib

set_option maxHeartbeats 1000000 in
set_option maxRecDepth 100000 in
theorem refStep_18 (c : Nat) (hc : c < 24) (w : World) : Calls Try.prog 23 #[.int .i64 18, .int .i64 c] w (IntB (D.stp 18 c) w) := by
  by_cases h9 : c = 9
  · subst h9
    clear hc
    go_enter Try.func23, Try.ntmps23
    go_wp2_with fail
    go_ret
    exact ⟨rfl, Below.refl _ _⟩
  rw [show D.stp 18 c = -1 from all24 (P := fun c => ¬ c = 9 → D.stp 18 c = -1) (by decide +kernel) hc h9]
  have g1 : decide ((c : Int) < 0) = false := decide_eq_false (by omega)
  have g2 : decide ((23 : Int) < (c : Int)) = false := decide_eq_false (by omega)
  have e9 : ((c : Int) == 9) = false := by simp; omega
  have f9 : ((c : Int) != 9) = true := by simp; omega
  clear hc h9
  go_enter Try.func23, Try.ntmps23
  go_wp2_with fail
  go_ret
  exact ⟨rfl, Below.refl _ _⟩
set_option maxHeartbeats 1000000 in
set_option maxRecDepth 100000 in
theorem refStep_20 (c : Nat) (hc : c < 24) (w : World) : Calls Try.prog 23 #[.int .i64 20, .int .i64 c] w (IntB (D.stp 20 c) w) := by
  by_cases h13 : c = 13
  · subst h13
    clear hc
    go_enter Try.func23, Try.ntmps23
    go_wp2_with fail
    go_ret
    exact ⟨rfl, Below.refl _ _⟩
  rw [show D.stp 20 c = -1 from all24 (P := fun c => ¬ c = 13 → D.stp 20 c = -1) (by decide +kernel) hc h13]
  have g1 : decide ((c : Int) < 0) = false := decide_eq_false (by omega)
  have g2 : decide ((23 : Int) < (c : Int)) = false := decide_eq_false (by omega)
  have e13 : ((c : Int) == 13) = false := by simp; omega
  have f13 : ((c : Int) != 13) = true := by simp; omega
  clear hc h13
  go_enter Try.func23, Try.ntmps23
  go_wp2_with fail
  go_ret
  exact ⟨rfl, Below.refl _ _⟩
set_option maxHeartbeats 1000000 in
set_option maxRecDepth 100000 in
theorem refStep_22 (c : Nat) (hc : c < 24) (w : World) : Calls Try.prog 23 #[.int .i64 22, .int .i64 c] w (IntB (D.stp 22 c) w) := by
  by_cases h14 : c = 14
  · subst h14
    clear hc
    go_enter Try.func23, Try.ntmps23
    go_wp2_with fail
    go_ret
    exact ⟨rfl, Below.refl _ _⟩
  rw [show D.stp 22 c = -1 from all24 (P := fun c => ¬ c = 14 → D.stp 22 c = -1) (by decide +kernel) hc h14]
  have g1 : decide ((c : Int) < 0) = false := decide_eq_false (by omega)
  have g2 : decide ((23 : Int) < (c : Int)) = false := decide_eq_false (by omega)
  have e14 : ((c : Int) == 14) = false := by simp; omega
  have f14 : ((c : Int) != 14) = true := by simp; omega
  clear hc h14
  go_enter Try.func23, Try.ntmps23
  go_wp2_with fail
  go_ret
  exact ⟨rfl, Below.refl _ _⟩
end Go.Proofs.Ythglpfmbmmlbjaa
