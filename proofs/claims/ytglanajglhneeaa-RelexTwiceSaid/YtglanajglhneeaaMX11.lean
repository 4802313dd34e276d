/- The scanner's table, the document's. Conditions: a state, a class of the table. -/
import Derived.Test.YtglanajglhneeaaMX04
namespace Go.Proofs.Ytglanajglhneeaa
open Go Go.RowKit Go.Lib

set_option maxHeartbeats 1000000 in
set_option maxRecDepth 100000 in
theorem refStep_0 (c : Nat) (hc : c < 24) (w : World) : Calls Try.prog 54 #[.int .i64 0, .int .i64 c] w (IntB (D.stp 0 c) w) := by
  have i1 : (0 : Int) ≤ (c : Int) := Int.natCast_nonneg c
  have i2 : (c : Int) < 24 := by omega
  have i3 : c < 24 := hc
  have g1 : decide ((c : Int) < 0) = false := decide_eq_false (by omega)
  have g2 : decide ((23 : Int) < (c : Int)) = false := decide_eq_false (by omega)
  have HC := Lib.hid (int_at .i64 zs0 c _ (zs0_at hc))
  clear hc
  go_enter Try.func54, Try.ntmps54
  go_upto_region 6 with (refine wpList_buildFlat rfl 96 3 24 _ rfl .i64 zs0 (by kernel_rfl) (by kernel_rfl) (by kernel_rfl) (by kernel_rfl) (by decide) (by decide) (by kernel_rfl) ?_)
  generalize hW : w.alloc _ = W0
  have c1 : W0.cell? ⟨w.heap.size, c, none⟩ = some (.int .i64 (D.stp 0 c)) := by
    rw [← hW, Lib.cell_of_heap (heap_alloc_new w _)]
    exact HC.out
  have HB := Lib.hid (show Below w.heap.size w W0 by rw [← hW]; exact (Below.refl w.heap.size w).alloc (Nat.le_refl _) _)
  clear hW
  go_wp2_with fail
  go_ret
  exact ⟨rfl, HB.out⟩
set_option maxHeartbeats 1000000 in
set_option maxRecDepth 100000 in
theorem refStep_1 (c : Nat) (hc : c < 24) (w : World) : Calls Try.prog 54 #[.int .i64 1, .int .i64 c] w (IntB (D.stp 1 c) w) := by
  by_cases h1 : c = 1
  · subst h1
    clear hc
    go_enter Try.func54, Try.ntmps54
    go_wp2_with fail
    go_ret
    exact ⟨rfl, Below.refl _ _⟩
  by_cases h2 : c = 2
  · subst h2
    clear hc
    go_enter Try.func54, Try.ntmps54
    go_wp2_with fail
    go_ret
    exact ⟨rfl, Below.refl _ _⟩
  rw [show D.stp 1 c = -1 from all24 (P := fun c => ¬ c = 1 → ¬ c = 2 → D.stp 1 c = -1) (by decide +kernel) hc h1 h2]
  have g1 : decide ((c : Int) < 0) = false := decide_eq_false (by omega)
  have g2 : decide ((23 : Int) < (c : Int)) = false := decide_eq_false (by omega)
  have e1 : ((c : Int) == 1) = false := by simp; omega
  have f1 : ((c : Int) != 1) = true := by simp; omega
  have e2 : ((c : Int) == 2) = false := by simp; omega
  have f2 : ((c : Int) != 2) = true := by simp; omega
  clear hc h1 h2
  go_enter Try.func54, Try.ntmps54
  go_wp2_with fail
  go_ret
  exact ⟨rfl, Below.refl _ _⟩
set_option maxHeartbeats 1000000 in
set_option maxRecDepth 100000 in
theorem refStep_2 (c : Nat) (hc : c < 24) (w : World) : Calls Try.prog 54 #[.int .i64 2, .int .i64 c] w (IntB (D.stp 2 c) w) := by
  by_cases h7 : c = 7
  · subst h7
    clear hc
    go_enter Try.func54, Try.ntmps54
    go_wp2_with fail
    go_ret
    exact ⟨rfl, Below.refl _ _⟩
  by_cases h8 : c = 8
  · subst h8
    clear hc
    go_enter Try.func54, Try.ntmps54
    go_wp2_with fail
    go_ret
    exact ⟨rfl, Below.refl _ _⟩
  rw [show D.stp 2 c = -1 from all24 (P := fun c => ¬ c = 7 → ¬ c = 8 → D.stp 2 c = -1) (by decide +kernel) hc h7 h8]
  have g1 : decide ((c : Int) < 0) = false := decide_eq_false (by omega)
  have g2 : decide ((23 : Int) < (c : Int)) = false := decide_eq_false (by omega)
  have e7 : ((c : Int) == 7) = false := by simp; omega
  have f7 : ((c : Int) != 7) = true := by simp; omega
  have e8 : ((c : Int) == 8) = false := by simp; omega
  have f8 : ((c : Int) != 8) = true := by simp; omega
  clear hc h7 h8
  go_enter Try.func54, Try.ntmps54
  go_wp2_with fail
  go_ret
  exact ⟨rfl, Below.refl _ _⟩
set_option maxHeartbeats 1000000 in
set_option maxRecDepth 100000 in
theorem refStep_3 (c : Nat) (hc : c < 24) (w : World) : Calls Try.prog 54 #[.int .i64 3, .int .i64 c] w (IntB (D.stp 3 c) w) := by
  by_cases h2 : c = 2
  · subst h2
    clear hc
    go_enter Try.func54, Try.ntmps54
    go_wp2_with fail
    go_ret
    exact ⟨rfl, Below.refl _ _⟩
  rw [show D.stp 3 c = 3 from all24 (P := fun c => ¬ c = 2 → D.stp 3 c = 3) (by decide +kernel) hc h2]
  have g1 : decide ((c : Int) < 0) = false := decide_eq_false (by omega)
  have g2 : decide ((23 : Int) < (c : Int)) = false := decide_eq_false (by omega)
  have e2 : ((c : Int) == 2) = false := by simp; omega
  have f2 : ((c : Int) != 2) = true := by simp; omega
  clear hc h2
  go_enter Try.func54, Try.ntmps54
  go_wp2_with fail
  go_ret
  exact ⟨rfl, Below.refl _ _⟩
set_option maxHeartbeats 1000000 in
set_option maxRecDepth 100000 in
theorem refStep_4 (c : Nat) (hc : c < 24) (w : World) : Calls Try.prog 54 #[.int .i64 4, .int .i64 c] w (IntB (D.stp 4 c) w) := by
  by_cases h8 : c = 8
  · subst h8
    clear hc
    go_enter Try.func54, Try.ntmps54
    go_wp2_with fail
    go_ret
    exact ⟨rfl, Below.refl _ _⟩
  by_cases h7 : c = 7
  · subst h7
    clear hc
    go_enter Try.func54, Try.ntmps54
    go_wp2_with fail
    go_ret
    exact ⟨rfl, Below.refl _ _⟩
  rw [show D.stp 4 c = 4 from all24 (P := fun c => ¬ c = 8 → ¬ c = 7 → D.stp 4 c = 4) (by decide +kernel) hc h8 h7]
  have g1 : decide ((c : Int) < 0) = false := decide_eq_false (by omega)
  have g2 : decide ((23 : Int) < (c : Int)) = false := decide_eq_false (by omega)
  have e8 : ((c : Int) == 8) = false := by simp; omega
  have f8 : ((c : Int) != 8) = true := by simp; omega
  have e7 : ((c : Int) == 7) = false := by simp; omega
  have f7 : ((c : Int) != 7) = true := by simp; omega
  clear hc h8 h7
  go_enter Try.func54, Try.ntmps54
  go_wp2_with fail
  go_ret
  exact ⟨rfl, Below.refl _ _⟩
end Go.Proofs.Ytglanajglhneeaa

namespace Go.Proofs.Ytglanajglhneeaa
open Go Go.RowKit Go.Lib

set_option maxHeartbeats 1000000 in
set_option maxRecDepth 100000 in
theorem refStep_5 (c : Nat) (hc : c < 24) (w : World) : Calls Try.prog 54 #[.int .i64 5, .int .i64 c] w (IntB (D.stp 5 c) w) := by
  by_cases h8 : c = 8
  · subst h8
    clear hc
    go_enter Try.func54, Try.ntmps54
    go_wp2_with fail
    go_ret
    exact ⟨rfl, Below.refl _ _⟩
  by_cases h7 : c = 7
  · subst h7
    clear hc
    go_enter Try.func54, Try.ntmps54
    go_wp2_with fail
    go_ret
    exact ⟨rfl, Below.refl _ _⟩
  rw [show D.stp 5 c = 4 from all24 (P := fun c => ¬ c = 8 → ¬ c = 7 → D.stp 5 c = 4) (by decide +kernel) hc h8 h7]
  have g1 : decide ((c : Int) < 0) = false := decide_eq_false (by omega)
  have g2 : decide ((23 : Int) < (c : Int)) = false := decide_eq_false (by omega)
  have e8 : ((c : Int) == 8) = false := by simp; omega
  have f8 : ((c : Int) != 8) = true := by simp; omega
  have e7 : ((c : Int) == 7) = false := by simp; omega
  have f7 : ((c : Int) != 7) = true := by simp; omega
  clear hc h8 h7
  go_enter Try.func54, Try.ntmps54
  go_wp2_with fail
  go_ret
  exact ⟨rfl, Below.refl _ _⟩
set_option maxHeartbeats 1000000 in
set_option maxRecDepth 100000 in
theorem refStep_7 (c : Nat) (hc : c < 24) (w : World) : Calls Try.prog 54 #[.int .i64 7, .int .i64 c] w (IntB (D.stp 7 c) w) := by
  by_cases h3 : c = 3
  · subst h3
    clear hc
    go_enter Try.func54, Try.ntmps54
    go_wp2_with fail
    go_ret
    exact ⟨rfl, Below.refl _ _⟩
  by_cases h4 : c = 4
  · subst h4
    clear hc
    go_enter Try.func54, Try.ntmps54
    go_wp2_with fail
    go_ret
    exact ⟨rfl, Below.refl _ _⟩
  rw [show D.stp 7 c = -1 from all24 (P := fun c => ¬ c = 3 → ¬ c = 4 → D.stp 7 c = -1) (by decide +kernel) hc h3 h4]
  have g1 : decide ((c : Int) < 0) = false := decide_eq_false (by omega)
  have g2 : decide ((23 : Int) < (c : Int)) = false := decide_eq_false (by omega)
  have e3 : ((c : Int) == 3) = false := by simp; omega
  have f3 : ((c : Int) != 3) = true := by simp; omega
  have e4 : ((c : Int) == 4) = false := by simp; omega
  have f4 : ((c : Int) != 4) = true := by simp; omega
  clear hc h3 h4
  go_enter Try.func54, Try.ntmps54
  go_wp2_with fail
  go_ret
  exact ⟨rfl, Below.refl _ _⟩
set_option maxHeartbeats 1000000 in
set_option maxRecDepth 100000 in
theorem refStep_8 (c : Nat) (hc : c < 24) (w : World) : Calls Try.prog 54 #[.int .i64 8, .int .i64 c] w (IntB (D.stp 8 c) w) := by
  by_cases h4 : c = 4
  · subst h4
    clear hc
    go_enter Try.func54, Try.ntmps54
    go_wp2_with fail
    go_ret
    exact ⟨rfl, Below.refl _ _⟩
  rw [show D.stp 8 c = -1 from all24 (P := fun c => ¬ c = 4 → D.stp 8 c = -1) (by decide +kernel) hc h4]
  have g1 : decide ((c : Int) < 0) = false := decide_eq_false (by omega)
  have g2 : decide ((23 : Int) < (c : Int)) = false := decide_eq_false (by omega)
  have e4 : ((c : Int) == 4) = false := by simp; omega
  have f4 : ((c : Int) != 4) = true := by simp; omega
  clear hc h4
  go_enter Try.func54, Try.ntmps54
  go_wp2_with fail
  go_ret
  exact ⟨rfl, Below.refl _ _⟩
set_option maxHeartbeats 1000000 in
set_option maxRecDepth 100000 in
theorem refStep_9 (c : Nat) (hc : c < 24) (w : World) : Calls Try.prog 54 #[.int .i64 9, .int .i64 c] w (IntB (D.stp 9 c) w) := by
  by_cases h5 : c = 5
  · subst h5
    clear hc
    go_enter Try.func54, Try.ntmps54
    go_wp2_with fail
    go_ret
    exact ⟨rfl, Below.refl _ _⟩
  by_cases h6 : c = 6
  · subst h6
    clear hc
    go_enter Try.func54, Try.ntmps54
    go_wp2_with fail
    go_ret
    exact ⟨rfl, Below.refl _ _⟩
  by_cases h2 : c = 2
  · subst h2
    clear hc
    go_enter Try.func54, Try.ntmps54
    go_wp2_with fail
    go_ret
    exact ⟨rfl, Below.refl _ _⟩
  rw [show D.stp 9 c = 9 from all24 (P := fun c => ¬ c = 5 → ¬ c = 6 → ¬ c = 2 → D.stp 9 c = 9) (by decide +kernel) hc h5 h6 h2]
  have g1 : decide ((c : Int) < 0) = false := decide_eq_false (by omega)
  have g2 : decide ((23 : Int) < (c : Int)) = false := decide_eq_false (by omega)
  have e5 : ((c : Int) == 5) = false := by simp; omega
  have f5 : ((c : Int) != 5) = true := by simp; omega
  have e6 : ((c : Int) == 6) = false := by simp; omega
  have f6 : ((c : Int) != 6) = true := by simp; omega
  have e2 : ((c : Int) == 2) = false := by simp; omega
  have f2 : ((c : Int) != 2) = true := by simp; omega
  clear hc h5 h6 h2
  go_enter Try.func54, Try.ntmps54
  go_wp2_with fail
  go_ret
  exact ⟨rfl, Below.refl _ _⟩
end Go.Proofs.Ytglanajglhneeaa

namespace Go.Proofs.Ytglanajglhneeaa
open Go Go.RowKit Go.Lib

set_option maxHeartbeats 1000000 in
set_option maxRecDepth 100000 in
theorem refStep_10 (c : Nat) (hc : c < 24) (w : World) : Calls Try.prog 54 #[.int .i64 10, .int .i64 c] w (IntB (D.stp 10 c) w) := by
  by_cases h2 : c = 2
  · subst h2
    clear hc
    go_enter Try.func54, Try.ntmps54
    go_wp2_with fail
    go_ret
    exact ⟨rfl, Below.refl _ _⟩
  rw [show D.stp 10 c = 9 from all24 (P := fun c => ¬ c = 2 → D.stp 10 c = 9) (by decide +kernel) hc h2]
  have g1 : decide ((c : Int) < 0) = false := decide_eq_false (by omega)
  have g2 : decide ((23 : Int) < (c : Int)) = false := decide_eq_false (by omega)
  have e2 : ((c : Int) == 2) = false := by simp; omega
  have f2 : ((c : Int) != 2) = true := by simp; omega
  clear hc h2
  go_enter Try.func54, Try.ntmps54
  go_wp2_with fail
  go_ret
  exact ⟨rfl, Below.refl _ _⟩
set_option maxHeartbeats 1000000 in
set_option maxRecDepth 100000 in
theorem refStep_12 (c : Nat) (hc : c < 24) (w : World) : Calls Try.prog 54 #[.int .i64 12, .int .i64 c] w (IntB (D.stp 12 c) w) := by
  by_cases h9 : c = 9
  · subst h9
    clear hc
    go_enter Try.func54, Try.ntmps54
    go_wp2_with fail
    go_ret
    exact ⟨rfl, Below.refl _ _⟩
  rw [show D.stp 12 c = -1 from all24 (P := fun c => ¬ c = 9 → D.stp 12 c = -1) (by decide +kernel) hc h9]
  have g1 : decide ((c : Int) < 0) = false := decide_eq_false (by omega)
  have g2 : decide ((23 : Int) < (c : Int)) = false := decide_eq_false (by omega)
  have e9 : ((c : Int) == 9) = false := by simp; omega
  have f9 : ((c : Int) != 9) = true := by simp; omega
  clear hc h9
  go_enter Try.func54, Try.ntmps54
  go_wp2_with fail
  go_ret
  exact ⟨rfl, Below.refl _ _⟩
set_option maxHeartbeats 1000000 in
set_option maxRecDepth 100000 in
theorem refStep_14 (c : Nat) (hc : c < 24) (w : World) : Calls Try.prog 54 #[.int .i64 14, .int .i64 c] w (IntB (D.stp 14 c) w) := by
  by_cases h9 : c = 9
  · subst h9
    clear hc
    go_enter Try.func54, Try.ntmps54
    go_wp2_with fail
    go_ret
    exact ⟨rfl, Below.refl _ _⟩
  rw [show D.stp 14 c = -1 from all24 (P := fun c => ¬ c = 9 → D.stp 14 c = -1) (by decide +kernel) hc h9]
  have g1 : decide ((c : Int) < 0) = false := decide_eq_false (by omega)
  have g2 : decide ((23 : Int) < (c : Int)) = false := decide_eq_false (by omega)
  have e9 : ((c : Int) == 9) = false := by simp; omega
  have f9 : ((c : Int) != 9) = true := by simp; omega
  clear hc h9
  go_enter Try.func54, Try.ntmps54
  go_wp2_with fail
  go_ret
  exact ⟨rfl, Below.refl _ _⟩
set_option maxHeartbeats 1000000 in
set_option maxRecDepth 100000 in
theorem refStep_16 (c : Nat) (hc : c < 24) (w : World) : Calls Try.prog 54 #[.int .i64 16, .int .i64 c] w (IntB (D.stp 16 c) w) := by
  by_cases h9 : c = 9
  · subst h9
    clear hc
    go_enter Try.func54, Try.ntmps54
    go_wp2_with fail
    go_ret
    exact ⟨rfl, Below.refl _ _⟩
  rw [show D.stp 16 c = -1 from all24 (P := fun c => ¬ c = 9 → D.stp 16 c = -1) (by decide +kernel) hc h9]
  have g1 : decide ((c : Int) < 0) = false := decide_eq_false (by omega)
  have g2 : decide ((23 : Int) < (c : Int)) = false := decide_eq_false (by omega)
  have e9 : ((c : Int) == 9) = false := by simp; omega
  have f9 : ((c : Int) != 9) = true := by simp; omega
  clear hc h9
  go_enter Try.func54, Try.ntmps54
  go_wp2_with fail
  go_ret
  exact ⟨rfl, Below.refl _ _⟩
end Go.Proofs.Ytglanajglhneeaa

namespace Go.Proofs.Ytglanajglhneeaa
open Go Go.RowKit Go.Lib

set_option maxHeartbeats 1000000 in
set_option maxRecDepth 100000 in
theorem refStep_18 (c : Nat) (hc : c < 24) (w : World) : Calls Try.prog 54 #[.int .i64 18, .int .i64 c] w (IntB (D.stp 18 c) w) := by
  by_cases h9 : c = 9
  · subst h9
    clear hc
    go_enter Try.func54, Try.ntmps54
    go_wp2_with fail
    go_ret
    exact ⟨rfl, Below.refl _ _⟩
  rw [show D.stp 18 c = -1 from all24 (P := fun c => ¬ c = 9 → D.stp 18 c = -1) (by decide +kernel) hc h9]
  have g1 : decide ((c : Int) < 0) = false := decide_eq_false (by omega)
  have g2 : decide ((23 : Int) < (c : Int)) = false := decide_eq_false (by omega)
  have e9 : ((c : Int) == 9) = false := by simp; omega
  have f9 : ((c : Int) != 9) = true := by simp; omega
  clear hc h9
  go_enter Try.func54, Try.ntmps54
  go_wp2_with fail
  go_ret
  exact ⟨rfl, Below.refl _ _⟩
set_option maxHeartbeats 1000000 in
set_option maxRecDepth 100000 in
theorem refStep_20 (c : Nat) (hc : c < 24) (w : World) : Calls Try.prog 54 #[.int .i64 20, .int .i64 c] w (IntB (D.stp 20 c) w) := by
  by_cases h13 : c = 13
  · subst h13
    clear hc
    go_enter Try.func54, Try.ntmps54
    go_wp2_with fail
    go_ret
    exact ⟨rfl, Below.refl _ _⟩
  rw [show D.stp 20 c = -1 from all24 (P := fun c => ¬ c = 13 → D.stp 20 c = -1) (by decide +kernel) hc h13]
  have g1 : decide ((c : Int) < 0) = false := decide_eq_false (by omega)
  have g2 : decide ((23 : Int) < (c : Int)) = false := decide_eq_false (by omega)
  have e13 : ((c : Int) == 13) = false := by simp; omega
  have f13 : ((c : Int) != 13) = true := by simp; omega
  clear hc h13
  go_enter Try.func54, Try.ntmps54
  go_wp2_with fail
  go_ret
  exact ⟨rfl, Below.refl _ _⟩
set_option maxHeartbeats 1000000 in
set_option maxRecDepth 100000 in
theorem refStep_22 (c : Nat) (hc : c < 24) (w : World) : Calls Try.prog 54 #[.int .i64 22, .int .i64 c] w (IntB (D.stp 22 c) w) := by
  by_cases h14 : c = 14
  · subst h14
    clear hc
    go_enter Try.func54, Try.ntmps54
    go_wp2_with fail
    go_ret
    exact ⟨rfl, Below.refl _ _⟩
  rw [show D.stp 22 c = -1 from all24 (P := fun c => ¬ c = 14 → D.stp 22 c = -1) (by decide +kernel) hc h14]
  have g1 : decide ((c : Int) < 0) = false := decide_eq_false (by omega)
  have g2 : decide ((23 : Int) < (c : Int)) = false := decide_eq_false (by omega)
  have e14 : ((c : Int) == 14) = false := by simp; omega
  have f14 : ((c : Int) != 14) = true := by simp; omega
  clear hc h14
  go_enter Try.func54, Try.ntmps54
  go_wp2_with fail
  go_ret
  exact ⟨rfl, Below.refl _ _⟩
end Go.Proofs.Ytglanajglhneeaa
