/- The scanner's table, the document's. Conditions: a state, a class of the table. -/
import Derived.Test.YthglpfmbmmlbjaaDfLeadsA
namespace Go.Proofs.Ythglpfmbmmlbjaa
open Go Go.RowKit Go.Lib

set_option maxHeartbeats 1000000 in
set_option maxRecDepth 100000 in
theorem refStep_0 (c : Nat) (hc : c < 24) (w : World) : Calls Try.prog 23 #[.int .i64 0, .int .i64 c] w (IntB (D.stp 0 c) w) := by
  have i1 : (0 : Int) ≤ (c : Int) := Int.natCast_nonneg c
  have i2 : (c : Int) < 24 := by omega
  have i3 : c < 24 := hc
  have g1 : decide ((c : Int) < 0) = false := decide_eq_false (by omega)
  have g2 : decide ((23 : Int) < (c : Int)) = false := decide_eq_false (by omega)
  have HC := Lib.hid (int_at .i64 zs0 c _ (zs0_at hc))
  clear hc
  go_enter Try.func23, Try.ntmps23
  go_upto_region 6 with (refine wpList_buildFlat rfl 54 3 24 _ rfl .i64 zs0 (by kernel_rfl) (by kernel_rfl) (by kernel_rfl) (by kernel_rfl) (by decide) (by decide) (by kernel_rfl) ?_)
  generalize hW : w.alloc _ = W0
  have c1 : W0.cell? ⟨w.heap.size, c, none⟩ = some (.int .i64 (D.stp 0 c)) := by
    rw [← hW, Lib.cell_of_heap (heap_alloc_new w _)]
    exact HC.out
  have HB := Lib.hid (show Below w.heap.size w W0 by rw [← hW]; exact (Below.refl w.heap.size w).alloc (Nat.le_refl _) _)
  clear hW
  go_wp2_with fail
  go_ret
  exact ⟨rfl, HB.out⟩
set_option maxHeartbeats 1000000 in
set_option maxRecDepth 100000 in
theorem refStep_1 (c : Nat) (hc : c < 24) (w : World) : Calls Try.prog 23 #[.int .i64 1, .int .i64 c] w (IntB (D.stp 1 c) w) := by
  by_cases h1 : c = 1
  · subst h1
    clear hc
    go_enter Try.func23, Try.ntmps23
    go_wp2_with fail
    go_ret
    exact ⟨rfl, Below.refl _ _⟩
  by_cases h2 : c = 2
  · subst h2
    clear hc
    go_enter Try.func23, Try.ntmps23
    go_wp2_with fail
    go_ret
    exact ⟨rfl, Below.refl _ _⟩
  rw [show D.stp 1 c = -1 from all24 (P := fun c => ¬ c = 1 → ¬ c = 2 → D.stp 1 c = -1) (by decide +kernel) hc h1 h2]
  have g1 : decide ((c : Int) < 0) = false := decide_eq_false (by omega)
  have g2 : decide ((23 : Int) < (c : Int)) = false := decide_eq_false (by omega)
  have e1 : ((c : Int) == 1) = false := by simp; omega
  have f1 : ((c : Int) != 1) = true := by simp; omega
  have e2 : ((c : Int) == 2) = false := by simp; omega
  have f2 : ((c : Int) != 2) = true := by simp; omega
  clear hc h1 h2
  go_enter Try.func23, Try.ntmps23
  go_wp2_with fail
  go_ret
  exact ⟨rfl, Below.refl _ _⟩
set_option maxHeartbeats 1000000 in
set_option maxRecDepth 100000 in
theorem refStep_2 (c : Nat) (hc : c < 24) (w : World) : Calls Try.prog 23 #[.int .i64 2, .int .i64 c] w (IntB (D.stp 2 c) w) := by
  by_cases h7 : c = 7
  · subst h7
    clear hc
    go_enter Try.func23, Try.ntmps23
    go_wp2_with fail
    go_ret
    exact ⟨rfl, Below.refl _ _⟩
  by_cases h8 : c = 8
  · subst h8
    clear hc
    go_enter Try.func23, Try.ntmps23
    go_wp2_with fail
    go_ret
    exact ⟨rfl, Below.refl _ _⟩
  rw [show D.stp 2 c = -1 from all24 (P := fun c => ¬ c = 7 → ¬ c = 8 → D.stp 2 c = -1) (by decide +kernel) hc h7 h8]
  have g1 : decide ((c : Int) < 0) = false := decide_eq_false (by omega)
  have g2 : decide ((23 : Int) < (c : Int)) = false := decide_eq_false (by omega)
  have e7 : ((c : Int) == 7) = false := by simp; omega
  have f7 : ((c : Int) != 7) = true := by simp; omega
  have e8 : ((c : Int) == 8) = false := by simp; omega
  have f8 : ((c : Int) != 8) = true := by simp; omega
  clear hc h7 h8
  go_enter Try.func23, Try.ntmps23
  go_wp2_with fail
  go_ret
  exact ⟨rfl, Below.refl _ _⟩
set_option maxHeartbeats 1000000 in
set_option maxRecDepth 100000 in
theorem refStep_3 (c : Nat) (hc : c < 24) (w : World) : Calls Try.prog 23 #[.int .i64 3, .int .i64 c] w (IntB (D.stp 3 c) w) := by
  by_cases h2 : c = 2
  · subst h2
    clear hc
    go_enter Try.func23, Try.ntmps23
    go_wp2_with fail
    go_ret
    exact ⟨rfl, Below.refl _ _⟩
  rw [show D.stp 3 c = 3 from all24 (P := fun c => ¬ c = 2 → D.stp 3 c = 3) (by decide +kernel) hc h2]
  have g1 : decide ((c : Int) < 0) = false := decide_eq_false (by omega)
  have g2 : decide ((23 : Int) < (c : Int)) = false := decide_eq_false (by omega)
  have e2 : ((c : Int) == 2) = false := by simp; omega
  have f2 : ((c : Int) != 2) = true := by simp; omega
  clear hc h2
  go_enter Try.func23, Try.ntmps23
  go_wp2_with fail
  go_ret
  exact ⟨rfl, Below.refl _ _⟩
set_option maxHeartbeats 1000000 in
set_option maxRecDepth 100000 in
theorem refStep_4 (c : Nat) (hc : c < 24) (w : World) : Calls Try.prog 23 #[.int .i64 4, .int .i64 c] w (IntB (D.stp 4 c) w) := by
  by_cases h8 : c = 8
  · subst h8
    clear hc
    go_enter Try.func23, Try.ntmps23
    go_wp2_with fail
    go_ret
    exact ⟨rfl, Below.refl _ _⟩
  by_cases h7 : c = 7
  · subst h7
    clear hc
    go_enter Try.func23, Try.ntmps23
    go_wp2_with fail
    go_ret
    exact ⟨rfl, Below.refl _ _⟩
  rw [show D.stp 4 c = 4 from all24 (P := fun c => ¬ c = 8 → ¬ c = 7 → D.stp 4 c = 4) (by decide +kernel) hc h8 h7]
  have g1 : decide ((c : Int) < 0) = false := decide_eq_false (by omega)
  have g2 : decide ((23 : Int) < (c : Int)) = false := decide_eq_false (by omega)
  have e8 : ((c : Int) == 8) = false := by simp; omega
  have f8 : ((c : Int) != 8) = true := by simp; omega
  have e7 : ((c : Int) == 7) = false := by simp; omega
  have f7 : ((c : Int) != 7) = true := by simp; omega
  clear hc h8 h7
  go_enter Try.func23, Try.ntmps23
  go_wp2_with fail
  go_ret
  exact ⟨rfl, Below.refl _ _⟩
end Go.Proofs.Ythglpfmbmmlbjaa
