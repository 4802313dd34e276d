/- The scanner's steps, the program's own: where a state leads, state by state. Conditions: a state, a class of the table. -/
import Derived.Test.YteccfoiegjhppaaDfLeadsA
namespace Go.Proofs.Yteccfoiegjhppaa
open Go Go.RowKit Go.Lib

set_option maxHeartbeats 1000000 in
set_option maxRecDepth 100000 in
theorem leads_18 (c : Nat) (hc : c < 24) (w : World) : Calls Try.prog 20 #[.int .i64 18, .int .i64 c] w (IntB (D.stp 18 c) w) := by
  have HO := Lib.hid (fun W => only_any true 19 W)
  have HN := Lib.hid (fun W => only_any false 19 W)
  by_cases h1 : c = 9
  · subst h1
    clear hc
    go_enter Try.func20, Try.ntmps20
    go_wp2_with fail
    refine ((HO).out _).mono ?_
    rintro e w' ⟨rfl, hb⟩
    go_wp2_with fail
    go_ret
    exact ⟨rfl, hb⟩
  have e1 : ((c : Int) == 9) = false := by simp; omega
  rw [show D.stp 18 c = -1 from all24 (P := fun c => ¬ c = 9 → D.stp 18 c = -1) (by decide +kernel) hc h1]
  clear h1 hc
  go_enter Try.func20, Try.ntmps20
  go_wp2_with fail
  refine ((HN).out _).mono ?_
  rintro e w' ⟨rfl, hb⟩
  go_wp2_with fail
  go_ret
  exact ⟨rfl, hb⟩
set_option maxHeartbeats 1000000 in
set_option maxRecDepth 100000 in
theorem leads_20 (c : Nat) (hc : c < 24) (w : World) : Calls Try.prog 20 #[.int .i64 20, .int .i64 c] w (IntB (D.stp 20 c) w) := by
  have HO := Lib.hid (fun W => only_any true 21 W)
  have HN := Lib.hid (fun W => only_any false 21 W)
  by_cases h1 : c = 13
  · subst h1
    clear hc
    go_enter Try.func20, Try.ntmps20
    go_wp2_with fail
    refine ((HO).out _).mono ?_
    rintro e w' ⟨rfl, hb⟩
    go_wp2_with fail
    go_ret
    exact ⟨rfl, hb⟩
  have e1 : ((c : Int) == 13) = false := by simp; omega
  rw [show D.stp 20 c = -1 from all24 (P := fun c => ¬ c = 13 → D.stp 20 c = -1) (by decide +kernel) hc h1]
  clear h1 hc
  go_enter Try.func20, Try.ntmps20
  go_wp2_with fail
  refine ((HN).out _).mono ?_
  rintro e w' ⟨rfl, hb⟩
  go_wp2_with fail
  go_ret
  exact ⟨rfl, hb⟩
set_option maxHeartbeats 1000000 in
set_option maxRecDepth 100000 in
theorem leads_22 (c : Nat) (hc : c < 24) (w : World) : Calls Try.prog 20 #[.int .i64 22, .int .i64 c] w (IntB (D.stp 22 c) w) := by
  have HO := Lib.hid (fun W => only_any true 23 W)
  have HN := Lib.hid (fun W => only_any false 23 W)
  by_cases h1 : c = 14
  · subst h1
    clear hc
    go_enter Try.func20, Try.ntmps20
    go_wp2_with fail
    refine ((HO).out _).mono ?_
    rintro e w' ⟨rfl, hb⟩
    go_wp2_with fail
    go_ret
    exact ⟨rfl, hb⟩
  have e1 : ((c : Int) == 14) = false := by simp; omega
  rw [show D.stp 22 c = -1 from all24 (P := fun c => ¬ c = 14 → D.stp 22 c = -1) (by decide +kernel) hc h1]
  clear h1 hc
  go_enter Try.func20, Try.ntmps20
  go_wp2_with fail
  refine ((HN).out _).mono ?_
  rintro e w' ⟨rfl, hb⟩
  go_wp2_with fail
  go_ret
  exact ⟨rfl, hb⟩
end Go.Proofs.Yteccfoiegjhppaa
