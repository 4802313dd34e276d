/- The scanner's steps, the program's own: where a state leads, state by state. Conditions: a state, a class of the table. -/
import Derived.Test.YteccfoiegjhppaaDfLeadsA
namespace Go.Proofs.Yteccfoiegjhppaa
open Go Go.RowKit Go.Lib

set_option maxHeartbeats 1000000 in
set_option maxRecDepth 100000 in
theorem leads_10 (c : Nat) (hc : c < 24) (w : World) : Calls Try.prog 20 #[.int .i64 10, .int .i64 c] w (IntB (D.stp 10 c) w) := by
  have HO := Lib.hid (fun W => only_any true 9 W)
  have HN := Lib.hid (fun W => only_any false 9 W)
  by_cases h1 : c = 2
  · subst h1
    clear hc
    go_enter Try.func20, Try.ntmps20
    go_wp2_with fail
    refine ((HN).out _).mono ?_
    rintro e w' ⟨rfl, hb⟩
    go_wp2_with fail
    go_ret
    exact ⟨rfl, hb⟩
  have e1 : ((c : Int) != 2) = true := by simp; omega
  rw [show D.stp 10 c = 9 from all24 (P := fun c => ¬ c = 2 → D.stp 10 c = 9) (by decide +kernel) hc h1]
  clear h1 hc
  go_enter Try.func20, Try.ntmps20
  go_wp2_with fail
  refine ((HO).out _).mono ?_
  rintro e w' ⟨rfl, hb⟩
  go_wp2_with fail
  go_ret
  exact ⟨rfl, hb⟩
set_option maxHeartbeats 1000000 in
set_option maxRecDepth 100000 in
theorem leads_12 (c : Nat) (hc : c < 24) (w : World) : Calls Try.prog 20 #[.int .i64 12, .int .i64 c] w (IntB (D.stp 12 c) w) := by
  have HO := Lib.hid (fun W => only_any true 13 W)
  have HN := Lib.hid (fun W => only_any false 13 W)
  by_cases h1 : c = 9
  · subst h1
    clear hc
    go_enter Try.func20, Try.ntmps20
    go_wp2_with fail
    refine ((HO).out _).mono ?_
    rintro e w' ⟨rfl, hb⟩
    go_wp2_with fail
    go_ret
    exact ⟨rfl, hb⟩
  have e1 : ((c : Int) == 9) = false := by simp; omega
  rw [show D.stp 12 c = -1 from all24 (P := fun c => ¬ c = 9 → D.stp 12 c = -1) (by decide +kernel) hc h1]
  clear h1 hc
  go_enter Try.func20, Try.ntmps20
  go_wp2_with fail
  refine ((HN).out _).mono ?_
  rintro e w' ⟨rfl, hb⟩
  go_wp2_with fail
  go_ret
  exact ⟨rfl, hb⟩
set_option maxHeartbeats 1000000 in
set_option maxRecDepth 100000 in
theorem leads_14 (c : Nat) (hc : c < 24) (w : World) : Calls Try.prog 20 #[.int .i64 14, .int .i64 c] w (IntB (D.stp 14 c) w) := by
  have HO := Lib.hid (fun W => only_any true 15 W)
  have HN := Lib.hid (fun W => only_any false 15 W)
  by_cases h1 : c = 9
  · subst h1
    clear hc
    go_enter Try.func20, Try.ntmps20
    go_wp2_with fail
    refine ((HO).out _).mono ?_
    rintro e w' ⟨rfl, hb⟩
    go_wp2_with fail
    go_ret
    exact ⟨rfl, hb⟩
  have e1 : ((c : Int) == 9) = false := by simp; omega
  rw [show D.stp 14 c = -1 from all24 (P := fun c => ¬ c = 9 → D.stp 14 c = -1) (by decide +kernel) hc h1]
  clear h1 hc
  go_enter Try.func20, Try.ntmps20
  go_wp2_with fail
  refine ((HN).out _).mono ?_
  rintro e w' ⟨rfl, hb⟩
  go_wp2_with fail
  go_ret
  exact ⟨rfl, hb⟩
set_option maxHeartbeats 1000000 in
set_option maxRecDepth 100000 in
theorem leads_16 (c : Nat) (hc : c < 24) (w : World) : Calls Try.prog 20 #[.int .i64 16, .int .i64 c] w (IntB (D.stp 16 c) w) := by
  have HO := Lib.hid (fun W => only_any true 17 W)
  have HN := Lib.hid (fun W => only_any false 17 W)
  by_cases h1 : c = 9
  · subst h1
    clear hc
    go_enter Try.func20, Try.ntmps20
    go_wp2_with fail
    refine ((HO).out _).mono ?_
    rintro e w' ⟨rfl, hb⟩
    go_wp2_with fail
    go_ret
    exact ⟨rfl, hb⟩
  have e1 : ((c : Int) == 9) = false := by simp; omega
  rw [show D.stp 16 c = -1 from all24 (P := fun c => ¬ c = 9 → D.stp 16 c = -1) (by decide +kernel) hc h1]
  clear h1 hc
  go_enter Try.func20, Try.ntmps20
  go_wp2_with fail
  refine ((HN).out _).mono ?_
  rintro e w' ⟨rfl, hb⟩
  go_wp2_with fail
  go_ret
  exact ⟨rfl, hb⟩
end Go.Proofs.Yteccfoiegjhppaa
