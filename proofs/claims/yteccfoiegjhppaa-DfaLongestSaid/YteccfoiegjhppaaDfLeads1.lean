/- The scanner's steps, the program's own: where a state leads, state by state. Conditions: a state, a class of the table. -/
import Derived.Test.YteccfoiegjhppaaDfLeadsA
namespace Go.Proofs.Yteccfoiegjhppaa
open Go Go.RowKit Go.Lib

set_option maxHeartbeats 1000000 in
set_option maxRecDepth 100000 in
theorem leads_0 (c : Nat) (hc : c < 24) (w : World) : Calls Try.prog 20 #[.int .i64 0, .int .i64 c] w (IntB (D.stp 0 c) w) := by
  have HO := Lib.hid (fun W => first_any c hc W)
  clear hc
  generalize D.stp 0 c = x at *
  go_enter Try.func20, Try.ntmps20
  go_wp2_with fail
  refine (HO.out _).mono ?_
  rintro e w' ⟨rfl, hb⟩
  go_wp2_with fail
  go_ret
  exact ⟨rfl, hb⟩
set_option maxHeartbeats 1000000 in
set_option maxRecDepth 100000 in
theorem leads_1 (c : Nat) (hc : c < 24) (w : World) : Calls Try.prog 20 #[.int .i64 1, .int .i64 c] w (IntB (D.stp 1 c) w) := by
  have HO := Lib.hid (fun W => only_any true 1 W)
  have HN := Lib.hid (fun W => only_any false 1 W)
  by_cases h1 : c = 1
  · subst h1
    clear hc
    go_enter Try.func20, Try.ntmps20
    go_wp2_with fail
    refine (HO.out _).mono ?_
    rintro e w' ⟨rfl, hb⟩
    go_wp2_with fail
    go_ret
    exact ⟨rfl, hb⟩
  by_cases h2 : c = 2
  · subst h2
    clear hc
    go_enter Try.func20, Try.ntmps20
    go_wp2_with fail
    refine (HO.out _).mono ?_
    rintro e w' ⟨rfl, hb⟩
    go_wp2_with fail
    go_ret
    exact ⟨rfl, hb⟩
  have e1 : ((c : Int) == 1) = false := by simp; omega
  have e2 : ((c : Int) == 2) = false := by simp; omega
  rw [show D.stp 1 c = -1 from all24 (P := fun c => ¬ c = 1 → ¬ c = 2 → D.stp 1 c = -1) (by decide +kernel) hc h1 h2]
  clear h1 h2 hc
  go_enter Try.func20, Try.ntmps20
  go_wp2_with fail
  refine (HN.out _).mono ?_
  rintro e w' ⟨rfl, hb⟩
  go_wp2_with fail
  go_ret
  exact ⟨rfl, hb⟩
set_option maxHeartbeats 1000000 in
set_option maxRecDepth 100000 in
theorem leads_2 (c : Nat) (hc : c < 24) (w : World) : Calls Try.prog 20 #[.int .i64 2, .int .i64 c] w (IntB (D.stp 2 c) w) := by
  have HE := all24 (P := fun c => (if c = 7 then 3 else if c = 8 then 4 else -1) = D.stp 2 c) (by decide +kernel) hc
  have HO := Lib.hid (fun W => by have := behindSlash_any c W; rw [HE] at this; exact this)
  clear hc HE
  generalize D.stp 2 c = x at *
  go_enter Try.func20, Try.ntmps20
  go_wp2_with fail
  refine (HO.out _).mono ?_
  rintro e w' ⟨rfl, hb⟩
  go_wp2_with fail
  go_ret
  exact ⟨rfl, hb⟩
set_option maxHeartbeats 1000000 in
set_option maxRecDepth 100000 in
theorem leads_3 (c : Nat) (hc : c < 24) (w : World) : Calls Try.prog 20 #[.int .i64 3, .int .i64 c] w (IntB (D.stp 3 c) w) := by
  have HO := Lib.hid (fun W => only_any true 3 W)
  have HN := Lib.hid (fun W => only_any false 3 W)
  by_cases h1 : c = 2
  · subst h1
    clear hc
    go_enter Try.func20, Try.ntmps20
    go_wp2_with fail
    refine ((HN).out _).mono ?_
    rintro e w' ⟨rfl, hb⟩
    go_wp2_with fail
    go_ret
    exact ⟨rfl, hb⟩
  have e1 : ((c : Int) != 2) = true := by simp; omega
  rw [show D.stp 3 c = 3 from all24 (P := fun c => ¬ c = 2 → D.stp 3 c = 3) (by decide +kernel) hc h1]
  clear h1 hc
  go_enter Try.func20, Try.ntmps20
  go_wp2_with fail
  refine ((HO).out _).mono ?_
  rintro e w' ⟨rfl, hb⟩
  go_wp2_with fail
  go_ret
  exact ⟨rfl, hb⟩
set_option maxHeartbeats 1000000 in
set_option maxRecDepth 100000 in
theorem leads_4 (c : Nat) (hc : c < 24) (w : World) : Calls Try.prog 20 #[.int .i64 4, .int .i64 c] w (IntB (D.stp 4 c) w) := by
  have HE := all24 (P := fun c => (if c = 8 then 5 else if c = 7 ∧ 4 = 5 then 6 else 4) = D.stp 4 c) (by decide +kernel) hc
  have HO := Lib.hid (fun W => by have := inComment_any c 4 W; rw [HE] at this; exact this)
  clear hc HE
  generalize D.stp 4 c = x at *
  go_enter Try.func20, Try.ntmps20
  go_wp2_with fail
  refine (HO.out _).mono ?_
  rintro e w' ⟨rfl, hb⟩
  go_wp2_with fail
  go_ret
  exact ⟨rfl, hb⟩
end Go.Proofs.Yteccfoiegjhppaa
