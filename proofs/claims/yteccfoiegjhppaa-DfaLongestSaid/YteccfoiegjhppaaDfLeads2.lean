/- The scanner's steps, the program's own: where a state leads, state by state. Conditions: a state, a class of the table. -/
import Derived.Test.YteccfoiegjhppaaDfLeadsA
namespace Go.Proofs.Yteccfoiegjhppaa
open Go Go.RowKit Go.Lib

set_option maxHeartbeats 1000000 in
set_option maxRecDepth 100000 in
theorem leads_5 (c : Nat) (hc : c < 24) (w : World) : Calls Try.prog 20 #[.int .i64 5, .int .i64 c] w (IntB (D.stp 5 c) w) := by
  have HE := all24 (P := fun c => (if c = 8 then 5 else if c = 7 ∧ 5 = 5 then 6 else 4) = D.stp 5 c) (by decide +kernel) hc
  have HO := Lib.hid (fun W => by have := inComment_any c 5 W; rw [HE] at this; exact this)
  clear hc HE
  generalize D.stp 5 c = x at *
  go_enter Try.func20, Try.ntmps20
  go_wp2_with fail
  refine (HO.out _).mono ?_
  rintro e w' ⟨rfl, hb⟩
  go_wp2_with fail
  go_ret
  exact ⟨rfl, hb⟩
set_option maxHeartbeats 1000000 in
set_option maxRecDepth 100000 in
theorem leads_7 (c : Nat) (hc : c < 24) (w : World) : Calls Try.prog 20 #[.int .i64 7, .int .i64 c] w (IntB (D.stp 7 c) w) := by
  have HO := Lib.hid (fun W => only_any true 7 W)
  have HN := Lib.hid (fun W => only_any false 7 W)
  by_cases h1 : c = 3
  · subst h1
    clear hc
    go_enter Try.func20, Try.ntmps20
    go_wp2_with fail
    refine (HO.out _).mono ?_
    rintro e w' ⟨rfl, hb⟩
    go_wp2_with fail
    go_ret
    exact ⟨rfl, hb⟩
  by_cases h2 : c = 4
  · subst h2
    clear hc
    go_enter Try.func20, Try.ntmps20
    go_wp2_with fail
    refine (HO.out _).mono ?_
    rintro e w' ⟨rfl, hb⟩
    go_wp2_with fail
    go_ret
    exact ⟨rfl, hb⟩
  have e1 : ((c : Int) == 3) = false := by simp; omega
  have e2 : ((c : Int) == 4) = false := by simp; omega
  rw [show D.stp 7 c = -1 from all24 (P := fun c => ¬ c = 3 → ¬ c = 4 → D.stp 7 c = -1) (by decide +kernel) hc h1 h2]
  clear h1 h2 hc
  go_enter Try.func20, Try.ntmps20
  go_wp2_with fail
  refine (HN.out _).mono ?_
  rintro e w' ⟨rfl, hb⟩
  go_wp2_with fail
  go_ret
  exact ⟨rfl, hb⟩
set_option maxHeartbeats 1000000 in
set_option maxRecDepth 100000 in
theorem leads_8 (c : Nat) (hc : c < 24) (w : World) : Calls Try.prog 20 #[.int .i64 8, .int .i64 c] w (IntB (D.stp 8 c) w) := by
  have HO := Lib.hid (fun W => only_any true 8 W)
  have HN := Lib.hid (fun W => only_any false 8 W)
  by_cases h1 : c = 4
  · subst h1
    clear hc
    go_enter Try.func20, Try.ntmps20
    go_wp2_with fail
    refine ((HO).out _).mono ?_
    rintro e w' ⟨rfl, hb⟩
    go_wp2_with fail
    go_ret
    exact ⟨rfl, hb⟩
  have e1 : ((c : Int) == 4) = false := by simp; omega
  rw [show D.stp 8 c = -1 from all24 (P := fun c => ¬ c = 4 → D.stp 8 c = -1) (by decide +kernel) hc h1]
  clear h1 hc
  go_enter Try.func20, Try.ntmps20
  go_wp2_with fail
  refine ((HN).out _).mono ?_
  rintro e w' ⟨rfl, hb⟩
  go_wp2_with fail
  go_ret
  exact ⟨rfl, hb⟩
set_option maxHeartbeats 1000000 in
set_option maxRecDepth 100000 in
theorem leads_9 (c : Nat) (hc : c < 24) (w : World) : Calls Try.prog 20 #[.int .i64 9, .int .i64 c] w (IntB (D.stp 9 c) w) := by
  have HE := all24 (P := fun c => (if c = 5 then 11 else if c = 6 then 10 else if c = 2 then -1 else 9) = D.stp 9 c) (by decide +kernel) hc
  have HO := Lib.hid (fun W => by have := inText_any c W; rw [HE] at this; exact this)
  clear hc HE
  generalize D.stp 9 c = x at *
  go_enter Try.func20, Try.ntmps20
  go_wp2_with fail
  refine (HO.out _).mono ?_
  rintro e w' ⟨rfl, hb⟩
  go_wp2_with fail
  go_ret
  exact ⟨rfl, hb⟩
end Go.Proofs.Yteccfoiegjhppaa
