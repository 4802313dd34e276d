/- A character's class, the program's own. Conditions: such runes as a string has. -/
import Derived.Test.YteccfoiegjhppaaDfRune
namespace Go.Proofs
open Go Go.RowKit Go.Lib
namespace Yteccfoiegjhppaa
def Sp (x : Nat) : Prop := x = 32 ∨ x = 9 ∨ x = 10 ∨ x = 13 ∨ (97 ≤ x ∧ x ≤ 122) ∨ (65 ≤ x ∧ x ≤ 90) ∨ x = 95 ∨ (48 ≤ x ∧ x ≤ 57)
instance (x : Nat) : Decidable (Sp x) := by unfold Sp; infer_instance
def sgx (x : Nat) : Int := Lib.indexByte (⟨#[34, 92, 47, 42, 61, 33, 60, 62, 38, 124, 40, 41, 123, 125, 44, 59, 43, 45, 37]⟩ : ByteArray).data.toList x.toUInt8
theorem sign_any (x : Nat) (hx : x ≤ 1114111) (hs : ¬ Sp x) : ∃ n : Int, (∀ W, Calls Try.prog 19 #[.string ⟨#[34, 92, 47, 42, 61, 33, 60, 62, 38, 124, 40, 41, 123, 125, 44, 59, 43, 45, 37]⟩, .int .i32 x] W (IntB n W)) ∧ ((n = -1 ∧ D.cls x = 0) ∨ (0 ≤ n ∧ n ≤ 18 ∧ (D.cls x : Int) = 5 + n)) := by
  by_cases h : x < 128
  · refine ⟨sgx x, fun W => ?_, ?_⟩
    · have := Any.strings_IndexRune_ascii Try.laysIndexRune ⟨#[34, 92, 47, 42, 61, 33, 60, 62, 38, 124, 40, 41, 123, 125, 44, 59, 43, 45, 37]⟩ (x : Int) W (by omega) (by omega)
      exact this.mono fun e w' he => by obtain ⟨rfl, rfl⟩ := he; exact ⟨rfl, Below.refl _ _⟩
    · have : ∀ x : Fin 128, ¬ Sp x.1 → ((sgx x.1 = -1 ∧ D.cls x.1 = 0) ∨ (0 ≤ sgx x.1 ∧ sgx x.1 ≤ 18 ∧ (D.cls x.1 : Int) = 5 + sgx x.1)) := by decide +kernel
      exact this ⟨x, h⟩ hs
  · exact ⟨-1, fun W => idxSign_hi x (by omega) hx W, Or.inl ⟨rfl, D.cls_hi (by omega)⟩⟩
set_option maxHeartbeats 1000000 in
set_option maxRecDepth 100000 in
theorem class_one (x : Nat) (h : x = 32 ∨ x = 9 ∨ x = 10 ∨ x = 13 ∨ x = 95) (w : World) : Calls Try.prog 7 #[.int .i32 x] w (IntB (D.cls x) w) := by
  rcases h with rfl | rfl | rfl | rfl | rfl
  all_goals
    go_enter Try.func7, Try.ntmps7
    go_wp2_with fail
    go_ret
    exact ⟨rfl, Below.refl _ _⟩
set_option maxHeartbeats 1000000 in
set_option maxRecDepth 100000 in
theorem class_low (x : Nat) (h1 : 97 ≤ x) (h2 : x ≤ 122) (w : World) : Calls Try.prog 7 #[.int .i32 x] w (IntB (D.cls x) w) := by
  have hc : D.cls x = 3 := by unfold D.cls; repeat (first | rw [if_pos (by omega)] | rw [if_neg (by omega)])
  rw [hc]
  have e0 : ((x : Int) == 32) = false := by simp; omega
  have e1 : ((x : Int) == 9) = false := by simp; omega
  have e2 : ((x : Int) == 10) = false := by simp; omega
  have e3 : ((x : Int) == 13) = false := by simp; omega
  have e4 : decide ((97 : Int) ≤ (x : Int)) = true := decide_eq_true (by omega)
  have e5 : decide ((x : Int) ≤ 122) = true := decide_eq_true (by omega)
  have e6 : decide ((65 : Int) ≤ (x : Int)) = true := decide_eq_true (by omega)
  have e7 : decide ((x : Int) ≤ 90) = false := decide_eq_false (by omega)
  have e8 : ((x : Int) == 95) = false := by simp; omega
  have e9 : decide ((48 : Int) ≤ (x : Int)) = true := decide_eq_true (by omega)
  have e10 : decide ((x : Int) ≤ 57) = false := decide_eq_false (by omega)
  clear h1 h2 hc
  go_enter Try.func7, Try.ntmps7
  go_wp2_with fail
  go_ret
  exact ⟨rfl, Below.refl _ _⟩
set_option maxHeartbeats 1000000 in
set_option maxRecDepth 100000 in
theorem class_up (x : Nat) (h1 : 65 ≤ x) (h2 : x ≤ 90) (w : World) : Calls Try.prog 7 #[.int .i32 x] w (IntB (D.cls x) w) := by
  have hc : D.cls x = 3 := by unfold D.cls; repeat (first | rw [if_pos (by omega)] | rw [if_neg (by omega)])
  rw [hc]
  have e0 : ((x : Int) == 32) = false := by simp; omega
  have e1 : ((x : Int) == 9) = false := by simp; omega
  have e2 : ((x : Int) == 10) = false := by simp; omega
  have e3 : ((x : Int) == 13) = false := by simp; omega
  have e4 : decide ((97 : Int) ≤ (x : Int)) = false := decide_eq_false (by omega)
  have e5 : decide ((x : Int) ≤ 122) = true := decide_eq_true (by omega)
  have e6 : decide ((65 : Int) ≤ (x : Int)) = true := decide_eq_true (by omega)
  have e7 : decide ((x : Int) ≤ 90) = true := decide_eq_true (by omega)
  have e8 : ((x : Int) == 95) = false := by simp; omega
  have e9 : decide ((48 : Int) ≤ (x : Int)) = true := decide_eq_true (by omega)
  have e10 : decide ((x : Int) ≤ 57) = false := decide_eq_false (by omega)
  clear h1 h2 hc
  go_enter Try.func7, Try.ntmps7
  go_wp2_with fail
  go_ret
  exact ⟨rfl, Below.refl _ _⟩
set_option maxHeartbeats 1000000 in
set_option maxRecDepth 100000 in
theorem class_dig (x : Nat) (h1 : 48 ≤ x) (h2 : x ≤ 57) (w : World) : Calls Try.prog 7 #[.int .i32 x] w (IntB (D.cls x) w) := by
  have hc : D.cls x = 4 := by unfold D.cls; repeat (first | rw [if_pos (by omega)] | rw [if_neg (by omega)])
  rw [hc]
  have e0 : ((x : Int) == 32) = false := by simp; omega
  have e1 : ((x : Int) == 9) = false := by simp; omega
  have e2 : ((x : Int) == 10) = false := by simp; omega
  have e3 : ((x : Int) == 13) = false := by simp; omega
  have e4 : decide ((97 : Int) ≤ (x : Int)) = false := decide_eq_false (by omega)
  have e5 : decide ((x : Int) ≤ 122) = true := decide_eq_true (by omega)
  have e6 : decide ((65 : Int) ≤ (x : Int)) = false := decide_eq_false (by omega)
  have e7 : decide ((x : Int) ≤ 90) = true := decide_eq_true (by omega)
  have e8 : ((x : Int) == 95) = false := by simp; omega
  have e9 : decide ((48 : Int) ≤ (x : Int)) = true := decide_eq_true (by omega)
  have e10 : decide ((x : Int) ≤ 57) = true := decide_eq_true (by omega)
  clear h1 h2 hc
  go_enter Try.func7, Try.ntmps7
  go_wp2_with fail
  go_ret
  exact ⟨rfl, Below.refl _ _⟩
set_option maxHeartbeats 1000000 in
set_option maxRecDepth 100000 in
theorem class_s1 (x : Nat) (h1 : 0 ≤ x) (h2 : x ≤ 47) (hs : ¬ Sp x) (w : World) : Calls Try.prog 7 #[.int .i32 x] w (IntB (D.cls x) w) := by
  obtain ⟨n, hn, hv⟩ := sign_any x (by omega) hs
  have HN := Lib.hid hn
  have hs' : ¬ x = 32 ∧ ¬ x = 9 ∧ ¬ x = 10 ∧ ¬ x = 13 ∧ ¬ x = 95 := by unfold Sp at hs; omega
  have e0 : ((x : Int) == 32) = false := by simp; omega
  have e1 : ((x : Int) == 9) = false := by simp; omega
  have e2 : ((x : Int) == 10) = false := by simp; omega
  have e3 : ((x : Int) == 13) = false := by simp; omega
  have e4 : decide ((97 : Int) ≤ (x : Int)) = false := decide_eq_false (by omega)
  have e5 : decide ((x : Int) ≤ 122) = true := decide_eq_true (by omega)
  have e6 : decide ((65 : Int) ≤ (x : Int)) = false := decide_eq_false (by omega)
  have e7 : decide ((x : Int) ≤ 90) = true := decide_eq_true (by omega)
  have e8 : ((x : Int) == 95) = false := by simp; omega
  have e9 : decide ((48 : Int) ≤ (x : Int)) = false := decide_eq_false (by omega)
  have e10 : decide ((x : Int) ≤ 57) = true := decide_eq_true (by omega)
  clear h1 h2 hn hs hs'
  generalize D.cls x = k at *
  rcases hv with ⟨rfl, rfl⟩ | ⟨n1, n2, hk⟩
  · go_enter Try.func7, Try.ntmps7
    go_wp2_with fail
    refine (HN.out _).mono ?_
    rintro e w' ⟨rfl, hb⟩
    go_wp2_with fail
    go_ret
    exact ⟨rfl, hb⟩
  · have HK := Lib.hid hk
    clear hk
    go_enter Try.func7, Try.ntmps7
    go_wp2_with fail
    refine (HN.out _).mono ?_
    rintro e w' ⟨rfl, hb⟩
    go_wp2_with fail
    go_ret
    exact ⟨by rw [HK.out]; rfl, hb⟩
set_option maxHeartbeats 1000000 in
set_option maxRecDepth 100000 in
theorem class_s2 (x : Nat) (h1 : 58 ≤ x) (h2 : x ≤ 64) (hs : ¬ Sp x) (w : World) : Calls Try.prog 7 #[.int .i32 x] w (IntB (D.cls x) w) := by
  obtain ⟨n, hn, hv⟩ := sign_any x (by omega) hs
  have HN := Lib.hid hn
  have hs' : ¬ x = 32 ∧ ¬ x = 9 ∧ ¬ x = 10 ∧ ¬ x = 13 ∧ ¬ x = 95 := by unfold Sp at hs; omega
  have e0 : ((x : Int) == 32) = false := by simp; omega
  have e1 : ((x : Int) == 9) = false := by simp; omega
  have e2 : ((x : Int) == 10) = false := by simp; omega
  have e3 : ((x : Int) == 13) = false := by simp; omega
  have e4 : decide ((97 : Int) ≤ (x : Int)) = false := decide_eq_false (by omega)
  have e5 : decide ((x : Int) ≤ 122) = true := decide_eq_true (by omega)
  have e6 : decide ((65 : Int) ≤ (x : Int)) = false := decide_eq_false (by omega)
  have e7 : decide ((x : Int) ≤ 90) = true := decide_eq_true (by omega)
  have e8 : ((x : Int) == 95) = false := by simp; omega
  have e9 : decide ((48 : Int) ≤ (x : Int)) = true := decide_eq_true (by omega)
  have e10 : decide ((x : Int) ≤ 57) = false := decide_eq_false (by omega)
  clear h1 h2 hn hs hs'
  generalize D.cls x = k at *
  rcases hv with ⟨rfl, rfl⟩ | ⟨n1, n2, hk⟩
  · go_enter Try.func7, Try.ntmps7
    go_wp2_with fail
    refine (HN.out _).mono ?_
    rintro e w' ⟨rfl, hb⟩
    go_wp2_with fail
    go_ret
    exact ⟨rfl, hb⟩
  · have HK := Lib.hid hk
    clear hk
    go_enter Try.func7, Try.ntmps7
    go_wp2_with fail
    refine (HN.out _).mono ?_
    rintro e w' ⟨rfl, hb⟩
    go_wp2_with fail
    go_ret
    exact ⟨by rw [HK.out]; rfl, hb⟩
set_option maxHeartbeats 1000000 in
set_option maxRecDepth 100000 in
theorem class_s3 (x : Nat) (h1 : 91 ≤ x) (h2 : x ≤ 96) (hs : ¬ Sp x) (w : World) : Calls Try.prog 7 #[.int .i32 x] w (IntB (D.cls x) w) := by
  obtain ⟨n, hn, hv⟩ := sign_any x (by omega) hs
  have HN := Lib.hid hn
  have hs' : ¬ x = 32 ∧ ¬ x = 9 ∧ ¬ x = 10 ∧ ¬ x = 13 ∧ ¬ x = 95 := by unfold Sp at hs; omega
  have e0 : ((x : Int) == 32) = false := by simp; omega
  have e1 : ((x : Int) == 9) = false := by simp; omega
  have e2 : ((x : Int) == 10) = false := by simp; omega
  have e3 : ((x : Int) == 13) = false := by simp; omega
  have e4 : decide ((97 : Int) ≤ (x : Int)) = false := decide_eq_false (by omega)
  have e5 : decide ((x : Int) ≤ 122) = true := decide_eq_true (by omega)
  have e6 : decide ((65 : Int) ≤ (x : Int)) = true := decide_eq_true (by omega)
  have e7 : decide ((x : Int) ≤ 90) = false := decide_eq_false (by omega)
  have e8 : ((x : Int) == 95) = false := by simp; omega
  have e9 : decide ((48 : Int) ≤ (x : Int)) = true := decide_eq_true (by omega)
  have e10 : decide ((x : Int) ≤ 57) = false := decide_eq_false (by omega)
  clear h1 h2 hn hs hs'
  generalize D.cls x = k at *
  rcases hv with ⟨rfl, rfl⟩ | ⟨n1, n2, hk⟩
  · go_enter Try.func7, Try.ntmps7
    go_wp2_with fail
    refine (HN.out _).mono ?_
    rintro e w' ⟨rfl, hb⟩
    go_wp2_with fail
    go_ret
    exact ⟨rfl, hb⟩
  · have HK := Lib.hid hk
    clear hk
    go_enter Try.func7, Try.ntmps7
    go_wp2_with fail
    refine (HN.out _).mono ?_
    rintro e w' ⟨rfl, hb⟩
    go_wp2_with fail
    go_ret
    exact ⟨by rw [HK.out]; rfl, hb⟩
set_option maxHeartbeats 1000000 in
set_option maxRecDepth 100000 in
theorem class_s4 (x : Nat) (h1 : 123 ≤ x) (h2 : x ≤ 1114111) (hs : ¬ Sp x) (w : World) : Calls Try.prog 7 #[.int .i32 x] w (IntB (D.cls x) w) := by
  obtain ⟨n, hn, hv⟩ := sign_any x (by omega) hs
  have HN := Lib.hid hn
  have hs' : ¬ x = 32 ∧ ¬ x = 9 ∧ ¬ x = 10 ∧ ¬ x = 13 ∧ ¬ x = 95 := by unfold Sp at hs; omega
  have e0 : ((x : Int) == 32) = false := by simp; omega
  have e1 : ((x : Int) == 9) = false := by simp; omega
  have e2 : ((x : Int) == 10) = false := by simp; omega
  have e3 : ((x : Int) == 13) = false := by simp; omega
  have e4 : decide ((97 : Int) ≤ (x : Int)) = true := decide_eq_true (by omega)
  have e5 : decide ((x : Int) ≤ 122) = false := decide_eq_false (by omega)
  have e6 : decide ((65 : Int) ≤ (x : Int)) = true := decide_eq_true (by omega)
  have e7 : decide ((x : Int) ≤ 90) = false := decide_eq_false (by omega)
  have e8 : ((x : Int) == 95) = false := by simp; omega
  have e9 : decide ((48 : Int) ≤ (x : Int)) = true := decide_eq_true (by omega)
  have e10 : decide ((x : Int) ≤ 57) = false := decide_eq_false (by omega)
  clear h1 h2 hn hs hs'
  generalize D.cls x = k at *
  rcases hv with ⟨rfl, rfl⟩ | ⟨n1, n2, hk⟩
  · go_enter Try.func7, Try.ntmps7
    go_wp2_with fail
    refine (HN.out _).mono ?_
    rintro e w' ⟨rfl, hb⟩
    go_wp2_with fail
    go_ret
    exact ⟨rfl, hb⟩
  · have HK := Lib.hid hk
    clear hk
    go_enter Try.func7, Try.ntmps7
    go_wp2_with fail
    refine (HN.out _).mono ?_
    rintro e w' ⟨rfl, hb⟩
    go_wp2_with fail
    go_ret
    exact ⟨by rw [HK.out]; rfl, hb⟩
theorem class_any (x : Nat) (hx : x ≤ 1114111) (w : World) : Calls Try.prog 7 #[.int .i32 x] w (IntB (D.cls x) w) := by
  by_cases h : Sp x
  · unfold Sp at h
    rcases h with h | h | h | h | h | h | h | h
    · exact class_one x (by omega) w
    · exact class_one x (by omega) w
    · exact class_one x (by omega) w
    · exact class_one x (by omega) w
    · exact class_low x h.1 h.2 w
    · exact class_up x h.1 h.2 w
    · exact class_one x (by omega) w
    · exact class_dig x h.1 h.2 w
  · have h' : ¬ (48 ≤ x ∧ x ≤ 57) ∧ ¬ (65 ≤ x ∧ x ≤ 90) ∧ ¬ (97 ≤ x ∧ x ≤ 122) := by unfold Sp at h; omega
    by_cases h1 : x ≤ 47
    · exact class_s1 x (Nat.zero_le _) h1 h w
    by_cases h2 : x ≤ 64
    · exact class_s2 x (by omega) h2 h w
    by_cases h3 : x ≤ 96
    · exact class_s3 x (by omega) h3 h w
    exact class_s4 x (by omega) hx h w
end Yteccfoiegjhppaa
end Go.Proofs
