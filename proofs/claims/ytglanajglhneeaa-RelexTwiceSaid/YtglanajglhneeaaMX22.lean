/- The document's letter, digit, blank, of bytes; how many bytes a character has; which word a name is. Conditions: a string of at most 10^15 bytes. -/
import Derived.Test.YtglanajglhneeaaMX21
namespace Go.Proofs
open Go Go.RowKit Go.Lib
namespace Ytglanajglhneeaa
def BoolS (b : Bool) (w : World) (e : Ending) (w' : World) : Prop := e = .returned (.bool b) ∧ SameD w w'
theorem cls_3 (c : Nat) : D.cls c = 3 ↔ ((97 ≤ c ∧ c ≤ 122) ∨ (65 ≤ c ∧ c ≤ 90) ∨ c = 95) := by
  by_cases h : c < 128
  · have : ∀ c : Fin 128, D.cls c.1 = 3 ↔ ((97 ≤ c.1 ∧ c.1 ≤ 122) ∨ (65 ≤ c.1 ∧ c.1 ≤ 90) ∨ c.1 = 95) := by decide +kernel
    exact this ⟨c, h⟩
  · rw [D.cls_hi (by omega)]; omega
theorem cls_4 (c : Nat) : D.cls c = 4 ↔ (48 ≤ c ∧ c ≤ 57) := by
  by_cases h : c < 128
  · have : ∀ c : Fin 128, D.cls c.1 = 4 ↔ (48 ≤ c.1 ∧ c.1 ≤ 57) := by decide +kernel
    exact this ⟨c, h⟩
  · rw [D.cls_hi (by omega)]; omega
theorem cls_12 (c : Nat) : (D.cls c = 1 ∨ D.cls c = 2) ↔ (c = 32 ∨ c = 9 ∨ c = 10 ∨ c = 13) := by
  by_cases h : c < 128
  · have : ∀ c : Fin 128, (D.cls c.1 = 1 ∨ D.cls c.1 = 2) ↔ (c.1 = 32 ∨ c.1 = 9 ∨ c.1 = 10 ∨ c.1 = 13) := by decide +kernel
    exact this ⟨c, h⟩
  · rw [D.cls_hi (by omega)]; omega
theorem cls_2 (c : Nat) : D.cls c = 2 ↔ (c = 10 ∨ c = 13) := by
  by_cases h : c < 128
  · have : ∀ c : Fin 128, D.cls c.1 = 2 ↔ (c.1 = 10 ∨ c.1 = 13) := by decide +kernel
    exact this ⟨c, h⟩
  · rw [D.cls_hi (by omega)]; omega
set_option maxHeartbeats 1000000 in
set_option maxRecDepth 100000 in
theorem letter_any (c : Nat) (hc : c < 256) (w : World) : Calls Try.prog 49 #[.int .u8 c] w (BoolS (decide (D.cls c = 3)) w) := by
  by_cases h1 : 0 ≤ c ∧ c ≤ 64
  · have e0 : decide ((97 : Int) ≤ (c : Int)) = false := decide_eq_false (by omega)
    have e1 : decide ((c : Int) ≤ 122) = true := decide_eq_true (by omega)
    have e2 : decide ((65 : Int) ≤ (c : Int)) = false := decide_eq_false (by omega)
    have e3 : decide ((c : Int) ≤ 90) = true := decide_eq_true (by omega)
    have e4 : ((c : Int) == 95) = false := by rw [beq_eq_false_iff_ne]; omega
    rw [decide_eq_false (fun h => by rw [cls_3] at h; omega)]
    clear hc h1
    go_enter Try.func49, Try.ntmps49
    go_wp2_with fail
    go_ret
    exact ⟨rfl, SameD.refl _⟩
  by_cases h1 : 65 ≤ c ∧ c ≤ 90
  · have e0 : decide ((97 : Int) ≤ (c : Int)) = false := decide_eq_false (by omega)
    have e1 : decide ((c : Int) ≤ 122) = true := decide_eq_true (by omega)
    have e2 : decide ((65 : Int) ≤ (c : Int)) = true := decide_eq_true (by omega)
    have e3 : decide ((c : Int) ≤ 90) = true := decide_eq_true (by omega)
    have e4 : ((c : Int) == 95) = false := by rw [beq_eq_false_iff_ne]; omega
    rw [decide_eq_true ((cls_3 c).2 (by omega))]
    clear hc h1
    go_enter Try.func49, Try.ntmps49
    go_wp2_with fail
    go_ret
    exact ⟨rfl, SameD.refl _⟩
  by_cases h1 : 91 ≤ c ∧ c ≤ 94
  · have e0 : decide ((97 : Int) ≤ (c : Int)) = false := decide_eq_false (by omega)
    have e1 : decide ((c : Int) ≤ 122) = true := decide_eq_true (by omega)
    have e2 : decide ((65 : Int) ≤ (c : Int)) = true := decide_eq_true (by omega)
    have e3 : decide ((c : Int) ≤ 90) = false := decide_eq_false (by omega)
    have e4 : ((c : Int) == 95) = false := by rw [beq_eq_false_iff_ne]; omega
    rw [decide_eq_false (fun h => by rw [cls_3] at h; omega)]
    clear hc h1
    go_enter Try.func49, Try.ntmps49
    go_wp2_with fail
    go_ret
    exact ⟨rfl, SameD.refl _⟩
  by_cases h1 : 95 ≤ c ∧ c ≤ 95
  · have e0 : decide ((97 : Int) ≤ (c : Int)) = false := decide_eq_false (by omega)
    have e1 : decide ((c : Int) ≤ 122) = true := decide_eq_true (by omega)
    have e2 : decide ((65 : Int) ≤ (c : Int)) = true := decide_eq_true (by omega)
    have e3 : decide ((c : Int) ≤ 90) = false := decide_eq_false (by omega)
    have e4 : ((c : Int) == 95) = true := by rw [beq_iff_eq]; omega
    rw [decide_eq_true ((cls_3 c).2 (by omega))]
    clear hc h1
    go_enter Try.func49, Try.ntmps49
    go_wp2_with fail
    go_ret
    exact ⟨rfl, SameD.refl _⟩
  by_cases h1 : 96 ≤ c ∧ c ≤ 96
  · have e0 : decide ((97 : Int) ≤ (c : Int)) = false := decide_eq_false (by omega)
    have e1 : decide ((c : Int) ≤ 122) = true := decide_eq_true (by omega)
    have e2 : decide ((65 : Int) ≤ (c : Int)) = true := decide_eq_true (by omega)
    have e3 : decide ((c : Int) ≤ 90) = false := decide_eq_false (by omega)
    have e4 : ((c : Int) == 95) = false := by rw [beq_eq_false_iff_ne]; omega
    rw [decide_eq_false (fun h => by rw [cls_3] at h; omega)]
    clear hc h1
    go_enter Try.func49, Try.ntmps49
    go_wp2_with fail
    go_ret
    exact ⟨rfl, SameD.refl _⟩
  by_cases h1 : 97 ≤ c ∧ c ≤ 122
  · have e0 : decide ((97 : Int) ≤ (c : Int)) = true := decide_eq_true (by omega)
    have e1 : decide ((c : Int) ≤ 122) = true := decide_eq_true (by omega)
    have e2 : decide ((65 : Int) ≤ (c : Int)) = true := decide_eq_true (by omega)
    have e3 : decide ((c : Int) ≤ 90) = false := decide_eq_false (by omega)
    have e4 : ((c : Int) == 95) = false := by rw [beq_eq_false_iff_ne]; omega
    rw [decide_eq_true ((cls_3 c).2 (by omega))]
    clear hc h1
    go_enter Try.func49, Try.ntmps49
    go_wp2_with fail
    go_ret
    exact ⟨rfl, SameD.refl _⟩
  by_cases h1 : 123 ≤ c
  · have e0 : decide ((97 : Int) ≤ (c : Int)) = true := decide_eq_true (by omega)
    have e1 : decide ((c : Int) ≤ 122) = false := decide_eq_false (by omega)
    have e2 : decide ((65 : Int) ≤ (c : Int)) = true := decide_eq_true (by omega)
    have e3 : decide ((c : Int) ≤ 90) = false := decide_eq_false (by omega)
    have e4 : ((c : Int) == 95) = false := by rw [beq_eq_false_iff_ne]; omega
    rw [decide_eq_false (fun h => by rw [cls_3] at h; omega)]
    clear hc h1
    go_enter Try.func49, Try.ntmps49
    go_wp2_with fail
    go_ret
    exact ⟨rfl, SameD.refl _⟩
  omega
set_option maxHeartbeats 1000000 in
set_option maxRecDepth 100000 in
theorem digit_any (c : Nat) (hc : c < 256) (w : World) : Calls Try.prog 50 #[.int .u8 c] w (BoolS (decide (D.cls c = 4)) w) := by
  by_cases h1 : 0 ≤ c ∧ c ≤ 47
  · have e0 : decide ((48 : Int) ≤ (c : Int)) = false := decide_eq_false (by omega)
    have e1 : decide ((c : Int) ≤ 57) = true := decide_eq_true (by omega)
    rw [decide_eq_false (fun h => by rw [cls_4] at h; omega)]
    clear hc h1
    go_enter Try.func50, Try.ntmps50
    go_wp2_with fail
    go_ret
    exact ⟨rfl, SameD.refl _⟩
  by_cases h1 : 48 ≤ c ∧ c ≤ 57
  · have e0 : decide ((48 : Int) ≤ (c : Int)) = true := decide_eq_true (by omega)
    have e1 : decide ((c : Int) ≤ 57) = true := decide_eq_true (by omega)
    rw [decide_eq_true ((cls_4 c).2 (by omega))]
    clear hc h1
    go_enter Try.func50, Try.ntmps50
    go_wp2_with fail
    go_ret
    exact ⟨rfl, SameD.refl _⟩
  by_cases h1 : 58 ≤ c
  · have e0 : decide ((48 : Int) ≤ (c : Int)) = true := decide_eq_true (by omega)
    have e1 : decide ((c : Int) ≤ 57) = false := decide_eq_false (by omega)
    rw [decide_eq_false (fun h => by rw [cls_4] at h; omega)]
    clear hc h1
    go_enter Try.func50, Try.ntmps50
    go_wp2_with fail
    go_ret
    exact ⟨rfl, SameD.refl _⟩
  omega
set_option maxHeartbeats 1000000 in
set_option maxRecDepth 100000 in
theorem blank_any (c : Nat) (hc : c < 256) (w : World) : Calls Try.prog 47 #[.int .u8 c] w (BoolS (decide (D.cls c = 1 ∨ D.cls c = 2)) w) := by
  by_cases h1 : 0 ≤ c ∧ c ≤ 8
  · have e0 : ((c : Int) == 32) = false := by rw [beq_eq_false_iff_ne]; omega
    have e1 : ((c : Int) == 9) = false := by rw [beq_eq_false_iff_ne]; omega
    have e2 : ((c : Int) == 10) = false := by rw [beq_eq_false_iff_ne]; omega
    have e3 : ((c : Int) == 13) = false := by rw [beq_eq_false_iff_ne]; omega
    rw [decide_eq_false (fun h => by rw [cls_12] at h; omega)]
    clear hc h1
    go_enter Try.func47, Try.ntmps47
    go_wp2_with fail
    go_ret
    exact ⟨rfl, SameD.refl _⟩
  by_cases h1 : 9 ≤ c ∧ c ≤ 9
  · have e0 : ((c : Int) == 32) = false := by rw [beq_eq_false_iff_ne]; omega
    have e1 : ((c : Int) == 9) = true := by rw [beq_iff_eq]; omega
    have e2 : ((c : Int) == 10) = false := by rw [beq_eq_false_iff_ne]; omega
    have e3 : ((c : Int) == 13) = false := by rw [beq_eq_false_iff_ne]; omega
    rw [decide_eq_true ((cls_12 c).2 (by omega))]
    clear hc h1
    go_enter Try.func47, Try.ntmps47
    go_wp2_with fail
    go_ret
    exact ⟨rfl, SameD.refl _⟩
  by_cases h1 : 10 ≤ c ∧ c ≤ 10
  · have e0 : ((c : Int) == 32) = false := by rw [beq_eq_false_iff_ne]; omega
    have e1 : ((c : Int) == 9) = false := by rw [beq_eq_false_iff_ne]; omega
    have e2 : ((c : Int) == 10) = true := by rw [beq_iff_eq]; omega
    have e3 : ((c : Int) == 13) = false := by rw [beq_eq_false_iff_ne]; omega
    rw [decide_eq_true ((cls_12 c).2 (by omega))]
    clear hc h1
    go_enter Try.func47, Try.ntmps47
    go_wp2_with fail
    go_ret
    exact ⟨rfl, SameD.refl _⟩
  by_cases h1 : 11 ≤ c ∧ c ≤ 12
  · have e0 : ((c : Int) == 32) = false := by rw [beq_eq_false_iff_ne]; omega
    have e1 : ((c : Int) == 9) = false := by rw [beq_eq_false_iff_ne]; omega
    have e2 : ((c : Int) == 10) = false := by rw [beq_eq_false_iff_ne]; omega
    have e3 : ((c : Int) == 13) = false := by rw [beq_eq_false_iff_ne]; omega
    rw [decide_eq_false (fun h => by rw [cls_12] at h; omega)]
    clear hc h1
    go_enter Try.func47, Try.ntmps47
    go_wp2_with fail
    go_ret
    exact ⟨rfl, SameD.refl _⟩
  by_cases h1 : 13 ≤ c ∧ c ≤ 13
  · have e0 : ((c : Int) == 32) = false := by rw [beq_eq_false_iff_ne]; omega
    have e1 : ((c : Int) == 9) = false := by rw [beq_eq_false_iff_ne]; omega
    have e2 : ((c : Int) == 10) = false := by rw [beq_eq_false_iff_ne]; omega
    have e3 : ((c : Int) == 13) = true := by rw [beq_iff_eq]; omega
    rw [decide_eq_true ((cls_12 c).2 (by omega))]
    clear hc h1
    go_enter Try.func47, Try.ntmps47
    go_wp2_with fail
    go_ret
    exact ⟨rfl, SameD.refl _⟩
  by_cases h1 : 14 ≤ c ∧ c ≤ 31
  · have e0 : ((c : Int) == 32) = false := by rw [beq_eq_false_iff_ne]; omega
    have e1 : ((c : Int) == 9) = false := by rw [beq_eq_false_iff_ne]; omega
    have e2 : ((c : Int) == 10) = false := by rw [beq_eq_false_iff_ne]; omega
    have e3 : ((c : Int) == 13) = false := by rw [beq_eq_false_iff_ne]; omega
    rw [decide_eq_false (fun h => by rw [cls_12] at h; omega)]
    clear hc h1
    go_enter Try.func47, Try.ntmps47
    go_wp2_with fail
    go_ret
    exact ⟨rfl, SameD.refl _⟩
  by_cases h1 : 32 ≤ c ∧ c ≤ 32
  · have e0 : ((c : Int) == 32) = true := by rw [beq_iff_eq]; omega
    have e1 : ((c : Int) == 9) = false := by rw [beq_eq_false_iff_ne]; omega
    have e2 : ((c : Int) == 10) = false := by rw [beq_eq_false_iff_ne]; omega
    have e3 : ((c : Int) == 13) = false := by rw [beq_eq_false_iff_ne]; omega
    rw [decide_eq_true ((cls_12 c).2 (by omega))]
    clear hc h1
    go_enter Try.func47, Try.ntmps47
    go_wp2_with fail
    go_ret
    exact ⟨rfl, SameD.refl _⟩
  by_cases h1 : 33 ≤ c
  · have e0 : ((c : Int) == 32) = false := by rw [beq_eq_false_iff_ne]; omega
    have e1 : ((c : Int) == 9) = false := by rw [beq_eq_false_iff_ne]; omega
    have e2 : ((c : Int) == 10) = false := by rw [beq_eq_false_iff_ne]; omega
    have e3 : ((c : Int) == 13) = false := by rw [beq_eq_false_iff_ne]; omega
    rw [decide_eq_false (fun h => by rw [cls_12] at h; omega)]
    clear hc h1
    go_enter Try.func47, Try.ntmps47
    go_wp2_with fail
    go_ret
    exact ⟨rfl, SameD.refl _⟩
  omega
set_option maxHeartbeats 1000000 in
set_option maxRecDepth 100000 in
theorem size12_any (s : ByteArray) (i : Nat) (hi : i < s.size) (hs : s.size ≤ 1000000000000000) (w : World) : Calls Try.prog 73 #[.string s, .int .i64 i] w (IntB (U.wd s i) w) := by
  cases hbad : U.bad s i
  · have hc := refNext_good s i w hi hs hbad
    generalize U.wd s i = d at *
    generalize U.ch s i = c at *
    clear hbad hi hs
    go_enter Try.func73, Try.ntmps73
    go_wp2_with fail
    refine hc.mono ?_
    rintro e w' ⟨rfl, hb⟩
    go_wp2_with fail
    go_ret
    exact ⟨rfl, hb⟩
  · have hc := refNext_bad s i w hi hs hbad
    rw [((U.bad_iff s i).1 hbad).2]
    clear hbad hi hs
    go_enter Try.func73, Try.ntmps73
    go_wp2_with fail
    refine hc.mono ?_
    rintro e w' ⟨rfl, hb⟩
    go_wp2_with fail
    go_ret
    exact ⟨rfl, hb⟩
end Ytglanajglhneeaa
end Go.Proofs
