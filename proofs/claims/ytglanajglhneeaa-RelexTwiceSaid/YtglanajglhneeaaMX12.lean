/- A character's class, the document's. Conditions: such runes as a string has. -/
import Derived.Test.YtglanajglhneeaaMX03
import Derived.IntWalk
namespace Go.Proofs
open Go Go.RowKit Go.Lib
namespace Ytglanajglhneeaa
def SpR (x : Nat) : Prop := x = 32 ∨ x = 9 ∨ x = 10 ∨ x = 13 ∨ (97 ≤ x ∧ x ≤ 122) ∨ (65 ≤ x ∧ x ≤ 90) ∨ x = 95 ∨ (48 ≤ x ∧ x ≤ 57)
instance (x : Nat) : Decidable (SpR x) := by unfold SpR; infer_instance
def SameD (w w' : World) : Prop := w' = w
theorem SameD.refl (w : World) : SameD w w := rfl
def sgR (i : Nat) : Nat := ((⟨#[34, 92, 47, 42, 61, 33, 60, 62, 38, 124, 40, 41, 123, 125, 44, 59, 43, 45, 37]⟩ : ByteArray).get! i).toNat
theorem sgR_cls {i : Nat} (h : i < 19) : D.cls (sgR i) = 5 + i := by
  have : ∀ i : Fin 19, D.cls (sgR i.1) = 5 + i.1 := by decide +kernel
  exact this ⟨i, h⟩
theorem sgR_none {x : Nat} (h : ¬ SpR x) (hn : ∀ j, j < 19 → ¬ sgR j = x) : D.cls x = 0 := by
  by_cases hx : x < 128
  · have : ∀ x : Fin 128, ¬ SpR x.1 → (∀ j : Fin 19, ¬ sgR j.1 = x.1) → D.cls x.1 = 0 := by decide +kernel
    exact this ⟨x, hx⟩ h (fun j => hn j.1 j.2)
  · exact D.cls_hi (by omega)
theorem wrap32_small (n : Nat) (h : n < 1000000) : wrap32 (n : Int) = (n : Int) := by unfold wrap32; omega
def IntS (x : Int) (w : World) (e : Ending) (w' : World) : Prop := e = .returned (.int .i64 x) ∧ SameD w w'
set_option maxHeartbeats 4000000 in
set_option maxRecDepth 100000 in
theorem refClass_any (x : Nat) (hx : x ≤ 1114111) (w : World) : Calls Try.prog 55 #[.int .i32 x] w (IntS (D.cls x) w) := by
  generalize hk : D.cls x = k
  have HK := Lib.hid hk
  clear hk
  go_enter Try.func55, Try.ntmps55
  go_wp2_with fail
  go_loopw [4] (fun p wr => ∃ i : Nat, p = .int .i64 i ∧ i ≤ 19 ∧ Hid (SameD w wr ∧ ∀ j, j < i → ¬ sgR j = x)) (fun p _ => 19 - (RowKit.intOf p).toNat)
  case atStart => exact ⟨0, rfl, Nat.zero_le _, Lib.hid ⟨SameD.refl _, fun j h => by omega⟩⟩
  case round =>
    obtain ⟨i, rfl, hi, HR⟩ := hrel
    obtain rfl : wr = w := HR.out.1
    by_cases hlt : i < 19
    · have i1 : (i : Int) < 19 := by omega
      have i2 : i < (⟨#[34, 92, 47, 42, 61, 33, 60, 62, 38, 124, 40, 41, 123, 125, 44, 59, 43, 45, 37]⟩ : ByteArray).size := hlt
      have HLT := Lib.hid hlt
      have hw : wrap32 (((⟨#[34, 92, 47, 42, 61, 33, 60, 62, 38, 124, 40, 41, 123, 125, 44, 59, 43, 45, 37]⟩ : ByteArray)[i]'i2).toNat : Int) = (sgR i : Int) := by
        rw [U.at_byte i2]
        refine wrap32_small _ ?_
        have := ((⟨#[34, 92, 47, 42, 61, 33, 60, 62, 38, 124, 40, 41, 123, 125, 44, 59, 43, 45, 37]⟩ : ByteArray).get! i).toNat_lt
        omega
      by_cases hm : sgR i = x
      · have HE := Lib.hid (show D.cls x = 5 + i by rw [← hm]; exact sgR_cls hlt)
        have HM := Lib.hid hm
        have hb : ((x : Int) == wrap32 (((⟨#[34, 92, 47, 42, 61, 33, 60, 62, 38, 124, 40, 41, 123, 125, 44, 59, 43, 45, 37]⟩ : ByteArray)[i]'i2).toNat : Int)) = true := by rw [hw, hm]; simp
        clear hm hw hlt
        go_wp2_with fail
        go_ret
        exact ⟨by rw [← HK.out, HE.out]; rfl, SameD.refl _⟩
      · have HM := Lib.hid hm
        have hb : ((x : Int) == wrap32 (((⟨#[34, 92, 47, 42, 61, 33, 60, 62, 38, 124, 40, 41, 123, 125, 44, 59, 43, 45, 37]⟩ : ByteArray)[i]'i2).toNat : Int)) = false := by rw [hw]; simp; omega
        clear hm hw hlt
        go_wp2_with fail
        go_roundw
        case rel => exact ⟨i + 1, by go_num, HLT.out, Lib.hid ⟨SameD.refl _, fun j h => by by_cases e : j = i; (· subst e; exact HM.out); (· exact HR.out.2 j (by omega))⟩⟩
        case measure => have := HLT.out; simp [RowKit.intOf]; omega
    · obtain rfl : i = 19 := by omega
      have i2 : ¬ 19 < (⟨#[34, 92, 47, 42, 61, 33, 60, 62, 38, 124, 40, 41, 123, 125, 44, 59, 43, 45, 37]⟩ : ByteArray).size := by decide
      have HN := Lib.hid (fun (h : ¬ SpR x) => sgR_none h HR.out.2)
      clear hlt hi HR
      by_cases h1 : 32 ≤ x ∧ x ≤ 32
      · obtain rfl : k = 1 := by rw [← HK.out]; unfold D.cls; repeat (first | rw [if_pos (by omega)] | rw [if_neg (by omega)])
        have e0 : ((x : Int) == 32) = true := by simp; omega
        have e1 : ((x : Int) == 9) = false := by simp; omega
        have e2 : ((x : Int) == 10) = false := by simp; omega
        have e3 : ((x : Int) == 13) = false := by simp; omega
        have e4 : ((x : Int) == 95) = false := by simp; omega
        have e5 : decide ((97 : Int) ≤ (x : Int)) = false := decide_eq_false (by omega)
        have e6 : decide ((x : Int) ≤ 122) = true := decide_eq_true (by omega)
        have e7 : decide ((65 : Int) ≤ (x : Int)) = false := decide_eq_false (by omega)
        have e8 : decide ((x : Int) ≤ 90) = true := decide_eq_true (by omega)
        have e9 : decide ((48 : Int) ≤ (x : Int)) = false := decide_eq_false (by omega)
        have e10 : decide ((x : Int) ≤ 57) = true := decide_eq_true (by omega)
        clear h1
        go_wp2_with fail
        go_ret
        exact ⟨rfl, SameD.refl _⟩
      have n32 := h1
      clear h1
      by_cases h1 : 9 ≤ x ∧ x ≤ 9
      · obtain rfl : k = 1 := by rw [← HK.out]; unfold D.cls; repeat (first | rw [if_pos (by omega)] | rw [if_neg (by omega)])
        have e0 : ((x : Int) == 32) = false := by simp; omega
        have e1 : ((x : Int) == 9) = true := by simp; omega
        have e2 : ((x : Int) == 10) = false := by simp; omega
        have e3 : ((x : Int) == 13) = false := by simp; omega
        have e4 : ((x : Int) == 95) = false := by simp; omega
        have e5 : decide ((97 : Int) ≤ (x : Int)) = false := decide_eq_false (by omega)
        have e6 : decide ((x : Int) ≤ 122) = true := decide_eq_true (by omega)
        have e7 : decide ((65 : Int) ≤ (x : Int)) = false := decide_eq_false (by omega)
        have e8 : decide ((x : Int) ≤ 90) = true := decide_eq_true (by omega)
        have e9 : decide ((48 : Int) ≤ (x : Int)) = false := decide_eq_false (by omega)
        have e10 : decide ((x : Int) ≤ 57) = true := decide_eq_true (by omega)
        clear h1
        go_wp2_with fail
        go_ret
        exact ⟨rfl, SameD.refl _⟩
      have n9 := h1
      clear h1
      by_cases h1 : 10 ≤ x ∧ x ≤ 10
      · obtain rfl : k = 2 := by rw [← HK.out]; unfold D.cls; repeat (first | rw [if_pos (by omega)] | rw [if_neg (by omega)])
        have e0 : ((x : Int) == 32) = false := by simp; omega
        have e1 : ((x : Int) == 9) = false := by simp; omega
        have e2 : ((x : Int) == 10) = true := by simp; omega
        have e3 : ((x : Int) == 13) = false := by simp; omega
        have e4 : ((x : Int) == 95) = false := by simp; omega
        have e5 : decide ((97 : Int) ≤ (x : Int)) = false := decide_eq_false (by omega)
        have e6 : decide ((x : Int) ≤ 122) = true := decide_eq_true (by omega)
        have e7 : decide ((65 : Int) ≤ (x : Int)) = false := decide_eq_false (by omega)
        have e8 : decide ((x : Int) ≤ 90) = true := decide_eq_true (by omega)
        have e9 : decide ((48 : Int) ≤ (x : Int)) = false := decide_eq_false (by omega)
        have e10 : decide ((x : Int) ≤ 57) = true := decide_eq_true (by omega)
        clear h1
        go_wp2_with fail
        go_ret
        exact ⟨rfl, SameD.refl _⟩
      have n10 := h1
      clear h1
      by_cases h1 : 13 ≤ x ∧ x ≤ 13
      · obtain rfl : k = 2 := by rw [← HK.out]; unfold D.cls; repeat (first | rw [if_pos (by omega)] | rw [if_neg (by omega)])
        have e0 : ((x : Int) == 32) = false := by simp; omega
        have e1 : ((x : Int) == 9) = false := by simp; omega
        have e2 : ((x : Int) == 10) = false := by simp; omega
        have e3 : ((x : Int) == 13) = true := by simp; omega
        have e4 : ((x : Int) == 95) = false := by simp; omega
        have e5 : decide ((97 : Int) ≤ (x : Int)) = false := decide_eq_false (by omega)
        have e6 : decide ((x : Int) ≤ 122) = true := decide_eq_true (by omega)
        have e7 : decide ((65 : Int) ≤ (x : Int)) = false := decide_eq_false (by omega)
        have e8 : decide ((x : Int) ≤ 90) = true := decide_eq_true (by omega)
        have e9 : decide ((48 : Int) ≤ (x : Int)) = false := decide_eq_false (by omega)
        have e10 : decide ((x : Int) ≤ 57) = true := decide_eq_true (by omega)
        clear h1
        go_wp2_with fail
        go_ret
        exact ⟨rfl, SameD.refl _⟩
      have n13 := h1
      clear h1
      by_cases h1 : 95 ≤ x ∧ x ≤ 95
      · obtain rfl : k = 3 := by rw [← HK.out]; unfold D.cls; repeat (first | rw [if_pos (by omega)] | rw [if_neg (by omega)])
        have e0 : ((x : Int) == 32) = false := by simp; omega
        have e1 : ((x : Int) == 9) = false := by simp; omega
        have e2 : ((x : Int) == 10) = false := by simp; omega
        have e3 : ((x : Int) == 13) = false := by simp; omega
        have e4 : ((x : Int) == 95) = true := by simp; omega
        have e5 : decide ((97 : Int) ≤ (x : Int)) = false := decide_eq_false (by omega)
        have e6 : decide ((x : Int) ≤ 122) = true := decide_eq_true (by omega)
        have e7 : decide ((65 : Int) ≤ (x : Int)) = true := decide_eq_true (by omega)
        have e8 : decide ((x : Int) ≤ 90) = false := decide_eq_false (by omega)
        have e9 : decide ((48 : Int) ≤ (x : Int)) = true := decide_eq_true (by omega)
        have e10 : decide ((x : Int) ≤ 57) = false := decide_eq_false (by omega)
        clear h1
        go_wp2_with fail
        go_ret
        exact ⟨rfl, SameD.refl _⟩
      have n95 := h1
      clear h1
      by_cases h1 : 97 ≤ x ∧ x ≤ 122
      · obtain rfl : k = 3 := by rw [← HK.out]; unfold D.cls; repeat (first | rw [if_pos (by omega)] | rw [if_neg (by omega)])
        have e0 : ((x : Int) == 32) = false := by simp; omega
        have e1 : ((x : Int) == 9) = false := by simp; omega
        have e2 : ((x : Int) == 10) = false := by simp; omega
        have e3 : ((x : Int) == 13) = false := by simp; omega
        have e4 : ((x : Int) == 95) = false := by simp; omega
        have e5 : decide ((97 : Int) ≤ (x : Int)) = true := decide_eq_true (by omega)
        have e6 : decide ((x : Int) ≤ 122) = true := decide_eq_true (by omega)
        have e7 : decide ((65 : Int) ≤ (x : Int)) = true := decide_eq_true (by omega)
        have e8 : decide ((x : Int) ≤ 90) = false := decide_eq_false (by omega)
        have e9 : decide ((48 : Int) ≤ (x : Int)) = true := decide_eq_true (by omega)
        have e10 : decide ((x : Int) ≤ 57) = false := decide_eq_false (by omega)
        clear h1
        go_wp2_with fail
        go_ret
        exact ⟨rfl, SameD.refl _⟩
      have n97 := h1
      clear h1
      by_cases h1 : 65 ≤ x ∧ x ≤ 90
      · obtain rfl : k = 3 := by rw [← HK.out]; unfold D.cls; repeat (first | rw [if_pos (by omega)] | rw [if_neg (by omega)])
        have e0 : ((x : Int) == 32) = false := by simp; omega
        have e1 : ((x : Int) == 9) = false := by simp; omega
        have e2 : ((x : Int) == 10) = false := by simp; omega
        have e3 : ((x : Int) == 13) = false := by simp; omega
        have e4 : ((x : Int) == 95) = false := by simp; omega
        have e5 : decide ((97 : Int) ≤ (x : Int)) = false := decide_eq_false (by omega)
        have e6 : decide ((x : Int) ≤ 122) = true := decide_eq_true (by omega)
        have e7 : decide ((65 : Int) ≤ (x : Int)) = true := decide_eq_true (by omega)
        have e8 : decide ((x : Int) ≤ 90) = true := decide_eq_true (by omega)
        have e9 : decide ((48 : Int) ≤ (x : Int)) = true := decide_eq_true (by omega)
        have e10 : decide ((x : Int) ≤ 57) = false := decide_eq_false (by omega)
        clear h1
        go_wp2_with fail
        go_ret
        exact ⟨rfl, SameD.refl _⟩
      have n65 := h1
      clear h1
      by_cases h1 : 48 ≤ x ∧ x ≤ 57
      · obtain rfl : k = 4 := by rw [← HK.out]; unfold D.cls; repeat (first | rw [if_pos (by omega)] | rw [if_neg (by omega)])
        have e0 : ((x : Int) == 32) = false := by simp; omega
        have e1 : ((x : Int) == 9) = false := by simp; omega
        have e2 : ((x : Int) == 10) = false := by simp; omega
        have e3 : ((x : Int) == 13) = false := by simp; omega
        have e4 : ((x : Int) == 95) = false := by simp; omega
        have e5 : decide ((97 : Int) ≤ (x : Int)) = false := decide_eq_false (by omega)
        have e6 : decide ((x : Int) ≤ 122) = true := decide_eq_true (by omega)
        have e7 : decide ((65 : Int) ≤ (x : Int)) = false := decide_eq_false (by omega)
        have e8 : decide ((x : Int) ≤ 90) = true := decide_eq_true (by omega)
        have e9 : decide ((48 : Int) ≤ (x : Int)) = true := decide_eq_true (by omega)
        have e10 : decide ((x : Int) ≤ 57) = true := decide_eq_true (by omega)
        clear h1
        go_wp2_with fail
        go_ret
        exact ⟨rfl, SameD.refl _⟩
      have n48 := h1
      clear h1
      have hns : ¬ SpR x := by unfold SpR; omega
      obtain rfl : k = 0 := by rw [← HK.out]; exact HN.out hns
      clear hns
      by_cases h1 : x ≤ 47
      · have h2 : 0 ≤ x := by omega
        have e0 : ((x : Int) == 32) = false := by simp; omega
        have e1 : ((x : Int) == 9) = false := by simp; omega
        have e2 : ((x : Int) == 10) = false := by simp; omega
        have e3 : ((x : Int) == 13) = false := by simp; omega
        have e4 : ((x : Int) == 95) = false := by simp; omega
        have e5 : decide ((97 : Int) ≤ (x : Int)) = false := decide_eq_false (by omega)
        have e6 : decide ((x : Int) ≤ 122) = true := decide_eq_true (by omega)
        have e7 : decide ((65 : Int) ≤ (x : Int)) = false := decide_eq_false (by omega)
        have e8 : decide ((x : Int) ≤ 90) = true := decide_eq_true (by omega)
        have e9 : decide ((48 : Int) ≤ (x : Int)) = false := decide_eq_false (by omega)
        have e10 : decide ((x : Int) ≤ 57) = true := decide_eq_true (by omega)
        clear n32 n9 n10 n13 n95 n97 n65 n48 h1 h2
        go_wp2_with fail
        go_ret
        exact ⟨rfl, SameD.refl _⟩
      by_cases h1 : x ≤ 64
      · have h2 : 58 ≤ x := by omega
        have e0 : ((x : Int) == 32) = false := by simp; omega
        have e1 : ((x : Int) == 9) = false := by simp; omega
        have e2 : ((x : Int) == 10) = false := by simp; omega
        have e3 : ((x : Int) == 13) = false := by simp; omega
        have e4 : ((x : Int) == 95) = false := by simp; omega
        have e5 : decide ((97 : Int) ≤ (x : Int)) = false := decide_eq_false (by omega)
        have e6 : decide ((x : Int) ≤ 122) = true := decide_eq_true (by omega)
        have e7 : decide ((65 : Int) ≤ (x : Int)) = false := decide_eq_false (by omega)
        have e8 : decide ((x : Int) ≤ 90) = true := decide_eq_true (by omega)
        have e9 : decide ((48 : Int) ≤ (x : Int)) = true := decide_eq_true (by omega)
        have e10 : decide ((x : Int) ≤ 57) = false := decide_eq_false (by omega)
        clear n32 n9 n10 n13 n95 n97 n65 n48 h1 h2
        go_wp2_with fail
        go_ret
        exact ⟨rfl, SameD.refl _⟩
      by_cases h1 : x ≤ 96
      · have h2 : 91 ≤ x := by omega
        have e0 : ((x : Int) == 32) = false := by simp; omega
        have e1 : ((x : Int) == 9) = false := by simp; omega
        have e2 : ((x : Int) == 10) = false := by simp; omega
        have e3 : ((x : Int) == 13) = false := by simp; omega
        have e4 : ((x : Int) == 95) = false := by simp; omega
        have e5 : decide ((97 : Int) ≤ (x : Int)) = false := decide_eq_false (by omega)
        have e6 : decide ((x : Int) ≤ 122) = true := decide_eq_true (by omega)
        have e7 : decide ((65 : Int) ≤ (x : Int)) = true := decide_eq_true (by omega)
        have e8 : decide ((x : Int) ≤ 90) = false := decide_eq_false (by omega)
        have e9 : decide ((48 : Int) ≤ (x : Int)) = true := decide_eq_true (by omega)
        have e10 : decide ((x : Int) ≤ 57) = false := decide_eq_false (by omega)
        clear n32 n9 n10 n13 n95 n97 n65 n48 h1 h2
        go_wp2_with fail
        go_ret
        exact ⟨rfl, SameD.refl _⟩
      have e0 : ((x : Int) == 32) = false := by simp; omega
      have e1 : ((x : Int) == 9) = false := by simp; omega
      have e2 : ((x : Int) == 10) = false := by simp; omega
      have e3 : ((x : Int) == 13) = false := by simp; omega
      have e4 : ((x : Int) == 95) = false := by simp; omega
      have e5 : decide ((97 : Int) ≤ (x : Int)) = true := decide_eq_true (by omega)
      have e6 : decide ((x : Int) ≤ 122) = false := decide_eq_false (by omega)
      have e7 : decide ((65 : Int) ≤ (x : Int)) = true := decide_eq_true (by omega)
      have e8 : decide ((x : Int) ≤ 90) = false := decide_eq_false (by omega)
      have e9 : decide ((48 : Int) ≤ (x : Int)) = true := decide_eq_true (by omega)
      have e10 : decide ((x : Int) ≤ 57) = false := decide_eq_false (by omega)
      clear n32 n9 n10 n13 n95 n97 n65 n48
      go_wp2_with fail
      go_ret
      exact ⟨rfl, SameD.refl _⟩
end Ytglanajglhneeaa
end Go.Proofs
