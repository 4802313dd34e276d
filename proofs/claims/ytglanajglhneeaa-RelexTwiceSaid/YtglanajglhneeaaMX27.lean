/- The token at a place, the document's: its kind, where it ends. Conditions: a string of at most 10^15 bytes. -/
import Derived.Test.YtglanajglhneeaaMX24
import Derived.Test.YtglanajglhneeaaMX25
import Derived.Test.YtglanajglhneeaaMX26
namespace Go.Proofs
open Go Go.RowKit Go.Lib
namespace Ytglanajglhneeaa
namespace D
open U
theorem seven {s : ByteArray} {p : Nat} (hp : p < s.size) (h : (rn s 0 p).1 = 7) : cls (s.get! p).toNat = 3 := by
  by_cases hb : (s.get! p).toNat < 128
  · rw [rn_lo hp hb] at h
    have hc := cls_lt (s.get! p).toNat
    have hin := stp_in (show 0 < 35 by decide) hc
    have hpos := stp_0 hc
    have h7 := bl_7 _ _ (by omega) (by omega) h
    rcases stp_to7 (show 0 < 35 by decide) hc (by omega) with h1 | h1
    · exact h1.2
    · cases h1
  · rw [rn_hi hp (by omega)] at h
    exact absurd h (show ¬ 34 = 7 by decide)
theorem lo_of {s : ByteArray} {p k : Nat} (h : cls (s.get! p).toNat = k) (hk : k ≠ 0) : (s.get! p).toNat < 128 := Decidable.byContradiction fun hb => by rw [cls_hi (by omega)] at h; omega
end D
def P12 (y : Nat) : Prop := D.cls y = 1 ∨ D.cls y = 2
def P3 (y : Nat) : Prop := D.cls y = 3
def P4 (y : Nat) : Prop := D.cls y = 4
instance (y : Nat) : Decidable (P12 y) := by unfold P12; infer_instance
instance (y : Nat) : Decidable (P3 y) := by unfold P3; infer_instance
instance (y : Nat) : Decidable (P4 y) := by unfold P4; infer_instance
theorem blank_is {y : Nat} (h : y < 256) (b : Bool) (hb : decide (P12 y) = b) (W : World) : Calls Try.prog 47 #[.int .u8 y] W (BoolS b W) := by
  rw [← hb]; exact blank_any y h W
theorem letter_is {y : Nat} (h : y < 256) (b : Bool) (hb : decide (P3 y) = b) (W : World) : Calls Try.prog 49 #[.int .u8 y] W (BoolS b W) := by
  rw [← hb]; exact letter_any y h W
theorem digit_is {y : Nat} (h : y < 256) (b : Bool) (hb : decide (P4 y) = b) (W : World) : Calls Try.prog 50 #[.int .u8 y] W (BoolS b W) := by
  rw [← hb]; exact digit_any y h W
set_option maxHeartbeats 4000000 in
set_option maxRecDepth 100000 in
theorem one_any (s : ByteArray) (p : Nat) (hp : p < s.size) (hs : s.size ≤ 1000000000000000) (w : World) : Calls Try.prog 33 #[.string s, .int .i64 p] w (KindB (D.tok (s.extract p s.size)).k (p + (D.tok (s.extract p s.size)).w) w) := by
  obtain ⟨q0, n0, hc0⟩ : ∃ q n, D.rn s 0 p = (q, n) := ⟨_, _, rfl⟩
  have hT := D.tok_from s p hp s.size q0 n0 (by omega) hc0
  have hk : (D.tok (s.extract p s.size)).k = if q0 = 7 then D.wrd (s.extract p n0) else D.kd q0 := by rw [hT.2.2.2.2.1]
  have hw : p + (D.tok (s.extract p s.size)).w = n0 := by rw [hT.2.2.2.2.1]; have := hT.2.2.1; show p + (n0 - p) = n0; omega
  rw [hk, hw]
  have h7 : q0 = 7 → D.cls (s.get! p).toNat = 3 := fun e => D.seven hp (by rw [hc0]; exact e)
  clear hk hw hT
  have p1 : (p : Int) < (s.size : Int) := by omega
  have p2 : p ≤ s.size := by omega
  have hb := U.at_byte hp
  have h256 : (s.get! p).toNat < 256 := (s.get! p).toNat_lt
  by_cases c12 : P12 (s.get! p).toNat
  · have hB := fun W => blank_is h256 true (decide_eq_true c12) W
    have hq : q0 = 1 ∧ (D.rb s 1 p).2 = n0 := by
      have h := D.run_stay (q := 1) hp (by rcases c12 with h | h <;> exact D.lo_of h (by decide)) (by rcases c12 with h | h <;> rw [h] <;> decide +kernel) (by rcases c12 with h | h <;> rw [h] <;> decide +kernel) D.stays_1
      have e := h.symm.trans hc0
      injection e with e1 e2
      exact ⟨e1.symm, e2⟩
    obtain ⟨rfl, hn⟩ := hq
    rw [if_neg (by decide)]
    have HN := Lib.hid hn
    clear hn hc0 h7
    clear c12
    generalize (s.get! p).toNat = y at *
    go_enter Try.func33, Try.ntmps33
    go_wp2_with fail
    refine (hB _).mono ?_
    rintro e w1 ⟨rfl, hw1⟩
    obtain rfl : w = w1 := (show w1 = w from hw1).symm
    go_wp2_with fail
    go_loopw [7] (fun vi wr => ∃ i : Nat, vi = .int .i64 i ∧ p ≤ i ∧ i ≤ s.size ∧ Hid ((D.rb s 1 i).2 = n0 ∧ SameD w wr)) (fun vi _ => s.size - (RowKit.intOf vi).toNat)
    case atStart => exact ⟨p, rfl, Nat.le_refl _, p2, Lib.hid ⟨HN.out, SameD.refl _⟩⟩
    case round =>
      obtain ⟨i, rfl, hpi, hi, HR⟩ := hrel
      obtain rfl : w = wr := (show wr = w from HR.out.2).symm
      by_cases hlt : i < s.size
      · have i1 : (i : Int) < (s.size : Int) := by omega
        have i0 : (0 : Int) ≤ (i : Int) := Int.natCast_nonneg i
        have hbi := U.at_byte hlt
        have h2 : (s.get! i).toNat < 256 := (s.get! i).toNat_lt
        have HLT := Lib.hid (And.intro hlt hpi)
        by_cases c0 : P12 (s.get! i).toNat
        · have hx0 := fun W => blank_is h2 true (decide_eq_true c0) W
          have h1 : D.rb s 1 i = D.rb s 1 (i + 1) := D.rb_step hlt (by rw [D.stp_1 (D.cls_lt _)]; exact if_pos (c0))
          have HE := Lib.hid (show (D.rb s 1 (i + 1)).2 = n0 by rw [← h1]; exact HR.out.1)
          clear h1 c0
          generalize (s.get! i).toNat = z at *
          go_wp2_with fail
          refine (hx0 _).mono ?_
          rintro e w1 ⟨rfl, hw1⟩
          obtain rfl : w = w1 := (show w1 = w from hw1).symm
          go_wp2_with fail
          go_roundw
          case rel => exact ⟨i + 1, by go_num, by omega, HLT.out.1, Lib.hid ⟨HE.out, SameD.refl _⟩⟩
          case measure => have := HLT.out; simp [RowKit.intOf]; omega
        have hx0 := fun W => blank_is h2 false (decide_eq_false c0) W
        have h1 : D.rb s 1 i = (1, i) := D.rb_stop hlt (by rw [D.stp_1 (D.cls_lt _)]; exact Int.lt_of_le_of_lt (Int.le_of_eq (if_neg (c0))) (by decide))
        have HE := Lib.hid (show i = n0 by have := HR.out.1; rwa [h1] at this)
        clear h1 c0
        generalize (s.get! i).toNat = z at *
        go_wp2_with fail
        refine (hx0 _).mono ?_
        rintro e w1 ⟨rfl, hw1⟩
        obtain rfl : w = w1 := (show w1 = w from hw1).symm
        go_wp2_with fail
        go_ret2
        obtain rfl := HE.out
        exact ⟨rfl, Below.refl _ _⟩
      · have i1 : ¬ (i : Int) < (s.size : Int) := by omega
        have h1 : D.rb s 1 i = (1, i) := D.rb_end hlt
        have HE := Lib.hid (show i = n0 by have := HR.out.1; rwa [h1] at this)
        clear h1
        go_wp2_with fail
        go_ret2
        obtain rfl := HE.out
        exact ⟨rfl, Below.refl _ _⟩
  have hB := fun W => blank_is h256 false (decide_eq_false c12) W
  by_cases c47 : (s.get! p).toNat = 47
  · have h1 : D.rn s 0 p = D.rn s 2 (p + 1) := by
      rw [D.rn_lo hp (by omega), c47, D.rn_rb (q := 2) (by decide) (by decide) hp]; rfl
    rw [if_neg (fun e => by have := h7 e; rw [c47] at this; exact absurd this (by decide +kernel))]
    have hS := fun W => slash_any s p hp c47 hs W
    rw [← h1, hc0] at hS
    simp only at hS
    rw [c47] at hB hb
    clear h1 hc0 h7 c47 c12 h256
    go_enter Try.func33, Try.ntmps33
    go_wp2_with fail
    refine (hB _).mono ?_
    rintro e w1 ⟨rfl, hw1⟩
    obtain rfl : w = w1 := (show w1 = w from hw1).symm
    go_wp2_with fail
    refine (hS _).mono ?_
    rintro e w1 ⟨rfl, hw1⟩
    go_wp2_with fail
    go_ret2
    exact ⟨rfl, hw1⟩
  have t47 : (((s.get! p).toNat : Int) == 47) = false := by rw [beq_eq_false_iff_ne]; omega
  by_cases c3 : P3 (s.get! p).toNat
  · have hL := fun W => letter_is h256 true (decide_eq_true c3) W
    have hq : q0 = 7 ∧ (D.rb s 7 p).2 = n0 := by
      have h := D.run_stay (q := 7) hp (D.lo_of c3 (by decide)) (by rw [show D.cls (s.get! p).toNat = 3 from c3]; decide +kernel) (by rw [show D.cls (s.get! p).toNat = 3 from c3]; decide +kernel) D.stays_7
      have e := h.symm.trans hc0
      injection e with e1 e2
      exact ⟨e1.symm, e2⟩
    obtain ⟨rfl, hn⟩ := hq
    rw [if_pos rfl]
    have HN := Lib.hid hn
    clear hn hc0 h7
    clear c12 c3 c47
    generalize (s.get! p).toNat = y at *
    go_enter Try.func33, Try.ntmps33
    go_wp2_with fail
    refine (hB _).mono ?_
    rintro e w1 ⟨rfl, hw1⟩
    obtain rfl : w = w1 := (show w1 = w from hw1).symm
    go_wp2_with fail
    refine (hL _).mono ?_
    rintro e w1 ⟨rfl, hw1⟩
    obtain rfl : w = w1 := (show w1 = w from hw1).symm
    go_wp2_with fail
    go_loopw [7] (fun vi wr => ∃ i : Nat, vi = .int .i64 i ∧ p ≤ i ∧ i ≤ s.size ∧ Hid ((D.rb s 7 i).2 = n0 ∧ SameD w wr)) (fun vi _ => s.size - (RowKit.intOf vi).toNat)
    case atStart => exact ⟨p, rfl, Nat.le_refl _, p2, Lib.hid ⟨HN.out, SameD.refl _⟩⟩
    case round =>
      obtain ⟨i, rfl, hpi, hi, HR⟩ := hrel
      obtain rfl : w = wr := (show wr = w from HR.out.2).symm
      by_cases hlt : i < s.size
      · have i1 : (i : Int) < (s.size : Int) := by omega
        have i0 : (0 : Int) ≤ (i : Int) := Int.natCast_nonneg i
        have hbi := U.at_byte hlt
        have h2 : (s.get! i).toNat < 256 := (s.get! i).toNat_lt
        have HLT := Lib.hid (And.intro hlt hpi)
        by_cases c0 : P3 (s.get! i).toNat
        · have hx0 := fun W => letter_is h2 true (decide_eq_true c0) W
          have h1 : D.rb s 7 i = D.rb s 7 (i + 1) := D.rb_step hlt (by rw [D.stp_7 (D.cls_lt _)]; exact if_pos (Or.inl c0))
          have HE := Lib.hid (show (D.rb s 7 (i + 1)).2 = n0 by rw [← h1]; exact HR.out.1)
          clear h1 c0
          generalize (s.get! i).toNat = z at *
          go_wp2_with fail
          refine (hx0 _).mono ?_
          rintro e w1 ⟨rfl, hw1⟩
          obtain rfl : w = w1 := (show w1 = w from hw1).symm
          go_wp2_with fail
          go_roundw
          case rel => exact ⟨i + 1, by go_num, by omega, HLT.out.1, Lib.hid ⟨HE.out, SameD.refl _⟩⟩
          case measure => have := HLT.out; simp [RowKit.intOf]; omega
        by_cases c1 : P4 (s.get! i).toNat
        · have hx1 := fun W => digit_is h2 true (decide_eq_true c1) W
          have hx0 := fun W => letter_is h2 false (decide_eq_false c0) W
          have h1 : D.rb s 7 i = D.rb s 7 (i + 1) := D.rb_step hlt (by rw [D.stp_7 (D.cls_lt _)]; exact if_pos (Or.inr c1))
          have HE := Lib.hid (show (D.rb s 7 (i + 1)).2 = n0 by rw [← h1]; exact HR.out.1)
          clear h1 c0 c1
          generalize (s.get! i).toNat = z at *
          go_wp2_with fail
          refine (hx0 _).mono ?_
          rintro e w1 ⟨rfl, hw1⟩
          obtain rfl : w = w1 := (show w1 = w from hw1).symm
          go_wp2_with fail
          refine (hx1 _).mono ?_
          rintro e w1 ⟨rfl, hw1⟩
          obtain rfl : w = w1 := (show w1 = w from hw1).symm
          go_wp2_with fail
          go_roundw
          case rel => exact ⟨i + 1, by go_num, by omega, HLT.out.1, Lib.hid ⟨HE.out, SameD.refl _⟩⟩
          case measure => have := HLT.out; simp [RowKit.intOf]; omega
        have hx0 := fun W => letter_is h2 false (decide_eq_false c0) W
        have hx1 := fun W => digit_is h2 false (decide_eq_false c1) W
        have h1 : D.rb s 7 i = (7, i) := D.rb_stop hlt (by rw [D.stp_7 (D.cls_lt _)]; exact Int.lt_of_le_of_lt (Int.le_of_eq (if_neg (fun h => h.elim (fun h => c0 h) (fun h => c1 h)))) (by decide))
        have HE := Lib.hid (show i = n0 by have := HR.out.1; rwa [h1] at this)
        clear h1 c0 c1
        generalize (s.get! i).toNat = z at *
        go_wp2_with fail
        refine (hx0 _).mono ?_
        rintro e w1 ⟨rfl, hw1⟩
        obtain rfl : w = w1 := (show w1 = w from hw1).symm
        go_wp2_with fail
        refine (hx1 _).mono ?_
        rintro e w1 ⟨rfl, hw1⟩
        obtain rfl : w = w1 := (show w1 = w from hw1).symm
        have hwd := fun W => word12_any (s.extract p i) W
        go_wp2_with fail
        refine (hwd _).mono ?_
        rintro e w1 ⟨rfl, hw1⟩
        go_wp2_with fail
        go_ret2
        obtain rfl := HE.out
        exact ⟨rfl, hw1⟩
      · have i1 : ¬ (i : Int) < (s.size : Int) := by omega
        have h1 : D.rb s 7 i = (7, i) := D.rb_end hlt
        have HE := Lib.hid (show i = n0 by have := HR.out.1; rwa [h1] at this)
        clear h1
        have hwd := fun W => word12_any (s.extract p i) W
        go_wp2_with fail
        refine (hwd _).mono ?_
        rintro e w1 ⟨rfl, hw1⟩
        go_wp2_with fail
        go_ret2
        obtain rfl := HE.out
        exact ⟨rfl, hw1⟩
  have hL := fun W => letter_is h256 false (decide_eq_false c3) W
  rw [if_neg (fun e => c3 (h7 e))]
  by_cases c4 : P4 (s.get! p).toNat
  · have hD := fun W => digit_is h256 true (decide_eq_true c4) W
    have hq : q0 = 8 ∧ (D.rb s 8 p).2 = n0 := by
      have h := D.run_stay (q := 8) hp (D.lo_of c4 (by decide)) (by rw [show D.cls (s.get! p).toNat = 4 from c4]; decide +kernel) (by rw [show D.cls (s.get! p).toNat = 4 from c4]; decide +kernel) D.stays_8
      have e := h.symm.trans hc0
      injection e with e1 e2
      exact ⟨e1.symm, e2⟩
    obtain ⟨rfl, hn⟩ := hq
    have HN := Lib.hid hn
    clear hn hc0 h7
    clear c12 c3 c47 c4
    generalize (s.get! p).toNat = y at *
    go_enter Try.func33, Try.ntmps33
    go_wp2_with fail
    refine (hB _).mono ?_
    rintro e w1 ⟨rfl, hw1⟩
    obtain rfl : w = w1 := (show w1 = w from hw1).symm
    go_wp2_with fail
    refine (hL _).mono ?_
    rintro e w1 ⟨rfl, hw1⟩
    obtain rfl : w = w1 := (show w1 = w from hw1).symm
    go_wp2_with fail
    refine (hD _).mono ?_
    rintro e w1 ⟨rfl, hw1⟩
    obtain rfl : w = w1 := (show w1 = w from hw1).symm
    go_wp2_with fail
    go_loopw [7] (fun vi wr => ∃ i : Nat, vi = .int .i64 i ∧ p ≤ i ∧ i ≤ s.size ∧ Hid ((D.rb s 8 i).2 = n0 ∧ SameD w wr)) (fun vi _ => s.size - (RowKit.intOf vi).toNat)
    case atStart => exact ⟨p, rfl, Nat.le_refl _, p2, Lib.hid ⟨HN.out, SameD.refl _⟩⟩
    case round =>
      obtain ⟨i, rfl, hpi, hi, HR⟩ := hrel
      obtain rfl : w = wr := (show wr = w from HR.out.2).symm
      by_cases hlt : i < s.size
      · have i1 : (i : Int) < (s.size : Int) := by omega
        have i0 : (0 : Int) ≤ (i : Int) := Int.natCast_nonneg i
        have hbi := U.at_byte hlt
        have h2 : (s.get! i).toNat < 256 := (s.get! i).toNat_lt
        have HLT := Lib.hid (And.intro hlt hpi)
        by_cases c0 : P4 (s.get! i).toNat
        · have hx0 := fun W => digit_is h2 true (decide_eq_true c0) W
          have h1 : D.rb s 8 i = D.rb s 8 (i + 1) := D.rb_step hlt (by rw [D.stp_8 (D.cls_lt _)]; exact if_pos (c0))
          have HE := Lib.hid (show (D.rb s 8 (i + 1)).2 = n0 by rw [← h1]; exact HR.out.1)
          clear h1 c0
          generalize (s.get! i).toNat = z at *
          go_wp2_with fail
          refine (hx0 _).mono ?_
          rintro e w1 ⟨rfl, hw1⟩
          obtain rfl : w = w1 := (show w1 = w from hw1).symm
          go_wp2_with fail
          go_roundw
          case rel => exact ⟨i + 1, by go_num, by omega, HLT.out.1, Lib.hid ⟨HE.out, SameD.refl _⟩⟩
          case measure => have := HLT.out; simp [RowKit.intOf]; omega
        have hx0 := fun W => digit_is h2 false (decide_eq_false c0) W
        have h1 : D.rb s 8 i = (8, i) := D.rb_stop hlt (by rw [D.stp_8 (D.cls_lt _)]; exact Int.lt_of_le_of_lt (Int.le_of_eq (if_neg (c0))) (by decide))
        have HE := Lib.hid (show i = n0 by have := HR.out.1; rwa [h1] at this)
        clear h1 c0
        generalize (s.get! i).toNat = z at *
        go_wp2_with fail
        refine (hx0 _).mono ?_
        rintro e w1 ⟨rfl, hw1⟩
        obtain rfl : w = w1 := (show w1 = w from hw1).symm
        go_wp2_with fail
        go_ret2
        obtain rfl := HE.out
        exact ⟨rfl, Below.refl _ _⟩
      · have i1 : ¬ (i : Int) < (s.size : Int) := by omega
        have h1 : D.rb s 8 i = (8, i) := D.rb_end hlt
        have HE := Lib.hid (show i = n0 by have := HR.out.1; rwa [h1] at this)
        clear h1
        go_wp2_with fail
        go_ret2
        obtain rfl := HE.out
        exact ⟨rfl, Below.refl _ _⟩
  have hD := fun W => digit_is h256 false (decide_eq_false c4) W
  by_cases c34 : (s.get! p).toNat = 34
  · have h1 : D.rn s 0 p = D.rn s 9 (p + 1) := by
      rw [D.rn_lo hp (by omega), c34, D.rn_rb (q := 9) (by decide) (by decide) hp]; rfl
    have hS := fun W => quoted_any s p hp hs W
    rw [← h1, hc0] at hS
    simp only at hS
    clear t47
    rw [c34] at hB hb hL hD
    clear h1 hc0 h7 c47 c12 c3 c4 c34 h256
    go_enter Try.func33, Try.ntmps33
    go_wp2_with fail
    refine (hB _).mono ?_
    rintro e w1 ⟨rfl, hw1⟩
    obtain rfl : w = w1 := (show w1 = w from hw1).symm
    go_wp2_with fail
    refine (hL _).mono ?_
    rintro e w1 ⟨rfl, hw1⟩
    obtain rfl : w = w1 := (show w1 = w from hw1).symm
    go_wp2_with fail
    refine (hD _).mono ?_
    rintro e w1 ⟨rfl, hw1⟩
    obtain rfl : w = w1 := (show w1 = w from hw1).symm
    go_wp2_with fail
    refine (hS _).mono ?_
    rintro e w1 ⟨rfl, hw1⟩
    go_wp2_with fail
    go_ret2
    exact ⟨rfl, hw1⟩
  have t34 : (((s.get! p).toNat : Int) == 34) = false := by rw [beq_eq_false_iff_ne]; omega
  have hS := fun W => sign12_any s p hp (fun h => by
    unfold D.Ns at h
    rw [D.cls_5, D.cls_7] at h
    rcases h with h | h | h | h | h | h
    · exact c12 (Or.inl h)
    · exact c12 (Or.inr h)
    · exact c3 h
    · exact c4 h
    · exact c34 h
    · exact c47 h) hs W
  rw [hc0] at hS
  simp only at hS
  clear hc0 h7 c47 c12 c3 c4 c34
  generalize (s.get! p).toNat = y at *
  go_enter Try.func33, Try.ntmps33
  go_wp2_with fail
  refine (hB _).mono ?_
  rintro e w1 ⟨rfl, hw1⟩
  obtain rfl : w = w1 := (show w1 = w from hw1).symm
  go_wp2_with fail
  refine (hL _).mono ?_
  rintro e w1 ⟨rfl, hw1⟩
  obtain rfl : w = w1 := (show w1 = w from hw1).symm
  go_wp2_with fail
  refine (hD _).mono ?_
  rintro e w1 ⟨rfl, hw1⟩
  obtain rfl : w = w1 := (show w1 = w from hw1).symm
  go_wp2_with fail
  refine (hS _).mono ?_
  rintro e w1 ⟨rfl, hw1⟩
  go_wp2_with fail
  go_ret2
  exact ⟨rfl, hw1⟩
end Ytglanajglhneeaa
end Go.Proofs
