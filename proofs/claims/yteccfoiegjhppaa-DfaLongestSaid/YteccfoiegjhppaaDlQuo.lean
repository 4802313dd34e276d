/- Of the law DfaLongest: alike, quoted. Conditions: strings of at most 10^12 bytes. -/
import Derived.Test.YteccfoiegjhppaaDlFns
import Derived.Test.YteccfoiegjhppaaDlMath
namespace Go.Proofs
open Go Go.RowKit Go.Lib
namespace Yteccfoiegjhppaa
theorem below_drw {a w : World} {n : Nat} (h : Below n a w) (m : Nat) : Below n a (w.drewN m) := h.trans ⟨rfl, rfl, rfl, Nat.le_refl _, fun _ _ => rfl⟩
set_option maxHeartbeats 2000000 in
set_option maxRecDepth 100000 in
theorem alike_any (s o : ByteArray) (hs : s.size ≤ 1000000000000) (ho : o.size ≤ 100) (w : World) : Calls Try.prog 13 #[.string s, .string o] w (BoolB (D.akB s o s.size) w) := by
  have HF := Lib.hid (fun i hi he => D.akB_false (s := s) (o := o) (n := s.size) (i := i) hi he)
  have HT := Lib.hid (D.akB_iff (s := s) (o := o) (n := s.size)).2
  generalize D.akB s o s.size = r at *
  go_enter Try.func13, Try.ntmps13
  go_wp2_with fail
  go_loopw [5] (fun vi wr => ∃ i : Nat, vi = .int .i64 i ∧ i ≤ s.size ∧ Hid ((∀ j, j < i → D.hsB o (s.get! j).toNat o.size = true) ∧ Below w.heap.size w wr)) (fun vi _ => s.size - (RowKit.intOf vi).toNat)
  case atStart => exact ⟨0, rfl, Nat.zero_le _, Lib.hid ⟨fun j h => absurd h (Nat.not_lt_zero _), Below.refl _ _⟩⟩
  case round =>
    obtain ⟨i, rfl, hi, HR⟩ := hrel
    by_cases hlt : i < s.size
    · have i1 : (i : Int) < (s.size : Int) := by omega
      have i0 : (0 : Int) ≤ (i : Int) := Int.natCast_nonneg i
      have hb := U.at_byte hlt
      have HLT := Lib.hid hlt
      have HFi := Lib.hid (HF.out i hlt)
      have HRj := Lib.hid HR.out.1
      generalize hy : (s.get! i).toNat = y at *
      have HY := Lib.hid hy
      clear hy
      go_wp2_with fail
      go_loopw [6, 7] (fun vf vk wx => ∃ k : Nat, vf = .bool (D.hsB o y k) ∧ vk = .int .i64 k ∧ k ≤ o.size ∧ Below w.heap.size w wx) (fun _ vk _ => o.size - (RowKit.intOf vk).toNat)
      case atStart => exact ⟨0, rfl, rfl, Nat.zero_le _, HR.out.2⟩
      case round =>
        obtain ⟨k, rfl, rfl, hk, hbw⟩ := hrel
        by_cases hlk : k < o.size
        · have k1 : (k : Int) < (o.size : Int) := by omega
          have k0 : (0 : Int) ≤ (k : Int) := Int.natCast_nonneg k
          have hbk := U.at_byte hlk
          have HLK := Lib.hid hlk
          have HB := Lib.hid hbw
          have HE := Lib.hid (show D.hsB o y (k + 1) = (D.hsB o y k || decide ((o.get! k).toNat = y)) from rfl)
          clear hbw
          generalize (o.get! k).toNat = z at *
          generalize D.hsB o y k = f at *
          cases f
          · by_cases he : z = y
            · subst he
              have HE2 := Lib.hid (show D.hsB o z (k + 1) = true by rw [HE.out]; simp)
              go_wp2_with fail
              go_quiet (fail)
              go_wp2_with fail
              go_roundw
              case rel => exact ⟨k + 1, by rw [HE2.out], by go_num, HLK.out, below_drw HB.out _⟩
              case measure => have := HLK.out; simp [RowKit.intOf]; omega
            · have ee : ((z : Int) == (y : Int)) = false := by rw [beq_eq_false_iff_ne]; omega
              have HE2 := Lib.hid (show D.hsB o y (k + 1) = false by rw [HE.out, decide_eq_false he]; rfl)
              clear he
              go_wp2_with fail
              go_quiet (fail)
              go_wp2_with fail
              go_roundw
              case rel => exact ⟨k + 1, by rw [HE2.out], by go_num, HLK.out, below_drw HB.out _⟩
              case measure => have := HLK.out; simp [RowKit.intOf]; omega
          · have HE2 := Lib.hid (show D.hsB o y (k + 1) = true by rw [HE.out]; rfl)
            go_wp2_with fail
            go_quiet (fail)
            go_wp2_with fail
            go_roundw
            case rel => exact ⟨k + 1, by rw [HE2.out], by go_num, HLK.out, below_drw HB.out _⟩
            case measure => have := HLK.out; simp [RowKit.intOf]; omega
        · obtain rfl : k = o.size := by omega
          have k1 : ¬ ((o.size : Nat) : Int) < (o.size : Int) := by omega
          have HB := Lib.hid hbw
          clear hbw hlk
          by_cases hh : D.hsB o y o.size = true
          · have HN := Lib.hid (show ∀ j, j < i + 1 → D.hsB o (s.get! j).toNat o.size = true from fun j hj => by by_cases e : j = i; (· subst e; rw [HY.out]; exact hh); (· exact HRj.out j (by omega)))
            rw [hh]
            clear hh
            go_wp2_with fail
            go_roundw
            case rel => exact ⟨i + 1, by go_num, HLT.out, Lib.hid ⟨HN.out, HB.out⟩⟩
            case measure => have := HLT.out; simp [RowKit.intOf]; omega
          · have hh : D.hsB o y o.size = false := by simpa using hh
            have HX := Lib.hid (HFi.out hh)
            rw [hh]
            clear hh
            go_wp2_with fail
            go_ret
            rw [HX.out]
            exact ⟨rfl, HB.out⟩
    · obtain rfl : i = s.size := by omega
      have i1 : ¬ ((s.size : Nat) : Int) < (s.size : Int) := by omega
      have HX := Lib.hid (HT.out HR.out.1)
      go_wp2_with fail
      go_ret
      rw [HX.out]
      exact ⟨rfl, HR.out.2⟩
set_option maxHeartbeats 2000000 in
set_option maxRecDepth 100000 in
theorem quoted9_any (s : ByteArray) (h1 : 1 ≤ s.size) (hs : s.size ≤ 1000000000000) (w : World) : Calls Try.prog 16 #[.string s] w (fun e w' => e = .returned (.int .u8 (D.qtd s : Int)) ∧ w' = w) := by
  generalize hk : D.qtd s = k
  unfold D.qtd at hk
  generalize hq0 : D.kd (D.rb s 9 1).1 = q0 at *
  generalize hn0 : (D.rb s 9 1).2 = n0 at *
  have HK := Lib.hid hk
  have HC := Lib.hid (And.intro hq0 hn0)
  have HT := Lib.hid (fun c w => ten_any c w)
  clear hq0 hn0 hk
  go_enter Try.func16, Try.ntmps16
  go_wp2_with fail
  go_loopw [3] (fun vi wr => ∃ i : Nat, vi = .int .i64 i ∧ i ≤ s.size ∧ Hid ((D.kd (D.rb s 9 i).1 = q0 ∧ (D.rb s 9 i).2 = n0) ∧ wr = w)) (fun vi _ => s.size - (RowKit.intOf vi).toNat)
  case atStart => exact ⟨1, rfl, h1, Lib.hid ⟨HC.out, rfl⟩⟩
  case round =>
    obtain ⟨i, rfl, hi, HR⟩ := hrel
    obtain rfl : wr = w := HR.out.2
    have HR1 := Lib.hid HR.out.1
    clear HR
    by_cases hlt : i < s.size
    · have i1 : (i : Int) < (s.size : Int) := by omega
      have i0 : (0 : Int) ≤ (i : Int) := Int.natCast_nonneg i
      have hb := U.at_byte hlt
      have HLT := Lib.hid hlt
      have ht := HT.out (s.get! i).toNat wr
      by_cases h10 : (s.get! i).toNat = 10 ∨ (s.get! i).toNat = 13
      · have HE := Lib.hid (by have := HR1.out; rw [D.rb_stop (q := 9) hlt (by rw [D.stp_9 (D.cls_lt _), if_neg (by rw [D.cls_5]; omega), if_neg (by rw [D.cls_6]; omega), if_pos (by rw [D.cls_2]; omega)]; decide)] at this; exact this : D.kd 9 = q0 ∧ i = n0)
        have HX := Lib.hid (show k = 0 by obtain ⟨e1, e2⟩ := HE.out; have := HK.out; rw [← e2, if_neg (by omega)] at this; exact this.symm)
        rw [decide_eq_true h10] at ht
        clear h10
        go_wp2_with fail
        refine ht.mono ?_
        rintro e w1 ⟨rfl, rfl⟩
        go_wp2_with fail
        go_ret
        rw [HX.out]
        exact ⟨rfl, rfl⟩
      rw [decide_eq_false h10] at ht
      by_cases h34 : (s.get! i).toNat = 34
      · have h2 := D.rb_step (q := 9) (n := 11) hlt (by rw [h34]; decide +kernel)
        rw [D.rb_fin (q := 11) (fun c => by show (-1 : Int) < 0; decide)] at h2
        have HE := Lib.hid (by have := HR1.out; rw [h2] at this; exact this : D.kd 11 = q0 ∧ i + 1 = n0)
        rw [h34] at hb ht
        clear h10 h34 h2
        by_cases he : i + 1 = s.size
        · have t1 : ((i : Int) + 1 == (s.size : Int)) = true := by rw [beq_iff_eq]; omega
          have HX := Lib.hid (show k = 8 by obtain ⟨e1, e2⟩ := HE.out; have := HK.out; rw [← e1, ← e2, if_pos he] at this; exact this.symm)
          clear he
          go_wp2_with fail
          refine ht.mono ?_
          rintro e w1 ⟨rfl, rfl⟩
          go_wp2_with fail
          go_ret
          rw [HX.out]
          exact ⟨rfl, rfl⟩
        · have t1 : ((i : Int) + 1 == (s.size : Int)) = false := by rw [beq_eq_false_iff_ne]; omega
          have HX := Lib.hid (show k = 0 by obtain ⟨e1, e2⟩ := HE.out; have := HK.out; rw [← e2, if_neg he] at this; exact this.symm)
          clear he
          go_wp2_with fail
          refine ht.mono ?_
          rintro e w1 ⟨rfl, rfl⟩
          go_wp2_with fail
          go_ret
          rw [HX.out]
          exact ⟨rfl, rfl⟩
      by_cases h92 : (s.get! i).toNat = 92
      · have h2 := D.rb_step (q := 9) (n := 10) hlt (by rw [h92]; decide +kernel)
        have H1 := Lib.hid (by have := HR1.out; rw [h2] at this; exact this : D.kd (D.rb s 10 (i + 1)).1 = q0 ∧ (D.rb s 10 (i + 1)).2 = n0)
        rw [h92] at hb ht
        clear h10 h34 h92 h2
        by_cases hz : i + 1 < s.size
        · have j1 : (i : Int) + 1 < (s.size : Int) := by omega
          have hb2 := U.at_byte hz
          have HZ := Lib.hid hz
          have ht2 := HT.out (s.get! (i + 1)).toNat wr
          by_cases h10 : (s.get! (i + 1)).toNat = 10 ∨ (s.get! (i + 1)).toNat = 13
          · have HE := Lib.hid (by have := H1.out; rw [D.rb_stop (q := 10) hz (by rw [D.stp_10 (D.cls_lt _), if_pos (by rw [D.cls_2]; omega)]; decide)] at this; exact this : D.kd 10 = q0 ∧ i + 1 = n0)
            have HX := Lib.hid (show k = 0 by obtain ⟨e1, e2⟩ := HE.out; have := HK.out; rw [← e2, if_neg (by omega)] at this; exact this.symm)
            rw [decide_eq_true h10] at ht2
            clear h10
            generalize (s.get! (i + 1)).toNat = z at *
            go_wp2_with fail
            refine ht.mono ?_
            rintro e w1 ⟨rfl, rfl⟩
            go_wp2_with fail
            refine ht2.mono ?_
            rintro e w1 ⟨rfl, rfl⟩
            go_wp2_with fail
            go_ret
            rw [HX.out]
            exact ⟨rfl, rfl⟩
          · have h2 := D.rb_step (q := 10) (n := 9) hz (by rw [D.stp_10 (D.cls_lt _), if_neg (by rw [D.cls_2]; omega)]; rfl)
            have HE := Lib.hid (by have := H1.out; rw [h2] at this; exact this : D.kd (D.rb s 9 (i + 1 + 1)).1 = q0 ∧ (D.rb s 9 (i + 1 + 1)).2 = n0)
            rw [decide_eq_false h10] at ht2
            clear h10 h2
            generalize (s.get! (i + 1)).toNat = z at *
            go_wp2_with fail
            refine ht.mono ?_
            rintro e w1 ⟨rfl, rfl⟩
            go_wp2_with fail
            refine ht2.mono ?_
            rintro e w1 ⟨rfl, rfl⟩
            go_wp2_with fail
            go_roundw
            case rel => exact ⟨i + 1 + 1, by go_num, HZ.out, Lib.hid ⟨HE.out, by first | rfl | trivial⟩⟩
            case measure => have := HZ.out; simp [RowKit.intOf]; omega
        · have j1 : ¬ (i : Int) + 1 < (s.size : Int) := by omega
          have HE := Lib.hid (by have := H1.out; rw [D.rb_end hz] at this; rw [D.rb_end (q := 9) hz]; exact this : D.kd (D.rb s 9 (i + 1)).1 = q0 ∧ (D.rb s 9 (i + 1)).2 = n0)
          go_wp2_with fail
          refine ht.mono ?_
          rintro e w1 ⟨rfl, rfl⟩
          go_wp2_with fail
          go_roundw
          case rel => exact ⟨i + 1, by go_num, HLT.out, Lib.hid ⟨HE.out, by first | rfl | trivial⟩⟩
          case measure => have := HLT.out; simp [RowKit.intOf]; omega
      have h2 := D.rb_step (q := 9) (n := 9) hlt (by rw [D.stp_9 (D.cls_lt _), if_neg (by rw [D.cls_5]; omega), if_neg (by rw [D.cls_6]; omega), if_neg (by rw [D.cls_2]; omega)]; rfl)
      have HE := Lib.hid (by have := HR1.out; rw [h2] at this; exact this : D.kd (D.rb s 9 (i + 1)).1 = q0 ∧ (D.rb s 9 (i + 1)).2 = n0)
      have t3 : (((s.get! i).toNat : Int) == 34) = false := by rw [beq_eq_false_iff_ne]; omega
      have t4 : (((s.get! i).toNat : Int) == 92) = false := by rw [beq_eq_false_iff_ne]; omega
      clear h10 h34 h92 h2
      generalize (s.get! i).toNat = y at *
      go_wp2_with fail
      refine ht.mono ?_
      rintro e w1 ⟨rfl, rfl⟩
      go_wp2_with fail
      go_roundw
      case rel => exact ⟨i + 1, by go_num, HLT.out, Lib.hid ⟨HE.out, by first | rfl | trivial⟩⟩
      case measure => have := HLT.out; simp [RowKit.intOf]; omega
    · have i1 : ¬ (i : Int) < (s.size : Int) := by omega
      have HE := Lib.hid (by have := HR1.out; rw [D.rb_end hlt] at this; exact this : D.kd 9 = q0 ∧ i = n0)
      have HX := Lib.hid (show k = 9 by obtain ⟨e1, e2⟩ := HE.out; have := HK.out; rw [← e1, ← e2, if_pos (by omega)] at this; exact this.symm)
      go_wp2_with fail
      go_ret
      rw [HX.out]
      exact ⟨rfl, rfl⟩
end Yteccfoiegjhppaa
end Go.Proofs
