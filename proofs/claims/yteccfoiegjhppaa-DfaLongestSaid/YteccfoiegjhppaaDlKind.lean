/- Of the law DfaLongest: kind, the document's words. Conditions: a string of at most 10^12 bytes, not empty. -/
import Derived.Test.YteccfoiegjhppaaDlSig
import Derived.Test.YteccfoiegjhppaaDlKin
namespace Go.Proofs
open Go Go.RowKit Go.Lib
namespace Yteccfoiegjhppaa
theorem two_beq {s : ByteArray} (h : 2 ≤ s.size) (a b : UInt8) (m n : Nat) (ha : a.toNat = m) (hb : b.toNat = n) : ((s.extract 0 2).toList == [a, b]) = decide ((s.get! 0).toNat = m ∧ (s.get! 1).toNat = n) := by
  have he : (s.extract 0 2).toList = [s.get! 0, s.get! 1] := D.ext_two (p := 0) (by omega)
  rw [he]
  by_cases hc : (s.get! 0).toNat = m ∧ (s.get! 1).toNat = n
  · rw [decide_eq_true hc, D.byte_eq hc.1 ha, D.byte_eq hc.2 hb, beq_self_eq_true]
  · rw [decide_eq_false hc, beq_eq_false_iff_ne]
    intro e
    injection e with e1 e2
    injection e2 with e2 _
    exact hc ⟨by rw [e1, ha], by rw [e2, hb]⟩
def ByteK (k : Nat) (w : World) (e : Ending) (w' : World) : Prop := e = .returned (.int .u8 (k : Int)) ∧ Below w.heap.size w w'
set_option maxHeartbeats 4000000 in
set_option maxRecDepth 100000 in
theorem kind1_any (s : ByteArray) (last : Bool) (h0 : 0 < s.size) (h2 : ¬ 2 ≤ s.size) (hs : s.size ≤ 1000000000000) (w : World) : Calls Try.prog 6 #[.string s, .bool last] w (ByteK (D.kin s last) w) := by
  have HTen := Lib.hid (fun c w => ten_any c w)
  have hA := fun W => alike_any s D.wsp hs (by decide) W
  have hD := fun W => alike_any s D.dgt hs (by decide) W
  have hW := fun W => Word_any s (by omega) W
  have hS := fun W => sign9_any s W
  have hC := fun W => character_any s hs W
  have tz : (s.toList == []) = false := by
    rw [beq_eq_false_iff_ne]
    intro e
    have h := congrArg List.length e
    rw [Lib.toList_data, Array.length_toList] at h
    exact absurd h (Nat.ne_of_gt h0)
  unfold D.kin
  rw [if_neg (show ¬ s.size = 0 by omega)]
  have l1 : ¬ (1 : Int) < (s.size : Int) := by omega
  by_cases hA1 : D.akB s D.wsp s.size = true
  · rw [if_pos hA1]
    rw [hA1] at hA
    clear hA1
    go_enter Try.func6, Try.ntmps6
    go_wp2_with fail
    refine (hA _).mono ?_
    rintro e w1 ⟨rfl, hb1⟩
    go_wp2_with fail
    go_ret
    exact ⟨rfl, hb1⟩
  rw [if_neg hA1]
  have hA1 : D.akB s D.wsp s.size = false := by simpa using hA1
  rw [hA1] at hA
  clear hA1
  rw [if_neg (fun h => h2 h.1), if_neg (fun h => h2 h.1)]
  have hb0 := U.at_byte h0
  have z0 : 0 < s.size := h0
  by_cases hD1 : (s.get! 0).toNat = 34
  · rw [if_pos hD1]
    rw [hD1] at hb0
    have hQ := fun W => quoted9_any s h0 hs W
    clear hD1
    go_enter Try.func6, Try.ntmps6
    go_wp2_with fail
    refine (hA _).mono ?_
    rintro e w1 ⟨rfl, hb1⟩
    go_wp2_with fail
    refine (hQ _).mono ?_
    rintro e w2 ⟨rfl, rfl⟩
    go_wp2_with fail
    go_ret
    exact ⟨rfl, hb1⟩
  rw [if_neg hD1]
  have t34 : (((s.get! 0).toNat : Int) == 34) = false := by rw [beq_eq_false_iff_ne]; omega
  clear hD1
  generalize (s.get! 0).toNat = y0 at *
  by_cases hE : D.akB s D.dgt s.size = true
  · rw [if_pos hE]
    rw [hE] at hD
    clear hE
    go_enter Try.func6, Try.ntmps6
    go_wp2_with fail
    refine (hA _).mono ?_
    rintro e w1 ⟨rfl, hb1⟩
    go_wp2_with fail
    refine (hD _).mono ?_
    rintro e w2 ⟨rfl, hb2⟩
    go_wp2_with fail
    have b2 := hb1.trans (hb2.mono hb1.size)
    go_ret
    exact ⟨rfl, b2⟩
  rw [if_neg hE]
  have hE : D.akB s D.dgt s.size = false := by simpa using hE
  rw [hE] at hD
  clear hE
  generalize D.Wd s = kw at *
  by_cases hF : kw ≠ 0
  · rw [if_pos hF]
    have tw : ((kw : Int) != 0) = true := by rw [bne_iff_ne]; omega
    clear hF
    go_enter Try.func6, Try.ntmps6
    go_wp2_with fail
    refine (hA _).mono ?_
    rintro e w1 ⟨rfl, hb1⟩
    go_wp2_with fail
    refine (hD _).mono ?_
    rintro e w2 ⟨rfl, hb2⟩
    go_wp2_with fail
    refine (hW _).mono ?_
    rintro e w3 ⟨rfl, hb3⟩
    go_wp2_with fail
    have b2 := hb1.trans (hb2.mono hb1.size)
    have b3 := b2.trans (hb3.mono b2.size)
    go_ret
    exact ⟨rfl, b3⟩
  rw [if_neg hF]
  obtain rfl : kw = 0 := by omega
  clear hF
  generalize D.sgn s = kg at *
  by_cases hG : kg ≠ 0
  · rw [if_pos hG]
    have tg : ((kg : Int) != 0) = true := by rw [bne_iff_ne]; omega
    clear hG
    go_enter Try.func6, Try.ntmps6
    go_wp2_with fail
    refine (hA _).mono ?_
    rintro e w1 ⟨rfl, hb1⟩
    go_wp2_with fail
    refine (hD _).mono ?_
    rintro e w2 ⟨rfl, hb2⟩
    go_wp2_with fail
    refine (hW _).mono ?_
    rintro e w3 ⟨rfl, hb3⟩
    go_wp2_with fail
    refine (hS _).mono ?_
    rintro e w4 ⟨rfl, hb4⟩
    go_wp2_with fail
    have b2 := hb1.trans (hb2.mono hb1.size)
    have b3 := b2.trans (hb3.mono b2.size)
    have b4 := b3.trans (hb4.mono b3.size)
    go_ret
    exact ⟨rfl, b4⟩
  rw [if_neg hG]
  obtain rfl : kg = 0 := by omega
  clear hG
  generalize D.chr1 s = kc at *
  cases kc
  · rw [if_neg (by decide)]
    go_enter Try.func6, Try.ntmps6
    go_wp2_with fail
    refine (hA _).mono ?_
    rintro e w1 ⟨rfl, hb1⟩
    go_wp2_with fail
    refine (hD _).mono ?_
    rintro e w2 ⟨rfl, hb2⟩
    go_wp2_with fail
    refine (hW _).mono ?_
    rintro e w3 ⟨rfl, hb3⟩
    go_wp2_with fail
    refine (hS _).mono ?_
    rintro e w4 ⟨rfl, hb4⟩
    go_wp2_with fail
    refine (hC _).mono ?_
    rintro e w5 ⟨rfl, hb5⟩
    go_wp2_with fail
    have b2 := hb1.trans (hb2.mono hb1.size)
    have b3 := b2.trans (hb3.mono b2.size)
    have b4 := b3.trans (hb4.mono b3.size)
    have b5 := b4.trans (hb5.mono b4.size)
    go_ret
    exact ⟨rfl, b5⟩
  · rw [if_pos rfl]
    go_enter Try.func6, Try.ntmps6
    go_wp2_with fail
    refine (hA _).mono ?_
    rintro e w1 ⟨rfl, hb1⟩
    go_wp2_with fail
    refine (hD _).mono ?_
    rintro e w2 ⟨rfl, hb2⟩
    go_wp2_with fail
    refine (hW _).mono ?_
    rintro e w3 ⟨rfl, hb3⟩
    go_wp2_with fail
    refine (hS _).mono ?_
    rintro e w4 ⟨rfl, hb4⟩
    go_wp2_with fail
    refine (hC _).mono ?_
    rintro e w5 ⟨rfl, hb5⟩
    go_wp2_with fail
    have b2 := hb1.trans (hb2.mono hb1.size)
    have b3 := b2.trans (hb3.mono b2.size)
    have b4 := b3.trans (hb4.mono b3.size)
    have b5 := b4.trans (hb5.mono b4.size)
    go_ret
    exact ⟨rfl, b5⟩
set_option maxHeartbeats 4000000 in
set_option maxRecDepth 100000 in
theorem kind2_any (s : ByteArray) (last : Bool) (h0 : 0 < s.size) (h2 : 2 ≤ s.size) (hs : s.size ≤ 1000000000000) (w : World) : Calls Try.prog 6 #[.string s, .bool last] w (ByteK (D.kin s last) w) := by
  have HTen := Lib.hid (fun c w => ten_any c w)
  have hA := fun W => alike_any s D.wsp hs (by decide) W
  have hD := fun W => alike_any s D.dgt hs (by decide) W
  have hW := fun W => Word_any s (by omega) W
  have hS := fun W => sign9_any s W
  have hC := fun W => character_any s hs W
  have tz : (s.toList == []) = false := by
    rw [beq_eq_false_iff_ne]
    intro e
    have h := congrArg List.length e
    rw [Lib.toList_data, Array.length_toList] at h
    exact absurd h (Nat.ne_of_gt h0)
  unfold D.kin
  rw [if_neg (show ¬ s.size = 0 by omega)]
  have l1 : (1 : Int) < (s.size : Int) := by omega
  have l2 : (2 : Int) ≤ (s.size : Int) := by omega
  have q1 := two_beq h2 47 47 47 47 rfl rfl
  have q2 := two_beq h2 47 42 47 42 rfl rfl
  by_cases hA1 : D.akB s D.wsp s.size = true
  · rw [if_pos hA1]
    rw [hA1] at hA
    clear hA1
    go_enter Try.func6, Try.ntmps6
    go_wp2_with fail
    refine (hA _).mono ?_
    rintro e w1 ⟨rfl, hb1⟩
    go_wp2_with fail
    go_ret
    exact ⟨rfl, hb1⟩
  rw [if_neg hA1]
  have hA1 : D.akB s D.wsp s.size = false := by simpa using hA1
  rw [hA1] at hA
  clear hA1
  by_cases hB : (s.get! 0).toNat = 47 ∧ (s.get! 1).toNat = 47
  · rw [if_pos ⟨h2, hB⟩]
    generalize hkn : (if D.noTen s = true then 2 else 0) = kn
    have HKN := Lib.hid hkn
    rw [decide_eq_true hB] at q1
    clear hB q2 hkn
    go_enter Try.func6, Try.ntmps6
    go_wp2_with fail
    refine (hA _).mono ?_
    rintro e w1 ⟨rfl, hb1⟩
    have HB1 := Lib.hid hb1
    clear hb1
    go_wp2_with fail
    go_loopw [6] (fun v wx => ∃ i : Nat, v = .int .i64 i ∧ i ≤ s.size ∧ Hid ((∀ j, j < i → ¬ ((s.get! j).toNat = 10 ∨ (s.get! j).toNat = 13)) ∧ wx = w1)) (fun v _ => s.size - (RowKit.intOf v).toNat)
    case atStart => exact ⟨0, rfl, Nat.zero_le _, Lib.hid ⟨fun j h => absurd h (Nat.not_lt_zero _), rfl⟩⟩
    case round =>
      obtain ⟨i, rfl, hi, HR⟩ := hrel
      obtain rfl : wr = w1 := HR.out.2
      by_cases hlt : i < s.size
      · have i1 : (i : Int) < (s.size : Int) := by omega
        have i0 : (0 : Int) ≤ (i : Int) := Int.natCast_nonneg i
        have hbi := U.at_byte hlt
        have HLT := Lib.hid hlt
        have ht := HTen.out (s.get! i).toNat wr
        by_cases h10 : (s.get! i).toNat = 10 ∨ (s.get! i).toNat = 13
        · rw [decide_eq_true h10] at ht
          have HX := Lib.hid (show kn = 0 by rw [← HKN.out, if_neg (by intro h; unfold D.noTen at h; exact of_decide_eq_true h i HLT.out h10)])
          clear h10
          go_wp2_with fail
          refine ht.mono ?_
          rintro e w2 ⟨rfl, rfl⟩
          go_wp2_with fail
          go_ret
          rw [HX.out]
          exact ⟨rfl, HB1.out⟩
        · rw [decide_eq_false h10] at ht
          have HN := Lib.hid (show ∀ j, j < i + 1 → ¬ ((s.get! j).toNat = 10 ∨ (s.get! j).toNat = 13) from fun j hj => by by_cases e : j = i; (· subst e; exact h10); (· exact HR.out.1 j (by omega)))
          clear h10
          go_wp2_with fail
          refine ht.mono ?_
          rintro e w2 ⟨rfl, rfl⟩
          go_wp2_with fail
          go_roundw
          case rel => exact ⟨i + 1, by go_num, HLT.out, Lib.hid ⟨HN.out, by first | rfl | trivial⟩⟩
          case measure => have := HLT.out; simp [RowKit.intOf]; omega
      · obtain rfl : i = s.size := by omega
        have i1 : ¬ ((s.size : Nat) : Int) < (s.size : Int) := by omega
        have HX := Lib.hid (show kn = 2 by rw [← HKN.out]; exact if_pos (by unfold D.noTen; exact decide_eq_true HR.out.1))
        go_wp2_with fail
        go_ret
        rw [HX.out]
        exact ⟨rfl, HB1.out⟩
  rw [if_neg (fun h => hB h.2)]
  rw [decide_eq_false hB] at q1
  clear hB
  by_cases hC1 : (s.get! 0).toNat = 47 ∧ (s.get! 1).toNat = 42
  · rw [if_pos ⟨h2, hC1⟩]
    rw [decide_eq_true hC1] at q2
    have hR := fun W => remark_any s last h2 hs W
    clear hC1
    go_enter Try.func6, Try.ntmps6
    go_wp2_with fail
    refine (hA _).mono ?_
    rintro e w1 ⟨rfl, hb1⟩
    go_wp2_with fail
    refine (hR _).mono ?_
    rintro e w2 ⟨rfl, rfl⟩
    go_wp2_with fail
    go_ret
    exact ⟨rfl, hb1⟩
  rw [if_neg (fun h => hC1 h.2)]
  rw [decide_eq_false hC1] at q2
  clear hC1
  have hb0 := U.at_byte h0
  have z0 : 0 < s.size := h0
  by_cases hD1 : (s.get! 0).toNat = 34
  · rw [if_pos hD1]
    rw [hD1] at hb0
    have hQ := fun W => quoted9_any s h0 hs W
    clear hD1
    go_enter Try.func6, Try.ntmps6
    go_wp2_with fail
    refine (hA _).mono ?_
    rintro e w1 ⟨rfl, hb1⟩
    go_wp2_with fail
    refine (hQ _).mono ?_
    rintro e w2 ⟨rfl, rfl⟩
    go_wp2_with fail
    go_ret
    exact ⟨rfl, hb1⟩
  rw [if_neg hD1]
  have t34 : (((s.get! 0).toNat : Int) == 34) = false := by rw [beq_eq_false_iff_ne]; omega
  clear hD1
  generalize (s.get! 0).toNat = y0 at *
  by_cases hE : D.akB s D.dgt s.size = true
  · rw [if_pos hE]
    rw [hE] at hD
    clear hE
    go_enter Try.func6, Try.ntmps6
    go_wp2_with fail
    refine (hA _).mono ?_
    rintro e w1 ⟨rfl, hb1⟩
    go_wp2_with fail
    refine (hD _).mono ?_
    rintro e w2 ⟨rfl, hb2⟩
    go_wp2_with fail
    have b2 := hb1.trans (hb2.mono hb1.size)
    go_ret
    exact ⟨rfl, b2⟩
  rw [if_neg hE]
  have hE : D.akB s D.dgt s.size = false := by simpa using hE
  rw [hE] at hD
  clear hE
  generalize D.Wd s = kw at *
  by_cases hF : kw ≠ 0
  · rw [if_pos hF]
    have tw : ((kw : Int) != 0) = true := by rw [bne_iff_ne]; omega
    clear hF
    go_enter Try.func6, Try.ntmps6
    go_wp2_with fail
    refine (hA _).mono ?_
    rintro e w1 ⟨rfl, hb1⟩
    go_wp2_with fail
    refine (hD _).mono ?_
    rintro e w2 ⟨rfl, hb2⟩
    go_wp2_with fail
    refine (hW _).mono ?_
    rintro e w3 ⟨rfl, hb3⟩
    go_wp2_with fail
    have b2 := hb1.trans (hb2.mono hb1.size)
    have b3 := b2.trans (hb3.mono b2.size)
    go_ret
    exact ⟨rfl, b3⟩
  rw [if_neg hF]
  obtain rfl : kw = 0 := by omega
  clear hF
  generalize D.sgn s = kg at *
  by_cases hG : kg ≠ 0
  · rw [if_pos hG]
    have tg : ((kg : Int) != 0) = true := by rw [bne_iff_ne]; omega
    clear hG
    go_enter Try.func6, Try.ntmps6
    go_wp2_with fail
    refine (hA _).mono ?_
    rintro e w1 ⟨rfl, hb1⟩
    go_wp2_with fail
    refine (hD _).mono ?_
    rintro e w2 ⟨rfl, hb2⟩
    go_wp2_with fail
    refine (hW _).mono ?_
    rintro e w3 ⟨rfl, hb3⟩
    go_wp2_with fail
    refine (hS _).mono ?_
    rintro e w4 ⟨rfl, hb4⟩
    go_wp2_with fail
    have b2 := hb1.trans (hb2.mono hb1.size)
    have b3 := b2.trans (hb3.mono b2.size)
    have b4 := b3.trans (hb4.mono b3.size)
    go_ret
    exact ⟨rfl, b4⟩
  rw [if_neg hG]
  obtain rfl : kg = 0 := by omega
  clear hG
  generalize D.chr1 s = kc at *
  cases kc
  · rw [if_neg (by decide)]
    go_enter Try.func6, Try.ntmps6
    go_wp2_with fail
    refine (hA _).mono ?_
    rintro e w1 ⟨rfl, hb1⟩
    go_wp2_with fail
    refine (hD _).mono ?_
    rintro e w2 ⟨rfl, hb2⟩
    go_wp2_with fail
    refine (hW _).mono ?_
    rintro e w3 ⟨rfl, hb3⟩
    go_wp2_with fail
    refine (hS _).mono ?_
    rintro e w4 ⟨rfl, hb4⟩
    go_wp2_with fail
    refine (hC _).mono ?_
    rintro e w5 ⟨rfl, hb5⟩
    go_wp2_with fail
    have b2 := hb1.trans (hb2.mono hb1.size)
    have b3 := b2.trans (hb3.mono b2.size)
    have b4 := b3.trans (hb4.mono b3.size)
    have b5 := b4.trans (hb5.mono b4.size)
    go_ret
    exact ⟨rfl, b5⟩
  · rw [if_pos rfl]
    go_enter Try.func6, Try.ntmps6
    go_wp2_with fail
    refine (hA _).mono ?_
    rintro e w1 ⟨rfl, hb1⟩
    go_wp2_with fail
    refine (hD _).mono ?_
    rintro e w2 ⟨rfl, hb2⟩
    go_wp2_with fail
    refine (hW _).mono ?_
    rintro e w3 ⟨rfl, hb3⟩
    go_wp2_with fail
    refine (hS _).mono ?_
    rintro e w4 ⟨rfl, hb4⟩
    go_wp2_with fail
    refine (hC _).mono ?_
    rintro e w5 ⟨rfl, hb5⟩
    go_wp2_with fail
    have b2 := hb1.trans (hb2.mono hb1.size)
    have b3 := b2.trans (hb3.mono b2.size)
    have b4 := b3.trans (hb4.mono b3.size)
    have b5 := b4.trans (hb5.mono b4.size)
    go_ret
    exact ⟨rfl, b5⟩
theorem kin9_any (s : ByteArray) (last : Bool) (h0 : 0 < s.size) (hs : s.size ≤ 1000000000000) (w : World) : Calls Try.prog 6 #[.string s, .bool last] w (ByteK (D.kk s last) w) := by
  rw [← D.kin_kk s last h0]
  by_cases h2 : 2 ≤ s.size
  · exact kind2_any s last h0 h2 hs w
  · exact kind1_any s last h0 h2 hs w
end Yteccfoiegjhppaa
end Go.Proofs
