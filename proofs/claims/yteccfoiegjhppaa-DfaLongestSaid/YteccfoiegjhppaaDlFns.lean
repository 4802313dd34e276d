/- Of the law DfaLongest: ten, remark. Conditions: a string of at most 10^12 bytes. -/
import Derived.Test.YteccfoiegjhppaaDxMathB
import Derived.Test.YteccfoiegjhppaaDfWordB
import Derived.BigQuiet
namespace Go.Proofs
open Go Go.RowKit Go.Lib
namespace Yteccfoiegjhppaa
set_option maxHeartbeats 1000000 in
set_option maxRecDepth 100000 in
theorem ten_any (c : Nat) (w : World) : Calls Try.prog 14 #[.int .u8 (c : Int)] w (fun e w' => e = .returned (.bool (decide (c = 10 ∨ c = 13))) ∧ w' = w) := by
  by_cases h1 : c = 10
  · subst h1
    go_enter Try.func14, Try.ntmps14
    go_wp2_with fail
    go_ret
    exact ⟨rfl, rfl⟩
  · have e1 : ((c : Int) == 10) = false := by rw [beq_eq_false_iff_ne]; omega
    by_cases h2 : c = 13
    · subst h2
      go_enter Try.func14, Try.ntmps14
      go_wp2_with fail
      go_ret
      exact ⟨rfl, rfl⟩
    · have e2 : ((c : Int) == 13) = false := by rw [beq_eq_false_iff_ne]; omega
      have HD := Lib.hid (show decide (c = 10 ∨ c = 13) = false from decide_eq_false (by omega))
      clear h1 h2
      go_enter Try.func14, Try.ntmps14
      go_wp2_with fail
      go_ret
      rw [HD.out]
      exact ⟨rfl, rfl⟩
/-- what remark answers of bytes that begin with a slash and a star -/
def D.rmk (s : ByteArray) (last : Bool) : Nat := if D.kd (D.rb s 4 2).1 = 3 then (if (D.rb s 4 2).2 = s.size then 3 else 0) else if last = true then 4 else 0
set_option maxHeartbeats 2000000 in
set_option maxRecDepth 100000 in
theorem remark_any (s : ByteArray) (last : Bool) (h2 : 2 ≤ s.size) (hs : s.size ≤ 1000000000000) (w : World) : Calls Try.prog 15 #[.string s, .bool last] w (fun e w' => e = .returned (.int .u8 (D.rmk s last : Int)) ∧ w' = w) := by
  generalize hk : D.rmk s last = k
  unfold D.rmk at hk
  generalize hk0 : D.kd (D.rb s 4 2).1 = k0 at *
  generalize hn0 : (D.rb s 4 2).2 = n0 at *
  have HS := Lib.hid (And.intro hk0 hn0)
  have HK := Lib.hid hk
  clear hk0 hn0 hk
  go_enter Try.func15, Try.ntmps15
  go_wp2_with fail
  go_loopw [5] (fun vi wr => ∃ i : Nat, vi = .int .i64 i ∧ i ≤ s.size ∧ Hid ((D.kd (D.rb s 4 i).1 = k0 ∧ (D.rb s 4 i).2 = n0) ∧ wr = w)) (fun vi _ => s.size - (RowKit.intOf vi).toNat)
  case atStart => exact ⟨2, rfl, h2, Lib.hid ⟨HS.out, rfl⟩⟩
  case round =>
    obtain ⟨i, rfl, hi, HR⟩ := hrel
    obtain rfl : wr = w := HR.out.2
    by_cases hlt : i + 1 < s.size
    · have i1 : (i : Int) + 1 < (s.size : Int) := by omega
      have i2 : (i : Int) < (s.size : Int) := by omega
      have i0 : (0 : Int) ≤ (i : Int) := Int.natCast_nonneg i
      have hl2 : i < s.size := by omega
      have hb := U.at_byte hl2
      have hb3 := U.at_byte hlt
      have HLT := Lib.hid hlt
      by_cases h42 : (s.get! i).toNat = 42
      · by_cases h47 : (s.get! (i + 1)).toNat = 47
        · have h1 := D.blk_done hlt h42 h47
          have HE := Lib.hid (show D.kd 6 = k0 ∧ i + 2 = n0 by have := HR.out.1; rw [h1] at this; exact this)
          rw [h42] at hb
          rw [h47] at hb3
          clear h1 h42 h47
          by_cases he : i + 2 = s.size
          · have t1 : ((i : Int) + 2 == (s.size : Int)) = true := by rw [beq_iff_eq]; omega
            have HX := Lib.hid (show k = 3 by have := HK.out; rw [← HE.out.1, ← HE.out.2, if_pos (by decide), if_pos he] at this; exact this.symm)
            clear he
            go_wp2_with fail
            go_ret
            rw [HX.out]
            exact ⟨rfl, rfl⟩
          · have t1 : ((i : Int) + 2 == (s.size : Int)) = false := by rw [beq_eq_false_iff_ne]; omega
            have HX := Lib.hid (show k = 0 by have := HK.out; rw [← HE.out.1, ← HE.out.2, if_pos (by decide), if_neg he] at this; exact this.symm)
            clear he
            go_wp2_with fail
            go_ret
            rw [HX.out]
            exact ⟨rfl, rfl⟩
        · have h1 := D.blk_step hlt (fun h => h47 h.2)
          have HE := Lib.hid (And.intro (h1.1.symm.trans HR.out.1.1) (h1.2.symm.trans HR.out.1.2))
          have t1 : (((s.get! (i + 1)).toNat : Int) == 47) = false := by rw [beq_eq_false_iff_ne]; omega
          rw [h42] at hb
          clear h1 h42 h47
          generalize (s.get! (i + 1)).toNat = z at *
          go_wp2_with fail
          go_roundw
          case rel => exact ⟨i + 1, by go_num, by have := HLT.out; omega, Lib.hid ⟨HE.out, by first | rfl | trivial⟩⟩
          case measure => have := HLT.out; simp [RowKit.intOf]; omega
      · have h1 := D.blk_step hlt (fun h => h42 h.1)
        have HE := Lib.hid (And.intro (h1.1.symm.trans HR.out.1.1) (h1.2.symm.trans HR.out.1.2))
        have t1 : (((s.get! i).toNat : Int) == 42) = false := by rw [beq_eq_false_iff_ne]; omega
        clear h1 h42
        generalize (s.get! i).toNat = y at *
        go_wp2_with fail
        go_roundw
        case rel => exact ⟨i + 1, by go_num, by have := HLT.out; omega, Lib.hid ⟨HE.out, by first | rfl | trivial⟩⟩
        case measure => have := HLT.out; simp [RowKit.intOf]; omega
    · have i1 : ¬ (i : Int) + 1 < (s.size : Int) := by omega
      have h1 := D.blk_end hlt hi
      have HE := Lib.hid (And.intro (h1.1.symm.trans HR.out.1.1) (h1.2.symm.trans HR.out.1.2))
      clear h1
      cases last
      · have HX := Lib.hid (show k = 0 by have := HK.out; rw [← HE.out.1] at this; simpa using this.symm)
        go_wp2_with fail
        go_ret
        rw [HX.out]
        exact ⟨rfl, rfl⟩
      · have HX := Lib.hid (show k = 4 by have := HK.out; rw [← HE.out.1] at this; simpa using this.symm)
        go_wp2_with fail
        go_ret
        rw [HX.out]
        exact ⟨rfl, rfl⟩
end Yteccfoiegjhppaa
end Go.Proofs
