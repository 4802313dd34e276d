/- A text's kind and end, the document's. Conditions: a string of at most 10^15 bytes. -/
import Derived.Test.YtglanajglhneeaaMX22
import Derived.Test.YtglanajglhneeaaMX14
namespace Go.Proofs
open Go Go.RowKit Go.Lib
namespace Ytglanajglhneeaa
def KindB (k n : Nat) (w : World) (e : Ending) (w' : World) : Prop := e = .returned (.tuple #[.int .u8 (k : Int), .int .i64 (n : Int)]) ∧ Below w.heap.size w w'
set_option maxHeartbeats 2000000 in
set_option maxRecDepth 100000 in
theorem quoted_any (s : ByteArray) (p : Nat) (hp : p < s.size) (hs : s.size ≤ 1000000000000000) (w : World) : Calls Try.prog 52 #[.string s, .int .i64 p] w (KindB (D.kd (D.rn s 9 (p + 1)).1) (D.rn s 9 (p + 1)).2 w) := by
  obtain ⟨q0, n0, hc0⟩ : ∃ q n, D.rn s 9 (p + 1) = (q, n) := ⟨_, _, rfl⟩
  rw [hc0]
  simp only
  have HS := Lib.hid (fun i hi W => size12_any s i hi hs W)
  have HC := Lib.hid hc0
  have HP := Lib.hid hp
  have p1 : p + 1 ≤ s.size := hp
  clear hc0 hp
  go_enter Try.func52, Try.ntmps52
  go_wp2_with fail
  go_loopw [6] (fun vi wr => ∃ i : Nat, vi = .int .i64 i ∧ i ≤ s.size ∧ Hid (D.rn s 9 i = (q0, n0) ∧ Below w.heap.size w wr)) (fun vi _ => s.size - (RowKit.intOf vi).toNat)
  case atStart => exact ⟨p + 1, by go_num, p1, Lib.hid ⟨HC.out, Below.refl _ _⟩⟩
  case round =>
    obtain ⟨i, rfl, hi, HR⟩ := hrel
    by_cases hlt : i < s.size
    · have i1 : (i : Int) < (s.size : Int) := by omega
      have i0 : (0 : Int) ≤ (i : Int) := Int.natCast_nonneg i
      have hb := U.at_byte hlt
      have HLT := Lib.hid (And.intro hlt (And.intro (U.wd_pos hlt) (U.wd_le hlt)))
      by_cases h10 : (s.get! i).toNat = 10
      · have HE := Lib.hid ((D.rn_stop (q := 9) (by rw [h10]; decide +kernel)).symm.trans HR.out.1)
        rw [h10] at hb
        clear h10
        go_wp2_with fail
        go_ret2
        have e := HE.out
        injection e with e1 e2
        subst e1 e2
        exact ⟨rfl, HR.out.2⟩
      by_cases h13 : (s.get! i).toNat = 13
      · have HE := Lib.hid ((D.rn_stop (q := 9) (by rw [h13]; decide +kernel)).symm.trans HR.out.1)
        rw [h13] at hb
        clear h10 h13
        go_wp2_with fail
        go_ret2
        have e := HE.out
        injection e with e1 e2
        subst e1 e2
        exact ⟨rfl, HR.out.2⟩
      by_cases h34 : (s.get! i).toNat = 34
      · have h1 := D.rn_step (q := 9) (n := 11) hlt (by rw [h34]; decide +kernel)
        rw [(U.next_ascii s i (by omega)).2.1, D.rn_fin (q := 11) (fun c => by show (-1 : Int) < 0; decide)] at h1
        have HE := Lib.hid (h1.symm.trans HR.out.1)
        rw [h34] at hb
        clear h10 h13 h34 h1
        go_wp2_with fail
        go_ret2
        have e := HE.out
        injection e with e1 e2
        subst e1 e2
        exact ⟨rfl, HR.out.2⟩
      by_cases h92 : (s.get! i).toNat = 92
      · have h1 := D.rn_step (q := 9) (n := 10) hlt (by rw [h92]; decide +kernel)
        rw [(U.next_ascii s i (by omega)).2.1] at h1
        have H1 := Lib.hid (h1.symm.trans HR.out.1)
        rw [h92] at hb
        clear h10 h13 h34 h92 h1
        by_cases hz : i + 1 < s.size
        · have j1 : (i : Int) + 1 < (s.size : Int) := by omega
          have j2 : ((i : Int) + 1 == (s.size : Int)) = false := by rw [beq_eq_false_iff_ne]; omega
          have hb2 := U.at_byte hz
          have HZ := Lib.hid (And.intro hz (And.intro (U.wd_pos hz) (U.wd_le hz)))
          by_cases h10 : (s.get! (i + 1)).toNat = 10
          · have HE := Lib.hid ((D.rn_stop (q := 10) (by rw [h10]; decide +kernel)).symm.trans H1.out)
            rw [h10] at hb2
            clear h10
            go_wp2_with fail
            go_ret2
            have e := HE.out
            injection e with e1 e2
            subst e1 e2
            exact ⟨rfl, HR.out.2⟩
          by_cases h13 : (s.get! (i + 1)).toNat = 13
          · have HE := Lib.hid ((D.rn_stop (q := 10) (by rw [h13]; decide +kernel)).symm.trans H1.out)
            rw [h13] at hb2
            clear h10 h13
            go_wp2_with fail
            go_ret2
            have e := HE.out
            injection e with e1 e2
            subst e1 e2
            exact ⟨rfl, HR.out.2⟩
          have h2 := D.rn_step (q := 10) (n := 9) hz (by rw [D.stp_10 (D.cls_lt _), if_neg (by rw [D.cls_2]; omega)]; rfl)
          have HE := Lib.hid (h2.symm.trans H1.out)
          have hsz := HS.out (i + 1) hz
          have hwz : i + 1 + U.wd s (i + 1) ≤ s.size := U.wd_le hz
          have t1 : (((s.get! (i + 1)).toNat : Int) == 10) = false := by rw [beq_eq_false_iff_ne]; omega
          have t2 : (((s.get! (i + 1)).toNat : Int) == 13) = false := by rw [beq_eq_false_iff_ne]; omega
          clear h10 h13 h2
          generalize (s.get! (i + 1)).toNat = z at *
          generalize hd : U.wd s (i + 1) = d at *
          go_wp2_with fail
          refine (hsz _).mono ?_
          rintro e w1 ⟨rfl, hb1⟩
          have HB := Lib.hid (HR.out.2.trans (hb1.mono HR.out.2.size))
          clear hb1 hsz
          go_wp2_with fail
          go_roundw
          case rel => exact ⟨i + 1 + d, by go_num, HZ.out.2.2, Lib.hid ⟨HE.out, HB.out⟩⟩
          case measure => have := HZ.out; simp [RowKit.intOf]; omega
        · have j1 : ¬ (i : Int) + 1 < (s.size : Int) := by omega
          have j2 : ((i : Int) + 1 == (s.size : Int)) = true := by rw [beq_iff_eq]; omega
          have HE := Lib.hid ((D.rn_end hz).symm.trans H1.out)
          go_wp2_with fail
          go_ret2
          have e := HE.out
          injection e with e1 e2
          subst e1 e2
          exact ⟨rfl, HR.out.2⟩
      have h1 := D.rn_step (q := 9) (n := 9) hlt (by rw [D.stp_9 (D.cls_lt _), if_neg (by rw [D.cls_5]; omega), if_neg (by rw [D.cls_6]; omega), if_neg (by rw [D.cls_2]; omega)]; rfl)
      have HE := Lib.hid (h1.symm.trans HR.out.1)
      have hsz := HS.out i hlt
      have hwz : i + U.wd s i ≤ s.size := U.wd_le hlt
      have t1 : (((s.get! i).toNat : Int) != 10) = true := by rw [bne_iff_ne]; omega
      have t2 : (((s.get! i).toNat : Int) != 13) = true := by rw [bne_iff_ne]; omega
      have t3 : (((s.get! i).toNat : Int) == 34) = false := by rw [beq_eq_false_iff_ne]; omega
      have t4 : (((s.get! i).toNat : Int) == 92) = false := by rw [beq_eq_false_iff_ne]; omega
      clear h10 h13 h34 h92 h1
      generalize (s.get! i).toNat = y at *
      generalize hd : U.wd s i = d at *
      go_wp2_with fail
      refine (hsz _).mono ?_
      rintro e w1 ⟨rfl, hb1⟩
      have HB := Lib.hid (HR.out.2.trans (hb1.mono HR.out.2.size))
      clear hb1 hsz
      go_wp2_with fail
      go_roundw
      case rel => exact ⟨i + d, by go_num, HLT.out.2.2, Lib.hid ⟨HE.out, HB.out⟩⟩
      case measure => have := HLT.out; simp [RowKit.intOf]; omega
    · have i1 : ¬ (i : Int) < (s.size : Int) := by omega
      have HE := Lib.hid ((D.rn_end hlt).symm.trans HR.out.1)
      go_wp2_with fail
      go_ret2
      have e := HE.out
      injection e with e1 e2
      subst e1 e2
      exact ⟨rfl, HR.out.2⟩
end Ytglanajglhneeaa
end Go.Proofs
