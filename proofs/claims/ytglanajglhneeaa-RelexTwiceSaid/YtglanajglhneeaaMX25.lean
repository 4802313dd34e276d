/- What begins with a slash, the document's. Conditions: a string of at most 10^15 bytes. -/
import Derived.Test.YtglanajglhneeaaMX23
namespace Go.Proofs
open Go Go.RowKit Go.Lib
namespace Ytglanajglhneeaa
set_option maxHeartbeats 2000000 in
set_option maxRecDepth 100000 in
theorem slash_any (s : ByteArray) (p : Nat) (hp : p < s.size) (h47 : (s.get! p).toNat = 47) (hs : s.size ≤ 1000000000000000) (w : World) : Calls Try.prog 48 #[.string s, .int .i64 p] w (KindB (D.kd (D.rn s 2 (p + 1)).1) (D.rn s 2 (p + 1)).2 w) := by
  rw [D.rn_rb (q := 2) (by decide) (by decide) hp]
  obtain ⟨q0, n0, hc0⟩ : ∃ q n, D.rb s 2 (p + 1) = (q, n) := ⟨_, _, rfl⟩
  rw [hc0]
  simp only
  have HP := Lib.hid hp
  have HC := Lib.hid hc0
  have p1 : p + 1 ≤ s.size := hp
  by_cases hz : p + 1 < s.size
  · have j1 : (p : Int) + 1 < (s.size : Int) := by omega
    have hb2 := U.at_byte hz
    by_cases hc : (s.get! (p + 1)).toNat = 47
    · have h1 : D.rb s 2 (p + 1) = D.rb s 3 (p + 2) := D.rb_step hz (by rw [hc]; decide +kernel)
      have h2 : D.rb s 3 (p + 1) = D.rb s 3 (p + 2) := D.rb_step hz (by rw [hc]; decide +kernel)
      have h3 : D.rb s 3 p = D.rb s 3 (p + 1) := D.rb_step hp (by rw [h47]; decide +kernel)
      have HS := Lib.hid (((h3.trans h2).trans h1.symm).trans hc0)
      rw [hc] at hb2
      have p0 : p ≤ s.size := by omega
      clear h1 h2 h3 hc hc0 h47
      go_enter Try.func48, Try.ntmps48
      go_wp2_with fail
      go_loopw [6] (fun vi wr => ∃ i : Nat, vi = .int .i64 i ∧ i ≤ s.size ∧ Hid (D.rb s 3 i = (q0, n0) ∧ SameD w wr)) (fun vi _ => s.size - (RowKit.intOf vi).toNat)
      case atStart => exact ⟨p, rfl, p0, Lib.hid ⟨HS.out, SameD.refl _⟩⟩
      case round =>
        obtain ⟨i, rfl, hi, HR⟩ := hrel
        obtain rfl : wr = w := HR.out.2
        by_cases hlt : i < s.size
        · have i1 : (i : Int) < (s.size : Int) := by omega
          have i0 : (0 : Int) ≤ (i : Int) := Int.natCast_nonneg i
          have hb := U.at_byte hlt
          have HLT := Lib.hid hlt
          by_cases h10 : (s.get! i).toNat = 10
          · have HE := Lib.hid ((D.rb_stop (q := 3) hlt (by rw [h10]; decide +kernel)).symm.trans HR.out.1)
            rw [h10] at hb
            clear h10
            go_wp2_with fail
            go_ret2
            have e := HE.out
            injection e with e1 e2
            subst e1 e2
            exact ⟨rfl, Below.refl _ _⟩
          by_cases h13 : (s.get! i).toNat = 13
          · have HE := Lib.hid ((D.rb_stop (q := 3) hlt (by rw [h13]; decide +kernel)).symm.trans HR.out.1)
            rw [h13] at hb
            clear h10 h13
            go_wp2_with fail
            go_ret2
            have e := HE.out
            injection e with e1 e2
            subst e1 e2
            exact ⟨rfl, Below.refl _ _⟩
          have h1 : D.rb s 3 i = D.rb s 3 (i + 1) := D.rb_step hlt (by rw [D.stp_3 (D.cls_lt _), if_neg (by rw [D.cls_2]; omega)]; rfl)
          have HE := Lib.hid (h1.symm.trans HR.out.1)
          have t1 : (((s.get! i).toNat : Int) != 10) = true := by rw [bne_iff_ne]; omega
          have t2 : (((s.get! i).toNat : Int) != 13) = true := by rw [bne_iff_ne]; omega
          clear h10 h13 h1
          generalize (s.get! i).toNat = y at *
          go_wp2_with fail
          go_roundw
          case rel => exact ⟨i + 1, by go_num, HLT.out, Lib.hid ⟨HE.out, SameD.refl _⟩⟩
          case measure => have := HLT.out; simp [RowKit.intOf]; omega
        · have i1 : ¬ (i : Int) < (s.size : Int) := by omega
          have HE := Lib.hid ((D.rb_end hlt).symm.trans HR.out.1)
          go_wp2_with fail
          go_ret2
          have e := HE.out
          injection e with e1 e2
          subst e1 e2
          exact ⟨rfl, Below.refl _ _⟩
    by_cases hc2 : (s.get! (p + 1)).toNat = 42
    · have h1 : D.rb s 2 (p + 1) = D.rb s 4 (p + 2) := D.rb_step hz (by rw [hc2]; decide +kernel)
      have h2 := h1.symm.trans hc0
      have HS := Lib.hid (show D.kd (D.rb s 4 (p + 2)).1 = D.kd q0 ∧ (D.rb s 4 (p + 2)).2 = n0 by rw [h2]; exact ⟨rfl, rfl⟩)
      rw [hc2] at hb2
      have p0 : p + 2 ≤ s.size := by omega
      generalize D.kd q0 = k0 at *
      clear h1 h2 hc hc2 hc0 h47 HC
      go_enter Try.func48, Try.ntmps48
      go_wp2_with fail
      go_loopw [7] (fun vi wr => ∃ i : Nat, vi = .int .i64 i ∧ i ≤ s.size ∧ Hid ((D.kd (D.rb s 4 i).1 = k0 ∧ (D.rb s 4 i).2 = n0) ∧ SameD w wr)) (fun vi _ => s.size - (RowKit.intOf vi).toNat)
      case atStart => exact ⟨p + 2, by go_num, p0, Lib.hid ⟨HS.out, SameD.refl _⟩⟩
      case round =>
        obtain ⟨i, rfl, hi, HR⟩ := hrel
        obtain rfl : wr = w := HR.out.2
        by_cases hlt : i + 1 < s.size
        · have i1 : (i : Int) + 1 < (s.size : Int) := by omega
          have i2 : (i : Int) < (s.size : Int) := by omega
          have i0 : (0 : Int) ≤ (i : Int) := Int.natCast_nonneg i
          have hl2 : i < s.size := by omega
          have hb := U.at_byte hl2
          have hb3 := U.at_byte hlt
          have HLT := Lib.hid hlt
          by_cases h42 : (s.get! i).toNat = 42
          · by_cases h47 : (s.get! (i + 1)).toNat = 47
            · have h1 := D.blk_done hlt h42 h47
              have HE := Lib.hid (show D.kd 6 = k0 ∧ i + 2 = n0 by have := HR.out.1; rw [h1] at this; exact this)
              rw [h42] at hb
              rw [h47] at hb3
              clear h1 h42 h47
              go_wp2_with fail
              go_ret2
              rw [← HE.out.1, ← HE.out.2]
              exact ⟨rfl, Below.refl _ _⟩
            · have h1 := D.blk_step hlt (fun h => h47 h.2)
              have HE := Lib.hid (And.intro (h1.1.symm.trans HR.out.1.1) (h1.2.symm.trans HR.out.1.2))
              have t1 : (((s.get! (i + 1)).toNat : Int) == 47) = false := by rw [beq_eq_false_iff_ne]; omega
              rw [h42] at hb
              clear h1 h42 h47
              generalize (s.get! (i + 1)).toNat = z at *
              go_wp2_with fail
              go_roundw
              case rel => exact ⟨i + 1, by go_num, by have := HLT.out; omega, Lib.hid ⟨HE.out, SameD.refl _⟩⟩
              case measure => have := HLT.out; simp [RowKit.intOf]; omega
          · have h1 := D.blk_step hlt (fun h => h42 h.1)
            have HE := Lib.hid (And.intro (h1.1.symm.trans HR.out.1.1) (h1.2.symm.trans HR.out.1.2))
            have t1 : (((s.get! i).toNat : Int) == 42) = false := by rw [beq_eq_false_iff_ne]; omega
            clear h1 h42
            generalize (s.get! i).toNat = y at *
            go_wp2_with fail
            go_roundw
            case rel => exact ⟨i + 1, by go_num, by have := HLT.out; omega, Lib.hid ⟨HE.out, SameD.refl _⟩⟩
            case measure => have := HLT.out; simp [RowKit.intOf]; omega
        · have i1 : ¬ (i : Int) + 1 < (s.size : Int) := by omega
          have h1 := D.blk_end hlt hi
          have HE := Lib.hid (And.intro (h1.1.symm.trans HR.out.1.1) (h1.2.symm.trans HR.out.1.2))
          clear h1
          go_wp2_with fail
          go_ret2
          rw [← HE.out.1, ← HE.out.2]
          exact ⟨rfl, Below.refl _ _⟩
    have h1 : D.rb s 2 (p + 1) = (2, p + 1) := D.rb_stop hz (by
      have : ∀ c : Fin 24, c.1 ≠ 7 → c.1 ≠ 8 → D.stp 2 c.1 < 0 := by decide +kernel
      exact this ⟨_, D.cls_lt _⟩ (fun e => hc ((D.cls_7 _).1 e)) (fun e => hc2 ((D.cls_8 _).1 e)))
    have HE := Lib.hid (h1.symm.trans hc0)
    have t1 : (((s.get! (p + 1)).toNat : Int) == 47) = false := by rw [beq_eq_false_iff_ne]; omega
    have t2 : (((s.get! (p + 1)).toNat : Int) == 42) = false := by rw [beq_eq_false_iff_ne]; omega
    clear h1 hc hc2 hc0 h47 HC
    generalize (s.get! (p + 1)).toNat = z at *
    go_enter Try.func48, Try.ntmps48
    go_wp2_with fail
    go_ret2
    have e := HE.out
    injection e with e1 e2
    subst e1 e2
    exact ⟨rfl, Below.refl _ _⟩
  · have j1 : ¬ (p : Int) + 1 < (s.size : Int) := by omega
    have HE := Lib.hid ((D.rb_end hz).symm.trans hc0)
    clear hc0 HC h47
    go_enter Try.func48, Try.ntmps48
    go_wp2_with fail
    go_ret2
    have e := HE.out
    injection e with e1 e2
    subst e1 e2
    exact ⟨rfl, Below.refl _ _⟩
end Ytglanajglhneeaa
end Go.Proofs
