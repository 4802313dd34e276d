/- The document's own way to tell whether a name is Content-Length. Conditions: a string of at most 10^6 bytes. -/
import Derived.Test.YtmaclplhphfkiaaDoorFrLen
namespace Go.Proofs.YtmaclplhphfkiaaDoor
open Go Go.RowKit Go.Lib F

namespace F
def sml (c : UInt8) : Nat := if 65 ≤ c.toNat ∧ c.toNat ≤ 90 then c.toNat + 32 else c.toNat
def clw : Bs := [99, 111, 110, 116, 101, 110, 116, 45, 108, 101, 110, 103, 116, 104]
def clu : Bs := [67, 111, 110, 116, 101, 110, 116, 45, 76, 101, 110, 103, 116, 104]
theorem fold_sml : ∀ (k : Fin 14) (c : Fin 256), Lib.foldEq (UInt8.ofNat c.val) (clu[k.val]'k.isLt) = decide (sml (UInt8.ofNat c.val) = (clw[k.val]'k.isLt).toNat) := by decide +kernel
theorem fold_at (k : Nat) (hk : k < 14) (c : UInt8) : Lib.foldEq c (clu[k]'hk) = decide (sml c = (clw[k]'hk).toNat) := by
  have := fold_sml ⟨k, hk⟩ ⟨c.toNat, c.toNat_lt⟩
  simpa using this
theorem fold_len : ∀ (s t : Bs), Lib.equalFold s t = true → s.length = t.length
  | [], [], _ => rfl
  | x :: s, y :: t, h => by
    have : (Lib.foldEq x y && Lib.equalFold s t) = true := h
    rw [Bool.and_eq_true] at this
    simp [fold_len s t this.2]
  | [], _ :: _, h => by cases h
  | _ :: _, [], h => by cases h
end F
set_option maxRecDepth 100000 in
set_option maxHeartbeats 400000 in
theorem small_any (c : UInt8) (w : World) : Calls Tryd.prog 97 #[.int .u8 (c.toNat : Int)] w (Stay (.int .u8 (sml c : Nat)) w) := by
  unfold sml
  have hlt := c.toNat_lt
  by_cases h1 : 65 ≤ c.toNat
  · by_cases h2 : c.toNat ≤ 90
    · rw [if_pos ⟨h1, h2⟩]
      have e1 : (c.toNat : Int) ≥ 65 := by omega
      have e2 : (c.toNat : Int) ≤ 90 := by omega
      go_enter Tryd.func97, Tryd.ntmps97
      go_wp2_with fail
      go_ret
      exact ⟨by go_num, rfl⟩
    · rw [if_neg (fun h => h2 h.2)]
      have e1 : (c.toNat : Int) ≥ 65 := by omega
      have e2 : ¬ (c.toNat : Int) ≤ 90 := by omega
      go_enter Tryd.func97, Tryd.ntmps97
      go_wp2_with fail
      go_ret
      exact ⟨rfl, rfl⟩
  · rw [if_neg (fun h => h1 h.1)]
    have e1 : ¬ (c.toNat : Int) ≥ 65 := by omega
    go_enter Tryd.func97, Tryd.ntmps97
    go_wp2_with fail
    go_ret
    exact ⟨rfl, rfl⟩
set_option maxRecDepth 100000 in
set_option maxHeartbeats 1000000 in
theorem called_any (s : Bs) (w : World) (hs : s.length ≤ 1000000) : Calls Tryd.prog 66 #[.string (ba s)] w (SameOut (isLen s) w) := by
  have hsz := ba_size s
  have hil : isLen s = Lib.equalFold s clu := rfl
  by_cases hl : s.length = 14
  · have hl2 : ((s.length : Int) != 14) = false := by rw [hl]; rfl
    go_enter Tryd.func66, Tryd.ntmps66
    go_wp2_with fail
    go_loopw [4] (fun i wr => ∃ k q : Nat, k ≤ 14 ∧ i = .int .i64 k ∧ wr = w.drewN q ∧ Hid (Lib.equalFold (s.drop k) (clu.drop k) = isLen s)) (fun i _ => 14 - (RowKit.intOf i).toNat)
    case atStart => exact ⟨0, 0, Nat.zero_le _, rfl, rfl, Lib.hid rfl⟩
    case round =>
      obtain ⟨k, q, hk, rfl, rfl, HE⟩ := hrel
      by_cases hlt : k < s.length
      · have hk14 : k < 14 := by omega
        have hg := ba_get s k (by rw [hsz]; omega)
        have hsm := fun W => small_any (s[k]'hlt) W
        have hw := ba_get clw k (by show k < 14; omega)
        have hfo := fold_at k hk14 (s[k]'hlt)
        have e1 := List.drop_eq_getElem_cons hlt
        have e2 : clu.drop k = clu[k]'hk14 :: clu.drop (k + 1) := List.drop_eq_getElem_cons hk14
        have hkz : k < (⟨#[99, 111, 110, 116, 101, 110, 116, 45, 108, 101, 110, 103, 116, 104]⟩ : ByteArray).size := hk14
        have hlw : (clw[k]'hk14).toNat < 256 := (clw[k]'hk14).toNat_lt
        change (⟨#[99, 111, 110, 116, 101, 110, 116, 45, 108, 101, 110, 103, 116, 104]⟩ : ByteArray)[k]'hkz = clw[k]'hk14 at hw
        have hkI : (k : Int) < 14 := by omega
        have hsl : sml (s[k]'hlt) < 256 := by unfold sml; have := (s[k]'hlt).toNat_lt; split <;> omega
        by_cases hq : sml (s[k]'hlt) = (clw[k]'hk14).toNat
        · rw [decide_eq_true hq] at hfo
          have HX := Lib.hid (show Lib.equalFold (s.drop (k + 1)) (clu.drop (k + 1)) = isLen s by rw [← HE.out, e1, e2, Lib.equalFold_yes _ _ _ _ hfo])
          have hne : ((sml (s[k]'hlt) : Int) != (((⟨#[99, 111, 110, 116, 101, 110, 116, 45, 108, 101, 110, 103, 116, 104]⟩ : ByteArray)[k]'hkz).toNat : Int)) = false := by rw [hw, hq]; simp
          clear hfo e1 e2 hq hw
          generalize sml (s[k]'hlt) = a at *
          generalize s[k]'hlt = c at *
          go_wp2_with fail
          go_quiet ((go_at_call 97; refine (hsm _).mono ?_; rintro _ _ ⟨rfl, rfl⟩; exact ⟨rfl, _, rfl⟩))
          go_wp2_with fail
          go_roundw
          case rel => exact ⟨k + 1, _, by omega, by go_num, rfl, HX⟩
          case measure => simp [RowKit.intOf]; omega
        · rw [decide_eq_false hq] at hfo
          have HX := Lib.hid (show isLen s = false by rw [← HE.out, e1, e2, Lib.equalFold_no _ _ _ _ hfo])
          have hne : ((sml (s[k]'hlt) : Int) != (((⟨#[99, 111, 110, 116, 101, 110, 116, 45, 108, 101, 110, 103, 116, 104]⟩ : ByteArray)[k]'hkz).toNat : Int)) = true := by rw [hw]; simp; omega
          clear hfo e1 e2 hq hw
          generalize sml (s[k]'hlt) = a at *
          generalize s[k]'hlt = c at *
          go_wp2_with fail
          go_quiet ((go_at_call 97; refine (hsm _).mono ?_; rintro _ _ ⟨rfl, rfl⟩; exact ⟨rfl, _, rfl⟩))
          go_wp2_with fail
          go_ret
          exact ⟨by rw [HX.out]; rfl, q + nq, by simp [World.drewN, Nat.add_assoc]⟩
      · have hk14 : k = 14 := by omega
        have HX := Lib.hid (show isLen s = true by rw [← HE.out, List.drop_eq_nil_of_le (by omega), hk14]; rfl)
        clear hk14
        go_wp2_with fail
        go_ret
        exact ⟨by rw [HX.out]; rfl, q, rfl⟩
  · have hl2 : ((s.length : Int) != 14) = true := by simp; omega
    have HX := Lib.hid (show isLen s = false by
      rw [hil]
      cases h : Lib.equalFold s clu
      · rfl
      · exact absurd (fold_len s clu h) hl)
    clear hl
    go_enter Tryd.func66, Tryd.ntmps66
    go_wp2_with fail
    go_ret
    exact ⟨by rw [HX.out]; rfl, 0, rfl⟩
end Go.Proofs.YtmaclplhphfkiaaDoor
