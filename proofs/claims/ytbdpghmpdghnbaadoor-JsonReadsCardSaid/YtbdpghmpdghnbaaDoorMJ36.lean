/- The document's own Next at a lead byte of 4 bytes: it answers what the scan has there. Conditions: none but the offset's range. -/
import Derived.Test.YtbdpghmpdghnbaaDoorMJ13
namespace Go.Proofs.YtbdpghmpdghnbaaDoor
open Go Go.RowKit Go.Lib

set_option maxHeartbeats 400000 in
set_option maxRecDepth 100000 in
theorem refNext_short4 (s : ByteArray) (i : Nat) (w : World) (hi : i < s.size) (hs : s.size ≤ 1000000000000) (hb1 : 240 ≤ (s[i].toNat : Int)) (hb2 : (s[i].toNat : Int) < 248) (hsh : (s.size : Int) < (i : Int) + 4) :
    Calls Tryd.prog 23 #[.string s, .int .i64 i] w (NextIs (U.nr s i) (U.nk s i) (U.nb s i) w) := by
  have H := Lib.hid (U.next_short s i 4 (s[i].toNat - 240) (by rw [← U.at_byte hi]; unfold U.Lead; omega) hi (by omega))
  have h1 : ¬ ((i : Int) < 0) := by omega
  have h2 : (i : Int) < (s.size : Int) := by omega
  go_enter Tryd.func23, Tryd.ntmps23
  go_wp2_with fail
  go_ret3
  exact .of (U.nr_bad H.out) (U.nk_bad H.out) (U.nb_bad H.out) (Below.refl _ _)

set_option maxHeartbeats 1000000 in
set_option maxRecDepth 100000 in
theorem refNext_long4 (s : ByteArray) (i : Nat) (w : World) (hi : i < s.size) (hs : s.size ≤ 1000000000000) (hb1 : 240 ≤ (s[i].toNat : Int)) (hb2 : (s[i].toNat : Int) < 248) (hsh : (i : Int) + 4 ≤ (s.size : Int)) :
    Calls Tryd.prog 23 #[.string s, .int .i64 i] w (NextIs (U.nr s i) (U.nk s i) (U.nb s i) w) := by
  obtain ⟨n0, hn0⟩ : ∃ n0, s[i].toNat - 240 = n0 := ⟨_, rfl⟩
  have HL := Lib.hid (show U.Lead (s.get! i).toNat 4 n0 by rw [← U.at_byte hi]; unfold U.Lead; omega)
  have hn0' : n0 < 32 := by omega
  have HN := Lib.hid hn0
  clear hn0
  have h1 : ¬ ((i : Int) < 0) := by omega
  have h2 : (i : Int) < (s.size : Int) := by omega
  go_enter Tryd.func23, Tryd.ntmps23
  go_wp2_with fail
  go_loop [9, 10] (fun n j => ∃ k P : Nat, 1 ≤ k ∧ k ≤ 4 ∧ j = .int .i64 k ∧ n = .int .i64 P ∧ Hid (U.part s i n0 (k - 1) = P ∧ ∀ m, 1 ≤ m → m < k → 128 ≤ (s.get! (i + m)).toNat ∧ (s.get! (i + m)).toNat < 192)) (fun _ j => 4 - (RowKit.intOf j).toNat)
  case atStart => exact ⟨1, n0, by omega, by omega, rfl, by rw [← HN.out]; go_num, Lib.hid ⟨rfl, fun m a b => by omega⟩⟩
  case round =>
    obtain ⟨k, P, hk1, hk2, rfl, rfl, HP⟩ := hrel
    have hP : P < 8388608 := by rw [← HP.out.1]; exact U.part_lt s i n0 hn0' (k - 1) (by omega)
    by_cases hlt : k < 4
    · have hx : i + k < s.size := by omega
      have h256 : (s[i + k].toNat : Int) < 256 := by have := s[i + k].toNat_lt; omega
      by_cases hc : (s[i + k].toNat : Int) < 128
      · go_wp2_with fail
        go_ret3
        have H := U.next_broken s i 4 n0 k HL.out ⟨hk1, hlt⟩ (by rw [← U.at_byte hx]; omega)
        exact .of (U.nr_bad H) (U.nk_bad H) (U.nb_bad H) (Below.refl _ _)
      · by_cases hd : 192 ≤ (s[i + k].toNat : Int)
        · go_wp2_with fail
          go_ret3
          have H := U.next_broken s i 4 n0 k HL.out ⟨hk1, hlt⟩ (by rw [← U.at_byte hx]; omega)
          exact .of (U.nr_bad H) (U.nk_bad H) (U.nb_bad H) (Below.refl _ _)
        · go_wp2_with fail
          go_round
          case rel =>
            refine ⟨k + 1, P * 64 + (s.get! (i + k)).toNat % 64, by omega, by omega, by go_num, ?_, Lib.hid ⟨?_, ?_⟩⟩
            · rw [← U.at_byte hx]
              congr 1
              omega
            · obtain ⟨m, rfl⟩ : ∃ m, k = m + 1 := ⟨k - 1, by omega⟩
              rw [← HP.out.1]
              rfl
            · intro m a b
              by_cases hm : m = k
              · subst hm
                rw [← U.at_byte hx]
                omega
              · exact HP.out.2 m a (by omega)
          case measure => simp [RowKit.intOf]; omega
    · obtain rfl : k = 4 := by omega
      have HW := Lib.hid (U.next_whole s i 4 n0 HL.out (by omega) HP.out.2)
      have hpart := Lib.hid HP.out.1
      rw [show 4 - 1 = 3 from rfl] at HW
      have hl : U.least 4 = 65536 := rfl
      rcases HW.out with ⟨hbad, h⟩ | ⟨hgood, hch, hwd, ha, hb, hc⟩
      · rw [hl, show U.part s i n0 3 = P from hpart.out] at h
        clear hl
        have HB := Lib.hid hbad
        clear hbad
        rcases h with h | h | ⟨h, h'⟩
        · have e1 : decide ((P : Int) < 65536) = true := decide_eq_true (by omega)
          clear h
          go_wp2_with fail
          go_ret3
          exact .of (U.nr_bad HB.out) (U.nk_bad HB.out) (U.nb_bad HB.out) ((Below.refl _ _).alloc (Nat.le_refl _) _)
        · have e0 : decide ((P : Int) < 65536) = false := decide_eq_false (by omega)
          have e2 : decide ((1114111 : Int) < (P : Int)) = true := decide_eq_true (by omega)
          clear h
          go_wp2_with fail
          go_ret3
          exact .of (U.nr_bad HB.out) (U.nk_bad HB.out) (U.nb_bad HB.out) ((Below.refl _ _).alloc (Nat.le_refl _) _)
        · by_cases hq : P < 65536
          · have e1 : decide ((P : Int) < 65536) = true := decide_eq_true (by omega)
            clear h h' hq
            go_wp2_with fail
            go_ret3
            exact .of (U.nr_bad HB.out) (U.nk_bad HB.out) (U.nb_bad HB.out) ((Below.refl _ _).alloc (Nat.le_refl _) _)
          · have e1 : decide ((P : Int) < 65536) = false := decide_eq_false (by omega)
            have e2 : decide ((1114111 : Int) < (P : Int)) = false := decide_eq_false (by omega)
            have e3 : decide ((55296 : Int) ≤ (P : Int)) = true := decide_eq_true (by omega)
            have e4 : decide ((P : Int) < 57344) = true := decide_eq_true (by omega)
            clear h h' hq
            go_wp2_with fail
            go_ret3
            exact .of (U.nr_bad HB.out) (U.nk_bad HB.out) (U.nb_bad HB.out) ((Below.refl _ _).alloc (Nat.le_refl _) _)
      · rw [show U.part s i n0 3 = P from hpart.out] at hch ha hb hc
        rw [hl] at ha
        clear hl
        have HB := Lib.hid (And.intro hgood (And.intro hch hwd))
        clear hgood hch hwd
        rcases hc with h | h
        · have e1 : decide ((P : Int) < 65536) = false := decide_eq_false (by omega)
          have e2 : decide ((1114111 : Int) < (P : Int)) = false := decide_eq_false (by omega)
          have e3 : decide ((55296 : Int) ≤ (P : Int)) = false := decide_eq_false (by omega)
          clear ha hb h
          go_wp2_with fail
          go_ret3
          exact .of (by rw [U.nr_good HB.out.1, HB.out.2.1]) (by rw [U.nk_good HB.out.1, HB.out.2.2]; rfl) (U.nb_good HB.out.1) ((Below.refl _ _).alloc (Nat.le_refl _) _)
        · have e1 : decide ((P : Int) < 65536) = false := decide_eq_false (by omega)
          have e2 : decide ((1114111 : Int) < (P : Int)) = false := decide_eq_false (by omega)
          have e3 : decide ((55296 : Int) ≤ (P : Int)) = true := decide_eq_true (by omega)
          have e4 : decide ((P : Int) < 57344) = false := decide_eq_false (by omega)
          clear ha hb h
          go_wp2_with fail
          go_ret3
          exact .of (by rw [U.nr_good HB.out.1, HB.out.2.1]) (by rw [U.nk_good HB.out.1, HB.out.2.2]; rfl) (U.nb_good HB.out.1) ((Below.refl _ _).alloc (Nat.le_refl _) _)
end Go.Proofs.YtbdpghmpdghnbaaDoor
