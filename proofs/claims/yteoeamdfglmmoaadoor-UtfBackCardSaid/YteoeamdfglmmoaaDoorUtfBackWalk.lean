/- The statement on the way from units to places and back, walked: whatever the string, the offset and the number, it answers true. Conditions: such as Go can hold; the library's two tables as its text lays them. -/
import Derived.Test.YteoeamdfglmmoaaDoorUtfAwake
import Derived.Test.YteoeamdfglmmoaaDoorUtfMathS
namespace Go.Proofs.YteoeamdfglmmoaaDoor
open Go Go.RowKit Go.Shelf Go.Lib

set_option maxHeartbeats 400000 in
set_option maxRecDepth 100000 in
theorem backLaw_long (s : ByteArray) (i u : Int) (w : World) (_hs : s.size ≤ 9223372036854775807) (hT : Tabs w) (hl : (20000 : Int) < (s.size : Int)) :
    Calls Tryd.prog 6 #[.string s, .int .i64 i, .int .i64 u] w (LawIs w) := by
  have hw := awake_any w hT
  go_enter Tryd.func6, Tryd.ntmps6
  go_wp2_with fail
  refine hw.mono ?_
  rintro e w0 ⟨rfl, b0⟩
  go_wp2_with fail
  go_ret
  exact ⟨rfl, b0⟩

namespace U
theorem bgnAt_facts (s : ByteArray) (i : Int) : ∃ j n, st s j 0 0 = (bgnAt s i, n) ∧ bgnAt s i ≤ s.size ∧ (0 ≤ i → (bgnAt s i : Int) ≤ i) := by
  unfold bgnAt
  by_cases h0 : i < 0
  · rw [if_pos h0]
    exact ⟨0, 0, rfl, Nat.zero_le _, fun h => by omega⟩
  rw [if_neg h0]
  by_cases h : i < s.size
  · rw [if_pos h]
    obtain ⟨j, n, hj⟩ := reach s i.toNat (by omega)
    have := bgn_has s i.toNat (by omega)
    exact ⟨j, n, hj, by omega, fun _ => by omega⟩
  · rw [if_neg h]
    obtain ⟨j, n, hj⟩ := st_to_end s s.size 0 0 (Nat.zero_le _) (by omega)
    exact ⟨j, n, hj, Nat.le_refl _, fun _ => by omega⟩
theorem bgnAt_back (s : ByteArray) (j p n : Nat) (h : st s j 0 0 = (p, n)) (hp : p ≤ s.size) : bgnAt s (p : Nat) = p := by
  unfold bgnAt
  rw [if_neg (by omega)]
  by_cases hlt : p < s.size
  · rw [if_pos (by omega), Int.toNat_natCast, start_back s j p n h hlt]
  · rw [if_neg (by omega)]; omega
end U

set_option maxHeartbeats 4000000 in
set_option maxRecDepth 100000 in
theorem backLaw_short (s : ByteArray) (i u : Int) (w : World) (hs : s.size ≤ 20000) (hu1 : -9223372036854775808 ≤ u) (hu2 : u ≤ 9223372036854775807) (hT : Tabs w) :
    Calls Tryd.prog 6 #[.string s, .int .i64 i, .int .i64 u] w (LawIs w) := by
  have hw := awake_any w hT
  have h1 := fun W (hW : Tabs W) => utfBegin_all s i W (by omega) hW
  obtain ⟨j, n, hj, hb1, hb2⟩ := U.bgnAt_facts s i
  have h2 := fun W => utfUnits_is (s.extract 0 (bgnAt s i)) W (by rw [U.ext_len s _ hb1]; omega)
  have h3 := fun W => utfCut_any s (U.units (s.extract 0 (bgnAt s i)) : Nat) W (by omega) (by have := U.units_le (s.extract 0 (bgnAt s i)); rw [U.ext_len s _ hb1] at this; omega)
  rw [U.cut_back s j _ n hj hb1] at h3
  have h4 := fun W (hW : Tabs W) => utfBegin_all s (bgnAt s i : Nat) W (by omega) hW
  rw [U.bgnAt_back s j _ n hj hb1] at h4
  clear hj
  obtain ⟨j', n', hj', hn', hc1, hc2⟩ := U.cut_facts s u
  have h5 := fun W => utfCut_any s u W (by omega) hu2
  have h6 := fun W (hW : Tabs W) => utfBegin_all s (U.cut s u : Nat) W (by omega) hW
  rw [U.bgnAt_back s j' _ n' hj' hc1] at h6
  have h7 := fun W => utfUnits_is (s.extract 0 (U.cut s u)) W (by rw [U.ext_len s _ hc1]; omega)
  rw [U.units_ext s j' _ n' hj' hc1] at h7
  have h8 := fun W => utfUnits_is s W (by omega)
  have h9 := fun W (hW : Tabs W) (hlt : U.cut s u < s.size) (hg : U.bad s (U.cut s u) = false) => utfNext_good s (U.cut s u) W hlt (by omega) hW hg
  have hend : U.cut s u = s.size → (U.units s = n') := fun h => U.units_of_end s j' n' (by rw [← h]; exact hj')
  have hpast := fun hlt => U.units_past s j' _ n' hj' hlt
  have hm := U.st_mono s j' 0 0 _ n' hj'
  have hbelow := U.cut_below s u
  have hul := U.units_le s
  have hn0 : n' ≤ s.size := by
    by_cases hk : U.cut s u < s.size
    · have := hpast hk; omega
    · have := hend (by omega); omega
  have hun := fun (hlt : U.cut s u < s.size) => U.un_le hlt
  have hgood : U.cut s u < s.size → U.un s (U.cut s u) = 2 → U.bad s (U.cut s u) = false ∧ U.wd s (U.cut s u) = 4 := fun hlt h2 => by
    have hf := U.facts s _ hlt
    have h4 : U.wd s (U.cut s u) = 4 := by
      unfold U.un at h2
      split at h2
      · exact hf.2.2.2.1 (by assumption)
      · cases h2
    exact ⟨U.good_of_wd (by omega), h4⟩
  have hK : (u < 0 ∧ U.cut s u = 0) ∨ (0 ≤ u ∧ (U.units s : Int) ≤ u ∧ U.cut s u = s.size) ∨ (0 ≤ u ∧ u < (U.units s : Int) ∧ (n' : Int) = u) ∨ (0 ≤ u ∧ u < (U.units s : Int) ∧ (n' : Int) = u - 1 ∧ U.cut s u < s.size ∧ U.bad s (U.cut s u) = false ∧ U.wd s (U.cut s u) = 4) := by
    by_cases k0 : u < 0
    · exact Or.inl ⟨k0, hbelow k0⟩
    by_cases k1 : (U.units s : Int) ≤ u
    · refine Or.inr (Or.inl ⟨by omega, k1, ?_⟩)
      by_cases hk : U.cut s u < s.size
      · have a := hpast hk
        have b := hc2 hk
        omega
      · omega
    by_cases k2 : (n' : Int) = u
    · exact Or.inr (Or.inr (Or.inl ⟨by omega, by omega, k2⟩))
    have a := hn' (by omega)
    have hk : U.cut s u < s.size := by
      by_cases hk : U.cut s u < s.size
      · exact hk
      · have := hend (by omega); omega
    have b := hc2 hk
    have c := hun hk
    have d := hgood hk (by omega)
    exact Or.inr (Or.inr (Or.inr ⟨by omega, by omega, by omega, hk, d.1, d.2⟩))
  clear hj' hn' hc2 hend hpast hm hbelow hun hgood
  generalize U.units (s.extract 0 (bgnAt s i)) = a at *
  generalize bgnAt s i = b at *
  have hI : i < 0 ∨ (0 ≤ i ∧ (b : Int) ≤ i) := by
    by_cases h : i < 0
    · exact Or.inl h
    · exact Or.inr ⟨by omega, hb2 (by omega)⟩
  clear hb2
  have HT := Lib.hid hT
  clear hT
  rcases hK with ⟨k1, k2⟩ | ⟨k1, k2, k3⟩ | ⟨k1, k2, k3⟩ | ⟨k1, k2, k3, k4, k5, k6⟩
  · have e1 : ((U.cut s u : Int) == 0) = true := by rw [beq_iff_eq]; omega
    clear k2 h8 h9
    generalize U.cut s u = k at *
    rcases hI with hI | ⟨hI, hI'⟩
    all_goals
      go_enter Tryd.func6, Tryd.ntmps6
      go_wp2_with fail
      refine hw.mono ?_
      rintro e w0 ⟨rfl, b0⟩
      go_wp2_with fail
      refine (h1 _ (tabs_below HT.out b0)).mono ?_
      rintro e w1 ⟨rfl, b1⟩
      have b1' := b0.trans (b1.mono b0.size)
      clear b1 b0
      go_wp2_with fail
      refine (h2 _).mono ?_
      rintro e w2 ⟨rfl, b2⟩
      have b2' := b1'.trans (b2.mono b1'.size)
      clear b2 b1'
      go_wp2_with fail
      refine (h3 _).mono ?_
      rintro e w3 ⟨rfl, b3⟩
      have b3' := b2'.trans (b3.mono b2'.size)
      clear b3 b2'
      go_wp2_with fail
      refine (h4 _ (tabs_below HT.out b3')).mono ?_
      rintro e w4 ⟨rfl, b4⟩
      have b4' := b3'.trans (b4.mono b3'.size)
      clear b4 b3'
      go_wp2_with fail
      refine (h5 _).mono ?_
      rintro e w5 ⟨rfl, b5⟩
      have b5' := b4'.trans (b5.mono b4'.size)
      clear b5 b4'
      go_wp2_with fail
      refine (h6 _ (tabs_below HT.out b5')).mono ?_
      rintro e w6 ⟨rfl, b6⟩
      have b6' := b5'.trans (b6.mono b5'.size)
      clear b6 b5'
      go_wp2_with fail
      refine (h7 _).mono ?_
      rintro e w7 ⟨rfl, b7⟩
      have b7' := b6'.trans (b7.mono b6'.size)
      clear b7 b6'
      go_wp2_with fail
      go_ret
      exact ⟨rfl, b7'⟩
  · have e1 : ((U.cut s u : Int) == (s.size : Int)) = true := by rw [beq_iff_eq]; omega
    clear k3 h9
    generalize U.cut s u = k at *
    generalize U.units s = m at *
    rcases hI with hI | ⟨hI, hI'⟩
    all_goals
      go_enter Tryd.func6, Tryd.ntmps6
      go_wp2_with fail
      refine hw.mono ?_
      rintro e w0 ⟨rfl, b0⟩
      go_wp2_with fail
      refine (h1 _ (tabs_below HT.out b0)).mono ?_
      rintro e w1 ⟨rfl, b1⟩
      have b1' := b0.trans (b1.mono b0.size)
      clear b1 b0
      go_wp2_with fail
      refine (h2 _).mono ?_
      rintro e w2 ⟨rfl, b2⟩
      have b2' := b1'.trans (b2.mono b1'.size)
      clear b2 b1'
      go_wp2_with fail
      refine (h3 _).mono ?_
      rintro e w3 ⟨rfl, b3⟩
      have b3' := b2'.trans (b3.mono b2'.size)
      clear b3 b2'
      go_wp2_with fail
      refine (h4 _ (tabs_below HT.out b3')).mono ?_
      rintro e w4 ⟨rfl, b4⟩
      have b4' := b3'.trans (b4.mono b3'.size)
      clear b4 b3'
      go_wp2_with fail
      refine (h5 _).mono ?_
      rintro e w5 ⟨rfl, b5⟩
      have b5' := b4'.trans (b5.mono b4'.size)
      clear b5 b4'
      go_wp2_with fail
      refine (h6 _ (tabs_below HT.out b5')).mono ?_
      rintro e w6 ⟨rfl, b6⟩
      have b6' := b5'.trans (b6.mono b5'.size)
      clear b6 b5'
      go_wp2_with fail
      refine (h7 _).mono ?_
      rintro e w7 ⟨rfl, b7⟩
      have b7' := b6'.trans (b7.mono b6'.size)
      clear b7 b6'
      go_wp2_with fail
      refine (h8 _).mono ?_
      rintro e w8 ⟨rfl, b8⟩
      have b8' := b7'.trans (b8.mono b7'.size)
      clear b8 b7'
      go_wp2_with fail
      go_ret
      exact ⟨rfl, b8'⟩
  · have e1 : ((n' : Int) == u) = true := by rw [beq_iff_eq]; omega
    clear k3 h9
    generalize U.cut s u = k at *
    generalize U.units s = m at *
    rcases hI with hI | ⟨hI, hI'⟩
    all_goals
      go_enter Tryd.func6, Tryd.ntmps6
      go_wp2_with fail
      refine hw.mono ?_
      rintro e w0 ⟨rfl, b0⟩
      go_wp2_with fail
      refine (h1 _ (tabs_below HT.out b0)).mono ?_
      rintro e w1 ⟨rfl, b1⟩
      have b1' := b0.trans (b1.mono b0.size)
      clear b1 b0
      go_wp2_with fail
      refine (h2 _).mono ?_
      rintro e w2 ⟨rfl, b2⟩
      have b2' := b1'.trans (b2.mono b1'.size)
      clear b2 b1'
      go_wp2_with fail
      refine (h3 _).mono ?_
      rintro e w3 ⟨rfl, b3⟩
      have b3' := b2'.trans (b3.mono b2'.size)
      clear b3 b2'
      go_wp2_with fail
      refine (h4 _ (tabs_below HT.out b3')).mono ?_
      rintro e w4 ⟨rfl, b4⟩
      have b4' := b3'.trans (b4.mono b3'.size)
      clear b4 b3'
      go_wp2_with fail
      refine (h5 _).mono ?_
      rintro e w5 ⟨rfl, b5⟩
      have b5' := b4'.trans (b5.mono b4'.size)
      clear b5 b4'
      go_wp2_with fail
      refine (h6 _ (tabs_below HT.out b5')).mono ?_
      rintro e w6 ⟨rfl, b6⟩
      have b6' := b5'.trans (b6.mono b5'.size)
      clear b6 b5'
      go_wp2_with fail
      refine (h7 _).mono ?_
      rintro e w7 ⟨rfl, b7⟩
      have b7' := b6'.trans (b7.mono b6'.size)
      clear b7 b6'
      go_wp2_with fail
      refine (h8 _).mono ?_
      rintro e w8 ⟨rfl, b8⟩
      have b8' := b7'.trans (b8.mono b7'.size)
      clear b8 b7'
      go_wp2_with fail
      go_ret
      exact ⟨rfl, b8'⟩
  · have e1 : ((n' : Int) == u) = false := by rw [beq_eq_false_iff_ne]; omega
    have e2 : ((n' : Int) == u - 1) = true := by rw [beq_iff_eq]; omega
    have h9' := fun W (hW : Tabs W) => h9 W hW k4 k5
    rw [k6] at h9'
    clear k3 k5 k6 h9
    generalize U.ch s (U.cut s u) = c at *
    generalize U.cut s u = k at *
    generalize U.units s = m at *
    rcases hI with hI | ⟨hI, hI'⟩
    all_goals
      go_enter Tryd.func6, Tryd.ntmps6
      go_wp2_with fail
      refine hw.mono ?_
      rintro e w0 ⟨rfl, b0⟩
      go_wp2_with fail
      refine (h1 _ (tabs_below HT.out b0)).mono ?_
      rintro e w1 ⟨rfl, b1⟩
      have b1' := b0.trans (b1.mono b0.size)
      clear b1 b0
      go_wp2_with fail
      refine (h2 _).mono ?_
      rintro e w2 ⟨rfl, b2⟩
      have b2' := b1'.trans (b2.mono b1'.size)
      clear b2 b1'
      go_wp2_with fail
      refine (h3 _).mono ?_
      rintro e w3 ⟨rfl, b3⟩
      have b3' := b2'.trans (b3.mono b2'.size)
      clear b3 b2'
      go_wp2_with fail
      refine (h4 _ (tabs_below HT.out b3')).mono ?_
      rintro e w4 ⟨rfl, b4⟩
      have b4' := b3'.trans (b4.mono b3'.size)
      clear b4 b3'
      go_wp2_with fail
      refine (h5 _).mono ?_
      rintro e w5 ⟨rfl, b5⟩
      have b5' := b4'.trans (b5.mono b4'.size)
      clear b5 b4'
      go_wp2_with fail
      refine (h6 _ (tabs_below HT.out b5')).mono ?_
      rintro e w6 ⟨rfl, b6⟩
      have b6' := b5'.trans (b6.mono b5'.size)
      clear b6 b5'
      go_wp2_with fail
      refine (h7 _).mono ?_
      rintro e w7 ⟨rfl, b7⟩
      have b7' := b6'.trans (b7.mono b6'.size)
      clear b7 b6'
      go_wp2_with fail
      refine (h8 _).mono ?_
      rintro e w8 ⟨rfl, b8⟩
      have b8' := b7'.trans (b8.mono b7'.size)
      clear b8 b7'
      go_wp2_with fail
      refine (h9' _ (tabs_below HT.out b8')).mono ?_
      rintro e w9 ⟨rfl, b9⟩
      have b9' := b8'.trans (b9.mono b8'.size)
      clear b9 b8'
      go_wp2_with fail
      go_ret
      exact ⟨rfl, b9'⟩
theorem backLaw_any (s : ByteArray) (i u : Int) (w : World) (hs : s.size ≤ 9223372036854775807) (_hi : -9223372036854775808 ≤ i ∧ i ≤ 9223372036854775807) (hu : -9223372036854775808 ≤ u ∧ u ≤ 9223372036854775807) (hT : Tabs w) :
    Calls Tryd.prog 6 #[.string s, .int .i64 i, .int .i64 u] w (LawIs w) := by
  by_cases h : s.size ≤ 20000
  · exact backLaw_short s i u w h hu.1 hu.2 hT
  · exact backLaw_long s i u w hs hT (by omega)
end Go.Proofs.YteoeamdfglmmoaaDoor
