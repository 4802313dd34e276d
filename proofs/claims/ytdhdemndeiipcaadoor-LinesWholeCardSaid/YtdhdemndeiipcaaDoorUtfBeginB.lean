/- The program's Begin, at an offset within the string: it answers where the item begins that has the byte. Conditions: a string of at most 10^12 bytes; the library's two tables as its text lays them. -/
import Derived.Test.YtdhdemndeiipcaaDoorUtfTellB
namespace Go.Proofs.YtdhdemndeiipcaaDoor
open Go Go.RowKit Go.Shelf Go.Lib

set_option maxHeartbeats 400000 in
set_option maxRecDepth 100000 in
theorem utfBegin_any (s : ByteArray) (i : Nat) (w : World) (hi : i < s.size) (hs : s.size ≤ 1000000000000) (hT : Tabs w) :
    Calls Tryd.prog 14 #[.string s, .int .i64 i] w (IntIs (U.bgn s i) w) := by
  have HT := Lib.hid hT
  clear hT
  have i1 : ¬ ((i : Int) < 0) := by omega
  have i2 : (i : Int) < (s.size : Int) := by omega
  obtain ⟨L, hL, hL'⟩ : ∃ L : Int, (if (i : Int) - 4 + 1 < 0 then 0 else (i : Int) - 4 + 1) = L ∧ 0 ≤ L ∧ L ≤ i ∧ (i ≤ L + 3) ∧ (L = ((i - 3 : Nat) : Int)) := ⟨_, rfl, by split <;> omega⟩
  go_enter Tryd.func14, Tryd.ntmps14
  go_wp2_with fail
  all_goals
    go_loopw [5] (fun p wr => ∃ q : Nat, p = .int .i64 q ∧ q ≤ i ∧ Hid (∀ r, i ≤ r + 3 → r < q → ¬ (U.bad s r = false ∧ i < r + U.wd s r)) ∧ Below w.heap.size w wr) (fun p _ => i - (RowKit.intOf p).toNat)
    case atStart => exact ⟨i - 3, by go_num, by omega, Lib.hid (fun r h1 h2 => by omega), Below.refl _ _⟩
    case round =>
      obtain ⟨q, rfl, hq, HU, hbl⟩ := hrel
      have HTr := Lib.hid (tabs_below HT.out hbl)
      by_cases hlt : q < i
      · have hqs : q < s.size := by omega
        have hw1 := U.wd_pos hqs
        have hw2 := U.wd_le hqs
        cases hbad : U.bad s q
        · have hc := utfNext_good s q _ hqs hs HTr.out hbad
          by_cases hin : i < q + U.wd s q
          · have HS := Lib.hid (U.good_bgn s q i hqs hbad (by omega) hin)
            have e1 : decide ((i : Int) < (q : Int) + (U.wd s q : Int)) = true := decide_eq_true (by omega)
            clear hin hbad
            generalize U.wd s q = d at *
            generalize U.ch s q = c at *
            go_wp2_with fail
            refine hc.mono ?_
            rintro e w' ⟨rfl, hb⟩
            go_wp2_with fail
            go_ret
            refine ⟨?_, hbl.trans (hb.mono hbl.size)⟩
            rw [HS.out]
            rfl
          · have HS := Lib.hid hin
            have e1 : decide ((i : Int) < (q : Int) + (U.wd s q : Int)) = false := decide_eq_false (by omega)
            clear hin hbad
            generalize hd : U.wd s q = d at *
            have HD := Lib.hid hd
            clear hd
            generalize U.ch s q = c at *
            go_wp2_with fail
            refine hc.mono ?_
            rintro e w' ⟨rfl, hb⟩
            go_wp2_with fail
            go_roundw
            case rel =>
              refine ⟨q + 1, by go_num, by omega, Lib.hid (fun r h1 h2 h3 => ?_), hbl.trans (hb.mono hbl.size)⟩
              by_cases hr : r = q
              · subst hr
                rw [HD.out] at h3
                exact HS.out h3.2
              · exact HU.out r h1 (by omega) h3
            case measure => simp [RowKit.intOf]; omega
        · have hc := utfNext_bad s q _ hqs hs HTr.out hbad
          have HS := Lib.hid hbad
          clear hbad
          go_wp2_with fail
          refine hc.mono ?_
          rintro e w' ⟨rfl, hb⟩
          go_wp2_with fail
          go_roundw
          case rel =>
            refine ⟨q + 1, by go_num, by omega, Lib.hid (fun r h1 h2 h3 => ?_), hbl.trans (hb.mono hbl.size)⟩
            by_cases hr : r = q
            · subst hr
              rw [HS.out] at h3
              cases h3.1
            · exact HU.out r h1 (by omega) h3
          case measure => simp [RowKit.intOf]; omega
      · obtain rfl : q = i := by omega
        have HS := Lib.hid (U.bgn_self s q hi HU.out)
        go_wp2_with fail
        go_ret
        refine ⟨?_, hbl⟩
        rw [HS.out]
        rfl
end Go.Proofs.YtdhdemndeiipcaaDoor
