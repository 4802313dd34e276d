/- The statement on two strings behind one another, walked: whatever the strings, it answers true. Conditions: such as Go can hold; the library's two tables as its text lays them. -/
import Derived.Test.YteoeamdfglmmoaaDoorUtfAwake
import Derived.Test.YteoeamdfglmmoaaDoorUtfMathJ
namespace Go.Proofs.YteoeamdfglmmoaaDoor
open Go Go.RowKit Go.Shelf Go.Lib

set_option maxHeartbeats 1000000 in
set_option maxRecDepth 100000 in
theorem long2_named (s t : ByteArray) (M T : Int) (b : Nat) (w : World) (hM : Hid (min (s.size : Int) 1048576 = M)) (hT : Hid (min (t.size : Int) 1048576 = T)) (hc : w.cell? ⟨b, 0, none⟩ = some (.string s)) (hd : w.cell? ⟨b, 1, none⟩ = some (.string t)) :
    Calls Tryd.prog 8 #[.slice (some ⟨b, 0, none⟩) 2 2] w fun e w' => e = .returned (.bool (decide (262144 < M + T))) ∧ w = w' := by
  have m1 : 0 ≤ M ∧ M ≤ 1048576 := by rw [← hM.out]; omega
  have m2 : 0 ≤ T ∧ T ≤ 1048576 := by rw [← hT.out]; omega
  go_enter Tryd.func8, Tryd.ntmps8
  go_wp2_with fail
  go_loop [3, 4] (fun n i => (i = .int .i64 0 ∧ n = .int .i64 0) ∨ (i = .int .i64 1 ∧ n = .int .i64 M) ∨ (i = .int .i64 2 ∧ n = .int .i64 (M + T))) (fun _ i => 2 - (RowKit.intOf i).toNat)
  case atStart => exact Or.inl ⟨rfl, rfl⟩
  case round =>
    rcases hrel with ⟨rfl, rfl⟩ | ⟨rfl, rfl⟩ | ⟨rfl, rfl⟩
    · go_wp2_with fail
      exact ⟨Or.inr (Or.inl ⟨rfl, by rw [hM.out]⟩), by simp [RowKit.intOf]⟩
    · go_wp2_with fail
      exact ⟨Or.inr (Or.inr ⟨rfl, by rw [hT.out]⟩), by simp [RowKit.intOf]⟩
    · go_wp2_with fail
      go_ret
      exact ⟨rfl, rfl⟩
def tooLong (s t : ByteArray) : Bool := decide ((262144 : Int) < min (s.size : Int) 1048576 + min (t.size : Int) 1048576)
theorem long2_any (s t : ByteArray) (b : Nat) (w : World) (hc : w.cell? ⟨b, 0, none⟩ = some (.string s)) (hd : w.cell? ⟨b, 1, none⟩ = some (.string t)) :
    Calls Tryd.prog 8 #[.slice (some ⟨b, 0, none⟩) 2 2] w fun e w' => e = .returned (.bool (tooLong s t)) ∧ w = w' :=
  long2_named s t _ _ b w (Lib.hid rfl) (Lib.hid rfl) hc hd
theorem short_of {s t : ByteArray} (h : tooLong s t = false) : s.size + t.size ≤ 262144 := by
  unfold tooLong at h
  have := of_decide_eq_false h
  omega

set_option maxHeartbeats 400000 in
set_option maxRecDepth 100000 in
theorem joinsLaw_long (s t : ByteArray) (w : World) (hT : Tabs w) (hl : tooLong s t = true) :
    Calls Tryd.prog 7 #[.string s, .string t] w (LawIs w) := by
  have hw := awake_any w hT
  have hc := fun (b : Nat) (W : World) (h : W.cell? ⟨b, 0, none⟩ = some (.string s)) (h' : W.cell? ⟨b, 1, none⟩ = some (.string t)) => long2_any s t b W h h'
  rw [hl] at hc
  clear hl
  go_enter Tryd.func7, Tryd.ntmps7
  go_wp2_with fail
  refine hw.mono ?_
  rintro e w0 ⟨rfl, b0⟩
  go_wp2_with fail
  refine (hc _ _ (by simp) (by simp)).mono ?_
  rintro e w' ⟨rfl, rfl⟩
  go_wp2_with fail
  go_ret
  exact ⟨rfl, b0.alloc b0.size _⟩

set_option maxHeartbeats 2000000 in
set_option maxRecDepth 100000 in
theorem joinsLaw_short (s t : ByteArray) (w : World) (hT : Tabs w) (hl : tooLong s t = false) :
    Calls Tryd.prog 7 #[.string s, .string t] w (LawIs w) := by
  have hw := awake_any w hT
  have hz := short_of hl
  have hfz := U.fix_size s
  have hc := fun (b : Nat) (W : World) (h : W.cell? ⟨b, 0, none⟩ = some (.string s)) (h' : W.cell? ⟨b, 1, none⟩ = some (.string t)) => long2_any s t b W h h'
  rw [hl] at hc
  clear hl
  have h1 := fun W (hW : Tabs W) => utfFix_any s W (by omega) hW
  have HV := Lib.hid (U.fix_valid s)
  have hul1 := U.units_le (U.fixS s)
  have hul2 := U.units_le t
  have h2 := fun W => utfUnits_is (U.fixS s ++ t) W (by rw [U.app_size]; omega)
  rw [U.units_app _ t HV.out] at h2
  have h3 := fun W => utfUnits_is (U.fixS s) W (by omega)
  have h4 := fun W => utfUnits_is t W (by omega)
  generalize U.fixS s = x at *
  generalize hm : U.units x = m at *
  have HM := Lib.hid hm
  clear hm
  generalize U.units t = k at *
  have hx : x.size ≤ 786432 := by omega
  have ht : t.size ≤ 262144 := by omega
  clear hz hfz
  have HT := Lib.hid hT
  clear hT
  go_enter Tryd.func7, Tryd.ntmps7
  go_wp2_with fail
  refine hw.mono ?_
  rintro e w0 ⟨rfl, b0⟩
  go_wp2_with fail
  refine (hc _ _ (by simp) (by simp)).mono ?_
  rintro e w' ⟨rfl, rfl⟩
  have b0' : Below w.heap.size w (w0.alloc (Obj.cells #[Value.string s, Value.string t] 9)) := b0.alloc b0.size _
  clear b0
  go_wp2_with fail
  refine (h1 _ (tabs_below HT.out b0')).mono ?_
  rintro e w1 ⟨rfl, b1⟩
  have b1' := b0'.trans (b1.mono b0'.size)
  clear b1 b0'
  go_wp2_with fail
  refine (h2 _).mono ?_
  rintro e w2 ⟨rfl, b2⟩
  have b2' := b1'.trans (b2.mono b1'.size)
  clear b2 b1'
  go_wp2_with fail
  refine (h3 _).mono ?_
  rintro e w3 ⟨rfl, b3⟩
  have b3' := b2'.trans (b3.mono b2'.size)
  clear b3 b2'
  go_wp2_with fail
  refine (h4 _).mono ?_
  rintro e w4 ⟨rfl, b4⟩
  have b4' := b3'.trans (b4.mono b3'.size)
  clear b4 b3'
  go_wp2_with fail
  go_loopw [5, 6] (fun p n wr => ∃ q c : Nat, p = .int .i64 q ∧ n = .int .i64 c ∧ q ≤ x.size ∧ c ≤ q ∧ Hid (∃ j, U.st x j 0 0 = (q, c)) ∧ Below w.heap.size w wr) (fun p _ _ => x.size - (RowKit.intOf p).toNat)
  case atStart => exact ⟨0, 0, rfl, rfl, by omega, by omega, Lib.hid ⟨0, rfl⟩, b4'⟩
  case round =>
    obtain ⟨q, c, rfl, rfl, hq, hcq, HJ, hbl⟩ := hrel
    by_cases hlt : q < x.size
    · obtain ⟨j, hj⟩ := HJ.out
      have hg := U.valid_good x j 0 0 q c hj hlt x.size (by omega) HV.out
      have hf := U.facts x q hlt
      have hun := U.un_le hlt
      have hn := utfNext_good x q _ hlt (by omega) (tabs_below HT.out hbl) hg
      have he := U.enc_good x q hlt hg
      have HN := Lib.hid (U.st_snoc x j 0 0 q c hj hlt)
      have hu4 : (U.wd x q = 4 ∧ U.un x q = 2) ∨ (U.wd x q ≠ 4 ∧ U.un x q = 1) := by
        unfold U.un
        by_cases h4 : 65536 ≤ U.ch x q
        · rw [if_pos h4]; exact Or.inl ⟨hf.2.2.2.1 h4, rfl⟩
        · rw [if_neg h4]; exact Or.inr ⟨fun h => h4 (hf.2.2.2.2.1 h), rfl⟩
      obtain ⟨f1, f2, f3, _, _, _⟩ := hf
      clear hj hg
      generalize U.ch x q = r at *
      generalize U.un x q = v at *
      generalize U.wd x q = d at *
      have hq1 : ((Utf8.encode (r : Int)).toList == (x.extract q (q + d)).toList) = true := by rw [beq_iff_eq]; exact he
      clear he
      go_wp2_with fail
      refine hn.mono ?_
      rintro e w5 ⟨rfl, b5⟩
      have b5' := hbl.trans (b5.mono hbl.size)
      clear b5 hn
      rcases hu4 with ⟨g1, g2⟩ | ⟨g1, g2⟩
      · have e4 : ((d : Int) == 4) = true := by rw [beq_iff_eq]; omega
        have HG := Lib.hid (And.intro g1 g2)
        clear g1 g2
        go_wp2_with fail
        go_roundw
        case rel =>
          obtain ⟨g1, g2⟩ := HG.out
          exact ⟨q + d, c + v, by go_num, by rw [g2]; go_num, by omega, by omega, Lib.hid ⟨j + 1, HN.out⟩, b5'⟩
        case measure => simp [RowKit.intOf]; omega
      · have e4 : ((d : Int) == 4) = false := by rw [beq_eq_false_iff_ne]; omega
        have HG := Lib.hid (And.intro g1 g2)
        clear g1 g2
        go_wp2_with fail
        go_roundw
        case rel =>
          obtain ⟨g1, g2⟩ := HG.out
          exact ⟨q + d, c + v, by go_num, by rw [g2]; go_num, by omega, by omega, Lib.hid ⟨j + 1, HN.out⟩, b5'⟩
        case measure => simp [RowKit.intOf]; omega
    · have e1 : ((q : Int) == (x.size : Int)) = true := by rw [beq_iff_eq]; omega
      have e2 : ((c : Int) == (m : Int)) = true := by
        rw [beq_iff_eq]
        obtain ⟨j, hj⟩ := HJ.out
        have hqe : q = x.size := by omega
        rw [hqe] at hj
        have := U.units_of_end x j c hj
        rw [HM.out] at this
        omega
      go_wp2_with fail
      refine (h3 _).mono ?_
      rintro e w5 ⟨rfl, b5⟩
      have b5' := hbl.trans (b5.mono hbl.size)
      go_wp2_with fail
      go_ret
      exact ⟨rfl, b5'⟩
theorem joinsLaw_any (s t : ByteArray) (w : World) (_hs : s.size ≤ 9223372036854775807) (_ht : t.size ≤ 9223372036854775807) (hT : Tabs w) :
    Calls Tryd.prog 7 #[.string s, .string t] w (LawIs w) := by
  cases h : tooLong s t
  · exact joinsLaw_short s t w hT h
  · exact joinsLaw_long s t w hT h
end Go.Proofs.YteoeamdfglmmoaaDoor
