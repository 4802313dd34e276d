/- The program's reader of JSON: a field's name. Conditions: a string of at most 2^18 bytes. -/
import Derived.Test.YtkehpmbafjelpaaDoorJpListB
namespace Go.Proofs.YtkehpmbafjelpaaDoor
open Go Go.RowKit Go.Lib
theorem am58 (c : Nat) : J.am ⟨#[58]⟩ c = decide (c = 58) := J.am_one 58 c (by decide)

set_option maxRecDepth 100000 in
set_option maxHeartbeats 1000000 in
theorem name_any (s : ByteArray) (q d B : Nat) (w : World) (hs : s.size ≤ 262144) (hq : q ≤ s.size) (hT : TB B w) (h : Rd s q d B w) :
    Calls Tryd.prog 121 #[.pointer (some ⟨B, 0, none⟩)] w (Out (.string (nmc s q).1) s (nmc s q).2 d B w) := by
  have hs1 : s.size ≤ 1000000000000 := by omega
  have hk1 := skipAll_any s J.blk q d B w hs1 hq blanks0 h
  rw [J.sa_bl] at hk1
  have hq1 := (J.bl_le 0 hq).2
  have hnm : nmc s q = if (ptw s (J.bl s q 0)).2.2 = 0 then
    (if J.is s (J.bl s (ptw s (J.bl s q 0)).2.1 0) 0 58 = true then (enc (ptw s (J.bl s q 0)).1, J.bl s (ptw s (J.bl s q 0)).2.1 0 + 1, 0) else (⟨#[]⟩, J.bl s (ptw s (J.bl s q 0)).2.1 0, 30))
    else (⟨#[]⟩, (ptw s (J.bl s q 0)).2) := rfl
  generalize J.bl s q 0 = q1 at *
  have htx := fun W hT hW => text_any s q1 d B W (by omega) hq1 hT hW
  have hq2 := (ptw_le hq1).2
  generalize ptw s q1 = x at *
  have hsk := fun q => J.sk_is (s := s) q (by decide) am58
  have HT := Lib.hid hT
  clear hT
  by_cases he : x.2.2 = 0
  · have hk2 := fun W hW => skipAll_any s J.blk x.2.1 d B W hs1 hq2 blanks0 hW
    simp only [J.sa_bl] at hk2
    have hq3 := (J.bl_le 0 hq2).2
    rw [if_pos he] at hnm
    generalize J.bl s x.2.1 0 = q3 at *
    unfold Out at htx
    simp only [if_pos he] at htx
    have hyes := fun W hW hb => take_yes s ⟨#[58]⟩ q3 d B W hs1 hq3 hW hb
    have hno := fun W hW hb => take_no s ⟨#[58]⟩ q3 d B W hs1 hq3 hW hb
    rw [hsk] at hyes hno
    generalize J.pk s q3 = c0 at *
    cases hb : J.is s q3 0 58
    · rw [hb] at hnm hno
      have HE := Lib.hid (hnm.trans (if_neg (by decide)))
      clear hnm hb
      go_enter Tryd.func121, Tryd.ntmps121
      go_wp2_with fail
      refine hk1.mono ?_
      rintro en w1 ⟨rfl, h1, g1⟩
      have T1 := HT.out.grow g1
      go_wp2_with fail
      refine (htx _ (Lib.hid T1) h1).mono ?_
      rintro en w2 ⟨rfl, h2, g2⟩
      have G2 := Lib.hid (grow_trans g1 g2)
      clear h1 g1 g2
      go_wp2_with fail
      refine (hk2 _ h2).mono ?_
      rintro en w3 ⟨rfl, h3, g3⟩
      have G3 := Lib.hid (grow_trans G2.out g3)
      clear h2 g3
      go_wp2_with fail
      refine (hno _ h3 trivial).mono ?_
      rintro en w4 ⟨rfl, h4, g4⟩
      refine ⟨rfl, ?_⟩
      rw [HE.out]
      exact out_no ⟨rfl, h4, grow_trans G3.out g4⟩
    · rw [hb] at hnm hyes
      have HE := Lib.hid (hnm.trans (if_pos rfl))
      clear hnm hb
      go_enter Tryd.func121, Tryd.ntmps121
      go_wp2_with fail
      refine hk1.mono ?_
      rintro en w1 ⟨rfl, h1, g1⟩
      have T1 := HT.out.grow g1
      go_wp2_with fail
      refine (htx _ (Lib.hid T1) h1).mono ?_
      rintro en w2 ⟨rfl, h2, g2⟩
      have G2 := Lib.hid (grow_trans g1 g2)
      clear h1 g1 g2
      go_wp2_with fail
      refine (hk2 _ h2).mono ?_
      rintro en w3 ⟨rfl, h3, g3⟩
      have G3 := Lib.hid (grow_trans G2.out g3)
      clear h2 g3
      go_wp2_with fail
      refine (hyes _ h3 trivial).mono ?_
      rintro en w4 ⟨rfl, h4, g4⟩
      have HF := Lib.hid (And.intro h4 (grow_trans G3.out g4))
      clear h3 h4 g4
      go_wp2_with fail
      go_ret
      rw [HE.out]
      exact out_ok ⟨rfl, HF.out⟩
  · rw [if_neg he] at hnm
    have HE := Lib.hid hnm
    clear hnm
    unfold Out at htx
    simp only [if_neg he] at htx
    go_enter Tryd.func121, Tryd.ntmps121
    go_wp2_with fail
    refine hk1.mono ?_
    rintro en w1 ⟨rfl, h1, g1⟩
    have T1 := HT.out.grow g1
    go_wp2_with fail
    refine (htx _ (Lib.hid T1) h1).mono ?_
    rintro en w2 ⟨rfl, h2, g2⟩
    refine ⟨rfl, ?_⟩
    rw [HE.out]
    exact out_died he ⟨rfl, h2, grow_trans g1 g2⟩
end Go.Proofs.YtkehpmbafjelpaaDoor
