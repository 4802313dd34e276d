/- The document's own reader of JSON: a string. Conditions: a string of at most 10^12 bytes. -/
import Derived.Test.YtbdpghmpdghnbaaDoorMJ38
import Derived.Test.YtbdpghmpdghnbaaDoorMJ29
import Derived.Test.YtbdpghmpdghnbaaDoorMJ37
import Derived.Deep.CutBlock
import Derived.Deep.RegionWith
import Derived.Deep.RegionHeld3
namespace Go.Proofs.YtbdpghmpdghnbaaDoor
open Go Go.RowKit Go.Lib

set_option maxRecDepth 100000 in
set_option maxHeartbeats 2000000 in
theorem textR_any (s : ByteArray) (p B : Nat) (w : World) (hs : s.size ≤ 1000000000000) (hp : p ≤ s.size) (h : St s p 0 B w) :
    Calls Tryd.prog 15 #[.pointer (some ⟨B, 0, none⟩)] w (Told s (J.tw s p) B w) := by
  have ht := take_any s p 0 34 B w hs hp h
  obtain ⟨X, hX⟩ : ∃ X, J.tw s p = X := ⟨_, rfl⟩
  rw [hX]
  have HX := Lib.hid hX
  clear hX
  go_enter Tryd.func15, Tryd.ntmps15
  go_wp2_with fail
  refine ht.mono ?_
  rintro en w1 ⟨⟨v, rfl⟩, h2, G2⟩
  go_wp2_with fail
  go_loopw [2, 3, 4] (fun r o hi wr => ∃ (q e : Nat) (out : ByteArray) (high : Nat), r = .string ⟨#[]⟩ ∧ o = .string out ∧ hi = .int .i64 high ∧ q ≤ s.size ∧ (e = 0 → out.size + J.pd high ≤ 3 * q) ∧ high < 65536 ∧ Hid (TxAtR s B w X q e out high wr)) (fun _ _ _ wr => s.size - place B wr)
  case atStart =>
    refine ⟨(J.tk s p 0 34).1, (J.tk s p 0 34).2, ⟨#[]⟩, 0, rfl, rfl, rfl, (J.tk_le 0 34 hp).2, fun _ => Nat.zero_le _, by decide, Lib.hid ⟨h2, G2, ?_, ?_⟩⟩
    · intro he
      cases hb : J.is s p 0 34
      · rw [J.tk_no hb] at he; cases he
      · rw [J.tk_yes hb]
        have hlt := (J.of_is hb).2.1
        exact ⟨s.size - p, by show s.size - (p + 1) + 1 ≤ _; omega, by rw [← HX.out]; unfold J.tw; rw [if_pos hb]⟩
    · intro he
      cases hb : J.is s p 0 34
      · rw [J.tk_no hb, ← HX.out]; unfold J.tw; rw [if_neg (by rw [hb]; decide)]
      · rw [J.tk_yes hb] at he; exact absurd rfl he
  case round =>
    obtain ⟨q, e, out, high, rfl, rfl, rfl, hq, ho, hh, HW⟩ := hrel
    clear HX ht h2
    have h3 := HW.out.1
    have G3 := Lib.hid HW.out.2.1
    have c0 := h3.c0
    have c1 := h3.c1
    have c2 := h3.c2
    have f1 := h3.f1
    have f2 := h3.f2
    by_cases he : e = 0
    · subst he
      have ho := ho rfl
      obtain ⟨f, hf, hfx⟩ := HW.out.2.2.1 rfl
      obtain ⟨f, rfl⟩ : ∃ g, f = g + 1 := ⟨f - 1, by omega⟩
      have HX := Lib.hid hfx
      have HF := Lib.hid hf
      clear hf hfx HW
      by_cases hqs : q < s.size
      · by_cases h32 : s[q].toNat < 32
        · have e1 : decide ((s[q].toNat : Int) < 32) = true := by simp; omega
          have HX2 := Lib.hid ((J.tx_low (fun x => by rw [← J.at_byte hqs] at x; omega)).symm.trans HX.out)
          clear HX
          go_wp2_with fail
          go_quiet (fail)
          go_wp2_with fail
          go_ret
          rw [← HX2.out]
          exact ⟨rfl, (h3.drewN nq).set2 30, grown_trans G3.out (grown_trans (grownBy_drewN _ _ _) (grownBy_set _ _ _ _))⟩
        · have e1 : decide ((s[q].toNat : Int) < 32) = false := by simp; omega
          have hg := J.at_byte hqs
          have H32 := Lib.hid (show 32 ≤ (s.get! q).toNat by rw [← hg]; omega)
          have HG := Lib.hid hg
          clear h32 hg
          go_wp2_with fail
          go_quiet (fail)
          go_upto_region 9 with fail
          go_quiet (fail)
          go_upto_block 2 with fail
          go_cut [2, 3, 4, 5, 6] (fun r o hi u m wx => r = .string ⟨#[]⟩ ∧ o = .string out ∧ hi = .int .i64 high ∧ ∃ (q1 e1 : Nat) (z : Int) (more : ByteArray), u = .int .i64 z ∧ m = .string more ∧ Hid (J.ck s q = (z, more, q1, e1)) ∧ Hid (¬ (s.get! q).toNat = 34 ∧ (¬ (s.get! q).toNat = 92 → U.bad s q = false)) ∧ Hid (St s q1 e1 B wx ∧ w.grownBy wx (some B)))
          case first =>
            by_cases h34 : s[q].toNat = 34
            · have e2 : ((s[q].toNat : Int) == 34) = true := by simp; omega
              have HX2 := Lib.hid ((J.tx_end hqs (by rw [← HG.out]; exact h34)).symm.trans HX.out)
              clear HX h34
              by_cases hz : 0 < high
              · have HL := Lib.hid (show J.fl out high = out ++ J.fffd by unfold J.fl; rw [if_pos hz])
                go_wp2_with fail
                go_ret
                rw [← HX2.out]
                exact ⟨congrArg (fun x => Ending.returned (.string x)) HL.out.symm, (h3.drewN _).set1 (q + 1), grown_trans G3.out (grown_trans (grownBy_drewN _ _ _) (grownBy_set _ _ _ _))⟩
              · have HL := Lib.hid (show J.fl out high = out by unfold J.fl; rw [if_neg hz])
                go_wp2_with fail
                go_ret
                rw [← HX2.out]
                exact ⟨congrArg (fun x => Ending.returned (.string x)) HL.out.symm, (h3.drewN _).set1 (q + 1), grown_trans G3.out (grown_trans (grownBy_drewN _ _ _) (grownBy_set _ _ _ _))⟩
            · have e2 : ((s[q].toNat : Int) == 34) = false := by simp; omega
              by_cases h92 : s[q].toNat = 92
              · have e3 : ((s[q].toNat : Int) == 92) = true := by simp; omega
                have hes := fun W hW => escapeR_any s (q + 1) B W hs hqs hW
                have HK := Lib.hid (show J.ck s q = (((J.es s (q + 1)).1 : Int), (⟨#[]⟩ : ByteArray), (J.es s (q + 1)).2.1, (J.es s (q + 1)).2.2) by unfold J.ck; rw [if_pos (by rw [← HG.out]; exact h92)])
                have HN := Lib.hid (show ¬ (s.get! q).toNat = 34 ∧ (¬ (s.get! q).toNat = 92 → U.bad s q = false) from ⟨by rw [← HG.out]; exact h34, fun x => absurd (by rw [← HG.out]; exact h92) x⟩)
                clear h34 h92 HX
                generalize J.es s (q + 1) = y at *
                go_wp2_with fail
                refine (hes _ ((h3.drewN _).set1 (q + 1))).mono ?_
                rintro en w2 ⟨rfl, h4, G4⟩
                go_wp2_with fail
                go_meet
                case rel => exact ⟨rfl, rfl, rfl, _, _, _, _, rfl, rfl, HK, HN, Lib.hid ⟨h4, grown_trans G3.out (grown_trans (grownBy_drewN _ _ _) (grown_trans (grownBy_set _ _ _ _) G4))⟩⟩
              · have e3 : ((s[q].toNat : Int) == 92) = false := by simp; omega
                have HE := Lib.hid (show ¬ (s.get! q).toNat = 34 ∧ ¬ (s.get! q).toNat = 92 by rw [← HG.out]; exact ⟨h34, h92⟩)
                cases hbad : U.bad s q
                · have hn := fun W => refNext_good s q W hqs hs hbad
                  have hwd := (U.facts s q hqs)
                  have hwd2 := hwd.2.2.1
                  have hwd1 := hwd.1
                  have HK := Lib.hid (show J.ck s q = (-1, s.extract q (q + U.wd s q), q + U.wd s q, 0) by unfold J.ck; rw [if_neg HE.out.2])
                  have HN := Lib.hid (show ¬ (s.get! q).toNat = 34 ∧ (¬ (s.get! q).toNat = 92 → U.bad s q = false) from ⟨HE.out.1, fun _ => hbad⟩)
                  clear hwd h34 h92 HX hbad
                  generalize U.ch s q = ch at *
                  generalize U.wd s q = wd at *
                  go_upto_region 10 with fail
                  generalize hW1 : wr.drewN _ = W1 at *
                  have H1 := Lib.hid (And.intro (show St s q 0 B W1 by rw [← hW1]; exact h3.drewN _) (show w.grownBy W1 (some B) by rw [← hW1]; exact grown_trans G3.out (grownBy_drewN _ _ _)))
                  have KEEP := Lib.hid (fun w' (hB : Below W1.heap.size W1 w') => (show w'.cell? ⟨B, 0, none⟩ = some (.string s) ∧ w'.cell? ⟨B, 1, none⟩ = some (.int .i64 q) from ⟨(H1.out.1.below hB).c0, (H1.out.1.below hB).c1⟩))
                  clear hW1 c0 c1 c2 f1 f2
                  have c0 := H1.out.1.c0
                  have c1 := H1.out.1.c1
                  go_region_held3 (fun w' => w'.cell? ⟨B, 0, none⟩ = some (.string s) ∧ w'.cell? ⟨B, 1, none⟩ = some (.int .i64 q))
                    (first | exact KEEP.out _ hBn.out | exact KEEP.out _ (Below.refl _ _).drew | exact KEEP.out _ (Below.refl _ _))
                    (first | (go_at_call 23; (with_reducible refine (hn _).mono ?_); rintro _ wn ⟨rfl, hB⟩; have hBn := Lib.hid ((Below.refl W1.heap.size W1).drew.trans hB); clear hB))
                  rename_i hHeld
                  have h5 := H1.out.1.below hBn.out
                  have G5 := Lib.hid (grown_trans H1.out.2 (grown_below hBn.out (some B)))
                  clear hHeld c0 c1
                  have c0 := h5.c0
                  have c1 := h5.c1
                  have c2 := h5.c2
                  have f1 := h5.f1
                  have f2 := h5.f2
                  go_wp2_with fail
                  go_quiet (fail)
                  go_wp2_with fail
                  go_meet
                  case rel => exact ⟨rfl, rfl, rfl, q + wd, 0, -1, _, rfl, rfl, HK, HN, Lib.hid ⟨(h5.drewN _).set1 (q + wd), grown_trans G5.out (grown_trans (grownBy_drewN _ _ _) (grownBy_set _ _ _ _))⟩⟩
                · have hn := fun W => refNext_bad s q W hqs hs hbad
                  have HX2 := Lib.hid ((J.tx_bad hqs H32.out HE.out.1 HE.out.2 hbad).symm.trans HX.out)
                  clear h34 h92 HX hbad
                  go_upto_region 10 with fail
                  generalize hW1 : wr.drewN _ = W1 at *
                  have H1 := Lib.hid (And.intro (show St s q 0 B W1 by rw [← hW1]; exact h3.drewN _) (show w.grownBy W1 (some B) by rw [← hW1]; exact grown_trans G3.out (grownBy_drewN _ _ _)))
                  have KEEP := Lib.hid (fun w' (hB : Below W1.heap.size W1 w') => (show w'.cell? ⟨B, 0, none⟩ = some (.string s) ∧ w'.cell? ⟨B, 1, none⟩ = some (.int .i64 q) from ⟨(H1.out.1.below hB).c0, (H1.out.1.below hB).c1⟩))
                  clear hW1 c0 c1 c2 f1 f2
                  have c0 := H1.out.1.c0
                  have c1 := H1.out.1.c1
                  go_region_held3 (fun w' => w'.cell? ⟨B, 0, none⟩ = some (.string s) ∧ w'.cell? ⟨B, 1, none⟩ = some (.int .i64 q))
                    (first | exact KEEP.out _ hBn.out | exact KEEP.out _ (Below.refl _ _).drew | exact KEEP.out _ (Below.refl _ _))
                    (first | (go_at_call 23; (with_reducible refine (hn _).mono ?_); rintro _ wn ⟨rfl, hB⟩; have hBn := Lib.hid ((Below.refl W1.heap.size W1).drew.trans hB); clear hB))
                  rename_i hHeld
                  have h5 := H1.out.1.below hBn.out
                  have G5 := Lib.hid (grown_trans H1.out.2 (grown_below hBn.out (some B)))
                  clear hHeld c0 c1
                  have c0 := h5.c0
                  have c1 := h5.c1
                  have c2 := h5.c2
                  have f1 := h5.f1
                  have f2 := h5.f2
                  go_wp2_with fail
                  go_ret
                  rw [← HX2.out]
                  exact ⟨rfl, h5.set2 30, grown_trans G5.out (grownBy_set _ _ _ _)⟩
          case rest =>
          obtain ⟨rfl, rfl, rfl, q1, e2, z, more, rfl, rfl, HK, HN, HC⟩ := hcut
          have hk := J.ck_facts hqs
          have hx := J.tx_go (f := f) (out := out) (high := high) hqs H32.out HN.out.1 HN.out.2
          rw [HK.out] at hk hx
          obtain ⟨k1, k2, k3, k4, k5, k6⟩ := hk
          have k1 : -1 ≤ z := k1
          have k2 : z < 65536 := k2
          have k3 : q < q1 := k3
          have k4 : q1 ≤ s.size := k4
          have k5 : z < 0 → more.size ≤ 3 * (q1 - q) := k5
          have k6 : e2 = 0 → ¬ z < 0 → 2 ≤ q1 - q := k6
          have h6 := HC.out.1
          have HX2 := Lib.hid (hx.symm.trans HX.out)
          have fin : ∀ (o' : ByteArray) (h' : Nat), J.ad out high z more = (o', h') →
              (∃ (q : Nat) (e : Nat) (out' : ByteArray) (high' : Nat), Value.string ⟨#[]⟩ = .string ⟨#[]⟩ ∧ Value.string o' = .string out' ∧ Value.int .i64 (h' : Int) = .int .i64 high' ∧ q ≤ s.size ∧ (e = 0 → out'.size + J.pd high' ≤ 3 * q) ∧ high' < 65536 ∧ Hid (TxAtR s B w X q e out' high' wc)) ∧ s.size - place B wc < s.size - place B wr := by
            intro o' h' ha
            have hh2 := J.ad_high out high z more k2
            have HX3 := HX2.out
            rw [ha] at hh2 HX3
            refine ⟨⟨q1, e2, o', h', rfl, rfl, rfl, k4, ?_, hh2, Lib.hid ⟨h6, HC.out.2, fun he => ?_, fun he => ?_⟩⟩, ?_⟩
            · intro he
              have h8 := J.ad_size out high z more (q1 - q) k5 (k6 he)
              rw [ha] at h8
              have h9 : o'.size + J.pd h' ≤ out.size + J.pd high + 3 * (q1 - q) := h8
              omega
            · exact ⟨f, by have := HF.out; omega, (if_pos he).symm.trans HX3⟩
            · exact (if_neg he).symm.trans HX3
            · rw [place_eq h6, place_eq h3]; omega
          have FIN := Lib.hid fin
          have hos : out.size ≤ 3000000000000 := by omega
          have K5 := Lib.hid (fun hz => Nat.le_trans (k5 hz) (show 3 * (q1 - q) ≤ 3000000000000 by omega))
          clear fin hx HX2 k5 k6 k3 hq ho HX HF H32 HG HK HN HC c0 c1 c2 f1 f2 e1
          have K5' := K5.out
          go_step
          refine text_rest B out more high z _ _ _ _ _ _ _ _ _ _ _ _ _ _ _ _ _ _ _ _ _ _ _ _ _ _ _ _ _ _ _ _ _ _ _ _ _ _ _ _ _ _ _ _ _ _ _ _ _ _ _ _ _ _ _ _ _ _ _ _ _ _ _ _ _ _ _ _ _ _ _ _ _ _ _ _ _ _ _ _ _ _ _ _ _ _ _ _ _ _ _ _ _ _ _ _ _ _ _ _ _ _ _ _ _ _ _ _ _ _ _ _ _ _ _ _ _ _ _ _ _ _ _ _ _ _ _ _ _ _ _ _ _ _ _ _ _ _ _ _ _ _ _ _ _ _ _ _ _ _ _ _ _ _ _ _ _ _ _ _ _ _ _ _ _ _ wc _ hh k1 k2 hos K5' (fun o' h' ha => ?_) (fun o' h' ha => ?_)
          · intros
            go_wp2_with fail
            exact FIN.out _ _ ha
          · intros
            go_wp2_with fail
            exact FIN.out _ _ ha
      · have HX2 := Lib.hid ((J.tx_low (fun x => hqs x.1)).symm.trans HX.out)
        clear HX
        go_wp2_with fail
        go_quiet (fail)
        go_wp2_with fail
        go_ret
        rw [← HX2.out]
        exact ⟨rfl, (h3.drewN nq).set2 30, grown_trans G3.out (grown_trans (grownBy_drewN _ _ _) (grownBy_set _ _ _ _))⟩
    · have e0 : ((e : Int) == 0) = false := by simp; omega
      have HX := Lib.hid (HW.out.2.2.2 he)
      clear HW he
      go_wp2_with fail
      go_ret
      rw [← HX.out]
      exact ⟨rfl, h3, G3.out⟩
end Go.Proofs.YtbdpghmpdghnbaaDoor
