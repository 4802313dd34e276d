/- The document's own reader of JSON: an object. Conditions: a string of at most 2^18 bytes; a value that is read as it should be. -/
import Derived.Test.YtbdpghmpdghnbaaDoorMJ40
namespace Go.Proofs.YtbdpghmpdghnbaaDoor
open Go Go.RowKit Go.Lib
theorem fo_bl {s : ByteArray} {m q : Nat} (hq : q ≤ s.size) (t : V.T) : fo s (vl s m) (J.bl s q 0) t = fo s (vl s m) q t := by unfold fo nmc; rw [bl_again s q 0 hq]
/-- where the loop over fields stands -/
def FsAt (s : ByteArray) (B m n0 : Nat) (w : World) (fin : V.T × Nat × Nat) (q e : Nat) (Rw : Value) (t : V.T) (W : World) : Prop :=
  LB s B n0 q e (.int .u8 6) (.slice none 0 0) Rw w W ∧ FR (n0 + 2) Rw t W ∧ t.len ≤ q + 1 ∧ (e = 0 → t.len ≤ q ∧ J.bl s q 0 = q ∧ ∃ f, s.size + 1 ≤ q + f ∧ fin = ifz s 125 (fo s (vl s m)) f q t) ∧ (¬ e = 0 → fin.2 = (q, e))
set_option maxRecDepth 100000 in
set_option maxHeartbeats 4000000 in
theorem objectR_any (s : ByteArray) (B m p : Nat) (w : World) (hs : s.size ≤ 262144) (hm : m ≤ 63)
    (hv : ∀ q e W, q ≤ s.size → St s q e B W → Calls Tryd.prog 9 #[.pointer (some ⟨B, 0, none⟩), .int .i64 (((64 - m : Nat) : Int) + 1)] W (RV (vA s m q e) s B W))
    (hp : J.is s p 0 123 = true) (h : St s p 0 B w) :
    Calls Tryd.prog 17 #[.pointer (some ⟨B, 0, none⟩), .int .i64 ((64 - m : Nat) : Int)] w (RV ((6, ⟨#[]⟩, .nil, (its s 125 (fo s (vl s m)) (63 - m) p .nil).1), (its s 125 (fo s (vl s m)) (63 - m) p .nil).2) s B w) := by
  have hps := (J.of_is hp).2.1
  have hfin : its s 125 (fo s (vl s m)) (63 - m) p .nil = itB s 125 (fo s (vl s m)) (J.bl s (p + 1) 0) .nil := by unfold its; rw [if_neg (by omega)]
  obtain ⟨fin, hf0⟩ : ∃ x, its s 125 (fo s (vl s m)) (63 - m) p .nil = x := ⟨_, rfl⟩
  rw [hf0] at hfin ⊢
  have HF := Lib.hid hfin
  have hle := fun q hq => (vl_le s m q hq : Le s q (vl s m q).2.1)
  have HLE := Lib.hid hle
  have HTX := Lib.hid (fun q W (hq : q ≤ s.size) (hW : St s q 0 B W) => textR_any s q B W (by omega) hq hW)
  have HTK := Lib.hid (fun e c q W (hq : q ≤ s.size) (hW : St s q e B W) => take_any s q e c B W (by omega) hq hW)
  have HBL := Lib.hid (fun e q W (hq : q ≤ s.size) (hW : St s q e B W) => blanks_any s q e B W (by omega) hq hW)
  have HIS := Lib.hid (fun e c q W (hW : St s q e B W) => is_any s q e c B W (by omega) hW)
  have hbl1 := J.bl_le (s := s) 0 (show p + 1 ≤ s.size from hps)
  obtain ⟨i0, hi0, hz0, hz1, hz2⟩ := info_parts infoValue
  obtain ⟨dp, hdp⟩ : ∃ d : Nat, 64 - m = d := ⟨_, rfl⟩
  have HM := Lib.hid hm
  have dp1 : dp ≤ 64 := by omega
  have HV := Lib.hid hv
  rw [hdp] at HV ⊢
  have ht := HTK.out 0 123 p
  have hB := h.lt
  clear hf0 hfin hle hv hm
  go_enter Tryd.func17, Tryd.ntmps17
  go_upto_region 2 with fail
  generalize hW1 : (w.alloc _).alloc _ = W1
  have HL0 := Lib.hid (show LB s B w.heap.size p 0 (.int .u8 6) (.slice none 0 0) (.slice none 0 0) w W1 by
    rw [← hW1]
    have h2 := two_new w (.cells #[.int .u8 0, .string ⟨#[]⟩, .slice none 0 0, .slice none 0 0] 25) (.cells #[.int .u8 6, .string ⟨#[]⟩, .slice none 0 0, .slice none 0 0] 25)
    exact ⟨h2.1, h2.2, by rw [two_size]; omega, (h.alloc _).alloc _, grown_trans (grownBy_alloc _ _ _) (grownBy_alloc _ _ _)⟩)
  clear hW1
  have hBn0 := hB
  obtain ⟨n0, hnw⟩ : ∃ n, w.heap.size = n := ⟨_, rfl⟩
  rw [hnw] at HL0 hBn0 ⊢
  have hBn : B < n0 := hBn0
  rw [J.tk_yes hp] at ht
  have q0le : J.bl s (p + 1) 0 ≤ s.size := hbl1.2
  have HQ0 := Lib.hid (bl_again s (p + 1) 0 hps)
  have hb0 := HBL.out 0 (p + 1)
  have q0ge : 1 ≤ J.bl s (p + 1) 0 := by omega
  generalize J.bl s (p + 1) 0 = q0 at *
  clear hbl1
  go_wp2_with fail
  refine (ht _ (by omega) HL0.out.st).mono ?_
  rintro en w1 ⟨⟨va, rfl⟩, h1, g1⟩
  have HL1 := Lib.hid (HL0.out.step hBn h1 g1)
  clear h1 g1 HL0
  go_wp2_with fail
  refine (hb0 _ hps HL1.out.st).mono ?_
  rintro en w2 ⟨⟨vb, rfl⟩, h2, g2⟩
  have HL2 := Lib.hid (HL1.out.step hBn h2 g2)
  clear h2 g2 HL1 hb0
  have c1 := HL2.out.st.c1
  have f1 := HL2.out.st.f1
  cases his : J.is s q0 0 125
  · have hi := HIS.out 0 125 q0 w2 HL2.out.st
    rw [his] at hi
    have HF2 := Lib.hid (show fin = ifz s 125 (fo s (vl s m)) (s.size + 1) q0 .nil by rw [HF.out]; unfold itB; rw [if_neg (by rw [his]; decide)]; rfl)
    clear his HF
    go_wp2_with fail
    refine hi.mono ?_
    rintro en w3 ⟨rfl, jq, rfl⟩
    have HL3 := Lib.hid (HL2.out.step hBn (HL2.out.st.drewN jq) (grownBy_drewN _ _ _))
    clear HL2 hi c1 f1
    generalize w2.drewN jq = W2 at *
    go_wp2_with fail
    go_loopw [] (fun wr => ∃ (q e : Nat) (Rw : Value) (t : V.T), q ≤ s.size ∧ Hid (FsAt s B m n0 w fin q e Rw t wr)) (fun wr => measR s B wr)
    case atStart => exact ⟨q0, 0, .slice none 0 0, .nil, q0le, Lib.hid ⟨HL3.out, ⟨[], World.ownsRow_nil _ _ _ _, RP.nil _ _ _ _⟩, Nat.zero_le _, fun _ => ⟨Nat.zero_le _, HQ0.out, s.size + 1, by omega, HF2.out⟩, fun h => absurd rfl h⟩⟩
    case round =>
      obtain ⟨q, e, Rw, t, hq, HW⟩ := hrel
      have c2 := HW.out.1.st.c2
      have f2 := HW.out.1.st.f2
      have HME := Lib.hid (measR_eq HW.out.1.st)
      by_cases he : e = 0
      · subst he
        have HM0 := Lib.hid (show measR s B wr = s.size + 1 - q by rw [HME.out]; exact if_pos (by first | rfl | trivial))
        clear HME
        obtain ⟨hL, hFR, -, hz, -⟩ := HW.out
        obtain ⟨htl, hbq, f, hf, hfx⟩ := hz rfl
        obtain ⟨xs0, ho0, -⟩ := id hFR
        obtain ⟨pV, cV, rfl, hc1, hc2⟩ := own_slice ho0
        clear ho0
        have hc3 : cV ≤ 9223372036854775807 := by unfold maxLen at hc2; omega
        have HL := Lib.hid hL
        have HFR := Lib.hid hFR
        clear hFR hz hL HW
        cases hi4 : J.is s q 0 34
        · have hi := HIS.out 0 34 q wr HL.out.st
          rw [hi4] at hi
          have HE := Lib.hid (show fin.2 = (q, 30) by
            have hp0 : ptw s q = ([], q, 30) := by unfold ptw; rw [if_neg (by rw [hi4]; decide)]
            have hn0 : nmc s q = (⟨#[]⟩, q, 30) := by unfold nmc; rw [hbq, hp0]; exact if_neg (show ¬ (30 : Nat) = 0 by decide)
            have hf0 : fo s (vl s m) q t = (t, q, 30) := by unfold fo; rw [hn0]; exact if_neg (show ¬ (30 : Nat) = 0 by decide)
            rw [hfx]; unfold ifz; rw [hf0]; exact congrArg Prod.snd (if_neg (show ¬ (30 : Nat) = 0 by decide)))
          clear hi4 hfx hbq
          go_wp2_with fail
          refine hi.mono ?_
          rintro en w3 ⟨rfl, jq, rfl⟩
          go_upto_region 10 with fail
          generalize hW5 : World.setCell _ ⟨B, 2, none⟩ _ = W5
          have gW5 : wr.grownBy W5 (some B) := by rw [← hW5]; exact grown_trans (grownBy_drewN _ _ _) (grownBy_set _ _ _ _)
          have HL5 := Lib.hid (HL.out.step hBn (q' := q) (e' := 30) (by rw [← hW5]; exact (HL.out.st.drewN jq).set2 30) gW5)
          have HV5 := Lib.hid (HFR.out.keep (B := B) (by omega) gW5)
          clear hW5 gW5 HL HFR c2 f2 hi
          obtain ⟨xs7, ho7, hr7⟩ := HV5.out
          have HS7 := Lib.hid (RP.slice hr7 ho7 (Nat.le_refl _) (by omega))
          clear ho7 hr7
          obtain ⟨o0, o1, o2, o3⟩ := HL5.out.out.box
          obtain ⟨z0, z1, z2, z3⟩ := HL5.out.res.box
          have r0 := HL5.out.res.free 0
          have r1 := HL5.out.res.free 1
          have r2 := HL5.out.res.free 2
          have r3 := HL5.out.res.free 3
          obtain ⟨b1, b2, b3⟩ := HL5.out.res.all (.int .u8 6) (.string ⟨#[]⟩) (.slice none 0 0) (.slice pV t.len cV)
          obtain ⟨x0, x1, x2, x3⟩ := b1.box
          have HFN := Lib.hid (HL5.out.fin (l := .nil) (f := t) (r := ((6, ⟨#[]⟩, .nil, fin.1), fin.2)) hBn hnw (by decide) (HS.nil _ _ _) (HS7.out.mono (fun j hj _ => by omega)) HE.out (fun h => by have h' : fin.2.2 = 0 := h; rw [HE.out] at h'; cases h'))
          go_wp2_with fail
          refine bodyPost_ret (v := .agg #[.int .u8 6, .string ⟨#[]⟩, .slice none 0 0, .slice pV t.len cV]) (by simp [results, Tryd.results17, go_sem, x0, x1, x2, x3]) rfl HFN.out
        · have hi := HIS.out 0 34 q wr HL.out.st
          rw [hi4] at hi
          have hfo := fo_is (s := s) (m := m) (q := q) (by have := HM.out; omega) hq hbq t
          have htx : ∀ W, St s q 0 B W → Calls Tryd.prog 15 #[.pointer (some ⟨B, 0, none⟩)] W (fun en w' => en = .returned (.string (J.tw s q).1) ∧ St s (J.tw s q).2.1 (J.tw s q).2.2 B w' ∧ W.grownBy w' (some B)) := fun W hW => HTX.out q W hq hW
          have hts := tw_size s q
          have hte := tw_le hq
          have hb1 := HBL.out (J.tw s q).2.2 (J.tw s q).2.1
          have hk1 := HTK.out (J.tw s q).2.2 58 (J.bl s (J.tw s q).2.1 (J.tw s q).2.2)
          have hle1 := J.bl_le (s := s) (J.tw s q).2.2 hte.2
          have hle2 := J.tk_le (s := s) (J.tw s q).2.2 58 hle1.2
          have hle2' : J.bl s (J.tw s q).2.1 (J.tw s q).2.2 ≤ (fq s q).1 ∧ (fq s q).1 ≤ s.size := hle2
          have hk1 : ∀ W, J.bl s (J.tw s q).2.1 (J.tw s q).2.2 ≤ s.size → St s (J.bl s (J.tw s q).2.1 (J.tw s q).2.2) (J.tw s q).2.2 B W → Calls Tryd.prog 21 #[.pointer (some ⟨B, 0, none⟩), .int .u8 (58 : Nat)] W (Moved s (fq s q).1 (fq s q).2 B W) := hk1
          have hb2 := HBL.out (fq s q).2 (fq s q).1
          have hle3 := J.bl_le (s := s) (fq s q).2 hle2'.2
          have hv3 := HV.out (J.bl s (fq s q).1 (fq s q).2) (fq s q).2
          have hle4 := vA_le (s := s) (m := m) (fq s q).2 hle3.2
          have qx : q ≤ (J.tw s q).2.1 := hte.1
          have HFO := Lib.hid (And.intro hfo (And.intro hfx hf))
          clear hfo hfx hf hi4 hle2 hbq
          have q1le : (J.tw s q).2.1 ≤ s.size := hte.2
          clear hte
          generalize hnm : (J.tw s q).1 = nm at *
          generalize (J.tw s q).2.2 = e1 at *
          generalize (J.tw s q).2.1 = q1 at *
          generalize J.bl s q1 e1 = q2 at *
          generalize (fq s q).2 = e3 at *
          generalize (fq s q).1 = q3 at *
          generalize J.bl s q3 e3 = q4 at *
          generalize vA s m q4 e3 = r at *
          have hwr : IntKind.i64.wrap ((dp : Int) + 1) = (dp : Int) + 1 := by rw [IntKind.wrap_i64]; omega
          go_wp2_with fail
          refine hi.mono ?_
          rintro en w3 ⟨rfl, jq, rfl⟩
          have HLa := Lib.hid (HL.out.step hBn (HL.out.st.drewN jq) (grownBy_drewN _ _ _))
          have HFa := Lib.hid (HFR.out.keep (B := B) (by omega) (grownBy_drewN _ jq _))
          clear HL HFR c2 f2 hi
          generalize wr.drewN jq = Wa at *
          go_wp2_with fail
          refine (htx _ HLa.out.st).mono ?_
          rintro en w4 ⟨rfl, h4, g4⟩
          go_wp2_with fail
          refine (hb1 _ q1le h4).mono ?_
          rintro en w5 ⟨⟨vc, rfl⟩, h5, g5⟩
          go_wp2_with fail
          refine (hk1 _ hle1.2 h5).mono ?_
          rintro en w6 ⟨⟨vd, rfl⟩, h6, g6⟩
          go_wp2_with fail
          refine (hb2 _ hle2'.2 h6).mono ?_
          rintro en w7 ⟨⟨ve, rfl⟩, h7, g7⟩
          have ga7 := grown_trans g4 (grown_trans g5 (grown_trans g6 g7))
          have HL7 := Lib.hid (HLa.out.step hBn h7 ga7)
          have HF7 := Lib.hid (HFa.out.keep (B := B) (by omega) ga7)
          clear h4 g4 h5 g5 h6 g6 h7 g7 ga7 HLa HFa htx hb1 hk1 hb2
          go_wp2_with fail
          refine (hv3 _ hle3.2 HL7.out.st).mono ?_
          rintro en w8 ⟨k1, x1, l1, f1, v2, u2, rfl, hl1, hf1, hfit1, h8, g8, hok⟩
          obtain ⟨p3, c3, rfl, -⟩ := hl1.len
          obtain ⟨p4, c4, rfl, -⟩ := hf1.len
          have HOK := Lib.hid hok
          clear hok hv3
          go_upto_region 16 with fail
          generalize hW9 : w8.alloc _ = W9
          have g9 : w8.grownBy W9 (some B) := by rw [← hW9]; exact World.grownBy_alloc _ _ _
          have hb9 : Below w8.heap.size w8 W9 := by rw [← hW9]; exact (Below.refl _ _).alloc (Nat.le_refl _) _
          have B9 : Blk4 W9 w8.heap.size 25 (.int .u8 k1) (.string x1) (.slice p3 l1.len c3) (.slice p4 f1.len c4) := by rw [← hW9]; exact heap_alloc_new w8 _
          have HL9 := Lib.hid (HL7.out.step hBn (h8.same (hb9.block B h8.lt)) (grown_trans g8 g9))
          have HF9 := Lib.hid (HF7.out.keep (B := B) (by omega) (grown_trans g8 g9))
          obtain ⟨xs7, ho7, hr7⟩ := HF7.out
          have hsl := (hl1.aside ho7 HL7.out.size).below hb9
          have hsf := (hf1.aside ho7 HL7.out.size).below hb9
          have hput := put_any nm x1 k1 (n0 + 2) (.slice pV t.len cV) (.slice p3 l1.len c3) (.slice p4 f1.len c4) t l1 f1 W9 (by omega) HF9.out HL9.out.size hsl hsf ⟨hfit1.1, hfit1.2.1, by omega⟩
          obtain ⟨b0, b1, b2, b3⟩ := B9.box
          obtain ⟨d0, d1, d2, d3⟩ := HL9.out.out.box
          clear hW9 ho7 hr7 hsl hsf hl1 hf1 g8 g9 hb9 h8 HL7 HF7 B9 d0 d1 d2
          generalize w8.heap.size = nb at *
          go_wp2_with fail
          refine hput.mono ?_
          rintro en w10 ⟨Rw2, rfl, hF10, g10⟩
          have HF10 := Lib.hid hF10
          have HG10 := Lib.hid g10
          obtain ⟨xs9, ho9, -⟩ := HF9.out
          have k10 : w10.heap[n0 + 1]? = W9.heap[n0 + 1]? := g10.block (n0 + 1) HL9.out.out.lt (fun e => by have := (ho9.lt _ e.symm).1; omega)
          have HB10 := Lib.hid (HL9.out.out.same k10)
          obtain ⟨xs1, ho1, -⟩ := hF10
          obtain ⟨pW, cW, rfl, -, -⟩ := own_slice ho1
          obtain ⟨e0', e1', e2', d10⟩ := HB10.out.box
          have f10 := HB10.out.free 3
          clear hput g10 ho9 k10 ho1 e0' e1' e2' b0 b1 b2 b3 d3
          go_upto_region 17 with fail
          generalize hW11 : World.setCell w10 ⟨n0 + 1, 3, none⟩ _ = W11
          have HA := Lib.hid (by have := FR.stored hBn (Nat.le_of_eq hnw) HL9.out HF9.out HG10.out HF10.out; rw [hW11] at this; exact this)
          clear hW11 d10 f10 HL9 HF9 HG10 HF10 HB10
          have hlen := V.T.put_len t nm k1 x1 l1 f1
          have hF := HFO.out.1
          have hfx := HFO.out.2.1
          have hf := HFO.out.2.2
          have q5le : r.2.1 ≤ s.size := hle4.2
          have q5ge : q ≤ r.2.1 := by have := hle4.1; have := hle3.1; have := hle2'.1; have := hle1.1; omega
          by_cases he1 : r.2.2 = 0
          · have hL3 := HA.out.1
            rw [he1] at hL3
            have htr := HOK.out he1
            have hlo : fo s (vl s m) q t = (t.put nm k1 x1 l1 f1, J.bl s r.2.1 0, 0) := by rw [hF.1 he1, ← htr]
            obtain ⟨f', rfl⟩ : ∃ f', f = f' + 1 := ⟨f - 1, by omega⟩
            have hfi : fin = itG s 125 (fo s (vl s m)) (f' + 1) (J.bl s r.2.1 0) (t.put nm k1 x1 l1 f1) := by
              rw [hfx]; unfold ifz; rw [hlo]; exact if_pos rfl
            have hb3 := HBL.out 0 r.2.1
            have hb4 := J.bl_le (s := s) 0 q5le
            have HL3 := Lib.hid hL3
            have HV3 := Lib.hid HA.out.2
            have HFI := Lib.hid (And.intro hfi hf)
            have q6le : J.bl s r.2.1 0 ≤ s.size := hb4.2
            have q6ge : q ≤ J.bl s r.2.1 0 := by omega
            generalize t.put nm k1 x1 l1 f1 = t2 at *
            clear hF hfx hf hL3 htr hlo hfi hb4 he1 HFO HOK HA hle4 hle3 hle2' hle1
            generalize J.bl s r.2.1 0 = q6 at *
            generalize r.2.1 = q5 at *
            go_wp2_with fail
            refine (hb3 _ q5le HL3.out.st).mono ?_
            rintro en w5 ⟨⟨vc, rfl⟩, h5, g5⟩
            have HL5 := Lib.hid (HL3.out.step hBn h5 g5)
            have HV5 := Lib.hid (HV3.out.keep (B := B) (by omega) g5)
            clear h5 g5 HL3 HV3 hb3
            have c1 := HL5.out.st.c1
            have f1 := HL5.out.st.f1
            cases his : J.is s q6 0 125
            · have hi := HIS.out 0 125 q6 w5 HL5.out.st
              rw [his] at hi
              go_wp2_with fail
              refine hi.mono ?_
              rintro en w6 ⟨rfl, jq, rfl⟩
              have HL6 := Lib.hid (HL5.out.step hBn (HL5.out.st.drewN jq) (grownBy_drewN _ _ _))
              have HV6 := Lib.hid (HV5.out.keep (B := B) (by omega) (grownBy_drewN _ jq _))
              clear HL5 HV5 hi c1 f1
              generalize w5.drewN jq = W6 at *
              have ht4 := HTK.out 0 44 q6 W6 q6le HL6.out.st
              cases h44 : J.is s q6 0 44
              · have HE := Lib.hid (show fin.2 = (q6, 30) by rw [HFI.out.1]; unfold itG; rw [if_neg (by rw [h44]; decide), if_neg (by rw [his]; decide)])
                rw [J.tk_no h44] at ht4
                clear h44 his
                have hb7 := HBL.out 30 q6
                rw [J.bl_wrong s q6 (by decide)] at hb7
                go_wp2_with fail
                refine ht4.mono ?_
                rintro en w7 ⟨⟨vd, rfl⟩, h7, g7⟩
                go_wp2_with fail
                refine (hb7 _ q6le h7).mono ?_
                rintro en w8 ⟨⟨ve, rfl⟩, h8, g8⟩
                have HL8 := Lib.hid (HL6.out.step hBn h8 (grown_trans g7 g8))
                have HV8 := Lib.hid (HV6.out.keep (B := B) (by omega) (grown_trans g7 g8))
                clear h7 g7 h8 g8 HL6 HV6 ht4 hb7
                go_wp2_with fail
                go_roundw
                case rel => exact ⟨q6, 30, _, t2, q6le, Lib.hid ⟨HL8.out, HV8.out, by omega, fun h => absurd h (by decide), fun _ => HE.out⟩⟩
                case measure => rw [measR_eq HL8.out.st, HM0.out, if_neg (by decide)]; omega
              · have q3 := (J.of_is h44).2.1
                have HE := Lib.hid (show fin = ifz s 125 (fo s (vl s m)) f' (q6 + 1) t2 by rw [HFI.out.1, itG_comma h44]; rfl)
                rw [J.tk_yes h44] at ht4
                clear h44 his
                have hb7 := HBL.out 0 (q6 + 1)
                have hb8 := J.bl_le (s := s) (p := q6 + 1) 0 q3
                have HE2 := Lib.hid (show fin = ifz s 125 (fo s (vl s m)) f' (J.bl s (q6 + 1) 0) t2 by rw [HE.out]; unfold ifz; rw [fo_bl q3])
                have HB9 := Lib.hid (bl_again s (q6 + 1) 0 q3)
                generalize J.bl s (q6 + 1) 0 = q4 at *
                go_wp2_with fail
                refine ht4.mono ?_
                rintro en w7 ⟨⟨vd, rfl⟩, h7, g7⟩
                go_wp2_with fail
                refine (hb7 _ q3 h7).mono ?_
                rintro en w8 ⟨⟨ve, rfl⟩, h8, g8⟩
                have HL8 := Lib.hid (HL6.out.step hBn h8 (grown_trans g7 g8))
                have HV8 := Lib.hid (HV6.out.keep (B := B) (by omega) (grown_trans g7 g8))
                clear h7 g7 h8 g8 HL6 HV6 ht4 hb7
                go_wp2_with fail
                go_roundw
                case rel => exact ⟨q4, 0, _, t2, hb8.2, Lib.hid ⟨HL8.out, HV8.out, by omega, fun _ => ⟨by omega, HB9.out, f', by have := HFI.out.2; omega, HE2.out⟩, fun h => absurd rfl h⟩⟩
                case measure => rw [measR_eq HL8.out.st, HM0.out, if_pos rfl]; omega
            · have hi := HIS.out 0 125 q6 w5 HL5.out.st
              rw [his] at hi
              have n44 : J.is s q6 0 44 = false := J.is_other 0 (by have := (J.of_is his).2.2; omega)
              have HF9 := Lib.hid (show fin = (t2, q6 + 1, 0) by rw [HFI.out.1]; unfold itG; rw [if_neg (by rw [n44]; decide), if_pos his])
              clear his n44
              go_wp2_with fail
              refine hi.mono ?_
              rintro en w6 ⟨rfl, jq, rfl⟩
              go_upto_region 20 with fail
              generalize hW7 : World.setCell _ ⟨B, 1, none⟩ _ = W7
              have gW7 : w5.grownBy W7 (some B) := by rw [← hW7]; exact grown_trans (grownBy_drewN _ _ _) (grownBy_set _ _ _ _)
              have HL7 := Lib.hid (HL5.out.step hBn (q' := q6 + 1) (e' := 0) (by rw [← hW7]; exact (HL5.out.st.drewN jq).set1 (q6 + 1)) gW7)
              have HV7 := Lib.hid (HV5.out.keep (B := B) (by omega) gW7)
              clear hW7 gW7 HL5 HV5 c1 f1 hi
              obtain ⟨xs7, ho7, hr7⟩ := HV7.out
              have HS7 := Lib.hid (RP.slice hr7 ho7 (Nat.le_refl _) (by omega))
              clear ho7 hr7
              obtain ⟨o0, o1, o2, o3⟩ := HL7.out.out.box
              obtain ⟨z0, z1, z2, z3⟩ := HL7.out.res.box
              have r0 := HL7.out.res.free 0
              have r1 := HL7.out.res.free 1
              have r2 := HL7.out.res.free 2
              have r3 := HL7.out.res.free 3
              obtain ⟨b1, b2, b3⟩ := HL7.out.res.all (.int .u8 6) (.string ⟨#[]⟩) (.slice none 0 0) (.slice pW t2.len cW)
              obtain ⟨x0, x1, x2, x3⟩ := b1.box
              have HFN := Lib.hid (HL7.out.fin (l := .nil) (f := t2) (r := ((6, ⟨#[]⟩, .nil, fin.1), fin.2)) hBn hnw (by decide) (HS.nil _ _ _) (HS7.out.mono (fun j hj _ => by omega)) (by rw [HF9.out]) (fun _ => by rw [HF9.out]))
              go_wp2_with fail
              refine bodyPost_ret (v := .agg #[.int .u8 6, .string ⟨#[]⟩, .slice none 0 0, .slice pW t2.len cW]) (by simp [results, Tryd.results17, go_sem, x0, x1, x2, x3]) rfl HFN.out
          · have hL3 := HA.out.1
            have HE := Lib.hid (show fin.2 = (r.2.1, r.2.2) by
              have h2 := hF.2 he1
              rw [hfx]; unfold ifz
              rw [if_neg (by rw [h2]; exact he1), h2])
            have HV3 := Lib.hid HA.out.2
            have HL3 := Lib.hid hL3
            generalize t.put nm k1 x1 l1 f1 = t2 at *
            clear hF hfx hf hL3 HFO HOK HA hle4 hle3 hle2' hle1
            generalize r.2.1 = q1' at *
            generalize r.2.2 = e1 at *
            have hb3 := HBL.out e1 q1'
            rw [J.bl_wrong s q1' he1] at hb3
            have hi3 := HIS.out e1 125 q1'
            rw [J.is_wrong q1' 125 he1] at hi3
            have ht3 := HTK.out e1 44 q1'
            rw [J.tk_wrong 44 he1] at ht3
            have HE1 := Lib.hid he1
            clear he1
            go_wp2_with fail
            refine (hb3 _ q5le HL3.out.st).mono ?_
            rintro en w5 ⟨⟨vc, rfl⟩, h5, g5⟩
            go_wp2_with fail
            refine (hi3 _ h5).mono ?_
            rintro en w6 ⟨rfl, jq, rfl⟩
            go_wp2_with fail
            refine (ht3 _ q5le (h5.drewN jq)).mono ?_
            rintro en w7 ⟨⟨vd, rfl⟩, h7, g7⟩
            go_wp2_with fail
            refine (hb3 _ q5le h7).mono ?_
            rintro en w8 ⟨⟨ve, rfl⟩, h8, g8⟩
            have g58 := grown_trans g5 (grown_trans (grownBy_drewN w5 jq _) (grown_trans g7 g8))
            have HL8 := Lib.hid (HL3.out.step hBn h8 g58)
            have HV8 := Lib.hid (HV3.out.keep (B := B) (by omega) g58)
            clear h5 g5 h7 g7 h8 g8 g58 HL3 HV3 hb3 hi3 ht3
            go_wp2_with fail
            go_roundw
            case rel => exact ⟨q1', e1, _, t2, q5le, Lib.hid ⟨HL8.out, HV8.out, by omega, fun h => absurd h HE1.out, fun _ => HE.out⟩⟩
            case measure => rw [measR_eq HL8.out.st, HM0.out, if_neg HE1.out]; omega
      · have e0 : ((e : Int) == 0) = false := by simp; omega
        obtain ⟨hL, ⟨xs, ho, hr⟩, htl, -, hz⟩ := HW.out
        have HE := Lib.hid (And.intro he (hz he))
        obtain ⟨pV, cV, rfl, hc1, hc2⟩ := own_slice ho
        have HS7 := Lib.hid (RP.slice hr ho (Nat.le_refl _) (by omega))
        have HL7 := Lib.hid hL
        clear hL ho hr htl hz he HW hc1 hc2
        obtain ⟨o0, o1, o2, o3⟩ := HL7.out.out.box
        obtain ⟨z0, z1, z2, z3⟩ := HL7.out.res.box
        have r0 := HL7.out.res.free 0
        have r1 := HL7.out.res.free 1
        have r2 := HL7.out.res.free 2
        have r3 := HL7.out.res.free 3
        obtain ⟨b1, b2, b3⟩ := HL7.out.res.all (.int .u8 6) (.string ⟨#[]⟩) (.slice none 0 0) (.slice pV t.len cV)
        obtain ⟨x0, x1, x2, x3⟩ := b1.box
        have HFN := Lib.hid (HL7.out.fin (l := .nil) (f := t) (r := ((6, ⟨#[]⟩, .nil, fin.1), fin.2)) hBn hnw (by decide) (HS.nil _ _ _) (HS7.out.mono (fun j hj _ => by omega)) HE.out.2 (fun h => by have h' : fin.2.2 = 0 := h; rw [HE.out.2] at h'; exact absurd h' HE.out.1))
        go_wp2_with fail
        refine bodyPost_ret (v := .agg #[.int .u8 6, .string ⟨#[]⟩, .slice none 0 0, .slice pV t.len cV]) (by simp [results, Tryd.results17, go_sem, x0, x1, x2, x3]) rfl HFN.out
  · have hi := HIS.out 0 125 q0 w2 HL2.out.st
    rw [his] at hi
    have HF2 := Lib.hid (show fin = (.nil, q0 + 1, 0) by rw [HF.out]; unfold itB; rw [if_pos his])
    clear his HF
    go_wp2_with fail
    refine hi.mono ?_
    rintro en w3 ⟨rfl, jq, rfl⟩
    go_upto_region 6 with fail
    generalize hW5 : World.setCell _ ⟨B, 1, none⟩ _ = W5
    have HL5 := Lib.hid (show LB s B n0 (q0 + 1) 0 (.int .u8 6) (.slice none 0 0) (.slice none 0 0) w W5 from HL2.out.step hBn (by rw [← hW5]; exact (HL2.out.st.drewN jq).set1 (q0 + 1)) (by rw [← hW5]; exact grown_trans (grownBy_drewN _ _ _) (grownBy_set _ _ _ _)))
    clear hW5 HL2 c1 f1 hi
    obtain ⟨o0, o1, o2, o3⟩ := HL5.out.out.box
    obtain ⟨z0, z1, z2, z3⟩ := HL5.out.res.box
    have r0 := HL5.out.res.free 0
    have r1 := HL5.out.res.free 1
    have r2 := HL5.out.res.free 2
    have r3 := HL5.out.res.free 3
    obtain ⟨b1, b2, b3⟩ := HL5.out.res.all (.int .u8 6) (.string ⟨#[]⟩) (.slice none 0 0) (.slice none 0 0)
    obtain ⟨x0, x1, x2, x3⟩ := b1.box
    have HFN := Lib.hid (HL5.out.fin (l := .nil) (f := .nil) (r := ((6, ⟨#[]⟩, .nil, fin.1), fin.2)) hBn hnw (by decide) (HS.nil _ _ _) (HS.nil _ _ _) (by rw [HF2.out]) (fun _ => by rw [HF2.out]))
    go_wp2_with fail
    refine bodyPost_ret (v := .agg #[.int .u8 6, .string ⟨#[]⟩, .slice none 0 0, .slice none 0 0]) (by simp [results, Tryd.results17, go_sem, x0, x1, x2, x3]) rfl HFN.out
end Go.Proofs.YtbdpghmpdghnbaaDoor
