/- Scan, the document's. Conditions: a string of at most 10^15 bytes. -/
import Derived.Test.YtglanajglhneeaaMX15
import Derived.Test.YtglanajglhneeaaMX20
namespace Go.Proofs
open Go Go.RowKit Go.Lib
namespace Ytglanajglhneeaa
set_option maxHeartbeats 1000000 in
set_option maxRecDepth 100000 in
theorem refScan_out (s : ByteArray) (p : Int) (h : p < 0 ∨ (s.size : Int) ≤ p) (hs : s.size ≤ 1000000000000000) (w : World) : Calls Try.prog 34 #[.string s, .int .i64 p] w (TokB false ⟨0, 0, 0⟩ w) := by
  have h0 : TokRow (w.alloc (.cells #[.int .u8 0, .int .i64 0, .int .i64 0] 24)) w.heap.size 0 0 0 := heap_alloc_new w _
  have hb := (Below.refl w.heap.size w).alloc (Nat.le_refl _) (.cells #[.int .u8 0, .int .i64 0, .int .i64 0] 24)
  have H := Lib.hid (And.intro h0 hb)
  clear h0 hb
  rcases h with h | h
  all_goals
    go_enter Try.func34, Try.ntmps34
    go_upto_region 1 with fail
    generalize w.alloc _ = W0 at *
    have r0 := H.out.1
    go_wp2_with (refine wpList_store_row rfl 24 _ _ rfl w.heap.size #[.int .u8 0, .int .i64 0, .int .i64 0] (by rfl) (by rfl) 24 _ r0 info_tok rfl (one_tok _ _ _) ?_)
    exact bodyPost_ret (results_tok Try.results34 _ _ w.heap.size _ _ (by rfl) (r0.set 0 0 0) info_tok) rfl ⟨rfl, below_setRow H.out.2 (Nat.le_refl _) _⟩
namespace D
/-- the token, told from the string: pure -/
theorem tok_from (s : ByteArray) (p : Nat) (hp : p < s.size) (f q n : Nat) (hf : s.size ≤ p + f) (hc : cr s f 0 p = (q, n)) :
    q < 35 ∧ q ≠ 0 ∧ p < n ∧ n ≤ s.size ∧ tok (s.extract p s.size) = ⟨if q = 7 then wrd (s.extract p n) else kd q, n - p, if lon q = true then 1 else if U.bad s p = true then min 3 (s.size - n + 1) else 0⟩ ∧ (q = 7 → Wd (s.extract p n) = wrd (s.extract p n)) := by
  have hz : (s.extract p s.size).size = s.size - p := by rw [ByteArray.size_extract]; omega
  have hr := run_ext s p (by omega) f hf
  have hin := run_fits (s.extract p s.size)
  rw [hc] at hr
  rw [hr] at hin
  simp only at hin
  have h3 := hin.2.2 (by omega)
  refine ⟨hin.1, h3.1, by omega, by omega, ?_, ?_⟩
  · unfold tok
    rw [hr]
    simp only
    have he : (s.extract p s.size).extract 0 (n - p) = s.extract p n := by
      rw [ByteArray.extract_extract]; congr 1; omega
    rw [he]
    congr 1
    unfold lk
    by_cases hl : lon q = true
    · rw [if_pos hl, if_pos hl]
    · rw [if_neg hl, if_neg hl]
      have hg : (s.extract p s.size).get! 0 = s.get! p := by
        rw [U.at_get (show 0 < (s.extract p s.size).size by omega), U.at_get hp]
        exact ByteArray.getElem_extract ..
      rw [hg]
      by_cases hb : (s.get! p).toNat < 128
      · rw [if_neg (fun h => by omega), if_neg (by rw [bad_lone]; simp; omega)]
      · have hw : n - p = U.wd s p := by
          have h1 := run_hi (s := s.extract p s.size) (by omega) (by rw [hg]; omega)
          rw [hr] at h1
          have h2 := congrArg Prod.snd h1
          simp only at h2
          rw [h2, (ext_char s p 0).2, Nat.add_zero]
        by_cases h1 : n - p = 1
        · rw [if_pos ⟨h1, by omega⟩, if_pos (by rw [bad_lone]; exact decide_eq_true ⟨by omega, by omega⟩), h1, hz]
          congr 1; omega
        · rw [if_neg (fun h => h1 h.1), if_neg (by rw [bad_lone]; simp; intro h; omega)]
  · intro h7
    subst h7
    unfold Wd
    refine if_pos ?_
    have hzz : (s.extract p n).size = n - p := by rw [ByteArray.size_extract]; omega
    rw [nm_iff]
    have hb : (s.get! p).toNat < 128 := by
      refine Decidable.byContradiction fun hb => ?_
      have hg : (s.extract p s.size).get! 0 = s.get! p := by
        rw [U.at_get (show 0 < (s.extract p s.size).size by omega), U.at_get hp]
        exact ByteArray.getElem_extract ..
      have h1 := run_hi (s := s.extract p s.size) (by omega) (by rw [hg]; omega)
      rw [hr] at h1
      exact absurd (congrArg Prod.fst h1) (show ¬ 7 = 34 by decide)
    have hg : (s.extract p s.size).get! 0 = s.get! p := by
      rw [U.at_get (show 0 < (s.extract p s.size).size by omega), U.at_get hp]
      exact ByteArray.getElem_extract ..
    have hlo := run_lo (s := s.extract p s.size) (by omega) (by rw [hg]; exact hb)
    have hx : (s.extract p n).data.toList = (s.extract p s.size).data.toList.take (n - p) := by
      rw [ext_list, ext_list, List.take_take]; congr 1; omega
    rw [← nm_iff, hzz]
    rw [run_lo (s := s.extract p n) (by omega) (by rw [ext_get s p n 0 (by omega) (by omega)]; exact hb), hx]
    have ht := bl_take (s.extract p s.size).data.toList 0
    rw [← hlo, hr] at ht
    simp only at ht
    rw [ht]
    exact ⟨rfl, rfl⟩
end D
theorem TokRow.fz {w : World} {g : Nat} {a b c : Int} (h : TokRow w g a b c) (i : Nat) : w.frozen? ⟨g, i, none⟩ = false := by
  unfold TokRow at h
  simp [World.frozen?, h]
theorem TokRow.c0 {w : World} {g : Nat} {a b c : Int} (h : TokRow w g a b c) : w.cell? ⟨g, 0, none⟩ = some (.int .u8 a) := by rw [Lib.cell_of_heap h]; rfl
theorem TokRow.c2 {w : World} {g : Nat} {a b c : Int} (h : TokRow w g a b c) : w.cell? ⟨g, 2, none⟩ = some (.int .i64 c) := by rw [Lib.cell_of_heap h]; rfl
theorem TokRow.s0 {w : World} {g : Nat} {a b c : Int} (h : TokRow w g a b c) (x : Int) : w.setCell ⟨g, 0, none⟩ (.int .u8 x) = w.setRow g #[.int .u8 x, .int .i64 b, .int .i64 c] := setCell_eq_setRow w g 0 _ _ _ _ h
theorem TokRow.s2 {w : World} {g : Nat} {a b c : Int} (h : TokRow w g a b c) (x : Int) : w.setCell ⟨g, 2, none⟩ (.int .i64 x) = w.setRow g #[.int .u8 a, .int .i64 b, .int .i64 x] := setCell_eq_setRow w g 2 _ _ _ _ h
/-- two tokens' boxes: the result's, the one under way -/
def Two (w : World) (R N : Nat) (a b c : Int) (W : World) : Prop := TokRow W R 0 0 0 ∧ TokRow W N a b c ∧ Below w.heap.size w W ∧ w.heap.size ≤ R ∧ R < N
theorem Two.below {w : World} {R N : Nat} {a b c : Int} {W W' : World} (h : Two w R N a b c W) (hB : Below W.heap.size W W') : Two w R N a b c W' := ⟨h.1.below hB, h.2.1.below hB, h.2.2.1.trans (hB.mono h.2.2.1.size), h.2.2.2⟩
theorem Two.set {w : World} {R N : Nat} {a b c : Int} {W : World} (h : Two w R N a b c W) (x y z : Int) : Two w R N x y z (W.setRow N #[.int .u8 x, .int .i64 y, .int .i64 z]) := ⟨h.1.other _ (by have := h.2.2.2; omega), h.2.1.set x y z, below_setRow h.2.2.1 (by have := h.2.2.2; omega) _, h.2.2.2⟩

set_option maxHeartbeats 4000000 in
set_option maxRecDepth 100000 in
theorem refScan_any (s : ByteArray) (p : Nat) (h : p < s.size) (hs : s.size ≤ 1000000000000000) (w : World) : Calls Try.prog 34 #[.string s, .int .i64 p] w (TokB true (D.tok (s.extract p s.size)) w) := by
  have h0 : TokRow (w.alloc (.cells #[.int .u8 0, .int .i64 0, .int .i64 0] 24)) w.heap.size 0 0 0 := heap_alloc_new w _
  have hb := (Below.refl w.heap.size w).alloc (Nat.le_refl _) (.cells #[.int .u8 0, .int .i64 0, .int .i64 0] 24)
  have hz : (w.alloc (.cells #[.int .u8 0, .int .i64 0, .int .i64 0] 24)).heap.size = w.heap.size + 1 := by rw [World.size_alloc]
  have H := Lib.hid (And.intro h0 (And.intro hb hz))
  obtain ⟨q0, n0, hc0⟩ : ∃ q n, D.cr s s.size 0 p = (q, n) := ⟨_, _, rfl⟩
  have hT := D.tok_from s p h s.size q0 n0 (by omega) hc0
  have HT := Lib.hid hT
  have HC0 := Lib.hid hc0
  have HC := Lib.hid refClass_any
  have HS := Lib.hid refStep_any
  have HX := Lib.hid (refNext_any s)
  have i0 : ¬ ((p : Int) < 0) := by omega
  have i1 : ¬ ((s.size : Int) ≤ (p : Int)) := by omega
  have HP := Lib.hid h
  generalize hkk : D.tok (s.extract p s.size) = tk at *
  clear h0 hb hz hT hc0 h hkk
  go_enter Try.func34, Try.ntmps34
  go_upto_region 1 with fail
  generalize w.alloc _ = W0 at *
  go_wp2_with fail
  go_loopw [6, 7, 8] (fun vq vt vl wr => ∃ (f q t : Nat) (lb : Bool), vq = .int .i64 q ∧ vt = .int .i64 t ∧ vl = .bool lb ∧ q < 35 ∧ t ≤ s.size ∧ Hid (D.cr s f q t = (q0, n0) ∧ s.size ≤ t + f ∧ (q = 0 → t = p) ∧ (q ≠ 0 → U.bad s p = true → q = 34) ∧ lb = (decide (q ≠ 0) && U.bad s p)) ∧ Below W0.heap.size W0 wr) (fun _ vt _ _ => s.size - (RowKit.intOf vt).toNat)
  case atStart => exact ⟨s.size, 0, p, false, rfl, rfl, rfl, by decide, by have := HP.out; omega, Lib.hid ⟨HC0.out, by omega, fun _ => rfl, fun h => absurd rfl h, rfl⟩, Below.refl _ _⟩
  case round =>
    obtain ⟨f, q, t, lb, rfl, rfl, rfl, hq, ht, HU, hbl⟩ := hrel
    by_cases hlt : t < s.size
    · have j1 : (t : Int) < (s.size : Int) := by omega
      obtain ⟨f', rfl⟩ : ∃ f', f = f' + 1 := ⟨f - 1, by have := HU.out.2.1; omega⟩
      have hnx := fun W => HX.out t W hlt hs
      have hw1 := U.wd_pos hlt
      have hw2 := U.wd_le hlt
      have hch := (U.facts s t hlt).2.2.2.2.2
      have hcl := fun W => HC.out (U.ch s t) hch W
      have hst := fun W => HS.out q (D.cls (U.ch s t)) hq (D.cls_lt _) W
      have hin := D.stp_in hq (D.cls_lt (U.ch s t))
      have HIN := Lib.hid (And.intro hin (fun h => D.stp_pos hq (D.cls_lt (U.ch s t)) h))
      have HStop := Lib.hid (D.cr_stop s (f' + 1) q t)
      have HStep := Lib.hid (D.cr_step s f' q t hlt)
      have HLT := Lib.hid (And.intro hlt (And.intro hw1 hw2))
      generalize hx : D.stp q (D.cls (U.ch s t)) = x at *
      have HXX := Lib.hid hx
      clear hx
      by_cases hbad : U.bad s t = true
      · have hn := fun W => refNext_bad s t W hlt hs hbad
        obtain ⟨hb1, hb2⟩ := (U.bad_iff s t).1 hbad
        rw [hb1] at hcl hst HXX
        rw [hb2] at HStep HLT
        have HBad := Lib.hid hbad
        clear hbad hb1 hb2 hnx hch hw1 hw2 hlt
        by_cases hxx : x < 0
        · obtain rfl : x = -1 := by have := HIN.out.1; omega
          have HE0 := Lib.hid ((HStop.out hxx).symm.trans HU.out.1)
          clear hxx
          go_wp2_with fail
          refine (hn _).mono ?_
          rintro e w1 ⟨rfl, hb1⟩
          go_wp2_with fail
          refine (hcl _).mono ?_
          rintro e w2 ⟨rfl, hB⟩
          obtain rfl : w2 = w1 := hB
          go_wp2_with fail
          refine (hst _).mono ?_
          rintro e w3 ⟨rfl, hb3⟩
          have e1 := HE0.out
          injection e1 with e1 e2
          subst e1 e2
          have HBW := Lib.hid (show Below W0.heap.size W0 w3 from (hbl.trans (hb1.mono hbl.size)).trans (hb3.mono (Nat.le_trans hbl.size hb1.size)))
          have hlb : lb = U.bad s p := by have := HU.out.2.2.2.2; rwa [decide_eq_true HT.out.2.1, Bool.true_and] at this
          clear hbl hb1 hb3
          obtain ⟨t1, t2, t3, t4, t5, t6⟩ := HT.out
          have HV := Lib.hid t5
          have HT6 := Lib.hid t6
          have HK := Lib.hid (fun W => refKind_any q t1 W)
          have HE := Lib.hid (fun W => ends_any q t1 W)
          have HWd := Lib.hid (fun W => refWord_any (s.extract p t) (by rw [ByteArray.size_extract]; omega) W)
          have hsub : ((t : Int) - (p : Int)) = ((t - p : Nat) : Int) := by omega
          have k1 : p ≤ t := by omega
          have k2 : t ≤ s.size := t4
          clear t1 t2 t5 t6
          go_wp2_with fail
          refine (HK.out _).mono ?_
          rintro e w1 ⟨rfl, hbk⟩
          have hb1 := HBW.out.trans (hbk.mono HBW.out.size)
          have HTwo := Lib.hid (show Two w w.heap.size w1.heap.size (D.kd q) (t - p : Nat) 0 (w1.alloc (.cells #[.int .u8 (D.kd q), .int .i64 (t - p : Nat), .int .i64 0] 24)) from ⟨(Below.heap_alloc w1 _ _ (by have := hb1.size; have := H.out.2.2; omega)).trans (H.out.1.below hb1), heap_alloc_new w1 _, (H.out.2.1.trans (hb1.mono H.out.2.1.size)).alloc (by have := hb1.size; have := H.out.2.2; omega) _, Nat.le_refl _, by have := hb1.size; have := H.out.2.2; omega⟩)
          clear hbk hb1
          generalize D.kd q = kq at *
          by_cases h7 : q = 7
          · subst h7
            rw [if_pos rfl, if_pos (by decide +kernel), ← HT6.out rfl] at HV
            go_upto_region 15 with fail
            try rw [hsub]
            generalize w1.heap.size = N at *
            generalize hW : w1.alloc _ = W2 at *
            clear hW
            generalize D.Wd (s.extract p t) = kw at *
            have he : ∀ W, Calls Try.prog 58 #[.int .i64 7] W (BoolB false W) := fun W => HE.out W
            go_wp2_with fail
            refine (HWd.out _).mono ?_
            rintro e w2 ⟨rfl, hb2⟩
            have hT2 := HTwo.out.below hb2
            have c0 := hT2.2.1.c0
            have f0 := hT2.2.1.fz 0
            have HT2 := Lib.hid hT2
            clear hb2 hT2 HTwo
            go_upto_region 17 with fail
            rw [HT2.out.2.1.s0]
            have HT3 := Lib.hid (HT2.out.set kw (t - p : Nat) 0)
            generalize hW : w2.setRow N _ = W3 at *
            clear hW HT2 c0 f0
            go_wp2_with fail
            refine (he _).mono ?_
            rintro e w4 ⟨rfl, hb4⟩
            have hT4 := HT3.out.below hb4
            have c2 := hT4.2.1.c2
            have f2 := hT4.2.1.fz 2
            have HT4 := Lib.hid hT4
            clear hb4 hT4 HT3
            go_upto_region 19 with fail
            rw [HT4.out.2.1.s2]
            have HT2 := Lib.hid (HT4.out.set kw (t - p : Nat) 1)
            generalize hW : w4.setRow N _ = W4 at *
            clear hW HT4 c2 f2
            go_wp2_with (first
              | (refine wpList_load_row rfl 24 _ rfl N (by rfl) 24 _ (0, 0) _ HT2.out.2.1 Try.underlying24 rfl info_tok ?_)
              | (refine wpList_store_row rfl 24 _ _ rfl w.heap.size #[.int .u8 kw, .int .i64 (t - p : Nat), .int .i64 1] (by rfl) (by rfl) 24 _ HT2.out.1 info_tok rfl (one_tok _ _ _) ?_))
            exact bodyPost_ret (results_tok Try.results34 _ _ w.heap.size _ _ (by rfl) (HT2.out.1.set kw (t - p : Nat) 1) info_tok) rfl ⟨by rw [HV.out]; rfl, below_setRow HT2.out.2.2.1 (Nat.le_refl _) _⟩
          have e7 : ((q : Int) == 7) = false := by simp; omega
          rw [if_neg h7] at HV
          clear h7
          go_upto_region 15 with fail
          try rw [hsub]
          generalize w1.heap.size = N at *
          generalize hW : w1.alloc _ = W2 at *
          clear hW
          rcases hl : D.lon q with _ | _
          · rw [hl] at HE HV
            rw [if_neg (by decide)] at HV
            cases hbad : U.bad s p
            · rw [hbad, if_neg (by decide)] at HV
              rw [hbad] at hlb
              obtain rfl : lb = false := hlb
              go_wp2_with fail
              refine (HE.out _).mono ?_
              rintro e w4 ⟨rfl, hb4⟩
              have HT2 := Lib.hid (HTwo.out.below hb4)
              clear hb4 HTwo
              go_upto_region 24 with fail
              go_wp2_with (first
                | (refine wpList_load_row rfl 24 _ rfl N (by rfl) 24 _ (0, 0) _ HT2.out.2.1 Try.underlying24 rfl info_tok ?_)
                | (refine wpList_store_row rfl 24 _ _ rfl w.heap.size #[.int .u8 kq, .int .i64 (t - p : Nat), .int .i64 0] (by rfl) (by rfl) 24 _ HT2.out.1 info_tok rfl (one_tok _ _ _) ?_))
              exact bodyPost_ret (results_tok Try.results34 _ _ w.heap.size _ _ (by rfl) (HT2.out.1.set kq (t - p : Nat) 0) info_tok) rfl ⟨by rw [HV.out]; rfl, below_setRow HT2.out.2.2.1 (Nat.le_refl _) _⟩
            · rw [hbad, if_pos rfl] at HV
              rw [hbad] at hlb
              obtain rfl : lb = true := hlb
              go_wp2_with fail
              refine (HE.out _).mono ?_
              rintro e w4 ⟨rfl, hb4⟩
              have hT4 := HTwo.out.below hb4
              have c2 := hT4.2.1.c2
              have f2 := hT4.2.1.fz 2
              have HT4 := Lib.hid hT4
              clear hb4 hT4 HTwo
              obtain ⟨z, hz⟩ : ∃ z : Nat, s.size - t + 1 = z := ⟨_, rfl⟩
              have hs1 : (s.size : Int) - (t : Int) + 1 = (z : Int) := by omega
              rw [hz] at HV
              have HT5 := Lib.hid (HT4.out.set kq (t - p : Nat) z)
              clear hz
              go_upto_region 22 with fail
              try rw [hs1]
              rw [HT4.out.2.1.s2]
              generalize w4.setRow N #[Value.int .u8 kq, .int .i64 (t - p : Nat), .int .i64 z] = W4 at *
              clear HT4 c2 f2
              have c2 := HT5.out.2.1.c2
              have f2 := HT5.out.2.1.fz 2
              by_cases h3 : 3 < z
              · have e3 : decide ((3 : Int) < (z : Int)) = true := decide_eq_true (by omega)
                rw [show min 3 z = 3 by omega] at HV
                have HT6 := Lib.hid (HT5.out.set kq (t - p : Nat) 3)
                clear h3
                go_upto_region 24 with fail
                rw [HT5.out.2.1.s2]
                generalize W4.setRow N _ = W5 at *
                clear HT5 c2 f2
                have HT2 := HT6
                go_wp2_with (first
                  | (refine wpList_load_row rfl 24 _ rfl N (by rfl) 24 _ (0, 0) _ HT2.out.2.1 Try.underlying24 rfl info_tok ?_)
                  | (refine wpList_store_row rfl 24 _ _ rfl w.heap.size #[.int .u8 kq, .int .i64 (t - p : Nat), .int .i64 3] (by rfl) (by rfl) 24 _ HT2.out.1 info_tok rfl (one_tok _ _ _) ?_))
                exact bodyPost_ret (results_tok Try.results34 _ _ w.heap.size _ _ (by rfl) (HT2.out.1.set kq (t - p : Nat) 3) info_tok) rfl ⟨by rw [HV.out]; rfl, below_setRow HT2.out.2.2.1 (Nat.le_refl _) _⟩
              · have e3 : decide ((3 : Int) < (z : Int)) = false := decide_eq_false (by omega)
                rw [show min 3 z = z by omega] at HV
                have HT2 := HT5
                clear h3
                go_upto_region 24 with fail
                go_wp2_with (first
                  | (refine wpList_load_row rfl 24 _ rfl N (by rfl) 24 _ (0, 0) _ HT2.out.2.1 Try.underlying24 rfl info_tok ?_)
                  | (refine wpList_store_row rfl 24 _ _ rfl w.heap.size #[.int .u8 kq, .int .i64 (t - p : Nat), .int .i64 z] (by rfl) (by rfl) 24 _ HT2.out.1 info_tok rfl (one_tok _ _ _) ?_))
                exact bodyPost_ret (results_tok Try.results34 _ _ w.heap.size _ _ (by rfl) (HT2.out.1.set kq (t - p : Nat) z) info_tok) rfl ⟨by rw [HV.out]; rfl, below_setRow HT2.out.2.2.1 (Nat.le_refl _) _⟩
          · rw [hl] at HE HV
            rw [if_pos rfl] at HV
            go_wp2_with fail
            refine (HE.out _).mono ?_
            rintro e w4 ⟨rfl, hb4⟩
            have hT4 := HTwo.out.below hb4
            have c2 := hT4.2.1.c2
            have f2 := hT4.2.1.fz 2
            have HT4 := Lib.hid hT4
            clear hb4 hT4 HTwo
            go_upto_region 19 with fail
            rw [HT4.out.2.1.s2]
            have HT2 := Lib.hid (HT4.out.set kq (t - p : Nat) 1)
            generalize hW : w4.setRow N _ = W4 at *
            clear hW HT4 c2 f2
            go_wp2_with (first
              | (refine wpList_load_row rfl 24 _ rfl N (by rfl) 24 _ (0, 0) _ HT2.out.2.1 Try.underlying24 rfl info_tok ?_)
              | (refine wpList_store_row rfl 24 _ _ rfl w.heap.size #[.int .u8 kq, .int .i64 (t - p : Nat), .int .i64 1] (by rfl) (by rfl) 24 _ HT2.out.1 info_tok rfl (one_tok _ _ _) ?_))
            exact bodyPost_ret (results_tok Try.results34 _ _ w.heap.size _ _ (by rfl) (HT2.out.1.set kq (t - p : Nat) 1) info_tok) rfl ⟨by rw [HV.out]; rfl, below_setRow HT2.out.2.2.1 (Nat.le_refl _) _⟩
        · obtain ⟨y, rfl⟩ : ∃ y : Nat, x = (y : Int) := ⟨x.toNat, by omega⟩
          have HE0 := Lib.hid ((HStep.out hxx).symm.trans HU.out.1)
          have HY := Lib.hid HIN.out
          have hy : y < 35 := by have := HIN.out.1; omega
          have hy0 : 0 < y := by have := HIN.out.2 (by omega); omega
          clear hxx
          by_cases hq0 : q = 0
          · subst hq0
            obtain rfl : t = p := HU.out.2.2.1 rfl
            have HL : (decide (y ≠ 0) && U.bad s t) = true := by rw [HBad.out]; simp; omega
            go_wp2_with fail
            refine (hn _).mono ?_
            rintro e w1 ⟨rfl, hb1⟩
            go_wp2_with fail
            refine (hcl _).mono ?_
            rintro e w2 ⟨rfl, hB⟩
            obtain rfl : w2 = w1 := hB
            go_wp2_with fail
            refine (hst _).mono ?_
            rintro e w3 ⟨rfl, hb3⟩
            have hbb := (hbl.trans (hb1.mono hbl.size)).trans (hb3.mono (Nat.le_trans hbl.size hb1.size))
            clear hbl hb1 hb3
            go_wp2_with fail
            go_roundw
            case rel => exact ⟨f', y, t + 1, true, rfl, by go_num, rfl, hy, by have := HLT.out.2.2; omega, Lib.hid ⟨by rw [← HE0.out]; rfl, by have := HU.out.2.1; omega, fun h => by omega, fun _ _ => by have h0 := HXX.out; have h1 : D.stp 0 (D.cls 65533) = 34 := (by decide +kernel); rw [h1] at h0; omega, HL.symm⟩, hbb⟩
            case measure => have := HLT.out; simp [RowKit.intOf]; omega
          · have hbp : U.bad s p = false := by
              cases hh : U.bad s p
              · rfl
              · have h34 := HU.out.2.2.2.1 hq0 hh
                have h0 := HXX.out
                rw [h34] at h0
                exact absurd (h0.symm.trans (D.stp_34 _)) (by omega)
            have e0 : ((q : Int) == 0) = false := by simp; omega
            have HL : (decide (y ≠ 0) && U.bad s p) = false := by rw [hbp, Bool.and_false]
            have HQ := Lib.hid hbp
            clear hq0 hbp
            go_wp2_with fail
            refine (hn _).mono ?_
            rintro e w1 ⟨rfl, hb1⟩
            go_wp2_with fail
            refine (hcl _).mono ?_
            rintro e w2 ⟨rfl, hB⟩
            obtain rfl : w2 = w1 := hB
            go_wp2_with fail
            refine (hst _).mono ?_
            rintro e w3 ⟨rfl, hb3⟩
            have hbb := (hbl.trans (hb1.mono hbl.size)).trans (hb3.mono (Nat.le_trans hbl.size hb1.size))
            clear hbl hb1 hb3
            go_wp2_with fail
            go_roundw
            case rel => exact ⟨f', y, t + 1, false, rfl, by go_num, rfl, hy, by have := HLT.out.2.2; omega, Lib.hid ⟨by rw [← HE0.out]; rfl, by have := HU.out.2.1; omega, fun h => by omega, fun _ h => (by rw [HQ.out] at h; cases h), HL.symm⟩, hbb⟩
            case measure => have := HLT.out; simp [RowKit.intOf]; omega
      · have hgood : U.bad s t = false := by simpa using hbad
        have hn := fun W => refNext_good s t W hlt hs hgood
        have HGood := Lib.hid hgood
        clear hbad hgood hnx hch hlt
        generalize hd : U.wd s t = d at *
        generalize D.cls (U.ch s t) = c at *
        generalize U.ch s t = r at *
        have HD := Lib.hid hd
        clear hd
        by_cases hxx : x < 0
        · obtain rfl : x = -1 := by have := HIN.out.1; omega
          have HE0 := Lib.hid ((HStop.out hxx).symm.trans HU.out.1)
          clear hxx
          go_wp2_with fail
          refine (hn _).mono ?_
          rintro e w1 ⟨rfl, hb1⟩
          go_wp2_with fail
          refine (hcl _).mono ?_
          rintro e w2 ⟨rfl, hB⟩
          obtain rfl : w2 = w1 := hB
          go_wp2_with fail
          refine (hst _).mono ?_
          rintro e w3 ⟨rfl, hb3⟩
          have e1 := HE0.out
          injection e1 with e1 e2
          subst e1 e2
          have HBW := Lib.hid (show Below W0.heap.size W0 w3 from (hbl.trans (hb1.mono hbl.size)).trans (hb3.mono (Nat.le_trans hbl.size hb1.size)))
          have hlb : lb = U.bad s p := by have := HU.out.2.2.2.2; rwa [decide_eq_true HT.out.2.1, Bool.true_and] at this
          clear hbl hb1 hb3
          obtain ⟨t1, t2, t3, t4, t5, t6⟩ := HT.out
          have HV := Lib.hid t5
          have HT6 := Lib.hid t6
          have HK := Lib.hid (fun W => refKind_any q t1 W)
          have HE := Lib.hid (fun W => ends_any q t1 W)
          have HWd := Lib.hid (fun W => refWord_any (s.extract p t) (by rw [ByteArray.size_extract]; omega) W)
          have hsub : ((t : Int) - (p : Int)) = ((t - p : Nat) : Int) := by omega
          have k1 : p ≤ t := by omega
          have k2 : t ≤ s.size := t4
          clear t1 t2 t5 t6
          go_wp2_with fail
          refine (HK.out _).mono ?_
          rintro e w1 ⟨rfl, hbk⟩
          have hb1 := HBW.out.trans (hbk.mono HBW.out.size)
          have HTwo := Lib.hid (show Two w w.heap.size w1.heap.size (D.kd q) (t - p : Nat) 0 (w1.alloc (.cells #[.int .u8 (D.kd q), .int .i64 (t - p : Nat), .int .i64 0] 24)) from ⟨(Below.heap_alloc w1 _ _ (by have := hb1.size; have := H.out.2.2; omega)).trans (H.out.1.below hb1), heap_alloc_new w1 _, (H.out.2.1.trans (hb1.mono H.out.2.1.size)).alloc (by have := hb1.size; have := H.out.2.2; omega) _, Nat.le_refl _, by have := hb1.size; have := H.out.2.2; omega⟩)
          clear hbk hb1
          generalize D.kd q = kq at *
          by_cases h7 : q = 7
          · subst h7
            rw [if_pos rfl, if_pos (by decide +kernel), ← HT6.out rfl] at HV
            go_upto_region 15 with fail
            try rw [hsub]
            generalize w1.heap.size = N at *
            generalize hW : w1.alloc _ = W2 at *
            clear hW
            generalize D.Wd (s.extract p t) = kw at *
            have he : ∀ W, Calls Try.prog 58 #[.int .i64 7] W (BoolB false W) := fun W => HE.out W
            go_wp2_with fail
            refine (HWd.out _).mono ?_
            rintro e w2 ⟨rfl, hb2⟩
            have hT2 := HTwo.out.below hb2
            have c0 := hT2.2.1.c0
            have f0 := hT2.2.1.fz 0
            have HT2 := Lib.hid hT2
            clear hb2 hT2 HTwo
            go_upto_region 17 with fail
            rw [HT2.out.2.1.s0]
            have HT3 := Lib.hid (HT2.out.set kw (t - p : Nat) 0)
            generalize hW : w2.setRow N _ = W3 at *
            clear hW HT2 c0 f0
            go_wp2_with fail
            refine (he _).mono ?_
            rintro e w4 ⟨rfl, hb4⟩
            have hT4 := HT3.out.below hb4
            have c2 := hT4.2.1.c2
            have f2 := hT4.2.1.fz 2
            have HT4 := Lib.hid hT4
            clear hb4 hT4 HT3
            go_upto_region 19 with fail
            rw [HT4.out.2.1.s2]
            have HT2 := Lib.hid (HT4.out.set kw (t - p : Nat) 1)
            generalize hW : w4.setRow N _ = W4 at *
            clear hW HT4 c2 f2
            go_wp2_with (first
              | (refine wpList_load_row rfl 24 _ rfl N (by rfl) 24 _ (0, 0) _ HT2.out.2.1 Try.underlying24 rfl info_tok ?_)
              | (refine wpList_store_row rfl 24 _ _ rfl w.heap.size #[.int .u8 kw, .int .i64 (t - p : Nat), .int .i64 1] (by rfl) (by rfl) 24 _ HT2.out.1 info_tok rfl (one_tok _ _ _) ?_))
            exact bodyPost_ret (results_tok Try.results34 _ _ w.heap.size _ _ (by rfl) (HT2.out.1.set kw (t - p : Nat) 1) info_tok) rfl ⟨by rw [HV.out]; rfl, below_setRow HT2.out.2.2.1 (Nat.le_refl _) _⟩
          have e7 : ((q : Int) == 7) = false := by simp; omega
          rw [if_neg h7] at HV
          clear h7
          go_upto_region 15 with fail
          try rw [hsub]
          generalize w1.heap.size = N at *
          generalize hW : w1.alloc _ = W2 at *
          clear hW
          rcases hl : D.lon q with _ | _
          · rw [hl] at HE HV
            rw [if_neg (by decide)] at HV
            cases hbad : U.bad s p
            · rw [hbad, if_neg (by decide)] at HV
              rw [hbad] at hlb
              obtain rfl : lb = false := hlb
              go_wp2_with fail
              refine (HE.out _).mono ?_
              rintro e w4 ⟨rfl, hb4⟩
              have HT2 := Lib.hid (HTwo.out.below hb4)
              clear hb4 HTwo
              go_upto_region 24 with fail
              go_wp2_with (first
                | (refine wpList_load_row rfl 24 _ rfl N (by rfl) 24 _ (0, 0) _ HT2.out.2.1 Try.underlying24 rfl info_tok ?_)
                | (refine wpList_store_row rfl 24 _ _ rfl w.heap.size #[.int .u8 kq, .int .i64 (t - p : Nat), .int .i64 0] (by rfl) (by rfl) 24 _ HT2.out.1 info_tok rfl (one_tok _ _ _) ?_))
              exact bodyPost_ret (results_tok Try.results34 _ _ w.heap.size _ _ (by rfl) (HT2.out.1.set kq (t - p : Nat) 0) info_tok) rfl ⟨by rw [HV.out]; rfl, below_setRow HT2.out.2.2.1 (Nat.le_refl _) _⟩
            · rw [hbad, if_pos rfl] at HV
              rw [hbad] at hlb
              obtain rfl : lb = true := hlb
              go_wp2_with fail
              refine (HE.out _).mono ?_
              rintro e w4 ⟨rfl, hb4⟩
              have hT4 := HTwo.out.below hb4
              have c2 := hT4.2.1.c2
              have f2 := hT4.2.1.fz 2
              have HT4 := Lib.hid hT4
              clear hb4 hT4 HTwo
              obtain ⟨z, hz⟩ : ∃ z : Nat, s.size - t + 1 = z := ⟨_, rfl⟩
              have hs1 : (s.size : Int) - (t : Int) + 1 = (z : Int) := by omega
              rw [hz] at HV
              have HT5 := Lib.hid (HT4.out.set kq (t - p : Nat) z)
              clear hz
              go_upto_region 22 with fail
              try rw [hs1]
              rw [HT4.out.2.1.s2]
              generalize w4.setRow N #[Value.int .u8 kq, .int .i64 (t - p : Nat), .int .i64 z] = W4 at *
              clear HT4 c2 f2
              have c2 := HT5.out.2.1.c2
              have f2 := HT5.out.2.1.fz 2
              by_cases h3 : 3 < z
              · have e3 : decide ((3 : Int) < (z : Int)) = true := decide_eq_true (by omega)
                rw [show min 3 z = 3 by omega] at HV
                have HT6 := Lib.hid (HT5.out.set kq (t - p : Nat) 3)
                clear h3
                go_upto_region 24 with fail
                rw [HT5.out.2.1.s2]
                generalize W4.setRow N _ = W5 at *
                clear HT5 c2 f2
                have HT2 := HT6
                go_wp2_with (first
                  | (refine wpList_load_row rfl 24 _ rfl N (by rfl) 24 _ (0, 0) _ HT2.out.2.1 Try.underlying24 rfl info_tok ?_)
                  | (refine wpList_store_row rfl 24 _ _ rfl w.heap.size #[.int .u8 kq, .int .i64 (t - p : Nat), .int .i64 3] (by rfl) (by rfl) 24 _ HT2.out.1 info_tok rfl (one_tok _ _ _) ?_))
                exact bodyPost_ret (results_tok Try.results34 _ _ w.heap.size _ _ (by rfl) (HT2.out.1.set kq (t - p : Nat) 3) info_tok) rfl ⟨by rw [HV.out]; rfl, below_setRow HT2.out.2.2.1 (Nat.le_refl _) _⟩
              · have e3 : decide ((3 : Int) < (z : Int)) = false := decide_eq_false (by omega)
                rw [show min 3 z = z by omega] at HV
                have HT2 := HT5
                clear h3
                go_upto_region 24 with fail
                go_wp2_with (first
                  | (refine wpList_load_row rfl 24 _ rfl N (by rfl) 24 _ (0, 0) _ HT2.out.2.1 Try.underlying24 rfl info_tok ?_)
                  | (refine wpList_store_row rfl 24 _ _ rfl w.heap.size #[.int .u8 kq, .int .i64 (t - p : Nat), .int .i64 z] (by rfl) (by rfl) 24 _ HT2.out.1 info_tok rfl (one_tok _ _ _) ?_))
                exact bodyPost_ret (results_tok Try.results34 _ _ w.heap.size _ _ (by rfl) (HT2.out.1.set kq (t - p : Nat) z) info_tok) rfl ⟨by rw [HV.out]; rfl, below_setRow HT2.out.2.2.1 (Nat.le_refl _) _⟩
          · rw [hl] at HE HV
            rw [if_pos rfl] at HV
            go_wp2_with fail
            refine (HE.out _).mono ?_
            rintro e w4 ⟨rfl, hb4⟩
            have hT4 := HTwo.out.below hb4
            have c2 := hT4.2.1.c2
            have f2 := hT4.2.1.fz 2
            have HT4 := Lib.hid hT4
            clear hb4 hT4 HTwo
            go_upto_region 19 with fail
            rw [HT4.out.2.1.s2]
            have HT2 := Lib.hid (HT4.out.set kq (t - p : Nat) 1)
            generalize hW : w4.setRow N _ = W4 at *
            clear hW HT4 c2 f2
            go_wp2_with (first
              | (refine wpList_load_row rfl 24 _ rfl N (by rfl) 24 _ (0, 0) _ HT2.out.2.1 Try.underlying24 rfl info_tok ?_)
              | (refine wpList_store_row rfl 24 _ _ rfl w.heap.size #[.int .u8 kq, .int .i64 (t - p : Nat), .int .i64 1] (by rfl) (by rfl) 24 _ HT2.out.1 info_tok rfl (one_tok _ _ _) ?_))
            exact bodyPost_ret (results_tok Try.results34 _ _ w.heap.size _ _ (by rfl) (HT2.out.1.set kq (t - p : Nat) 1) info_tok) rfl ⟨by rw [HV.out]; rfl, below_setRow HT2.out.2.2.1 (Nat.le_refl _) _⟩
        · obtain ⟨y, rfl⟩ : ∃ y : Nat, x = (y : Int) := ⟨x.toNat, by omega⟩
          have HE0 := Lib.hid ((HStep.out hxx).symm.trans HU.out.1)
          have hy : y < 35 := by have := HIN.out.1; omega
          have hy0 : 0 < y := by have := HIN.out.2 (by omega); omega
          clear hxx
          by_cases hq0 : q = 0
          · subst hq0
            obtain rfl : t = p := HU.out.2.2.1 rfl
            have HL : (decide (y ≠ 0) && U.bad s t) = false := by rw [HGood.out, Bool.and_false]
            go_wp2_with fail
            refine (hn _).mono ?_
            rintro e w1 ⟨rfl, hb1⟩
            go_wp2_with fail
            refine (hcl _).mono ?_
            rintro e w2 ⟨rfl, hB⟩
            obtain rfl : w2 = w1 := hB
            go_wp2_with fail
            refine (hst _).mono ?_
            rintro e w3 ⟨rfl, hb3⟩
            have hbb := (hbl.trans (hb1.mono hbl.size)).trans (hb3.mono (Nat.le_trans hbl.size hb1.size))
            clear hbl hb1 hb3
            go_wp2_with fail
            go_roundw
            case rel => exact ⟨f', y, t + d, false, rfl, by go_num, rfl, hy, by have := HLT.out.2.2; omega, Lib.hid ⟨by rw [← HE0.out]; rfl, by have := HU.out.2.1; have := HLT.out; omega, fun h => by omega, fun _ h => (by rw [HGood.out] at h; cases h), HL.symm⟩, hbb⟩
            case measure => have := HLT.out; simp [RowKit.intOf]; omega
          · have hbp : U.bad s p = false := by
              cases hh : U.bad s p
              · rfl
              · have h34 := HU.out.2.2.2.1 hq0 hh
                have h0 := HXX.out
                rw [h34] at h0
                exact absurd (h0.symm.trans (D.stp_34 _)) (by omega)
            have e0 : ((q : Int) == 0) = false := by simp; omega
            have HL : (decide (y ≠ 0) && U.bad s p) = false := by rw [hbp, Bool.and_false]
            have HQ := Lib.hid hbp
            clear hq0 hbp
            go_wp2_with fail
            refine (hn _).mono ?_
            rintro e w1 ⟨rfl, hb1⟩
            go_wp2_with fail
            refine (hcl _).mono ?_
            rintro e w2 ⟨rfl, hB⟩
            obtain rfl : w2 = w1 := hB
            go_wp2_with fail
            refine (hst _).mono ?_
            rintro e w3 ⟨rfl, hb3⟩
            have hbb := (hbl.trans (hb1.mono hbl.size)).trans (hb3.mono (Nat.le_trans hbl.size hb1.size))
            clear hbl hb1 hb3
            go_wp2_with fail
            go_roundw
            case rel => exact ⟨f', y, t + d, false, rfl, by go_num, rfl, hy, by have := HLT.out.2.2; omega, Lib.hid ⟨by rw [← HE0.out]; rfl, by have := HU.out.2.1; have := HLT.out; omega, fun h => by omega, fun _ h => (by rw [HQ.out] at h; cases h), HL.symm⟩, hbb⟩
            case measure => have := HLT.out; simp [RowKit.intOf]; omega
    · have HE0 := Lib.hid ((D.cr_end s f q t hlt).symm.trans HU.out.1)
      have j1 : ¬ (t : Int) < (s.size : Int) := by omega
      clear hlt
      have e1 := HE0.out
      injection e1 with e1 e2
      subst e1 e2
      have HBW := Lib.hid (show Below W0.heap.size W0 wr from hbl)
      have hlb : lb = U.bad s p := by have := HU.out.2.2.2.2; rwa [decide_eq_true HT.out.2.1, Bool.true_and] at this
      clear hbl
      obtain ⟨t1, t2, t3, t4, t5, t6⟩ := HT.out
      have HV := Lib.hid t5
      have HT6 := Lib.hid t6
      have HK := Lib.hid (fun W => refKind_any q t1 W)
      have HE := Lib.hid (fun W => ends_any q t1 W)
      have HWd := Lib.hid (fun W => refWord_any (s.extract p t) (by rw [ByteArray.size_extract]; omega) W)
      have hsub : ((t : Int) - (p : Int)) = ((t - p : Nat) : Int) := by omega
      have k1 : p ≤ t := by omega
      have k2 : t ≤ s.size := t4
      clear t1 t2 t5 t6
      go_wp2_with fail
      refine (HK.out _).mono ?_
      rintro e w1 ⟨rfl, hbk⟩
      have hb1 := HBW.out.trans (hbk.mono HBW.out.size)
      have HTwo := Lib.hid (show Two w w.heap.size w1.heap.size (D.kd q) (t - p : Nat) 0 (w1.alloc (.cells #[.int .u8 (D.kd q), .int .i64 (t - p : Nat), .int .i64 0] 24)) from ⟨(Below.heap_alloc w1 _ _ (by have := hb1.size; have := H.out.2.2; omega)).trans (H.out.1.below hb1), heap_alloc_new w1 _, (H.out.2.1.trans (hb1.mono H.out.2.1.size)).alloc (by have := hb1.size; have := H.out.2.2; omega) _, Nat.le_refl _, by have := hb1.size; have := H.out.2.2; omega⟩)
      clear hbk hb1
      generalize D.kd q = kq at *
      by_cases h7 : q = 7
      · subst h7
        rw [if_pos rfl, if_pos (by decide +kernel), ← HT6.out rfl] at HV
        go_upto_region 15 with fail
        try rw [hsub]
        generalize w1.heap.size = N at *
        generalize hW : w1.alloc _ = W2 at *
        clear hW
        generalize D.Wd (s.extract p t) = kw at *
        have he : ∀ W, Calls Try.prog 58 #[.int .i64 7] W (BoolB false W) := fun W => HE.out W
        go_wp2_with fail
        refine (HWd.out _).mono ?_
        rintro e w2 ⟨rfl, hb2⟩
        have hT2 := HTwo.out.below hb2
        have c0 := hT2.2.1.c0
        have f0 := hT2.2.1.fz 0
        have HT2 := Lib.hid hT2
        clear hb2 hT2 HTwo
        go_upto_region 17 with fail
        rw [HT2.out.2.1.s0]
        have HT3 := Lib.hid (HT2.out.set kw (t - p : Nat) 0)
        generalize hW : w2.setRow N _ = W3 at *
        clear hW HT2 c0 f0
        go_wp2_with fail
        refine (he _).mono ?_
        rintro e w4 ⟨rfl, hb4⟩
        have hT4 := HT3.out.below hb4
        have c2 := hT4.2.1.c2
        have f2 := hT4.2.1.fz 2
        have HT4 := Lib.hid hT4
        clear hb4 hT4 HT3
        go_upto_region 19 with fail
        rw [HT4.out.2.1.s2]
        have HT2 := Lib.hid (HT4.out.set kw (t - p : Nat) 1)
        generalize hW : w4.setRow N _ = W4 at *
        clear hW HT4 c2 f2
        go_wp2_with (first
          | (refine wpList_load_row rfl 24 _ rfl N (by rfl) 24 _ (0, 0) _ HT2.out.2.1 Try.underlying24 rfl info_tok ?_)
          | (refine wpList_store_row rfl 24 _ _ rfl w.heap.size #[.int .u8 kw, .int .i64 (t - p : Nat), .int .i64 1] (by rfl) (by rfl) 24 _ HT2.out.1 info_tok rfl (one_tok _ _ _) ?_))
        exact bodyPost_ret (results_tok Try.results34 _ _ w.heap.size _ _ (by rfl) (HT2.out.1.set kw (t - p : Nat) 1) info_tok) rfl ⟨by rw [HV.out]; rfl, below_setRow HT2.out.2.2.1 (Nat.le_refl _) _⟩
      have e7 : ((q : Int) == 7) = false := by simp; omega
      rw [if_neg h7] at HV
      clear h7
      go_upto_region 15 with fail
      try rw [hsub]
      generalize w1.heap.size = N at *
      generalize hW : w1.alloc _ = W2 at *
      clear hW
      rcases hl : D.lon q with _ | _
      · rw [hl] at HE HV
        rw [if_neg (by decide)] at HV
        cases hbad : U.bad s p
        · rw [hbad, if_neg (by decide)] at HV
          rw [hbad] at hlb
          obtain rfl : lb = false := hlb
          go_wp2_with fail
          refine (HE.out _).mono ?_
          rintro e w4 ⟨rfl, hb4⟩
          have HT2 := Lib.hid (HTwo.out.below hb4)
          clear hb4 HTwo
          go_upto_region 24 with fail
          go_wp2_with (first
            | (refine wpList_load_row rfl 24 _ rfl N (by rfl) 24 _ (0, 0) _ HT2.out.2.1 Try.underlying24 rfl info_tok ?_)
            | (refine wpList_store_row rfl 24 _ _ rfl w.heap.size #[.int .u8 kq, .int .i64 (t - p : Nat), .int .i64 0] (by rfl) (by rfl) 24 _ HT2.out.1 info_tok rfl (one_tok _ _ _) ?_))
          exact bodyPost_ret (results_tok Try.results34 _ _ w.heap.size _ _ (by rfl) (HT2.out.1.set kq (t - p : Nat) 0) info_tok) rfl ⟨by rw [HV.out]; rfl, below_setRow HT2.out.2.2.1 (Nat.le_refl _) _⟩
        · rw [hbad, if_pos rfl] at HV
          rw [hbad] at hlb
          obtain rfl : lb = true := hlb
          go_wp2_with fail
          refine (HE.out _).mono ?_
          rintro e w4 ⟨rfl, hb4⟩
          have hT4 := HTwo.out.below hb4
          have c2 := hT4.2.1.c2
          have f2 := hT4.2.1.fz 2
          have HT4 := Lib.hid hT4
          clear hb4 hT4 HTwo
          obtain ⟨z, hz⟩ : ∃ z : Nat, s.size - t + 1 = z := ⟨_, rfl⟩
          have hs1 : (s.size : Int) - (t : Int) + 1 = (z : Int) := by omega
          rw [hz] at HV
          have HT5 := Lib.hid (HT4.out.set kq (t - p : Nat) z)
          clear hz
          go_upto_region 22 with fail
          try rw [hs1]
          rw [HT4.out.2.1.s2]
          generalize w4.setRow N #[Value.int .u8 kq, .int .i64 (t - p : Nat), .int .i64 z] = W4 at *
          clear HT4 c2 f2
          have c2 := HT5.out.2.1.c2
          have f2 := HT5.out.2.1.fz 2
          by_cases h3 : 3 < z
          · have e3 : decide ((3 : Int) < (z : Int)) = true := decide_eq_true (by omega)
            rw [show min 3 z = 3 by omega] at HV
            have HT6 := Lib.hid (HT5.out.set kq (t - p : Nat) 3)
            clear h3
            go_upto_region 24 with fail
            rw [HT5.out.2.1.s2]
            generalize W4.setRow N _ = W5 at *
            clear HT5 c2 f2
            have HT2 := HT6
            go_wp2_with (first
              | (refine wpList_load_row rfl 24 _ rfl N (by rfl) 24 _ (0, 0) _ HT2.out.2.1 Try.underlying24 rfl info_tok ?_)
              | (refine wpList_store_row rfl 24 _ _ rfl w.heap.size #[.int .u8 kq, .int .i64 (t - p : Nat), .int .i64 3] (by rfl) (by rfl) 24 _ HT2.out.1 info_tok rfl (one_tok _ _ _) ?_))
            exact bodyPost_ret (results_tok Try.results34 _ _ w.heap.size _ _ (by rfl) (HT2.out.1.set kq (t - p : Nat) 3) info_tok) rfl ⟨by rw [HV.out]; rfl, below_setRow HT2.out.2.2.1 (Nat.le_refl _) _⟩
          · have e3 : decide ((3 : Int) < (z : Int)) = false := decide_eq_false (by omega)
            rw [show min 3 z = z by omega] at HV
            have HT2 := HT5
            clear h3
            go_upto_region 24 with fail
            go_wp2_with (first
              | (refine wpList_load_row rfl 24 _ rfl N (by rfl) 24 _ (0, 0) _ HT2.out.2.1 Try.underlying24 rfl info_tok ?_)
              | (refine wpList_store_row rfl 24 _ _ rfl w.heap.size #[.int .u8 kq, .int .i64 (t - p : Nat), .int .i64 z] (by rfl) (by rfl) 24 _ HT2.out.1 info_tok rfl (one_tok _ _ _) ?_))
            exact bodyPost_ret (results_tok Try.results34 _ _ w.heap.size _ _ (by rfl) (HT2.out.1.set kq (t - p : Nat) z) info_tok) rfl ⟨by rw [HV.out]; rfl, below_setRow HT2.out.2.2.1 (Nat.le_refl _) _⟩
      · rw [hl] at HE HV
        rw [if_pos rfl] at HV
        go_wp2_with fail
        refine (HE.out _).mono ?_
        rintro e w4 ⟨rfl, hb4⟩
        have hT4 := HTwo.out.below hb4
        have c2 := hT4.2.1.c2
        have f2 := hT4.2.1.fz 2
        have HT4 := Lib.hid hT4
        clear hb4 hT4 HTwo
        go_upto_region 19 with fail
        rw [HT4.out.2.1.s2]
        have HT2 := Lib.hid (HT4.out.set kq (t - p : Nat) 1)
        generalize hW : w4.setRow N _ = W4 at *
        clear hW HT4 c2 f2
        go_wp2_with (first
          | (refine wpList_load_row rfl 24 _ rfl N (by rfl) 24 _ (0, 0) _ HT2.out.2.1 Try.underlying24 rfl info_tok ?_)
          | (refine wpList_store_row rfl 24 _ _ rfl w.heap.size #[.int .u8 kq, .int .i64 (t - p : Nat), .int .i64 1] (by rfl) (by rfl) 24 _ HT2.out.1 info_tok rfl (one_tok _ _ _) ?_))
        exact bodyPost_ret (results_tok Try.results34 _ _ w.heap.size _ _ (by rfl) (HT2.out.1.set kq (t - p : Nat) 1) info_tok) rfl ⟨by rw [HV.out]; rfl, below_setRow HT2.out.2.2.1 (Nat.le_refl _) _⟩
end Ytglanajglhneeaa
end Go.Proofs
