/- The document's own reader of JSON: a list. Conditions: a string of at most 2^18 bytes; a value that is read as it should be. -/
import Derived.Test.YtbdpghmpdghnbaaDoorMJ31
import Derived.Test.YtbdpghmpdghnbaaDoorMJ20
import Derived.Deep.AppendLies
import Derived.Deep.RegionLaw
import Derived.Deep.DeepCutAuto
import Derived.Deep.CutBlock
namespace Go.Proofs.YtbdpghmpdghnbaaDoor
open Go Go.RowKit Go.Lib
theorem bl_again (s : ByteArray) (p e : Nat) (h : p ≤ s.size) : J.bl s (J.bl s p e) e = J.bl s p e := by
  by_cases he : e = 0
  · subst he
    have : ∀ f p, p ≤ s.size → s.size ≤ p + f → J.bl s (J.bl s p 0) 0 = J.bl s p 0 := by
      intro f
      induction f with
      | zero =>
        intro p h1 h2
        rw [J.bl_stop (p := p) (by omega), J.bl_stop (by omega)]
      | succ f ih =>
        intro p h1 h2
        by_cases hs : p < s.size ∧ J.ws (s.get! p).toNat = true
        · rw [J.bl_step hs.1 hs.2]; exact ih (p + 1) hs.1 (by omega)
        · rw [J.bl_stop hs, J.bl_stop hs]
    exact this (s.size - p) p h (by omega)
  · rw [J.bl_wrong s p he, J.bl_wrong s p he]
/-- how far the reader may still go -/
def measR (s : ByteArray) (B : Nat) (W : World) : Nat := if RowKit.intOf ((W.cell? ⟨B, 2, none⟩).getD undef) = 0 then s.size + 1 - place B W else 0
theorem measR_eq {s : ByteArray} {p e B : Nat} {W : World} (h : St s p e B W) : measR s B W = if e = 0 then s.size + 1 - p else 0 := by
  unfold measR
  rw [h.c2, place_eq h]
  by_cases he : e = 0
  · subst he; rfl
  · rw [if_neg he, if_neg (by simp [RowKit.intOf]; omega)]
/-- a value and the blanks behind it, where no blank is ahead -/
theorem vl_at {s : ByteArray} {m q : Nat} (hm : m ≤ 64) (hq : J.bl s q 0 = q) : vl s m q = ar s (br s (64 - m) (inn s m) q) := by rw [vl_is s m q hm, hq]
theorem vl_bl {s : ByteArray} {m q : Nat} (hm : m ≤ 64) (hq : q ≤ s.size) : vl s m (J.bl s q 0) = vl s m q := by rw [vl_is s m q hm, vl_is s m _ hm, bl_again s q 0 hq]
theorem lo_bl {s : ByteArray} {m q : Nat} (hm : m ≤ 64) (hq : q ≤ s.size) (t : V.T) : lo (vl s m) (J.bl s q 0) t = lo (vl s m) q t := by unfold lo; rw [vl_bl hm hq]
def ifz (s : ByteArray) (c : Nat) (one : Nat → V.T → V.T × Nat × Nat) (f q : Nat) (t : V.T) : V.T × Nat × Nat := if (one q t).2.2 = 0 then itG s c one f (one q t).2.1 (one q t).1 else one q t
/-- where the loop over elements stands -/
def LsAt (s : ByteArray) (B m n0 : Nat) (w : World) (fin : V.T × Nat × Nat) (q e : Nat) (Rw : Value) (t : V.T) (W : World) : Prop :=
  LB s B n0 q e (.int .u8 5) Rw (.slice none 0 0) w W ∧ VRw (n0 + 2) Rw t W ∧ t.len ≤ q + 1 ∧ (e = 0 → t.len ≤ q ∧ J.bl s q 0 = q ∧ ∃ f, s.size + 1 ≤ q + f ∧ fin = ifz s 93 (lo (vl s m)) f q t) ∧ (¬ e = 0 → fin.2 = (q, e))
set_option maxRecDepth 100000 in
set_option maxHeartbeats 4000000 in
theorem listR_any (s : ByteArray) (B m p : Nat) (w : World) (hs : s.size ≤ 262144) (hm : m ≤ 63)
    (hv : ∀ q W, q ≤ s.size → St s q 0 B W → Calls Tryd.prog 9 #[.pointer (some ⟨B, 0, none⟩), .int .i64 (((64 - m : Nat) : Int) + 1)] W (RV (br s (64 - m) (inn s m) q) s B W))
    (hp : J.is s p 0 91 = true) (h : St s p 0 B w) :
    Calls Tryd.prog 16 #[.pointer (some ⟨B, 0, none⟩), .int .i64 ((64 - m : Nat) : Int)] w (RV ((5, ⟨#[]⟩, (its s 93 (lo (vl s m)) (63 - m) p .nil).1, .nil), (its s 93 (lo (vl s m)) (63 - m) p .nil).2) s B w) := by
  have hps := (J.of_is hp).2.1
  have hfin : its s 93 (lo (vl s m)) (63 - m) p .nil = itB s 93 (lo (vl s m)) (J.bl s (p + 1) 0) .nil := by unfold its; rw [if_neg (by omega)]
  obtain ⟨fin, hf0⟩ : ∃ x, its s 93 (lo (vl s m)) (63 - m) p .nil = x := ⟨_, rfl⟩
  rw [hf0] at hfin ⊢
  have HF := Lib.hid hfin
  have hle := fun q hq => (vl_le s m q hq : Le s q (vl s m q).2.1)
  have HLE := Lib.hid hle
  have hbr : ∀ q, q ≤ s.size → Le s q (br s (64 - m) (inn s m) q).2.1 := fun q hq => br_le (fun x hx => inn_le s m x hx) (64 - m) q hq
  have HBR := Lib.hid hbr
  have HTK := Lib.hid (fun e c q W (hq : q ≤ s.size) (hW : St s q e B W) => take_any s q e c B W (by omega) hq hW)
  have HBL := Lib.hid (fun e q W (hq : q ≤ s.size) (hW : St s q e B W) => blanks_any s q e B W (by omega) hq hW)
  have HIS := Lib.hid (fun e c q W (hW : St s q e B W) => is_any s q e c B W (by omega) hW)
  have hbl1 := J.bl_le (s := s) 0 (show p + 1 ≤ s.size from hps)
  obtain ⟨i0, hi0, hz0, hz1, hz2⟩ := info_parts infoValue
  obtain ⟨dp, hdp⟩ : ∃ d : Nat, 64 - m = d := ⟨_, rfl⟩
  have HM := Lib.hid hm
  have dp1 : dp ≤ 64 := by omega
  have HV := Lib.hid hv
  rw [hdp] at HV HBR ⊢
  have ht := HTK.out 0 91 p
  have hB := h.lt
  clear hf0 hfin hle hbr hv hm
  go_enter Tryd.func16, Tryd.ntmps16
  go_upto_region 2 with fail
  generalize hW1 : (w.alloc _).alloc _ = W1
  have HL0 := Lib.hid (show LB s B w.heap.size p 0 (.int .u8 5) (.slice none 0 0) (.slice none 0 0) w W1 by
    rw [← hW1]
    have h2 := two_new w (.cells #[.int .u8 0, .string ⟨#[]⟩, .slice none 0 0, .slice none 0 0] 25) (.cells #[.int .u8 5, .string ⟨#[]⟩, .slice none 0 0, .slice none 0 0] 25)
    exact ⟨h2.1, h2.2, by rw [two_size]; omega, (h.alloc _).alloc _, grown_trans (grownBy_alloc _ _ _) (grownBy_alloc _ _ _)⟩)
  clear hW1
  have hBn0 := hB
  obtain ⟨n0, hnw⟩ : ∃ n, w.heap.size = n := ⟨_, rfl⟩
  rw [hnw] at HL0 hBn0 ⊢
  have hBn : B < n0 := hBn0
  rw [J.tk_yes hp] at ht
  have q0le : J.bl s (p + 1) 0 ≤ s.size := hbl1.2
  have HQ0 := Lib.hid (bl_again s (p + 1) 0 hps)
  have hb0 := HBL.out 0 (p + 1)
  have q0ge : 1 ≤ J.bl s (p + 1) 0 := by omega
  generalize J.bl s (p + 1) 0 = q0 at *
  clear hbl1
  go_wp2_with fail
  refine (ht _ (by omega) HL0.out.st).mono ?_
  rintro en w1 ⟨⟨va, rfl⟩, h1, g1⟩
  have HL1 := Lib.hid (HL0.out.step hBn h1 g1)
  clear h1 g1 HL0
  go_wp2_with fail
  refine (hb0 _ hps HL1.out.st).mono ?_
  rintro en w2 ⟨⟨vb, rfl⟩, h2, g2⟩
  have HL2 := Lib.hid (HL1.out.step hBn h2 g2)
  clear h2 g2 HL1 hb0
  have c1 := HL2.out.st.c1
  have f1 := HL2.out.st.f1
  cases his : J.is s q0 0 93
  · have hi := HIS.out 0 93 q0 w2 HL2.out.st
    rw [his] at hi
    have HF2 := Lib.hid (show fin = ifz s 93 (lo (vl s m)) (s.size + 1) q0 .nil by rw [HF.out]; unfold itB; rw [if_neg (by rw [his]; decide)]; rfl)
    clear his HF
    go_wp2_with fail
    refine hi.mono ?_
    rintro en w3 ⟨rfl, jq, rfl⟩
    have HL3 := Lib.hid (HL2.out.step hBn (HL2.out.st.drewN jq) (grownBy_drewN _ _ _))
    clear HL2 hi c1 f1
    generalize w2.drewN jq = W2 at *
    go_wp2_with fail
    go_loopw [] (fun wr => ∃ (q e : Nat) (Rw : Value) (t : V.T), q ≤ s.size ∧ Hid (LsAt s B m n0 w fin q e Rw t wr)) (fun wr => measR s B wr)
    case atStart => exact ⟨q0, 0, .slice none 0 0, .nil, q0le, Lib.hid ⟨HL3.out, ⟨[], World.ownsRow_nil _ _ _ _, RP.nil _ _ _ _⟩, Nat.zero_le _, fun _ => ⟨Nat.zero_le _, HQ0.out, s.size + 1, by omega, HF2.out⟩, fun h => absurd rfl h⟩⟩
    case round =>
      obtain ⟨q, e, Rw, t, hq, HW⟩ := hrel
      have c2 := HW.out.1.st.c2
      have HME := Lib.hid (measR_eq HW.out.1.st)
      by_cases he : e = 0
      · subst he
        have HM0 := Lib.hid (show measR s B wr = s.size + 1 - q by rw [HME.out]; exact if_pos (by first | rfl | trivial))
        clear HME
        obtain ⟨hL, ⟨xs, ho, hr⟩, -, hz, -⟩ := HW.out
        obtain ⟨htl, hbq, f, hf, hfx⟩ := hz rfl
        obtain ⟨pV, cV, rfl, hc1, hc2⟩ := own_slice ho
        have hc3 : cV ≤ 9223372036854775807 := by unfold maxLen at hc2; omega
        obtain ⟨d0, d1, d2, d3⟩ := hL.out.box
        have HL := Lib.hid (And.intro hL hL)
        have hn1 : t.len + 1 ≤ maxLen := by unfold maxLen; omega
        have hn2 : (t.len + 1) * 72 ≤ 140737488355328 := by omega
        have IH := fun W hW => HV.out q W hq hW
        have hrle := HBR.out q hq
        have hvl : vl s m q = ar s (br s dp (inn s m) q) := by rw [vl_at (by have := HM.out; omega) hbq, hdp]
        obtain ⟨r, hr0⟩ : ∃ r, br s dp (inn s m) q = r := ⟨_, rfl⟩
        rw [hr0] at IH hrle hvl
        have hwr : IntKind.i64.wrap ((dp : Int) + 1) = (dp : Int) + 1 := by rw [IntKind.wrap_i64]; omega
        have HX := Lib.hid (And.intro hvl (And.intro hfx (And.intro hf hrle)))
        clear hr0 hvl hfx hf hz hL d0 d1 d3 HW hrle
        clear hbq
        go_wp2_with fail
        have HS0 := Lib.hid (show wr.drew.cell? ⟨n0 + 1, 2, none⟩ = some (.slice pV t.len cV) from d2)
        refine wp_region_last (S := fun W => W.cell? ⟨n0 + 1, 2, none⟩ = some (.slice pV t.len cV)) (z := 9) (by kernel_rfl) ?_
        refine wpAnyZ_take (v := ?_) 0 rfl (by kernel_rfl) (by kernel_rfl) (by kernel_rfl) (fun _ _ _ h => h) (by kernel_rfl) (by kernel_rfl) (by decide) HS0.out (by rfl) (fun W hSW => ?_) ?_
        rotate_left
        · have s1 := hSW
          go_simp
          try with_reducible rfl
        try simp only [Act.put, List.setIfInBounds_toArray, List.set_cons_zero, List.set_cons_succ]
        refine wpAnyZ_take (v := ?_) 1 rfl (by kernel_rfl) (by kernel_rfl) (by kernel_rfl) (fun _ _ _ h => h) (by kernel_rfl) (by kernel_rfl) (by decide) HS0.out (by rfl) (fun W hSW => ?_) ?_
        rotate_left
        · have s1 := hSW
          go_simp
          try with_reducible rfl
        try simp only [Act.put, List.setIfInBounds_toArray, List.set_cons_zero, List.set_cons_succ]
        refine wpAnyZ_take (v := ?_) 2 rfl (by kernel_rfl) (by kernel_rfl) (by kernel_rfl) (fun _ _ _ h => h) (by kernel_rfl) (by kernel_rfl) (by decide) HS0.out (by rfl) (fun W hSW => ?_) ?_
        rotate_left
        · have s1 := hSW
          go_simp
          try with_reducible rfl
        try simp only [Act.put, List.setIfInBounds_toArray, List.set_cons_zero, List.set_cons_succ]
        refine wpAnyZ_take (v := ?_) 3 rfl (by kernel_rfl) (by kernel_rfl) (by kernel_rfl) (fun _ _ _ h => h) (by kernel_rfl) (by kernel_rfl) (by decide) HS0.out (by rfl) (fun W hSW => ?_) ?_
        rotate_left
        · have s1 := hSW
          go_simp
          try with_reducible rfl
        try simp only [Act.put, List.setIfInBounds_toArray, List.set_cons_zero, List.set_cons_succ]
        refine wpAnyZ_take (v := ?_) 4 rfl (by kernel_rfl) (by kernel_rfl) (by kernel_rfl) (fun _ _ _ h => h) (by kernel_rfl) (by kernel_rfl) (by decide) HS0.out (by rfl) (fun W hSW => ?_) ?_
        rotate_left
        · have s1 := hSW
          go_simp
          try with_reducible rfl
        try simp only [Act.put, List.setIfInBounds_toArray, List.set_cons_zero, List.set_cons_succ]
        refine wpAnyZ_op 5 (by kernel_rfl) rfl (fun K hK => ?_)
        go_simp
        go_at_call 9
        (with_reducible refine (IH _ (HL.out.1.st.same ((Below.refl wr.heap.size wr).drew.block B HL.out.1.st.lt))).mono ?_)
        rintro en w1 ⟨k1, x1, l1, f1, v2, u2, rfl, hl1, hf1, hfit1, hst1, g1, hok1⟩
        obtain ⟨p3, c3, rfl, -⟩ := hl1.len
        obtain ⟨p4, c4, rfl, -⟩ := hf1.len
        have g1 : wr.grownBy w1 (some B) := grown_trans (grow_below (Below.refl wr.heap.size wr).drew (some B)) g1
        have hown1 := ownsRow_keep ho (show B < n0 + 2 by omega) g1
        have d5 := (HL.out.1.out.same (g1.block _ HL.out.1.out.lt (fun e => by cases e; omega))).box.2.2.1
        have H1 := Lib.hid (And.intro hst1 (And.intro hok1 hfit1))
        have H2 := Lib.hid (show HS w1 (fun b => wr.heap.size ≤ b) 0 (.slice p3 l1.len c3) l1 ∧ HS w1 (fun b => wr.heap.size ≤ b) 1 (.slice p4 f1.len c4) f1 from ⟨hl1, hf1⟩)
        have HG1 := Lib.hid g1
        have hz6 : n0 + 2 ≤ w1.heap.size := Nat.le_trans HL.out.1.size g1.size
        clear hl1 hf1 hst1 hok1 hfit1 g1
        refine hK.out _ _ d5 ?_
        try simp only [Act.put, List.setIfInBounds_toArray, List.set_cons_zero, List.set_cons_succ]
        clear hK K
        refine wpAnyZ_op 6 (by kernel_rfl) rfl (fun K hK => ?_)
        go_simp
        have d6 := (Below.heap_alloc w1 (.cells #[.int .u8 k1, .string x1, .slice p3 l1.len c3, .slice p4 f1.len c4] 25) (n0 + 1) (by omega))
        have d7 := (cell_heap 2 d6).trans d5
        refine hK.out _ _ d7 ?_
        try simp only [Act.put, List.setIfInBounds_toArray, List.set_cons_zero, List.set_cons_succ]
        clear hK K
        refine wpAnyZ_op 7 (by kernel_rfl) rfl (fun K hK => ?_)
        refine step_append_lies _ (by rfl) _ _ _ (by rfl) (n0 + 2) 25 i0 _ 4 72 Tryd.underlying22 hi0 hz0 hz1 hz2 rfl (by omega) (.slice pV t.len cV) t.len xs (by rfl) (hown1.alloc _) ⟨w1.heap.size, 0, none⟩ 1 1 [.int .u8 k1, .string x1, .slice p3 l1.len c3, .slice p4 f1.len c4] (by rfl) (by rfl) (World.news_of_block (cs := #[.int .u8 k1, .string x1, .slice p3 l1.len c3, .slice p4 f1.len c4]) (t := 25) (fr := (0, 0)) (heap_alloc_new w1 _)) (by simp [Value.oneCell']) (by omega) hn1 hn2 (by simp; omega) (w1.heap.size + 1) (by simp) ?_
        intro gg cap w2 hown2 hgrow hat hlt2
        have HA := Lib.hid (VRw.append (w2 := w2) (g := gg) (cap := cap) (n0 := n0) hBn (Nat.le_of_eq hnw) HL.out.1 ho hr HG1.out H1.out.1 H2.out.1 H2.out.2 H1.out.2.2 hown2 hgrow hat)
        have k2 : w2.heap[n0 + 1]? = w1.heap[n0 + 1]? := (hgrow.block (n0 + 1) (by rw [World.size_alloc]; omega) (fun e => by have := (ho.lt _ e.symm).1; omega)).trans d6
        have d8 := (cell_heap 2 k2).trans d5
        have f8 := ((HL.out.1.out.same (k2.trans (HG1.out.block _ HL.out.1.out.lt (fun e => by cases e; omega)))).free 2)
        clear hown2 hgrow hat k2
        refine hK.out _ _ d8 ?_
        try simp only [Act.put, List.setIfInBounds_toArray, List.set_cons_zero, List.set_cons_succ]
        clear hK K
        refine wpAnyZ_take (v := ?_) 8 rfl (by kernel_rfl) (by kernel_rfl) (by kernel_rfl) (fun _ _ _ h => h) (by kernel_rfl) (by kernel_rfl) (by decide) d8 (by rfl) (fun W hSW => ?_) ?_
        rotate_left
        · have s1 := hSW
          go_simp
          try with_reducible rfl
        try simp only [Act.put, List.setIfInBounds_toArray, List.set_cons_zero, List.set_cons_succ]
        refine wpAnyZ_end (by kernel_rfl) rfl (by kernel_rfl) (fun K hK => ?_)
        go_simp
        refine hK.out _ _ ?_
        clear hK K
        generalize hW3 : World.setCell w2 ⟨n0 + 1, 2, none⟩ _ = W3 at *
        clear d2 d5 d6 d7 d8 f8 hown1 ho hr IH hW3 H2 HG1 hz6
        obtain ⟨hvl, hfx, hf, hrle⟩ := HX.out
        obtain ⟨hst1, htree, -⟩ := H1.out
        have HV3 := Lib.hid HA.out.2
        have q1le : r.2.1 ≤ s.size := hrle.2
        have q1ge : q ≤ r.2.1 := hrle.1
        by_cases he1 : r.2.2 = 0
        · have hL3 := HA.out.1
          rw [he1] at hL3
          have htr := htree he1
          have hv2 : vl s m q = (r.1, J.bl s r.2.1 0, 0) := by rw [hvl]; unfold ar; rw [if_pos he1]
          have hlo : lo (vl s m) q t = (t.snoc ⟨#[]⟩ k1 x1 l1 f1, J.bl s r.2.1 0, 0) := by
            unfold lo
            rw [hv2, ← htr]
            exact if_pos rfl
          obtain ⟨f', rfl⟩ : ∃ f', f = f' + 1 := ⟨f - 1, by omega⟩
          have hfi : fin = itG s 93 (lo (vl s m)) (f' + 1) (J.bl s r.2.1 0) (t.snoc ⟨#[]⟩ k1 x1 l1 f1) := by
            rw [hfx]; unfold ifz; rw [hlo]; exact if_pos rfl
          have hb3 := HBL.out 0 r.2.1
          have hb4 := J.bl_le (s := s) 0 q1le
          have HL3 := Lib.hid hL3
          have HFI := Lib.hid (And.intro hfi hf)
          have q2le : J.bl s r.2.1 0 ≤ s.size := hb4.2
          have q2ge : q ≤ J.bl s r.2.1 0 := by omega
          have hlen := V.T.snoc_len t ⟨#[]⟩ k1 x1 l1 f1
          generalize t.snoc ⟨#[]⟩ k1 x1 l1 f1 = t2 at *
          clear htree hvl hfx hf hrle hst1 H1 HA HX hL3 htr hv2 hlo hfi hb4 he1
          generalize J.bl s r.2.1 0 = q2 at *
          generalize r.2.1 = q1 at *
          go_wp2_with fail
          refine (hb3 _ q1le HL3.out.st).mono ?_
          rintro en w5 ⟨⟨vc, rfl⟩, h5, g5⟩
          have HL5 := Lib.hid (HL3.out.step hBn h5 g5)
          have HV5 := Lib.hid (HV3.out.keep (by omega) g5)
          clear h5 g5 HL3 HV3 hb3
          have c1 := HL5.out.st.c1
          have f1 := HL5.out.st.f1
          cases his : J.is s q2 0 93
          · have hi := HIS.out 0 93 q2 w5 HL5.out.st
            rw [his] at hi
            go_wp2_with fail
            refine hi.mono ?_
            rintro en w6 ⟨rfl, jq, rfl⟩
            have HL6 := Lib.hid (HL5.out.step hBn (HL5.out.st.drewN jq) (grownBy_drewN _ _ _))
            have HV6 := Lib.hid (HV5.out.keep (B := B) (by omega) (grownBy_drewN _ jq _))
            clear HL5 HV5 hi c1 f1
            generalize w5.drewN jq = W6 at *
            have ht4 := HTK.out 0 44 q2 W6 q2le HL6.out.st
            cases h44 : J.is s q2 0 44
            · have HE := Lib.hid (show fin.2 = (q2, 30) by rw [HFI.out.1]; unfold itG; rw [if_neg (by rw [h44]; decide), if_neg (by rw [his]; decide)])
              rw [J.tk_no h44] at ht4
              clear h44 his
              have hb7 := HBL.out 30 q2
              rw [J.bl_wrong s q2 (by decide)] at hb7
              go_wp2_with fail
              refine ht4.mono ?_
              rintro en w7 ⟨⟨vd, rfl⟩, h7, g7⟩
              go_wp2_with fail
              refine (hb7 _ q2le h7).mono ?_
              rintro en w8 ⟨⟨ve, rfl⟩, h8, g8⟩
              have HL8 := Lib.hid (HL6.out.step hBn h8 (grown_trans g7 g8))
              have HV8 := Lib.hid (HV6.out.keep (by omega) (grown_trans g7 g8))
              clear h7 g7 h8 g8 HL6 HV6 ht4 hb7
              go_wp2_with fail
              go_roundw
              case rel => exact ⟨q2, 30, _, t2, q2le, Lib.hid ⟨HL8.out, HV8.out, by omega, fun h => absurd h (by decide), fun _ => HE.out⟩⟩
              case measure => rw [measR_eq HL8.out.st, HM0.out, if_neg (by decide)]; omega
            · have q3 := (J.of_is h44).2.1
              have HE := Lib.hid (show fin = ifz s 93 (lo (vl s m)) f' (q2 + 1) t2 by rw [HFI.out.1, itG_comma h44]; rfl)
              rw [J.tk_yes h44] at ht4
              clear h44 his
              have hb7 := HBL.out 0 (q2 + 1)
              have hb8 := J.bl_le (s := s) (p := q2 + 1) 0 q3
              have HE2 := Lib.hid (show fin = ifz s 93 (lo (vl s m)) f' (J.bl s (q2 + 1) 0) t2 by rw [HE.out]; unfold ifz; rw [lo_bl (by have := HM.out; omega) q3])
              have HB9 := Lib.hid (bl_again s (q2 + 1) 0 q3)
              generalize J.bl s (q2 + 1) 0 = q4 at *
              go_wp2_with fail
              refine ht4.mono ?_
              rintro en w7 ⟨⟨vd, rfl⟩, h7, g7⟩
              go_wp2_with fail
              refine (hb7 _ q3 h7).mono ?_
              rintro en w8 ⟨⟨ve, rfl⟩, h8, g8⟩
              have HL8 := Lib.hid (HL6.out.step hBn h8 (grown_trans g7 g8))
              have HV8 := Lib.hid (HV6.out.keep (by omega) (grown_trans g7 g8))
              clear h7 g7 h8 g8 HL6 HV6 ht4 hb7
              go_wp2_with fail
              go_roundw
              case rel => exact ⟨q4, 0, _, t2, hb8.2, Lib.hid ⟨HL8.out, HV8.out, by omega, fun _ => ⟨by omega, HB9.out, f', by have := HFI.out.2; omega, HE2.out⟩, fun h => absurd rfl h⟩⟩
              case measure => rw [measR_eq HL8.out.st, HM0.out, if_pos rfl]; omega
          · have hi := HIS.out 0 93 q2 w5 HL5.out.st
            rw [his] at hi
            have n44 : J.is s q2 0 44 = false := J.is_other 0 (by have := (J.of_is his).2.2; omega)
            have HF9 := Lib.hid (show fin = (t2, q2 + 1, 0) by rw [HFI.out.1]; unfold itG; rw [if_neg (by rw [n44]; decide), if_pos his])
            clear his n44
            go_wp2_with fail
            refine hi.mono ?_
            rintro en w6 ⟨rfl, jq, rfl⟩
            go_upto_region 12 with fail
            generalize hW7 : World.setCell _ ⟨B, 1, none⟩ _ = W7
            have gW7 : w5.grownBy W7 (some B) := by rw [← hW7]; exact grown_trans (grownBy_drewN _ _ _) (grownBy_set _ _ _ _)
            have HL7 := Lib.hid (HL5.out.step hBn (q' := q2 + 1) (e' := 0) (by rw [← hW7]; exact (HL5.out.st.drewN jq).set1 (q2 + 1)) gW7)
            have HV7 := Lib.hid (HV5.out.keep (by omega) gW7)
            clear hW7 gW7 HL5 HV5 c1 f1 hi
            obtain ⟨xs7, ho7, hr7⟩ := HV7.out
            have HS7 := Lib.hid (RP.slice hr7 ho7 (Nat.le_refl _) (by omega))
            clear ho7 hr7
            obtain ⟨o0, o1, o2, o3⟩ := HL7.out.out.box
            obtain ⟨z0, z1, z2, z3⟩ := HL7.out.res.box
            have r0 := HL7.out.res.free 0
            have r1 := HL7.out.res.free 1
            have r2 := HL7.out.res.free 2
            have r3 := HL7.out.res.free 3
            obtain ⟨b1, b2, b3⟩ := HL7.out.res.all (.int .u8 5) (.string ⟨#[]⟩) (.slice (some ⟨gg, 0, none⟩) (t.len + 1) cap) (.slice none 0 0)
            obtain ⟨x0, x1, x2, x3⟩ := b1.box
            have HFN := Lib.hid (HL7.out.fin (f := .nil) (l := t2) (r := ((5, ⟨#[]⟩, fin.1, .nil), fin.2)) hBn hnw (by decide) (HS7.out.mono (fun j hj _ => by omega)) (HS.nil _ _ _) (by rw [HF9.out]) (fun _ => by rw [HF9.out]))
            go_wp2_with fail
            refine bodyPost_ret (v := .agg #[.int .u8 5, .string ⟨#[]⟩, .slice (some ⟨gg, 0, none⟩) (t.len + 1) cap, .slice none 0 0]) (by simp [results, Tryd.results16, go_sem, x0, x1, x2, x3]) rfl HFN.out
        · have hL3 := HA.out.1
          have hv2 : vl s m q = r := by rw [hvl]; unfold ar; rw [if_neg he1]
          have HE := Lib.hid (show fin.2 = (r.2.1, r.2.2) by rw [hfx]; unfold ifz lo; rw [hv2, if_neg he1, if_neg he1])
          have hlen := V.T.snoc_len t ⟨#[]⟩ k1 x1 l1 f1
          generalize t.snoc ⟨#[]⟩ k1 x1 l1 f1 = t2 at *
          have HL3 := Lib.hid hL3
          clear htree hvl hfx hf hrle hst1 H1 HA HX hL3 hv2
          generalize r.2.1 = q1 at *
          generalize r.2.2 = e1 at *
          have hb3 := HBL.out e1 q1
          rw [J.bl_wrong s q1 he1] at hb3
          have hi3 := HIS.out e1 93 q1
          rw [J.is_wrong q1 93 he1] at hi3
          have ht3 := HTK.out e1 44 q1
          rw [J.tk_wrong 44 he1] at ht3
          have HE1 := Lib.hid he1
          clear he1
          go_wp2_with fail
          refine (hb3 _ q1le HL3.out.st).mono ?_
          rintro en w5 ⟨⟨vc, rfl⟩, h5, g5⟩
          go_wp2_with fail
          refine (hi3 _ h5).mono ?_
          rintro en w6 ⟨rfl, jq, rfl⟩
          go_wp2_with fail
          refine (ht3 _ q1le (h5.drewN jq)).mono ?_
          rintro en w7 ⟨⟨vd, rfl⟩, h7, g7⟩
          go_wp2_with fail
          refine (hb3 _ q1le h7).mono ?_
          rintro en w8 ⟨⟨ve, rfl⟩, h8, g8⟩
          have g58 := grown_trans g5 (grown_trans (grownBy_drewN w5 jq _) (grown_trans g7 g8))
          have HL8 := Lib.hid (HL3.out.step hBn h8 g58)
          have HV8 := Lib.hid (HV3.out.keep (by omega) g58)
          clear h5 g5 h7 g7 h8 g8 g58 HL3 HV3 hb3 hi3 ht3
          go_wp2_with fail
          go_roundw
          case rel => exact ⟨q1, e1, _, t2, q1le, Lib.hid ⟨HL8.out, HV8.out, by omega, fun h => absurd h HE1.out, fun _ => HE.out⟩⟩
          case measure => rw [measR_eq HL8.out.st, HM0.out, if_neg HE1.out]; omega
      · have e0 : ((e : Int) == 0) = false := by simp; omega
        obtain ⟨hL, ⟨xs, ho, hr⟩, htl, -, hz⟩ := HW.out
        have HE := Lib.hid (And.intro he (hz he))
        obtain ⟨pV, cV, rfl, hc1, hc2⟩ := own_slice ho
        have HS7 := Lib.hid (RP.slice hr ho (Nat.le_refl _) (by omega))
        have HL7 := Lib.hid hL
        clear hL ho hr htl hz he HW hc1 hc2
        obtain ⟨o0, o1, o2, o3⟩ := HL7.out.out.box
        obtain ⟨z0, z1, z2, z3⟩ := HL7.out.res.box
        have r0 := HL7.out.res.free 0
        have r1 := HL7.out.res.free 1
        have r2 := HL7.out.res.free 2
        have r3 := HL7.out.res.free 3
        obtain ⟨b1, b2, b3⟩ := HL7.out.res.all (.int .u8 5) (.string ⟨#[]⟩) (.slice pV t.len cV) (.slice none 0 0)
        obtain ⟨x0, x1, x2, x3⟩ := b1.box
        have HFN := Lib.hid (HL7.out.fin (f := .nil) (l := t) (r := ((5, ⟨#[]⟩, fin.1, .nil), fin.2)) hBn hnw (by decide) (HS7.out.mono (fun j hj _ => by omega)) (HS.nil _ _ _) HE.out.2 (fun h => by have h' : fin.2.2 = 0 := h; rw [HE.out.2] at h'; exact absurd h' HE.out.1))
        go_wp2_with fail
        refine bodyPost_ret (v := .agg #[.int .u8 5, .string ⟨#[]⟩, .slice pV t.len cV, .slice none 0 0]) (by simp [results, Tryd.results16, go_sem, x0, x1, x2, x3]) rfl HFN.out
  · have hi := HIS.out 0 93 q0 w2 HL2.out.st
    rw [his] at hi
    have HF2 := Lib.hid (show fin = (.nil, q0 + 1, 0) by rw [HF.out]; unfold itB; rw [if_pos his])
    clear his HF
    go_wp2_with fail
    refine hi.mono ?_
    rintro en w3 ⟨rfl, jq, rfl⟩
    go_upto_region 6 with fail
    generalize hW5 : World.setCell _ ⟨B, 1, none⟩ _ = W5
    have HL5 := Lib.hid (show LB s B n0 (q0 + 1) 0 (.int .u8 5) (.slice none 0 0) (.slice none 0 0) w W5 from HL2.out.step hBn (by rw [← hW5]; exact (HL2.out.st.drewN jq).set1 (q0 + 1)) (by rw [← hW5]; exact grown_trans (grownBy_drewN _ _ _) (grownBy_set _ _ _ _)))
    clear hW5 HL2 c1 f1 hi
    obtain ⟨o0, o1, o2, o3⟩ := HL5.out.out.box
    obtain ⟨z0, z1, z2, z3⟩ := HL5.out.res.box
    have r0 := HL5.out.res.free 0
    have r1 := HL5.out.res.free 1
    have r2 := HL5.out.res.free 2
    have r3 := HL5.out.res.free 3
    obtain ⟨b1, b2, b3⟩ := HL5.out.res.all (.int .u8 5) (.string ⟨#[]⟩) (.slice none 0 0) (.slice none 0 0)
    obtain ⟨x0, x1, x2, x3⟩ := b1.box
    have HFN := Lib.hid (HL5.out.fin (f := .nil) (l := .nil) (r := ((5, ⟨#[]⟩, fin.1, .nil), fin.2)) hBn hnw (by decide) (HS.nil _ _ _) (HS.nil _ _ _) (by rw [HF2.out]) (fun _ => by rw [HF2.out]))
    go_wp2_with fail
    refine bodyPost_ret (v := .agg #[.int .u8 5, .string ⟨#[]⟩, .slice none 0 0, .slice none 0 0]) (by simp [results, Tryd.results16, go_sem, x0, x1, x2, x3]) rfl HFN.out
end Go.Proofs.YtbdpghmpdghnbaaDoor
