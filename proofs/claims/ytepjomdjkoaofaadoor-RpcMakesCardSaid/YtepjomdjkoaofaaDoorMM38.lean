/- Any ID, method, params, result, code and text are made the messages that the chapter says, in memory of their own: the given law, walked. Conditions: such as Go can hold; the library's tables as its text lays them. -/
import Derived.Test.YtepjomdjkoaofaaDoorMM37
namespace Go.Proofs.YtepjomdjkoaofaaDoor
open Go Go.RowKit Go.Lib

set_option maxHeartbeats 8000000 in
set_option maxRecDepth 100000 in
theorem makesLaw_any (k : Nat) (x : ByteArray) (v u : Value) (l f : V.T) (k2 : Nat) (x2 : ByteArray) (v2 u2 : Value) (l2 f2 : V.T) (s : ByteArray) (n : Int) (A A2 : Nat → Prop) (w : World) (hk : Fit ⟨#[]⟩ k x) (hk2 : Fit ⟨#[]⟩ k2 x2) (hl : HS w A 0 v l) (hf : HS w A 1 u f) (hl2 : HS w A2 0 v2 l2) (hf2 : HS w A2 1 u2 f2)
    (hn : -9223372036854775808 ≤ n ∧ n ≤ 9223372036854775807) (hs : s.size ≤ 9223372036854775807) (hP : PowTab w) (hT : Tabs w) :
    Calls Tryd.prog 4 #[.agg #[.int .u8 k, .string x, v, u], .agg #[.int .u8 k2, .string x2, v2, u2], .string s, .int .i64 n] w (Bools true w) := by
  have H0 := Lib.hid (MkA.start (k := k) (x := x) (k2 := k2) (x2 := x2) hl hf hl2 hf2)
  obtain ⟨p, c, rfl, -⟩ := hl.len
  obtain ⟨q, d, rfl, -⟩ := hf.len
  obtain ⟨p', c', rfl, -⟩ := hl2.len
  obtain ⟨q', d', rfl, -⟩ := hf2.len
  have GR := Lib.hid (fun W b (h : MkA w k x (.slice p l.len c) (.slice q f.len d) l f k2 x2 (.slice p' l2.len c') (.slice q' f2.len d') l2 f2 W) (h8 : Two8 b k x (.slice p l.len c) (.slice q f.len d) k2 x2 (.slice p' l2.len c') (.slice q' f2.len d') W) => great6_any b 2 k x _ _ l f k2 x2 _ _ l2 f2 (fun b => b < w.heap.size) (fun b => b < w.heap.size) W (by decide) h8 h.l h.f h.l2 h.f2)
  have TV := Lib.hid (fun W (h : MkA w k x (.slice p l.len c) (.slice q f.len d) l f k2 x2 (.slice p' l2.len c') (.slice q' f2.len d') l2 f2 W) (hm : l2.size + f2.size ≤ 1000000) => twin_any (l2.size + f2.size + 1) k2 x2 (.slice p' l2.len c') (.slice q' f2.len d') l2 f2 (fun b => b < w.heap.size) W (Nat.lt_succ_self _) hm h.l2 h.f2)
  have TI := Lib.hid (fun W (h : MkA w k x (.slice p l.len c) (.slice q f.len d) l f k2 x2 (.slice p' l2.len c') (.slice q' f2.len d') l2 f2 W) (hm : l.size + f.size ≤ 1000000) => twin_any (l.size + f.size + 1) k x (.slice p l.len c) (.slice q f.len d) l f (fun b => b < w.heap.size) W (Nat.lt_succ_self _) hm h.l h.f)
  have C0 := Lib.hid (fun W N m9 m10 vm um vo uo (h : MkB w N k x (.slice p l.len c) (.slice q f.len d) l f k2 x2 (.slice p' l2.len c') (.slice q' f2.len d') l2 f2 m9 m10 vm um vo uo W) (hs : s.size ≤ 10000) => request_any s k x vo uo l f k2 x2 vm um l2 f2 (fun b => b < N) (fun b => b < N) W hs hk hk2 h.lo h.fo h.lm h.fm (tabs_below hT h.a.below))
  have C1 := Lib.hid (fun W N m9 m10 vm um vo uo (h : MkB w N k x (.slice p l.len c) (.slice q f.len d) l f k2 x2 (.slice p' l2.len c') (.slice q' f2.len d') l2 f2 m9 m10 vm um vo uo W) (hs : s.size ≤ 10000) => notice_any s k2 x2 vm um l2 f2 (fun b => b < N) W hk2 hs h.lm h.fm (tabs_below hT h.a.below))
  have C2 := Lib.hid (fun W N m9 m10 vm um vo uo (h : MkB w N k x (.slice p l.len c) (.slice q f.len d) l f k2 x2 (.slice p' l2.len c') (.slice q' f2.len d') l2 f2 m9 m10 vm um vo uo W) => reply_any k x vo uo l f k2 x2 vm um l2 f2 (fun b => b < N) (fun b => b < N) W hk hk2 h.lo h.fo h.lm h.fm (tabs_below hT h.a.below))
  have C3 := Lib.hid (fun W N m9 m10 vm um vo uo (h : MkB w N k x (.slice p l.len c) (.slice q f.len d) l f k2 x2 (.slice p' l2.len c') (.slice q' f2.len d') l2 f2 m9 m10 vm um vo uo W) (hs : s.size ≤ 10000) => fail_any k x vo uo l f (fun b => b < N) n s W hk h.lo h.fo hn hs (pow_on hP h.a.below) (tabs_below hT h.a.below))
  have R0 := Lib.hid (fun W (h : MkA w k x (.slice p l.len c) (.slice q f.len d) l f k2 x2 (.slice p' l2.len c') (.slice q' f2.len d') l2 f2 W) (hs : s.size ≤ 10000) (hm : l.size + f.size ≤ 1000000 ∧ l2.size + f2.size ≤ 1000000) => refRequest_any s k x (.slice p l.len c) (.slice q f.len d) l f k2 x2 (.slice p' l2.len c') (.slice q' f2.len d') l2 f2 _ _ W hs hk hk2 h.l h.f h.l2 h.f2 hm.1 hm.2)
  have R1 := Lib.hid (fun W (h : MkA w k x (.slice p l.len c) (.slice q f.len d) l f k2 x2 (.slice p' l2.len c') (.slice q' f2.len d') l2 f2 W) (hs : s.size ≤ 10000) (hm : l.size + f.size ≤ 1000000 ∧ l2.size + f2.size ≤ 1000000) => (refNotice_any s k2 x2 (.slice p' l2.len c') (.slice q' f2.len d') l2 f2 _ W hs hk2 h.l2 h.f2 hm.2).mono (fun _ _ h => msg_own h))
  have R2 := Lib.hid (fun W (h : MkA w k x (.slice p l.len c) (.slice q f.len d) l f k2 x2 (.slice p' l2.len c') (.slice q' f2.len d') l2 f2 W) (hm : l.size + f.size ≤ 1000000 ∧ l2.size + f2.size ≤ 1000000) => refReply_any k x (.slice p l.len c) (.slice q f.len d) l f k2 x2 (.slice p' l2.len c') (.slice q' f2.len d') l2 f2 _ _ W hk hk2 h.l h.f h.l2 h.f2 hm.1 hm.2)
  have R3 := Lib.hid (fun W (h : MkA w k x (.slice p l.len c) (.slice q f.len d) l f k2 x2 (.slice p' l2.len c') (.slice q' f2.len d') l2 f2 W) (hs : s.size ≤ 10000) (hm : l.size + f.size ≤ 1000000 ∧ l2.size + f2.size ≤ 1000000) => refFail_any k x (.slice p l.len c) (.slice q f.len d) l f _ n s W hk h.l h.f hm.1 hn hs)
  have hsa := fun (W : World) (k : Nat) (x : ByteArray) (l f : V.T) (v u v' u' : Value) (A A' : Nat → Prop) (h1 : HS W A 0 v l) (h2 : HS W A 1 u f) (h3 : HS W A' 0 v' l) (h4 : HS W A' 1 u' f) => same_any (l.size + f.size + 1) k x v u l f k x v' u' l f A A' W (Nat.lt_succ_self _) h1 h2 h3 h4
  simp only [V.veq_self] at hsa
  have HSA := Lib.hid hsa
  have HSS := Lib.hid hs
  clear hl hf hl2 hf2 hk hk2 hn hP hT hsa
  obtain ⟨x0, x1, y2, x3⟩ := H0.out.b0.box
  obtain ⟨z0, z1, z2, z3⟩ := H0.out.b1.box
  have hN := two_size w (.cells #[.int .u8 k, .string x, .slice p l.len c, .slice q f.len d] 25) (.cells #[.int .u8 k2, .string x2, .slice p' l2.len c', .slice q' f2.len d'] 25)
  by_cases hm : 10000 < s.size
  · have tm : decide ((10000 : Int) < (s.size : Int)) = true := decide_eq_true (by omega)
    clear hm hs
    go_enter Tryd.func4, Tryd.ntmps4
    go_wp2_with fail
    generalize (w.alloc (.cells #[.int .u8 k, .string x, .slice p l.len c, .slice q f.len d] 25)).alloc (.cells #[.int .u8 k2, .string x2, .slice p' l2.len c', .slice q' f2.len d'] 25) = W0 at *
    have hB := (Below.refl W0.heap.size W0).alloc (Nat.le_refl _) (.cells #[.int .u8 k, .string x, .slice p l.len c, .slice q f.len d, .int .u8 k2, .string x2, .slice p' l2.len c', .slice q' f2.len d'] 25)
    have h8 := two8_new W0 k x (.slice p l.len c) (.slice q f.len d) k2 x2 (.slice p' l2.len c') (.slice q' f2.len d')
    rw [hN] at h8
    refine (GR.out _ _ (H0.out.on hB) h8).mono ?_
    rintro e w1 ⟨r, rfl, -, hB1⟩
    have HF := Lib.hid ((H0.out.on hB).on hB1).below
    clear hB hB1 h8 x0 x1 y2 x3 z0 z1 z2 z3
    cases r
    · go_wp2_with fail
      go_ret
      exact ⟨rfl, HF.out⟩
    · go_wp2_with fail
      go_ret
      exact ⟨rfl, HF.out⟩
  have tm : decide ((10000 : Int) < (s.size : Int)) = false := decide_eq_false (by omega)
  have HM := Lib.hid (show s.size ≤ 10000 by omega)
  clear hm hs
  go_enter Tryd.func4, Tryd.ntmps4
  go_wp2_with fail
  generalize (w.alloc (.cells #[.int .u8 k, .string x, .slice p l.len c, .slice q f.len d] 25)).alloc (.cells #[.int .u8 k2, .string x2, .slice p' l2.len c', .slice q' f2.len d'] 25) = W0 at *
  have hB := (Below.refl W0.heap.size W0).alloc (Nat.le_refl _) (.cells #[.int .u8 k, .string x, .slice p l.len c, .slice q f.len d, .int .u8 k2, .string x2, .slice p' l2.len c', .slice q' f2.len d'] 25)
  have h8 := two8_new W0 k x (.slice p l.len c) (.slice q f.len d) k2 x2 (.slice p' l2.len c') (.slice q' f2.len d')
  rw [hN] at h8
  refine (GR.out _ _ (H0.out.on hB) h8).mono ?_
  rintro e w1 ⟨r, rfl, hr, hB1⟩
  have H1 := Lib.hid ((H0.out.on hB).on hB1)
  have HR := Lib.hid hr
  clear hB hB1 h8 x0 x1 y2 x3 z0 z1 z2 z3 H0 hN hr
  cases r
  case true =>
    go_wp2_with fail
    go_ret
    exact ⟨rfl, H1.out.below⟩
  case false =>
    have HZ := Lib.hid (show l.size + f.size ≤ 1000000 ∧ l2.size + f2.size ≤ 1000000 by have := HR.out rfl; omega)
    clear HR
    go_wp2_with fail
    have H2 := Lib.hid (H1.out.on (Below.refl w1.heap.size w1).drew)
    clear H1
    refine wp_region_late (S := fun X => MkA w k x (.slice p l.len c) (.slice q f.len d) l f k2 x2 (.slice p' l2.len c') (.slice q' f2.len d') l2 f2 X) (zs := [6, 7]) (by kernel_rfl) ?_
    refine wpAnyL_take (v := ?_) 0 rfl (by kernel_rfl) (by kernel_rfl) (by kernel_rfl) (fun _ _ _ h => h) (by kernel_rfl) (by kernel_rfl) H2.out (by rfl) (fun X hX => ?_) ?_
    rotate_left
    · obtain ⟨s0, s1, s2, s3⟩ := hX.b1.box
      go_simp
      try with_reducible rfl
    change wpAnyL _ _ _ _ _ _ _ _ (Act.put _ (some 24) _) _
    try simp only [Act.put, List.setIfInBounds_toArray, List.set_cons_zero, List.set_cons_succ]
    refine wpAnyL_take (v := ?_) 2 rfl (by kernel_rfl) (by kernel_rfl) (by kernel_rfl) (fun _ _ _ h => h) (by kernel_rfl) (by kernel_rfl) H2.out (by rfl) (fun X hX => ?_) ?_
    rotate_left
    · obtain ⟨s0, s1, s2, s3⟩ := hX.b0.box
      go_simp
      try with_reducible rfl
    change wpAnyL _ _ _ _ _ _ _ _ (Act.put _ (some 26) _) _
    try simp only [Act.put, List.setIfInBounds_toArray, List.set_cons_zero, List.set_cons_succ]
    generalize w1.drew = W2 at *
    refine wpAnyL_named (fun A0 hA0 => ?_)
    refine wpAnyL_inv (I := fun listed a W => ∃ (c' : Nat) (xx : Nat → Bool) (r : Nat → Value) (b lo hi : Nat → Nat) (ct : Nat → C4), c' ≤ 2 ∧ listed = #[true, decide (0 < c'), true, decide (1 < c'), xx 0, xx 1, false, false] ∧ a = puts A0 [(25, rv c' r 0), (27, rv c' r 1), (9, pv xx b 0), (10, pv xx b 1)] ∧ BxSt W2 W2.heap.size (RKV AR (twoJ k2 k) (twoJ x2 x) (twoJ l2 l) (twoJ f2 f)) c' xx r b lo hi ct W) (by decide +kernel) (by decide +kernel) ?_ ?_ ?_ ?_ 6 _ _ _ (closed_of (by decide +kernel)) ?_ (by rfl)
    · rintro _ _ _ ⟨c', xx, r, b, lo, hi, ct, hc, rfl, rfl, h⟩
      rfl
    · rintro _ _ _ ⟨c', xx, r, b, lo, hi, ct, hc, rfl, rfl, h⟩
      exact ⟨6, (by show (6 : Nat) < 8; decide), rfl⟩
    · rintro _ _ W i o ⟨c', xx, r, b, lo, hi, ct, hc, rfl, rfl, h⟩ hi hz ho K' hK
      have hS := Lib.hid (H2.out.on h.below)
      have HBX := Lib.hid h
      obtain ⟨hun, o', ho', hall⟩ := mem_ready.1 hi
      have hlt : i < 8 := (Array.getElem?_eq_some_iff.1 ho).1
      have hdep : ∀ j, j ∈ deps .any _ i → _ := ready_deps hi
      clear hi h hall ho'
      obtain rfl | rfl | rfl | rfl | rfl | rfl | rfl | rfl : i = 0 ∨ i = 1 ∨ i = 2 ∨ i = 3 ∨ i = 4 ∨ i = 5 ∨ i = 6 ∨ i = 7 := by omega
      · cases hun
      · obtain rfl : c' = 0 := by
          have : decide (0 < c') = false := hun
          have := of_decide_eq_false this
          omega
        obtain rfl := Option.some.inj ho
        subst hA0
        simp only [puts, Act.put, List.setIfInBounds_toArray, List.set_cons_zero, List.set_cons_succ]
        go_simp
        go_at_call 10
        (with_reducible refine (TV.out _ hS.out HZ.out.2).mono ?_)
        rintro e w3 hres
        obtain ⟨v3, rfl, hr3, hB3⟩ := rkv_own (K := twoJ k2 k) (X := twoJ x2 x) (L := twoJ l2 l) (F := twoJ f2 f) (j := 0) hres
        have q0 : rv 1 (upd r 0 v3) 0 = v3 := rfl
        have q1 : rv 1 (upd r 0 v3) 1 = rv 0 r 1 := rfl
        refine hK.out _ _ (hS.out.on hB3) ⟨1, xx, upd r 0 v3, b, upd lo 0 W.heap.size, upd hi 0 w3.heap.size, ct, by decide, ?_, ?_, HBX.out.call (ar_keep _ _ _ _) hB3 hr3⟩
        · simp only [List.setIfInBounds_toArray, List.set_cons_zero, List.set_cons_succ]
          rfl
        · simp only [puts, Act.put, List.setIfInBounds_toArray, List.set_cons_zero, List.set_cons_succ, q0, q1]
      · cases hun
      · obtain rfl : c' = 1 := by
          have h1 : decide (1 < c') = false := hun
          have h2 : decide (0 < c') = true := hdep 1 (by decide +kernel)
          have := of_decide_eq_false h1
          have := of_decide_eq_true h2
          omega
        obtain rfl := Option.some.inj ho
        subst hA0
        simp only [puts, Act.put, List.setIfInBounds_toArray, List.set_cons_zero, List.set_cons_succ]
        go_simp
        go_at_call 10
        (with_reducible refine (TI.out _ hS.out HZ.out.1).mono ?_)
        rintro e w3 hres
        obtain ⟨v3, rfl, hr3, hB3⟩ := rkv_own (K := twoJ k2 k) (X := twoJ x2 x) (L := twoJ l2 l) (F := twoJ f2 f) (j := 1) hres
        have q0 : rv 2 (upd r 1 v3) 0 = rv 1 r 0 := rfl
        have q1 : rv 2 (upd r 1 v3) 1 = v3 := rfl
        refine hK.out _ _ (hS.out.on hB3) ⟨2, xx, upd r 1 v3, b, upd lo 1 W.heap.size, upd hi 1 w3.heap.size, ct, by decide, ?_, ?_, HBX.out.call (ar_keep _ _ _ _) hB3 hr3⟩
        · simp only [List.setIfInBounds_toArray, List.set_cons_zero, List.set_cons_succ]
          rfl
        · simp only [puts, Act.put, List.setIfInBounds_toArray, List.set_cons_zero, List.set_cons_succ, q0, q1]
      · obtain rfl := Option.some.inj ho
        subst hA0
        simp only [puts, Act.put, List.setIfInBounds_toArray, List.set_cons_zero, List.set_cons_succ]
        go_simp
        have q0 : pv (upd xx 0 true) (upd b 0 W.heap.size) 0 = .pointer (some ⟨W.heap.size, 0, none⟩) := rfl
        have g0 : upd xx 0 true 0 = true := rfl
        have q1 : pv (upd xx 0 true) (upd b 0 W.heap.size) 1 = pv xx b 1 := rfl
        have g1 : upd xx 0 true 1 = xx 1 := rfl
        refine hK.out _ _ (hS.out.on ((Below.refl _ _).alloc (Nat.le_refl _) _)) ⟨c', upd xx 0 true, r, upd b 0 W.heap.size, lo, hi, upd ct 0 C4.zero, hc, ?_, ?_, HBX.out.alloc (ar_keep _ _ _ _) 0⟩
        · simp only [List.setIfInBounds_toArray, List.set_cons_zero, List.set_cons_succ, q0, q1, g0, g1]
        · simp only [puts, Act.put, List.setIfInBounds_toArray, List.set_cons_zero, List.set_cons_succ, q0, q1, g0, g1]
      · obtain rfl := Option.some.inj ho
        subst hA0
        simp only [puts, Act.put, List.setIfInBounds_toArray, List.set_cons_zero, List.set_cons_succ]
        go_simp
        have q0 : pv (upd xx 1 true) (upd b 1 W.heap.size) 0 = pv xx b 0 := rfl
        have g0 : upd xx 1 true 0 = xx 0 := rfl
        have q1 : pv (upd xx 1 true) (upd b 1 W.heap.size) 1 = .pointer (some ⟨W.heap.size, 0, none⟩) := rfl
        have g1 : upd xx 1 true 1 = true := rfl
        refine hK.out _ _ (hS.out.on ((Below.refl _ _).alloc (Nat.le_refl _) _)) ⟨c', upd xx 1 true, r, upd b 1 W.heap.size, lo, hi, upd ct 1 C4.zero, hc, ?_, ?_, HBX.out.alloc (ar_keep _ _ _ _) 1⟩
        · simp only [List.setIfInBounds_toArray, List.set_cons_zero, List.set_cons_succ, q0, q1, g0, g1]
        · simp only [puts, Act.put, List.setIfInBounds_toArray, List.set_cons_zero, List.set_cons_succ, q0, q1, g0, g1]
      · cases hz
      · cases hz
    · rintro fuel _ _ W ⟨c', xx, r, b, lo, hi, ct, hc, rfl, rfl, h⟩ hfu hall
      have h1 : decide (1 < c') = true := hall 3 (by show (3 : Nat) < 8; decide) (by decide)
      have hx0 : xx 0 = true := hall 4 (by show (4 : Nat) < 8; decide) (by decide)
      have hx1 : xx 1 = true := hall 5 (by show (5 : Nat) < 8; decide) (by decide)
      obtain rfl : c' = 2 := by
        have := of_decide_eq_true h1
        omega
      clear h1
      clear hall hc
      rw [hx0, hx1] at hfu
      change fuel + 6 = 8 at hfu
      obtain rfl : fuel = 2 := by omega
      clear hfu
      obtain ⟨⟨pm, qm, em, hlm, hfm⟩, -⟩ := h.res 0 (by decide)
      obtain ⟨⟨po, qo, eo, hlo, hfo⟩, -⟩ := h.res 1 (by decide)
      have hlm : HS W (AR (lo 0) (hi 0) W) 0 pm l2 := hlm
      have hfm : HS W (AR (lo 0) (hi 0) W) 1 qm f2 := hfm
      have hlo : HS W (AR (lo 1) (hi 1) W) 0 po l := hlo
      have hfo : HS W (AR (lo 1) (hi 1) W) 1 qo f := hfo
      have em : r 0 = .agg #[.int .u8 k2, .string x2, pm, qm] := em
      have eo : r 1 = .agg #[.int .u8 k, .string x, po, qo] := eo
      obtain ⟨pm, cm, rfl, -⟩ := hlm.len
      obtain ⟨qm, dm, rfl, -⟩ := hfm.len
      obtain ⟨po, co, rfl, -⟩ := hlo.len
      obtain ⟨qo, do', rfl, -⟩ := hfo.len
      clear hlm hfm hlo hfo
      have e25 : rv 2 r 0 = .agg #[.int .u8 k2, .string x2, .slice pm l2.len cm, .slice qm f2.len dm] := em
      have e27 : rv 2 r 1 = .agg #[.int .u8 k, .string x, .slice po l.len co, .slice qo f.len do'] := eo
      have e9 : pv xx b 0 = .pointer (some ⟨b 0, 0, none⟩) := by unfold pv; rw [if_pos hx0]
      have e10 : pv xx b 1 = .pointer (some ⟨b 1, 0, none⟩) := by unfold pv; rw [if_pos hx1]
      rw [e25, e27, e9, e10, hx0, hx1]
      subst hA0
      simp only [puts, Act.put, List.setIfInBounds_toArray, List.set_cons_zero, List.set_cons_succ]
      have b9 := (h.box 0 hx0).2.1
      obtain ⟨y0, y1, y2, y3⟩ := b9.box
      have f9 := b9.free
      have HBX := Lib.hid h
      have HB9 := Lib.hid b9
      have HX := Lib.hid (And.intro hx0 hx1)
      have HE := Lib.hid (And.intro em eo)
      clear h b9 e25 e27 e9 e10 em eo
      generalize hm9 : b 0 = m9 at *
      generalize hm10 : b 1 = m10 at *
      have HM9 := Lib.hid hm9
      have HM10 := Lib.hid hm10
      clear hm9 hm10
      refine wpAnyL_op 6 (by kernel_rfl) rfl (fun K hK => ?_)
      go_simp
      refine hK.out _ _ (fun e => absurd e (by decide)) ?_
      try simp only [Act.put, List.setIfInBounds_toArray, List.set_cons_zero, List.set_cons_succ]
      clear hK K
      obtain ⟨k1, k4, k3⟩ := HB9.out.all (.int .u8 k2) (.string x2) (.slice pm l2.len cm) (.slice qm f2.len dm)
      have hw3 := set4_else W m9 (.int .u8 k2) (.string x2) (.slice pm l2.len cm) (.slice qm f2.len dm)
      generalize (((W.setCell ⟨m9, 0, none⟩ (.int .u8 k2)).setCell ⟨m9, 1, none⟩ (.string x2)).setCell ⟨m9, 2, none⟩ (.slice pm l2.len cm)).setCell ⟨m9, 3, none⟩ (.slice qm f2.len dm) = W6 at *
      have St6 := HBX.out.store (ar_keep _ _ _ _) HX.out.1 ⟨.int .u8 k2, .string x2, .slice pm l2.len cm, .slice qm f2.len dm⟩ (by rw [HM9.out]; exact k1) (by rw [HM9.out]; exact hw3) (by rw [HM9.out]; exact k3)
      clear y0 y1 y2 y3 f9 HB9 HBX k1 k3 k4 hw3
      have b10 := (St6.box 1 HX.out.2).2.1
      rw [HM10.out] at b10
      obtain ⟨y0, y1, y2, y3⟩ := b10.box
      have f10 := b10.free
      have HBX := Lib.hid St6
      have HB10 := Lib.hid b10
      clear St6 b10
      refine wpAnyL_op 7 (by kernel_rfl) rfl (fun K hK => ?_)
      go_simp
      refine hK.out _ _ (fun e => absurd e (by decide)) ?_
      try simp only [Act.put, List.setIfInBounds_toArray, List.set_cons_zero, List.set_cons_succ]
      clear hK K
      obtain ⟨k1, k4, k3⟩ := HB10.out.all (.int .u8 k) (.string x) (.slice po l.len co) (.slice qo f.len do')
      have hw3 := set4_else W6 m10 (.int .u8 k) (.string x) (.slice po l.len co) (.slice qo f.len do')
      generalize (((W6.setCell ⟨m10, 0, none⟩ (.int .u8 k)).setCell ⟨m10, 1, none⟩ (.string x)).setCell ⟨m10, 2, none⟩ (.slice po l.len co)).setCell ⟨m10, 3, none⟩ (.slice qo f.len do') = W7 at *
      have St7 := HBX.out.store (ar_keep _ _ _ _) HX.out.2 ⟨.int .u8 k, .string x, .slice po l.len co, .slice qo f.len do'⟩ (by rw [HM10.out]; exact k1) (by rw [HM10.out]; exact hw3) (by rw [HM10.out]; exact k3)
      have SB := MkB.start H2.out rfl St7 HX.out.1 HX.out.2 HE.out.1 HE.out.2 rfl rfl
      rw [HM9.out, HM10.out] at SB
      have H7 := Lib.hid (SB.on (Below.refl W7.heap.size W7).drew)
      clear y0 y1 y2 y3 f10 HB10 HBX k1 k3 k4 hw3 St7 SB HE HX HM9 HM10 H2 TV TI GR
      refine wpAnyL_end (by kernel_rfl) ?_
      go_wp2_with fail
      have hN4 : W7.heap.size = W7.drew.heap.size := rfl
      rw [hN4] at H7
      generalize requestT (U.fixS s) k x l f k2 x2 l2 f2 = T0 at *
      generalize noticeT (U.fixS s) k2 x2 l2 f2 = T1 at *
      generalize replyT k x l f k2 x2 l2 f2 = T2 at *
      generalize failT k x l f n (U.fixS s) = T3 at *
      refine wp_region_late (S := fun X => MkB w W7.drew.heap.size k x (.slice p l.len c) (.slice q f.len d) l f k2 x2 (.slice p' l2.len c') (.slice q' f2.len d') l2 f2 m9 m10 (.slice pm l2.len cm) (.slice qm f2.len dm) (.slice po l.len co) (.slice qo f.len do') X) (zs := [18, 19, 20, 21]) (by kernel_rfl) ?_
      refine wpAnyL_take (v := ?_) 0 rfl (by kernel_rfl) (by kernel_rfl) (by kernel_rfl) (fun _ _ _ h => h) (by kernel_rfl) (by kernel_rfl) H7.out (by rfl) (fun X hX => ?_) ?_
      rotate_left
      · obtain ⟨s0, s1, s2, s3⟩ := hX.b9.box; obtain ⟨t0, t1, t2, t3⟩ := hX.b10.box
        go_simp
        try with_reducible rfl
      change wpAnyL _ _ _ _ _ _ _ _ (Act.put _ (some 28) _) _
      try simp only [Act.put, List.setIfInBounds_toArray, List.set_cons_zero, List.set_cons_succ]
      refine wpAnyL_take (v := ?_) 1 rfl (by kernel_rfl) (by kernel_rfl) (by kernel_rfl) (fun _ _ _ h => h) (by kernel_rfl) (by kernel_rfl) H7.out (by rfl) (fun X hX => ?_) ?_
      rotate_left
      · obtain ⟨s0, s1, s2, s3⟩ := hX.b9.box; obtain ⟨t0, t1, t2, t3⟩ := hX.b10.box
        go_simp
        try with_reducible rfl
      change wpAnyL _ _ _ _ _ _ _ _ (Act.put _ (some 29) _) _
      try simp only [Act.put, List.setIfInBounds_toArray, List.set_cons_zero, List.set_cons_succ]
      refine wpAnyL_take (v := ?_) 2 rfl (by kernel_rfl) (by kernel_rfl) (by kernel_rfl) (fun _ _ _ h => h) (by kernel_rfl) (by kernel_rfl) H7.out (by rfl) (fun X hX => ?_) ?_
      rotate_left
      · obtain ⟨s0, s1, s2, s3⟩ := hX.b9.box; obtain ⟨t0, t1, t2, t3⟩ := hX.b10.box
        go_simp
        try with_reducible rfl
      change wpAnyL _ _ _ _ _ _ _ _ (Act.put _ (some 30) _) _
      try simp only [Act.put, List.setIfInBounds_toArray, List.set_cons_zero, List.set_cons_succ]
      refine wpAnyL_take (v := ?_) 4 rfl (by kernel_rfl) (by kernel_rfl) (by kernel_rfl) (fun _ _ _ h => h) (by kernel_rfl) (by kernel_rfl) H7.out (by rfl) (fun X hX => ?_) ?_
      rotate_left
      · obtain ⟨s0, s1, s2, s3⟩ := hX.b9.box; obtain ⟨t0, t1, t2, t3⟩ := hX.b10.box
        go_simp
        try with_reducible rfl
      change wpAnyL _ _ _ _ _ _ _ _ (Act.put _ (some 32) _) _
      try simp only [Act.put, List.setIfInBounds_toArray, List.set_cons_zero, List.set_cons_succ]
      refine wpAnyL_take (v := ?_) 5 rfl (by kernel_rfl) (by kernel_rfl) (by kernel_rfl) (fun _ _ _ h => h) (by kernel_rfl) (by kernel_rfl) H7.out (by rfl) (fun X hX => ?_) ?_
      rotate_left
      · obtain ⟨s0, s1, s2, s3⟩ := hX.b9.box; obtain ⟨t0, t1, t2, t3⟩ := hX.b10.box
        go_simp
        try with_reducible rfl
      change wpAnyL _ _ _ _ _ _ _ _ (Act.put _ (some 33) _) _
      try simp only [Act.put, List.setIfInBounds_toArray, List.set_cons_zero, List.set_cons_succ]
      refine wpAnyL_take (v := ?_) 7 rfl (by kernel_rfl) (by kernel_rfl) (by kernel_rfl) (fun _ _ _ h => h) (by kernel_rfl) (by kernel_rfl) H7.out (by rfl) (fun X hX => ?_) ?_
      rotate_left
      · obtain ⟨s0, s1, s2, s3⟩ := hX.b9.box; obtain ⟨t0, t1, t2, t3⟩ := hX.b10.box
        go_simp
        try with_reducible rfl
      change wpAnyL _ _ _ _ _ _ _ _ (Act.put _ (some 35) _) _
      try simp only [Act.put, List.setIfInBounds_toArray, List.set_cons_zero, List.set_cons_succ]
      refine wpAnyL_take (v := ?_) 8 rfl (by kernel_rfl) (by kernel_rfl) (by kernel_rfl) (fun _ _ _ h => h) (by kernel_rfl) (by kernel_rfl) H7.out (by rfl) (fun X hX => ?_) ?_
      rotate_left
      · obtain ⟨s0, s1, s2, s3⟩ := hX.b9.box; obtain ⟨t0, t1, t2, t3⟩ := hX.b10.box
        go_simp
        try with_reducible rfl
      change wpAnyL _ _ _ _ _ _ _ _ (Act.put _ (some 36) _) _
      try simp only [Act.put, List.setIfInBounds_toArray, List.set_cons_zero, List.set_cons_succ]
      refine wpAnyL_take (v := ?_) 10 rfl (by kernel_rfl) (by kernel_rfl) (by kernel_rfl) (fun _ _ _ h => h) (by kernel_rfl) (by kernel_rfl) H7.out (by rfl) (fun X hX => ?_) ?_
      rotate_left
      · obtain ⟨s0, s1, s2, s3⟩ := hX.b9.box; obtain ⟨t0, t1, t2, t3⟩ := hX.b10.box
        go_simp
        try with_reducible rfl
      change wpAnyL _ _ _ _ _ _ _ _ (Act.put _ (some 38) _) _
      try simp only [Act.put, List.setIfInBounds_toArray, List.set_cons_zero, List.set_cons_succ]
      refine wpAnyL_take (v := ?_) 11 rfl (by kernel_rfl) (by kernel_rfl) (by kernel_rfl) (fun _ _ _ h => h) (by kernel_rfl) (by kernel_rfl) H7.out (by rfl) (fun X hX => ?_) ?_
      rotate_left
      · obtain ⟨s0, s1, s2, s3⟩ := hX.b9.box; obtain ⟨t0, t1, t2, t3⟩ := hX.b10.box
        go_simp
        try with_reducible rfl
      change wpAnyL _ _ _ _ _ _ _ _ (Act.put _ (some 39) _) _
      try simp only [Act.put, List.setIfInBounds_toArray, List.set_cons_zero, List.set_cons_succ]
      refine wpAnyL_take (v := ?_) 12 rfl (by kernel_rfl) (by kernel_rfl) (by kernel_rfl) (fun _ _ _ h => h) (by kernel_rfl) (by kernel_rfl) H7.out (by rfl) (fun X hX => ?_) ?_
      rotate_left
      · obtain ⟨s0, s1, s2, s3⟩ := hX.b9.box; obtain ⟨t0, t1, t2, t3⟩ := hX.b10.box
        go_simp
        try with_reducible rfl
      change wpAnyL _ _ _ _ _ _ _ _ (Act.put _ (some 40) _) _
      try simp only [Act.put, List.setIfInBounds_toArray, List.set_cons_zero, List.set_cons_succ]
      clear hN4
      generalize W7.drew = W4 at *
      refine wpAnyL_named (fun A0 hA0 => ?_)
      refine wpAnyL_inv (I := fun listed a W => ∃ (c' : Nat) (xx : Nat → Bool) (r : Nat → Value) (b lo hi : Nat → Nat) (ct : Nat → C4), c' ≤ 4 ∧ listed = #[true, true, true, decide (0 < c'), true, true, decide (1 < c'), true, true, decide (2 < c'), true, true, true, decide (3 < c'), xx 0, xx 1, xx 2, xx 3, false, false, false, false] ∧ a = puts A0 [(31, rv c' r 0), (34, rv c' r 1), (37, rv c' r 2), (41, rv c' r 3), (11, pv xx b 0), (12, pv xx b 1), (13, pv xx b 2), (14, pv xx b 3)] ∧ BxSt W4 W4.heap.size (RKV SA (fun _ => 6) (fun _ => ⟨#[]⟩) (fun _ => .nil) (fourJ T0 T1 T2 T3)) c' xx r b lo hi ct W) (by decide +kernel) (by decide +kernel) ?_ ?_ ?_ ?_ 12 _ _ _ (closed_of (by decide +kernel)) ?_ (by rfl)
      · rintro _ _ _ ⟨c', xx, r, b, lo, hi, ct, hc, rfl, rfl, h⟩
        rfl
      · rintro _ _ _ ⟨c', xx, r, b, lo, hi, ct, hc, rfl, rfl, h⟩
        exact ⟨18, (by show (18 : Nat) < 22; decide), rfl⟩
      · rintro _ _ W i o ⟨c', xx, r, b, lo, hi, ct, hc, rfl, rfl, h⟩ hi hz ho K' hK
        have hS := Lib.hid (H7.out.low h.below)
        have HBX := Lib.hid h
        obtain ⟨hun, o', ho', hall⟩ := mem_ready.1 hi
        have hlt : i < 22 := (Array.getElem?_eq_some_iff.1 ho).1
        have hdep : ∀ j, j ∈ deps .any _ i → _ := ready_deps hi
        clear hi h hall ho'
        obtain rfl | rfl | rfl | rfl | rfl | rfl | rfl | rfl | rfl | rfl | rfl | rfl | rfl | rfl | rfl | rfl | rfl | rfl | rfl | rfl | rfl | rfl : i = 0 ∨ i = 1 ∨ i = 2 ∨ i = 3 ∨ i = 4 ∨ i = 5 ∨ i = 6 ∨ i = 7 ∨ i = 8 ∨ i = 9 ∨ i = 10 ∨ i = 11 ∨ i = 12 ∨ i = 13 ∨ i = 14 ∨ i = 15 ∨ i = 16 ∨ i = 17 ∨ i = 18 ∨ i = 19 ∨ i = 20 ∨ i = 21 := by omega
        · cases hun
        · cases hun
        · cases hun
        · obtain rfl : c' = 0 := by
            have h1 : decide (0 < c') = false := hun
            have := of_decide_eq_false h1
            omega
          obtain rfl := Option.some.inj ho
          subst hA0
          simp only [puts, Act.put, List.setIfInBounds_toArray, List.set_cons_zero, List.set_cons_succ]
          go_simp
          go_at_call 11
          (with_reducible refine (C0.out _ _ _ _ _ _ _ _ hS.out HM.out).mono ?_)
          rintro e w3 hres
          obtain ⟨v3, rfl, hr3, hB3⟩ := rkv_ownG (K := fun _ => 6) (X := fun _ => ⟨#[]⟩) (L := fun _ => .nil) (F := fourJ T0 T1 T2 T3) (j := 0) hres
          have q0 : rv 1 (upd r 0 v3) 0 = v3 := rfl
          have q1 : rv 1 (upd r 0 v3) 1 = rv 0 r 1 := rfl
          have q2 : rv 1 (upd r 0 v3) 2 = rv 0 r 2 := rfl
          have q3 : rv 1 (upd r 0 v3) 3 = rv 0 r 3 := rfl
          refine hK.out _ _ (hS.out.on hB3) ⟨1, xx, upd r 0 v3, b, upd lo 0 W.heap.size, upd hi 0 w3.heap.size, ct, by decide, ?_, ?_, HBX.out.call (sa_keep _ _ _ _) hB3 hr3⟩
          · simp only [List.setIfInBounds_toArray, List.set_cons_zero, List.set_cons_succ]
            rfl
          · simp only [puts, Act.put, List.setIfInBounds_toArray, List.set_cons_zero, List.set_cons_succ, q0, q1, q2, q3]
        · cases hun
        · cases hun
        · obtain rfl : c' = 1 := by
            have h1 : decide (1 < c') = false := hun
            have h2 : decide (0 < c') = true := hdep 3 (by decide +kernel)
            have := of_decide_eq_true h2
            have := of_decide_eq_false h1
            omega
          obtain rfl := Option.some.inj ho
          subst hA0
          simp only [puts, Act.put, List.setIfInBounds_toArray, List.set_cons_zero, List.set_cons_succ]
          go_simp
          go_at_call 12
          (with_reducible refine (C1.out _ _ _ _ _ _ _ _ hS.out HM.out).mono ?_)
          rintro e w3 hres
          obtain ⟨v3, rfl, hr3, hB3⟩ := rkv_ownG (K := fun _ => 6) (X := fun _ => ⟨#[]⟩) (L := fun _ => .nil) (F := fourJ T0 T1 T2 T3) (j := 1) hres
          have q0 : rv 2 (upd r 1 v3) 0 = rv 1 r 0 := rfl
          have q1 : rv 2 (upd r 1 v3) 1 = v3 := rfl
          have q2 : rv 2 (upd r 1 v3) 2 = rv 1 r 2 := rfl
          have q3 : rv 2 (upd r 1 v3) 3 = rv 1 r 3 := rfl
          refine hK.out _ _ (hS.out.on hB3) ⟨2, xx, upd r 1 v3, b, upd lo 1 W.heap.size, upd hi 1 w3.heap.size, ct, by decide, ?_, ?_, HBX.out.call (sa_keep _ _ _ _) hB3 hr3⟩
          · simp only [List.setIfInBounds_toArray, List.set_cons_zero, List.set_cons_succ]
            rfl
          · simp only [puts, Act.put, List.setIfInBounds_toArray, List.set_cons_zero, List.set_cons_succ, q0, q1, q2, q3]
        · cases hun
        · cases hun
        · obtain rfl : c' = 2 := by
            have h1 : decide (2 < c') = false := hun
            have h2 : decide (1 < c') = true := hdep 6 (by decide +kernel)
            have := of_decide_eq_true h2
            have := of_decide_eq_false h1
            omega
          obtain rfl := Option.some.inj ho
          subst hA0
          simp only [puts, Act.put, List.setIfInBounds_toArray, List.set_cons_zero, List.set_cons_succ]
          go_simp
          go_at_call 13
          (with_reducible refine (C2.out _ _ _ _ _ _ _ _ hS.out).mono ?_)
          rintro e w3 hres
          obtain ⟨v3, rfl, hr3, hB3⟩ := rkv_ownG (K := fun _ => 6) (X := fun _ => ⟨#[]⟩) (L := fun _ => .nil) (F := fourJ T0 T1 T2 T3) (j := 2) hres
          have q0 : rv 3 (upd r 2 v3) 0 = rv 2 r 0 := rfl
          have q1 : rv 3 (upd r 2 v3) 1 = rv 2 r 1 := rfl
          have q2 : rv 3 (upd r 2 v3) 2 = v3 := rfl
          have q3 : rv 3 (upd r 2 v3) 3 = rv 2 r 3 := rfl
          refine hK.out _ _ (hS.out.on hB3) ⟨3, xx, upd r 2 v3, b, upd lo 2 W.heap.size, upd hi 2 w3.heap.size, ct, by decide, ?_, ?_, HBX.out.call (sa_keep _ _ _ _) hB3 hr3⟩
          · simp only [List.setIfInBounds_toArray, List.set_cons_zero, List.set_cons_succ]
            rfl
          · simp only [puts, Act.put, List.setIfInBounds_toArray, List.set_cons_zero, List.set_cons_succ, q0, q1, q2, q3]
        · cases hun
        · cases hun
        · cases hun
        · obtain rfl : c' = 3 := by
            have h1 : decide (3 < c') = false := hun
            have h2 : decide (2 < c') = true := hdep 9 (by decide +kernel)
            have := of_decide_eq_true h2
            have := of_decide_eq_false h1
            omega
          obtain rfl := Option.some.inj ho
          subst hA0
          simp only [puts, Act.put, List.setIfInBounds_toArray, List.set_cons_zero, List.set_cons_succ]
          go_simp
          go_at_call 14
          (with_reducible refine (C3.out _ _ _ _ _ _ _ _ hS.out HM.out).mono ?_)
          rintro e w3 hres
          obtain ⟨v3, rfl, hr3, hB3⟩ := rkv_ownG (K := fun _ => 6) (X := fun _ => ⟨#[]⟩) (L := fun _ => .nil) (F := fourJ T0 T1 T2 T3) (j := 3) hres
          have q0 : rv 4 (upd r 3 v3) 0 = rv 3 r 0 := rfl
          have q1 : rv 4 (upd r 3 v3) 1 = rv 3 r 1 := rfl
          have q2 : rv 4 (upd r 3 v3) 2 = rv 3 r 2 := rfl
          have q3 : rv 4 (upd r 3 v3) 3 = v3 := rfl
          refine hK.out _ _ (hS.out.on hB3) ⟨4, xx, upd r 3 v3, b, upd lo 3 W.heap.size, upd hi 3 w3.heap.size, ct, by decide, ?_, ?_, HBX.out.call (sa_keep _ _ _ _) hB3 hr3⟩
          · simp only [List.setIfInBounds_toArray, List.set_cons_zero, List.set_cons_succ]
            rfl
          · simp only [puts, Act.put, List.setIfInBounds_toArray, List.set_cons_zero, List.set_cons_succ, q0, q1, q2, q3]
        · obtain rfl := Option.some.inj ho
          subst hA0
          simp only [puts, Act.put, List.setIfInBounds_toArray, List.set_cons_zero, List.set_cons_succ]
          go_simp
          have q0 : pv (upd xx 0 true) (upd b 0 W.heap.size) 0 = .pointer (some ⟨W.heap.size, 0, none⟩) := rfl
          have g0 : upd xx 0 true 0 = true := rfl
          have q1 : pv (upd xx 0 true) (upd b 0 W.heap.size) 1 = pv xx b 1 := rfl
          have g1 : upd xx 0 true 1 = xx 1 := rfl
          have q2 : pv (upd xx 0 true) (upd b 0 W.heap.size) 2 = pv xx b 2 := rfl
          have g2 : upd xx 0 true 2 = xx 2 := rfl
          have q3 : pv (upd xx 0 true) (upd b 0 W.heap.size) 3 = pv xx b 3 := rfl
          have g3 : upd xx 0 true 3 = xx 3 := rfl
          refine hK.out _ _ (hS.out.on ((Below.refl _ _).alloc (Nat.le_refl _) _)) ⟨c', upd xx 0 true, r, upd b 0 W.heap.size, lo, hi, upd ct 0 C4.zero, hc, ?_, ?_, HBX.out.alloc (sa_keep _ _ _ _) 0⟩
          · simp only [List.setIfInBounds_toArray, List.set_cons_zero, List.set_cons_succ, q0, q1, q2, q3, g0, g1, g2, g3]
          · simp only [puts, Act.put, List.setIfInBounds_toArray, List.set_cons_zero, List.set_cons_succ, q0, q1, q2, q3, g0, g1, g2, g3]
        · obtain rfl := Option.some.inj ho
          subst hA0
          simp only [puts, Act.put, List.setIfInBounds_toArray, List.set_cons_zero, List.set_cons_succ]
          go_simp
          have q0 : pv (upd xx 1 true) (upd b 1 W.heap.size) 0 = pv xx b 0 := rfl
          have g0 : upd xx 1 true 0 = xx 0 := rfl
          have q1 : pv (upd xx 1 true) (upd b 1 W.heap.size) 1 = .pointer (some ⟨W.heap.size, 0, none⟩) := rfl
          have g1 : upd xx 1 true 1 = true := rfl
          have q2 : pv (upd xx 1 true) (upd b 1 W.heap.size) 2 = pv xx b 2 := rfl
          have g2 : upd xx 1 true 2 = xx 2 := rfl
          have q3 : pv (upd xx 1 true) (upd b 1 W.heap.size) 3 = pv xx b 3 := rfl
          have g3 : upd xx 1 true 3 = xx 3 := rfl
          refine hK.out _ _ (hS.out.on ((Below.refl _ _).alloc (Nat.le_refl _) _)) ⟨c', upd xx 1 true, r, upd b 1 W.heap.size, lo, hi, upd ct 1 C4.zero, hc, ?_, ?_, HBX.out.alloc (sa_keep _ _ _ _) 1⟩
          · simp only [List.setIfInBounds_toArray, List.set_cons_zero, List.set_cons_succ, q0, q1, q2, q3, g0, g1, g2, g3]
          · simp only [puts, Act.put, List.setIfInBounds_toArray, List.set_cons_zero, List.set_cons_succ, q0, q1, q2, q3, g0, g1, g2, g3]
        · obtain rfl := Option.some.inj ho
          subst hA0
          simp only [puts, Act.put, List.setIfInBounds_toArray, List.set_cons_zero, List.set_cons_succ]
          go_simp
          have q0 : pv (upd xx 2 true) (upd b 2 W.heap.size) 0 = pv xx b 0 := rfl
          have g0 : upd xx 2 true 0 = xx 0 := rfl
          have q1 : pv (upd xx 2 true) (upd b 2 W.heap.size) 1 = pv xx b 1 := rfl
          have g1 : upd xx 2 true 1 = xx 1 := rfl
          have q2 : pv (upd xx 2 true) (upd b 2 W.heap.size) 2 = .pointer (some ⟨W.heap.size, 0, none⟩) := rfl
          have g2 : upd xx 2 true 2 = true := rfl
          have q3 : pv (upd xx 2 true) (upd b 2 W.heap.size) 3 = pv xx b 3 := rfl
          have g3 : upd xx 2 true 3 = xx 3 := rfl
          refine hK.out _ _ (hS.out.on ((Below.refl _ _).alloc (Nat.le_refl _) _)) ⟨c', upd xx 2 true, r, upd b 2 W.heap.size, lo, hi, upd ct 2 C4.zero, hc, ?_, ?_, HBX.out.alloc (sa_keep _ _ _ _) 2⟩
          · simp only [List.setIfInBounds_toArray, List.set_cons_zero, List.set_cons_succ, q0, q1, q2, q3, g0, g1, g2, g3]
          · simp only [puts, Act.put, List.setIfInBounds_toArray, List.set_cons_zero, List.set_cons_succ, q0, q1, q2, q3, g0, g1, g2, g3]
        · obtain rfl := Option.some.inj ho
          subst hA0
          simp only [puts, Act.put, List.setIfInBounds_toArray, List.set_cons_zero, List.set_cons_succ]
          go_simp
          have q0 : pv (upd xx 3 true) (upd b 3 W.heap.size) 0 = pv xx b 0 := rfl
          have g0 : upd xx 3 true 0 = xx 0 := rfl
          have q1 : pv (upd xx 3 true) (upd b 3 W.heap.size) 1 = pv xx b 1 := rfl
          have g1 : upd xx 3 true 1 = xx 1 := rfl
          have q2 : pv (upd xx 3 true) (upd b 3 W.heap.size) 2 = pv xx b 2 := rfl
          have g2 : upd xx 3 true 2 = xx 2 := rfl
          have q3 : pv (upd xx 3 true) (upd b 3 W.heap.size) 3 = .pointer (some ⟨W.heap.size, 0, none⟩) := rfl
          have g3 : upd xx 3 true 3 = true := rfl
          refine hK.out _ _ (hS.out.on ((Below.refl _ _).alloc (Nat.le_refl _) _)) ⟨c', upd xx 3 true, r, upd b 3 W.heap.size, lo, hi, upd ct 3 C4.zero, hc, ?_, ?_, HBX.out.alloc (sa_keep _ _ _ _) 3⟩
          · simp only [List.setIfInBounds_toArray, List.set_cons_zero, List.set_cons_succ, q0, q1, q2, q3, g0, g1, g2, g3]
          · simp only [puts, Act.put, List.setIfInBounds_toArray, List.set_cons_zero, List.set_cons_succ, q0, q1, q2, q3, g0, g1, g2, g3]
        · cases hz
        · cases hz
        · cases hz
        · cases hz
      · rintro fuel _ _ W ⟨c', xx, r, b, lo, hi, ct, hc, rfl, rfl, h⟩ hfu hall
        have h1 : decide (3 < c') = true := hall 13 (by show (13 : Nat) < 22; decide) (by decide)
        have hx0 : xx 0 = true := hall 14 (by show (14 : Nat) < 22; decide) (by decide)
        have hx1 : xx 1 = true := hall 15 (by show (15 : Nat) < 22; decide) (by decide)
        have hx2 : xx 2 = true := hall 16 (by show (16 : Nat) < 22; decide) (by decide)
        have hx3 : xx 3 = true := hall 17 (by show (17 : Nat) < 22; decide) (by decide)
        obtain rfl : c' = 4 := by
          have := of_decide_eq_true h1
          omega
        clear h1
        rw [hx0, hx1, hx2, hx3] at hfu
        clear hall hc
        change fuel + 18 = 22 at hfu
        obtain rfl : fuel = 4 := by omega
        clear hfu
        obtain ⟨⟨pa, qa, ea, hla, hfa⟩, -⟩ := h.res 0 (by decide)
        have hla : HS W (SA (lo 0) (hi 0) W) 0 pa .nil := hla
        have hfa : HS W (SA (lo 0) (hi 0) W) 1 qa T0 := hfa
        have ea : r 0 = .agg #[.int .u8 6, .string ⟨#[]⟩, pa, qa] := ea
        obtain ⟨pa, ca, rfl, -⟩ := hla.len
        obtain ⟨qa, da, rfl, -⟩ := hfa.len
        clear hla hfa
        obtain ⟨⟨pb, qb, eb, hlb, hfb⟩, -⟩ := h.res 1 (by decide)
        have hlb : HS W (SA (lo 1) (hi 1) W) 0 pb .nil := hlb
        have hfb : HS W (SA (lo 1) (hi 1) W) 1 qb T1 := hfb
        have eb : r 1 = .agg #[.int .u8 6, .string ⟨#[]⟩, pb, qb] := eb
        obtain ⟨pb, cb, rfl, -⟩ := hlb.len
        obtain ⟨qb, db, rfl, -⟩ := hfb.len
        clear hlb hfb
        obtain ⟨⟨pc, qc, ec, hlc, hfc⟩, -⟩ := h.res 2 (by decide)
        have hlc : HS W (SA (lo 2) (hi 2) W) 0 pc .nil := hlc
        have hfc : HS W (SA (lo 2) (hi 2) W) 1 qc T2 := hfc
        have ec : r 2 = .agg #[.int .u8 6, .string ⟨#[]⟩, pc, qc] := ec
        obtain ⟨pc, cc, rfl, -⟩ := hlc.len
        obtain ⟨qc, dc, rfl, -⟩ := hfc.len
        clear hlc hfc
        obtain ⟨⟨pd, qd, ed, hld, hfd⟩, -⟩ := h.res 3 (by decide)
        have hld : HS W (SA (lo 3) (hi 3) W) 0 pd .nil := hld
        have hfd : HS W (SA (lo 3) (hi 3) W) 1 qd T3 := hfd
        have ed : r 3 = .agg #[.int .u8 6, .string ⟨#[]⟩, pd, qd] := ed
        obtain ⟨pd, cd, rfl, -⟩ := hld.len
        obtain ⟨qd, dd, rfl, -⟩ := hfd.len
        clear hld hfd
        have e31 : rv 4 r 0 = .agg #[.int .u8 6, .string ⟨#[]⟩, .slice pa V.T.nil.len ca, .slice qa T0.len da] := ea
        have e34 : rv 4 r 1 = .agg #[.int .u8 6, .string ⟨#[]⟩, .slice pb V.T.nil.len cb, .slice qb T1.len db] := eb
        have e37 : rv 4 r 2 = .agg #[.int .u8 6, .string ⟨#[]⟩, .slice pc V.T.nil.len cc, .slice qc T2.len dc] := ec
        have e41 : rv 4 r 3 = .agg #[.int .u8 6, .string ⟨#[]⟩, .slice pd V.T.nil.len cd, .slice qd T3.len dd] := ed
        have e11 : pv xx b 0 = .pointer (some ⟨b 0, 0, none⟩) := by unfold pv; rw [if_pos hx0]
        have e12 : pv xx b 1 = .pointer (some ⟨b 1, 0, none⟩) := by unfold pv; rw [if_pos hx1]
        have e13 : pv xx b 2 = .pointer (some ⟨b 2, 0, none⟩) := by unfold pv; rw [if_pos hx2]
        have e14 : pv xx b 3 = .pointer (some ⟨b 3, 0, none⟩) := by unfold pv; rw [if_pos hx3]
        rw [e31, e34, e37, e41, e11, e12, e13, e14, hx0, hx1, hx2, hx3]
        subst hA0
        simp only [puts, Act.put, List.setIfInBounds_toArray, List.set_cons_zero, List.set_cons_succ]
        have HX := Lib.hid (And.intro hx0 (And.intro hx1 (And.intro hx2 hx3)))
        have HE := Lib.hid (And.intro ea (And.intro eb (And.intro ec ed)))
        have HBX := Lib.hid h
        clear h e31 e34 e37 e41 e11 e12 e13 e14 ea eb ec ed hx0 hx1 hx2 hx3
        have bb := (HBX.out.box 0 HX.out.1).2.1
        obtain ⟨y0, y1, y2, y3⟩ := bb.box
        have fb := bb.free
        have HBB := Lib.hid bb
        clear bb
        refine wpAnyL_op 18 (by kernel_rfl) rfl (fun K hK => ?_)
        go_simp
        refine hK.out _ _ (fun e => absurd e (by decide)) ?_
        try simp only [Act.put, List.setIfInBounds_toArray, List.set_cons_zero, List.set_cons_succ]
        clear hK K
        obtain ⟨k1, k4, k3⟩ := HBB.out.all (.int .u8 6) (.string ⟨#[]⟩) (.slice pa V.T.nil.len ca) (.slice qa T0.len da)
        have hw3 := set4_else W (b 0) (.int .u8 6) (.string ⟨#[]⟩) (.slice pa V.T.nil.len ca) (.slice qa T0.len da)
        generalize (((W.setCell ⟨b 0, 0, none⟩ (.int .u8 6)).setCell ⟨b 0, 1, none⟩ (.string ⟨#[]⟩)).setCell ⟨b 0, 2, none⟩ (.slice pa V.T.nil.len ca)).setCell ⟨b 0, 3, none⟩ (.slice qa T0.len da) = W18 at *
        have St := HBX.out.store (sa_keep _ _ _ _) HX.out.1 ⟨.int .u8 6, .string ⟨#[]⟩, .slice pa V.T.nil.len ca, .slice qa T0.len da⟩ k1 hw3 k3
        clear y0 y1 y2 y3 fb HBB HBX k1 k3 k4 hw3
        have HBX := Lib.hid St
        clear St
        have bb := (HBX.out.box 1 HX.out.2.1).2.1
        obtain ⟨y0, y1, y2, y3⟩ := bb.box
        have fb := bb.free
        have HBB := Lib.hid bb
        clear bb
        refine wpAnyL_op 19 (by kernel_rfl) rfl (fun K hK => ?_)
        go_simp
        refine hK.out _ _ (fun e => absurd e (by decide)) ?_
        try simp only [Act.put, List.setIfInBounds_toArray, List.set_cons_zero, List.set_cons_succ]
        clear hK K
        obtain ⟨k1, k4, k3⟩ := HBB.out.all (.int .u8 6) (.string ⟨#[]⟩) (.slice pb V.T.nil.len cb) (.slice qb T1.len db)
        have hw3 := set4_else W18 (b 1) (.int .u8 6) (.string ⟨#[]⟩) (.slice pb V.T.nil.len cb) (.slice qb T1.len db)
        generalize (((W18.setCell ⟨b 1, 0, none⟩ (.int .u8 6)).setCell ⟨b 1, 1, none⟩ (.string ⟨#[]⟩)).setCell ⟨b 1, 2, none⟩ (.slice pb V.T.nil.len cb)).setCell ⟨b 1, 3, none⟩ (.slice qb T1.len db) = W19 at *
        have St := HBX.out.store (sa_keep _ _ _ _) HX.out.2.1 ⟨.int .u8 6, .string ⟨#[]⟩, .slice pb V.T.nil.len cb, .slice qb T1.len db⟩ k1 hw3 k3
        clear y0 y1 y2 y3 fb HBB HBX k1 k3 k4 hw3
        have HBX := Lib.hid St
        clear St
        have bb := (HBX.out.box 2 HX.out.2.2.1).2.1
        obtain ⟨y0, y1, y2, y3⟩ := bb.box
        have fb := bb.free
        have HBB := Lib.hid bb
        clear bb
        refine wpAnyL_op 20 (by kernel_rfl) rfl (fun K hK => ?_)
        go_simp
        refine hK.out _ _ (fun e => absurd e (by decide)) ?_
        try simp only [Act.put, List.setIfInBounds_toArray, List.set_cons_zero, List.set_cons_succ]
        clear hK K
        obtain ⟨k1, k4, k3⟩ := HBB.out.all (.int .u8 6) (.string ⟨#[]⟩) (.slice pc V.T.nil.len cc) (.slice qc T2.len dc)
        have hw3 := set4_else W19 (b 2) (.int .u8 6) (.string ⟨#[]⟩) (.slice pc V.T.nil.len cc) (.slice qc T2.len dc)
        generalize (((W19.setCell ⟨b 2, 0, none⟩ (.int .u8 6)).setCell ⟨b 2, 1, none⟩ (.string ⟨#[]⟩)).setCell ⟨b 2, 2, none⟩ (.slice pc V.T.nil.len cc)).setCell ⟨b 2, 3, none⟩ (.slice qc T2.len dc) = W20 at *
        have St := HBX.out.store (sa_keep _ _ _ _) HX.out.2.2.1 ⟨.int .u8 6, .string ⟨#[]⟩, .slice pc V.T.nil.len cc, .slice qc T2.len dc⟩ k1 hw3 k3
        clear y0 y1 y2 y3 fb HBB HBX k1 k3 k4 hw3
        have HBX := Lib.hid St
        clear St
        have bb := (HBX.out.box 3 HX.out.2.2.2).2.1
        obtain ⟨y0, y1, y2, y3⟩ := bb.box
        have fb := bb.free
        have HBB := Lib.hid bb
        clear bb
        refine wpAnyL_op 21 (by kernel_rfl) rfl (fun K hK => ?_)
        go_simp
        refine hK.out _ _ (fun e => absurd e (by decide)) ?_
        try simp only [Act.put, List.setIfInBounds_toArray, List.set_cons_zero, List.set_cons_succ]
        clear hK K
        obtain ⟨k1, k4, k3⟩ := HBB.out.all (.int .u8 6) (.string ⟨#[]⟩) (.slice pd V.T.nil.len cd) (.slice qd T3.len dd)
        have hw3 := set4_else W20 (b 3) (.int .u8 6) (.string ⟨#[]⟩) (.slice pd V.T.nil.len cd) (.slice qd T3.len dd)
        generalize (((W20.setCell ⟨b 3, 0, none⟩ (.int .u8 6)).setCell ⟨b 3, 1, none⟩ (.string ⟨#[]⟩)).setCell ⟨b 3, 2, none⟩ (.slice pd V.T.nil.len cd)).setCell ⟨b 3, 3, none⟩ (.slice qd T3.len dd) = W21 at *
        have St := HBX.out.store (sa_keep _ _ _ _) HX.out.2.2.2 ⟨.int .u8 6, .string ⟨#[]⟩, .slice pd V.T.nil.len cd, .slice qd T3.len dd⟩ k1 hw3 k3
        clear y0 y1 y2 y3 fb HBB HBX k1 k3 k4 hw3
        have HBX := Lib.hid St
        clear St
        obtain ⟨MD, LY⟩ := mkD_start HBX.out (fun m hm => by
          obtain rfl | rfl | rfl | rfl : m = 0 ∨ m = 1 ∨ m = 2 ∨ m = 3 := by omega
          · exact HX.out.1
          · exact HX.out.2.1
          · exact HX.out.2.2.1
          · exact HX.out.2.2.2)
        have MB := H7.out.low HBX.out.below
        have HD := Lib.hid (And.intro (MB.on (Below.refl W21.heap.size W21).drew) (MD.on (Below.refl W21.heap.size W21).drew))
        have HLY := Lib.hid LY
        have HC := Lib.hid (show (upd (upd (upd (upd ct 0 (⟨.int .u8 6, .string ⟨#[]⟩, .slice pa V.T.nil.len ca, .slice qa T0.len da⟩ : C4)) 1 (⟨.int .u8 6, .string ⟨#[]⟩, .slice pb V.T.nil.len cb, .slice qb T1.len db⟩ : C4)) 2 (⟨.int .u8 6, .string ⟨#[]⟩, .slice pc V.T.nil.len cc, .slice qc T2.len dc⟩ : C4)) 3 (⟨.int .u8 6, .string ⟨#[]⟩, .slice pd V.T.nil.len cd, .slice qd T3.len dd⟩ : C4)) 0 = (⟨.int .u8 6, .string ⟨#[]⟩, .slice pa V.T.nil.len ca, .slice qa T0.len da⟩ : C4) ∧ (upd (upd (upd (upd ct 0 (⟨.int .u8 6, .string ⟨#[]⟩, .slice pa V.T.nil.len ca, .slice qa T0.len da⟩ : C4)) 1 (⟨.int .u8 6, .string ⟨#[]⟩, .slice pb V.T.nil.len cb, .slice qb T1.len db⟩ : C4)) 2 (⟨.int .u8 6, .string ⟨#[]⟩, .slice pc V.T.nil.len cc, .slice qc T2.len dc⟩ : C4)) 3 (⟨.int .u8 6, .string ⟨#[]⟩, .slice pd V.T.nil.len cd, .slice qd T3.len dd⟩ : C4)) 1 = (⟨.int .u8 6, .string ⟨#[]⟩, .slice pb V.T.nil.len cb, .slice qb T1.len db⟩ : C4) ∧ (upd (upd (upd (upd ct 0 (⟨.int .u8 6, .string ⟨#[]⟩, .slice pa V.T.nil.len ca, .slice qa T0.len da⟩ : C4)) 1 (⟨.int .u8 6, .string ⟨#[]⟩, .slice pb V.T.nil.len cb, .slice qb T1.len db⟩ : C4)) 2 (⟨.int .u8 6, .string ⟨#[]⟩, .slice pc V.T.nil.len cc, .slice qc T2.len dc⟩ : C4)) 3 (⟨.int .u8 6, .string ⟨#[]⟩, .slice pd V.T.nil.len cd, .slice qd T3.len dd⟩ : C4)) 2 = (⟨.int .u8 6, .string ⟨#[]⟩, .slice pc V.T.nil.len cc, .slice qc T2.len dc⟩ : C4) ∧ (upd (upd (upd (upd ct 0 (⟨.int .u8 6, .string ⟨#[]⟩, .slice pa V.T.nil.len ca, .slice qa T0.len da⟩ : C4)) 1 (⟨.int .u8 6, .string ⟨#[]⟩, .slice pb V.T.nil.len cb, .slice qb T1.len db⟩ : C4)) 2 (⟨.int .u8 6, .string ⟨#[]⟩, .slice pc V.T.nil.len cc, .slice qc T2.len dc⟩ : C4)) 3 (⟨.int .u8 6, .string ⟨#[]⟩, .slice pd V.T.nil.len cd, .slice qd T3.len dd⟩ : C4)) 3 = (⟨.int .u8 6, .string ⟨#[]⟩, .slice pd V.T.nil.len cd, .slice qd T3.len dd⟩ : C4) from ⟨rfl, rfl, rfl, rfl⟩)
        generalize (upd (upd (upd (upd ct 0 (⟨.int .u8 6, .string ⟨#[]⟩, .slice pa V.T.nil.len ca, .slice qa T0.len da⟩ : C4)) 1 (⟨.int .u8 6, .string ⟨#[]⟩, .slice pb V.T.nil.len cb, .slice qb T1.len db⟩ : C4)) 2 (⟨.int .u8 6, .string ⟨#[]⟩, .slice pc V.T.nil.len cc, .slice qc T2.len dc⟩ : C4)) 3 (⟨.int .u8 6, .string ⟨#[]⟩, .slice pd V.T.nil.len cd, .slice qd T3.len dd⟩ : C4)) = ct2 at *
        clear MD LY MB HBX HX H7 C0 C1 C2 C3
        have KC := Lib.hid (fun X (h : MkB w W4.heap.size k x (.slice p l.len c) (.slice q f.len d) l f k2 x2 (.slice p' l2.len c') (.slice q' f2.len d') l2 f2 m9 m10 (.slice pm l2.len cm) (.slice qm f2.len dm) (.slice po l.len co) (.slice qo f.len do') X ∧ MkD W4.heap.size (fun _ => true) (fourJ T0 T1 T2 T3) r b lo hi ct2 X) => mk_cells h.1 h.2 HE.out.1 HE.out.2.1 HE.out.2.2.1 HE.out.2.2.2 HC.out.1 HC.out.2.1 HC.out.2.2.1 HC.out.2.2.2)
        have KO := Lib.hid (fun (X X' : World) (h : MkB w W4.heap.size k x (.slice p l.len c) (.slice q f.len d) l f k2 x2 (.slice p' l2.len c') (.slice q' f2.len d') l2 f2 m9 m10 (.slice pm l2.len cm) (.slice qm f2.len dm) (.slice po l.len co) (.slice qo f.len do') X ∧ MkD W4.heap.size (fun _ => true) (fourJ T0 T1 T2 T3) r b lo hi ct2 X) (hB : Below X.heap.size X X') => And.intro (h.1.on hB) (h.2.on hB))
        have L0 := Lib.hid (fun X J (h : MkD W4.heap.size J (fourJ T0 T1 T2 T3) r b lo hi ct2 X) (hJ : J 0 = true) => h.at (k := 0) (T := T0) (by decide) hJ HE.out.1 HC.out.1 rfl)
        have L1 := Lib.hid (fun X J (h : MkD W4.heap.size J (fourJ T0 T1 T2 T3) r b lo hi ct2 X) (hJ : J 1 = true) => h.at (k := 1) (T := T1) (by decide) hJ HE.out.2.1 HC.out.2.1 rfl)
        have L2 := Lib.hid (fun X J (h : MkD W4.heap.size J (fourJ T0 T1 T2 T3) r b lo hi ct2 X) (hJ : J 2 = true) => h.at (k := 2) (T := T2) (by decide) hJ HE.out.2.2.1 HC.out.2.2.1 rfl)
        have L3 := Lib.hid (fun X J (h : MkD W4.heap.size J (fourJ T0 T1 T2 T3) r b lo hi ct2 X) (hJ : J 3 = true) => h.at (k := 3) (T := T3) (by decide) hJ HE.out.2.2.2 HC.out.2.2.2 rfl)
        have hs6 := fun (W : World) T (v u v' u' : Value) (A A' : Nat → Prop) (h1 : HS W A 0 v .nil) (h2 : HS W A 1 u T) (h3 : HS W A' 0 v' .nil) (h4 : HS W A' 1 u' T) => HSA.out W 6 ⟨#[]⟩ .nil T v u v' u' A A' h1 h2 h3 h4
        simp only [show ((6 : Nat) : Int) = 6 from rfl] at hs6
        have HS6 := Lib.hid hs6
        clear hs6
        refine wpAnyL_end (by kernel_rfl) ?_
        go_wp2_with fail
        go_region_held3 (fun w' => w'.cell? ⟨w.heap.size, 0, none⟩ = some (.int .u8 k) ∧ w'.cell? ⟨w.heap.size, 1, none⟩ = some (.string x) ∧ w'.cell? ⟨w.heap.size, 2, none⟩ = some (.slice p l.len c) ∧ w'.cell? ⟨w.heap.size, 3, none⟩ = some (.slice q f.len d) ∧ w'.cell? ⟨w.heap.size + 1, 0, none⟩ = some (.int .u8 k2) ∧ w'.cell? ⟨w.heap.size + 1, 1, none⟩ = some (.string x2) ∧ w'.cell? ⟨w.heap.size + 1, 2, none⟩ = some (.slice p' l2.len c') ∧ w'.cell? ⟨w.heap.size + 1, 3, none⟩ = some (.slice q' f2.len d') ∧ w'.cell? ⟨b 0, 0, none⟩ = some (.int .u8 6) ∧ w'.cell? ⟨b 0, 1, none⟩ = some (.string ⟨#[]⟩) ∧ w'.cell? ⟨b 0, 2, none⟩ = some (.slice pa V.T.nil.len ca) ∧ w'.cell? ⟨b 0, 3, none⟩ = some (.slice qa T0.len da) ∧ w'.cell? ⟨b 1, 0, none⟩ = some (.int .u8 6) ∧ w'.cell? ⟨b 1, 1, none⟩ = some (.string ⟨#[]⟩) ∧ w'.cell? ⟨b 1, 2, none⟩ = some (.slice pb V.T.nil.len cb) ∧ w'.cell? ⟨b 1, 3, none⟩ = some (.slice qb T1.len db) ∧ w'.cell? ⟨b 2, 0, none⟩ = some (.int .u8 6) ∧ w'.cell? ⟨b 2, 1, none⟩ = some (.string ⟨#[]⟩) ∧ w'.cell? ⟨b 2, 2, none⟩ = some (.slice pc V.T.nil.len cc) ∧ w'.cell? ⟨b 2, 3, none⟩ = some (.slice qc T2.len dc) ∧ w'.cell? ⟨b 3, 0, none⟩ = some (.int .u8 6) ∧ w'.cell? ⟨b 3, 1, none⟩ = some (.string ⟨#[]⟩) ∧ w'.cell? ⟨b 3, 2, none⟩ = some (.slice pd V.T.nil.len cd) ∧ w'.cell? ⟨b 3, 3, none⟩ = some (.slice qd T3.len dd))
          (first | with_reducible exact KC.out _ K1.out | with_reducible exact KC.out _ HD.out)
          (first
            | (go_at_call 15; (with_reducible refine (R0.out _ (by first | with_reducible exact K1.out.1.a | with_reducible exact HD.out.1.a) HM.out HZ.out).mono ?_); rintro e w5 ⟨v5, u5, rfl, hl5, hf5, hB5⟩; (obtain ⟨p5, c5, rfl, -⟩ := hl5.len); (obtain ⟨q5, d5, rfl, -⟩ := hf5.len); first | (have K1 := Lib.hid (KO.out _ _ K1.out hB5)) | (have K1 := Lib.hid (KO.out _ _ HD.out hB5)))
            | (go_at_call 16; (with_reducible refine (R1.out _ (by first | with_reducible exact K1.out.1.a | with_reducible exact HD.out.1.a) HM.out HZ.out).mono ?_); rintro e w5 ⟨v5, u5, rfl, hl5, hf5, hB5⟩; (obtain ⟨p5, c5, rfl, -⟩ := hl5.len); (obtain ⟨q5, d5, rfl, -⟩ := hf5.len); first | (have K1 := Lib.hid (KO.out _ _ K1.out hB5)) | (have K1 := Lib.hid (KO.out _ _ HD.out hB5)))
            | (go_at_call 17; (with_reducible refine (R2.out _ (by first | with_reducible exact K1.out.1.a | with_reducible exact HD.out.1.a) HZ.out).mono ?_); rintro e w5 ⟨v5, u5, rfl, hl5, hf5, hB5⟩; (obtain ⟨p5, c5, rfl, -⟩ := hl5.len); (obtain ⟨q5, d5, rfl, -⟩ := hf5.len); first | (have K1 := Lib.hid (KO.out _ _ K1.out hB5)) | (have K1 := Lib.hid (KO.out _ _ HD.out hB5)))
            | (go_at_call 18; (with_reducible refine (R3.out _ (by first | with_reducible exact K1.out.1.a | with_reducible exact HD.out.1.a) HM.out HZ.out).mono ?_); rintro e w5 ⟨v5, u5, rfl, hl5, hf5, hB5⟩; (obtain ⟨p5, c5, rfl, -⟩ := hl5.len); (obtain ⟨q5, d5, rfl, -⟩ := hf5.len); first | (have K1 := Lib.hid (KO.out _ _ K1.out hB5)) | (have K1 := Lib.hid (KO.out _ _ HD.out hB5)))
            | (go_at_call 8; (first | (with_reducible refine (HS6.out _ T0 _ _ _ _ _ _ (L0.out _ _ K1.out.2 rfl).2.1 (L0.out _ _ K1.out.2 rfl).2.2.1 hl5 hf5).mono ?_) | (with_reducible refine (HS6.out _ T1 _ _ _ _ _ _ (L1.out _ _ K1.out.2 rfl).2.1 (L1.out _ _ K1.out.2 rfl).2.2.1 hl5 hf5).mono ?_) | (with_reducible refine (HS6.out _ T2 _ _ _ _ _ _ (L2.out _ _ K1.out.2 rfl).2.1 (L2.out _ _ K1.out.2 rfl).2.2.1 hl5 hf5).mono ?_) | (with_reducible refine (HS6.out _ T3 _ _ _ _ _ _ (L3.out _ _ K1.out.2 rfl).2.1 (L3.out _ _ K1.out.2 rfl).2.2.1 hl5 hf5).mono ?_)); rintro e w6 ⟨rfl, hB6⟩; have K1 := Lib.hid (KO.out _ _ K1.out hB6)))
        have HK := Lib.hid K1.out
        clear K1 hl5 hf5 HD R0 R2 KC KO
        obtain ⟨y0, y1, y2, y3⟩ := (L0.out _ _ HK.out.2 rfl).1.box
        have hsp := fun X (h1 : MkB w W4.heap.size k x (.slice p l.len c) (.slice q f.len d) l f k2 x2 (.slice p' l2.len c') (.slice q' f2.len d') l2 f2 m9 m10 (.slice pm l2.len cm) (.slice qm f2.len dm) (.slice po l.len co) (.slice qo f.len do') X) (h2 : MkD W4.heap.size (fun _ => true) (fourJ T0 T1 T2 T3) r b lo hi ct2 X) => spoil_any T0.deep 6 ⟨#[]⟩ (.slice pa V.T.nil.len ca) (.slice qa T0.len da) (lo 0) (hi 0) X (HLY.out.n 0 (by decide)).2 (L0.out _ _ h2 rfl).2.2.2 (HS.sd T0.deep 0 _ V.T.nil (Nat.zero_le _) (L0.out _ _ h2 rfl).2.1) (HS.sd T0.deep 1 _ T0 (Nat.le_refl _) (L0.out _ _ h2 rfl).2.2.1)
        simp only [show ((6 : Nat) : Int) = 6 from rfl] at hsp
        have HSP := Lib.hid hsp
        clear hsp
        go_wp2_with fail
        refine (HSP.out _ HK.out.1 HK.out.2).mono ?_
        rintro e w8 ⟨rfl, hs⟩
        have HK8 := Lib.hid (And.intro (HK.out.1.low (hs.below.mono (HLY.out.n 0 (by decide)).1)) (HK.out.2.sp HLY.out (i := 0) (by decide) hs))
        clear y0 y1 y2 y3 hs HK HSP
        obtain ⟨y0, y1, y2, y3⟩ := (L2.out _ _ HK8.out.2 rfl).1.box
        have hsp := fun X (h1 : MkB w W4.heap.size k x (.slice p l.len c) (.slice q f.len d) l f k2 x2 (.slice p' l2.len c') (.slice q' f2.len d') l2 f2 m9 m10 (.slice pm l2.len cm) (.slice qm f2.len dm) (.slice po l.len co) (.slice qo f.len do') X) (h2 : MkD W4.heap.size (upd (fun _ => true) 0 false) (fourJ T0 T1 T2 T3) r b lo hi ct2 X) => spoil_any T2.deep 6 ⟨#[]⟩ (.slice pc V.T.nil.len cc) (.slice qc T2.len dc) (lo 2) (hi 2) X (HLY.out.n 2 (by decide)).2 (L2.out _ _ h2 rfl).2.2.2 (HS.sd T2.deep 0 _ V.T.nil (Nat.zero_le _) (L2.out _ _ h2 rfl).2.1) (HS.sd T2.deep 1 _ T2 (Nat.le_refl _) (L2.out _ _ h2 rfl).2.2.1)
        simp only [show ((6 : Nat) : Int) = 6 from rfl] at hsp
        have HSP := Lib.hid hsp
        clear hsp
        go_wp2_with fail
        refine (HSP.out _ HK8.out.1 HK8.out.2).mono ?_
        rintro e w9 ⟨rfl, hs⟩
        have HK9 := And.intro (HK8.out.1.low (hs.below.mono (HLY.out.n 2 (by decide)).1)) (HK8.out.2.sp HLY.out (i := 2) (by decide) hs)
        have HG := Lib.hid ((MkD.g HK9.1 HK9.2 (T1 := T1) (T3 := T3) rfl rfl HE.out.2.1 HE.out.2.2.2 HC.out.2.1 HC.out.2.2.2 rfl rfl).on (Below.refl w9.heap.size w9).drew)
        clear y0 y1 y2 y3 hs HK8 HSP HK9 L0 L1 L2 L3 HE HC HLY
        go_wp2_with fail
        go_region_held3 (fun w' => w'.cell? ⟨w.heap.size, 0, none⟩ = some (.int .u8 k) ∧ w'.cell? ⟨w.heap.size, 1, none⟩ = some (.string x) ∧ w'.cell? ⟨w.heap.size, 2, none⟩ = some (.slice p l.len c) ∧ w'.cell? ⟨w.heap.size, 3, none⟩ = some (.slice q f.len d) ∧ w'.cell? ⟨w.heap.size + 1, 0, none⟩ = some (.int .u8 k2) ∧ w'.cell? ⟨w.heap.size + 1, 1, none⟩ = some (.string x2) ∧ w'.cell? ⟨w.heap.size + 1, 2, none⟩ = some (.slice p' l2.len c') ∧ w'.cell? ⟨w.heap.size + 1, 3, none⟩ = some (.slice q' f2.len d') ∧ w'.cell? ⟨m9, 0, none⟩ = some (.int .u8 k2) ∧ w'.cell? ⟨m9, 1, none⟩ = some (.string x2) ∧ w'.cell? ⟨m9, 2, none⟩ = some (.slice pm l2.len cm) ∧ w'.cell? ⟨m9, 3, none⟩ = some (.slice qm f2.len dm) ∧ w'.cell? ⟨m10, 0, none⟩ = some (.int .u8 k) ∧ w'.cell? ⟨m10, 1, none⟩ = some (.string x) ∧ w'.cell? ⟨m10, 2, none⟩ = some (.slice po l.len co) ∧ w'.cell? ⟨m10, 3, none⟩ = some (.slice qo f.len do') ∧ w'.cell? ⟨b 1, 0, none⟩ = some (.int .u8 6) ∧ w'.cell? ⟨b 1, 1, none⟩ = some (.string ⟨#[]⟩) ∧ w'.cell? ⟨b 1, 2, none⟩ = some (.slice pb V.T.nil.len cb) ∧ w'.cell? ⟨b 1, 3, none⟩ = some (.slice qb T1.len db) ∧ w'.cell? ⟨b 3, 0, none⟩ = some (.int .u8 6) ∧ w'.cell? ⟨b 3, 1, none⟩ = some (.string ⟨#[]⟩) ∧ w'.cell? ⟨b 3, 2, none⟩ = some (.slice pd V.T.nil.len cd) ∧ w'.cell? ⟨b 3, 3, none⟩ = some (.slice qd T3.len dd))
          (first | with_reducible exact K1.out.cells | with_reducible exact HG.out.cells)
          (first
            | (go_at_call 16; (with_reducible refine (R1.out _ K1.out.b.a HM.out HZ.out).mono ?_); rintro e w5 ⟨v5, u5, rfl, hl5, hf5, hB5⟩; (obtain ⟨p5, c5, rfl, -⟩ := hl5.len); (obtain ⟨q5, d5, rfl, -⟩ := hf5.len); have K1 := Lib.hid (K1.out.on hB5))
            | (go_at_call 18; (with_reducible refine (R3.out _ K1.out.b.a HM.out HZ.out).mono ?_); rintro e w5 ⟨v5, u5, rfl, hl5, hf5, hB5⟩; (obtain ⟨p5, c5, rfl, -⟩ := hl5.len); (obtain ⟨q5, d5, rfl, -⟩ := hf5.len); have K1 := Lib.hid (K1.out.on hB5))
            | (go_at_call 8; (first | (with_reducible refine (HS6.out _ T1 _ _ _ _ _ _ K1.out.l1 K1.out.f1 hl5 hf5).mono ?_) | (with_reducible refine (HS6.out _ T3 _ _ _ _ _ _ K1.out.l3 K1.out.f3 hl5 hf5).mono ?_) | (with_reducible refine (HSA.out _ k2 x2 l2 f2 _ _ _ _ _ _ HG.out.b.lm HG.out.b.fm HG.out.b.a.l2 HG.out.b.a.f2).mono ?_) | (with_reducible refine (HSA.out _ k x l f _ _ _ _ _ _ K1.out.b.lo K1.out.b.fo K1.out.b.a.l K1.out.b.a.f).mono ?_)); rintro e w6 ⟨rfl, hB6⟩; first | (have K1 := Lib.hid (K1.out.on hB6)) | (have K1 := Lib.hid (HG.out.on hB6))))
        go_wp2_with fail
        go_ret
        exact ⟨rfl, K1.out.b.a.below⟩
      · exact ⟨0, fun _ => false, fun _ => undef, fun _ => 0, fun _ => 0, fun _ => 0, fun _ => C4.zero, by decide, rfl, by subst hA0; rfl, BxSt.start (Below.refl _ _) (Nat.le_refl _) _ _ _ _ _⟩
    · exact ⟨0, fun _ => false, fun _ => undef, fun _ => 0, fun _ => 0, fun _ => 0, fun _ => C4.zero, by decide, rfl, by subst hA0; rfl, BxSt.start (Below.refl _ _) (Nat.le_refl _) _ _ _ _ _⟩
end Go.Proofs.YtepjomdjkoaofaaDoor
