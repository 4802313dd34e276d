/- What is made is read as what it was made of: the law. Conditions: such as Go can hold; the library's tables; strconv.ErrRange holds an error. -/
import Derived.Test.YtepjomdjkoaofaaGreatDoorMB51
namespace Go.Proofs.YtepjomdjkoaofaaGreatDoor
open Go Go.RowKit Go.Lib

set_option maxHeartbeats 8000000 in
set_option maxRecDepth 100000 in
theorem backLaw_fd (i p : Fd) (s : ByteArray) (n : Int) (A A2 : Nat → Prop) (w : World) (oi : i.Ok A w) (op : p.Ok A2 w) (hib : i.b = true) (hpb : p.b = true) (hk : Fit ⟨#[]⟩ i.k i.x) (hk2 : Fit ⟨#[]⟩ p.k p.x) (hn : -9223372036854775808 ≤ n ∧ n ≤ 9223372036854775807) (hsz : s.size ≤ 9223372036854775807) (hP : PowTab w) (hT : Tabs w) (hE : ErrC w) :
    Calls Tryz.prog 4 #[.agg #[.int .u8 i.k, .string i.x, .slice i.p i.n i.c, .slice i.q i.m i.e], .agg #[.int .u8 p.k, .string p.x, .slice p.p p.n p.c, .slice p.q p.m p.e], .string s, .int .i64 n] w (Bools true w) := by
  have H0 := Lib.hid (show BkSt w i p ((w.alloc (.cells #[.int .u8 i.k, .string i.x, .slice i.p i.n i.c, .slice i.q i.m i.e] 25)).alloc (.cells #[.int .u8 p.k, .string p.x, .slice p.p p.n p.c, .slice p.q p.m p.e] 25)) from ⟨two_below _ _ _, (two_new _ _ _).1, (two_new _ _ _).2⟩)
  have HA := Lib.hid (fun W (h : Below w.heap.size w W) => awake6_any W (tabs_below hT h) (pow_on hP h) (hE.on h))
  have HG := Lib.hid (fun W b (hb : W.heap.size = b) (h : Below w.heap.size w W) => (show Calls Tryz.prog 22 #[.slice (some ⟨b, 0, none⟩) 2 2] (W.alloc (.cells #[.int .u8 i.k, .string i.x, .slice i.p i.n i.c, .slice i.q i.m i.e, .int .u8 p.k, .string p.x, .slice p.p p.n p.c, .slice p.q p.m p.e] 25)) (GreatIs (i.l.size + i.f.size) (p.l.size + p.f.size) (W.alloc (.cells #[.int .u8 i.k, .string i.x, .slice i.p i.n i.c, .slice i.q i.m i.e, .int .u8 p.k, .string p.x, .slice p.p p.n p.c, .slice p.q p.m p.e] 25))) from by
    subst hb
    have hB := (Below.refl W.heap.size W).alloc (Nat.le_refl _) (.cells #[.int .u8 i.k, .string i.x, .slice i.p i.n i.c, .slice i.q i.m i.e, .int .u8 p.k, .string p.x, .slice p.p p.n p.c, .slice p.q p.m p.e] 25)
    exact great6_any W.heap.size 2 i.k i.x (.slice i.p i.n i.c) (.slice i.q i.m i.e) i.l i.f p.k p.x (.slice p.p p.n p.c) (.slice p.q p.m p.e) p.l p.f A A2 _ (by decide) (two8_of W i p) ((oi.below h).below hB).l ((oi.below h).below hB).f ((op.below h).below hB).l ((op.below h).below hB).f))
  have HM := Lib.hid (fun W (h : Below w.heap.size w W) => mayID_any i.k i.x (.slice i.p i.n i.c) (.slice i.q i.m i.e) i.l i.f A W hk.2.1 (oi.below h).l (oi.below h).f (tabs_below hT h) (hE.on h))
  have HFX := Lib.hid (fun (hs : s.size ≤ 10000) W (h : Below w.heap.size w W) => utfFix_any s W (by omega) (tabs_below hT h))
  have HRQ := Lib.hid (fun (hs : s.size ≤ 10000) W (h : Below w.heap.size w W) => request_any s i.k i.x (.slice i.p i.n i.c) (.slice i.q i.m i.e) i.l i.f p.k p.x (.slice p.p p.n p.c) (.slice p.q p.m p.e) p.l p.f A A2 W hs hk hk2 (oi.below h).l (oi.below h).f (op.below h).l (op.below h).f (tabs_below hT h))
  have HR1 := Lib.hid (fun (hs : s.size ≤ 10000) W (h : Below w.heap.size w W) (v u : Value) hl hf => rdReq (i := i) (p := p) (s := s) W v u hk.2.1 hs (.inr hl) hf (tabs_below hT h) (hE.on h))
  have HOI := Lib.hid (fun W (h : Below w.heap.size w W) => (oi.below h).imp (A' := fun _ => True) (fun _ _ _ => trivial) (fun _ _ _ => rfl))
  have HOP := Lib.hid (fun W (h : Below w.heap.size w W) => (op.below h).imp (A' := fun _ => True) (fun _ _ _ => trivial) (fun _ _ _ => rfl))
  have HALL := Lib.hid (And.intro oi (And.intro op (And.intro hk (And.intro hk2 (And.intro hn (And.intro hP (And.intro hT hE)))))))
  obtain ⟨may, hmay⟩ : ∃ r, r = midV i.k i.x i.l i.f := ⟨_, rfl⟩
  obtain ⟨nul, hnul⟩ : ∃ r, r = nullB i.k i.x i.l i.f := ⟨_, rfl⟩
  obtain ⟨fine, hfine⟩ : ∃ r, r = decide (p.k ∈ [5, 6, 0]) := ⟨_, rfl⟩
  rw [← hmay] at HM HR1
  rw [← hfine] at HR1
  have HFI := Lib.hid hfine
  have HMY := Lib.hid hmay
  clear oi op hk hk2 hn hP hT hE hmay hnul hfine
  obtain ⟨F, hF⟩ : ∃ F, F = U.fixS s := ⟨_, rfl⟩
  rw [← hF] at HFX HRQ HR1
  have HFF := Lib.hid hF
  clear hF
  go_enter Tryz.func4, Tryz.ntmps4
  go_wp2_with fail
  generalize (w.alloc (.cells #[.int .u8 i.k, .string i.x, .slice i.p i.n i.c, .slice i.q i.m i.e] 25)).alloc (.cells #[.int .u8 p.k, .string p.x, .slice p.p p.n p.c, .slice p.q p.m p.e] 25) = W0 at *
  refine (HA.out _ H0.out.below).mono ?_
  rintro e w1 ⟨rfl, hB1⟩
  have H1 := Lib.hid (H0.out.on hB1)
  clear hB1 H0
  obtain ⟨x0, x1, x2, x3⟩ := H1.out.b0.box
  obtain ⟨y0, y1, y2, y3⟩ := H1.out.b1.box
  go_wp2_with fail
  refine (HG.out w1 _ rfl H1.out.below).mono ?_
  rintro e w2 ⟨r, rfl, -, hB2⟩
  have hBa := ((Below.refl w1.heap.size w1).alloc (Nat.le_refl _) (.cells #[.int .u8 i.k, .string i.x, .slice i.p i.n i.c, .slice i.q i.m i.e, .int .u8 p.k, .string p.x, .slice p.p p.n p.c, .slice p.q p.m p.e] 25))
  have H2 := Lib.hid (H1.out.on (hBa.trans (hB2.mono hBa.size)))
  clear hB2 hBa H1 x0 x1 x2 x3 y0 y1 y2 y3
  cases r
  rotate_left
  · go_wp2_with fail
    go_ret
    exact ⟨rfl, H2.out.below⟩
  by_cases hl : 10000 < s.size
  · have tl : decide ((10000 : Int) < (s.size : Int)) = true := decide_eq_true (by omega)
    go_wp2_with fail
    go_ret
    exact ⟨rfl, H2.out.below⟩
  have tl : decide ((10000 : Int) < (s.size : Int)) = false := decide_eq_false (by omega)
  have hs : s.size ≤ 10000 := by omega
  have HSZ := Lib.hid hs
  have HFX := Lib.hid (HFX.out hs)
  have HRQ := Lib.hid (HRQ.out hs)
  have HR1 := Lib.hid (HR1.out hs)
  obtain ⟨x0, x1, x2, x3⟩ := H2.out.b0.box
  go_wp2_with fail
  refine (HM.out _ H2.out.below).mono ?_
  rintro e w3 ⟨rfl, hB3⟩
  have H3 := Lib.hid (H2.out.on hB3)
  clear hB3 H2 x0 x1 x2 x3 hl tl hs HA HG HM
  go_upto_region 6 with fail
  go_cut [10] (fun g wx => g = .bool fine ∧ wx = w3)
  case first =>
    obtain ⟨y0, y1, y2, y3⟩ := H3.out.b1.box
    obtain ⟨b5, hb5⟩ : ∃ r, r = decide (p.k = 5) := ⟨_, rfl⟩
    obtain ⟨b6, hb6⟩ : ∃ r, r = decide (p.k = 6) := ⟨_, rfl⟩
    obtain ⟨b0, hb0⟩ : ∃ r, r = decide (p.k = 0) := ⟨_, rfl⟩
    have t5 : ((p.k : Int) == 5) = b5 := by rw [hb5, Bool.eq_iff_iff]; simp; omega
    have t6 : ((p.k : Int) == 6) = b6 := by rw [hb6, Bool.eq_iff_iff]; simp; omega
    have t0 : ((p.k : Int) == 0) = b0 := by rw [hb0, Bool.eq_iff_iff]; simp
    have hf : fine = (b5 || (b6 || b0)) := by rw [HFI.out, hb5, hb6, hb0]; simp
    have HFB := Lib.hid hf
    clear hb5 hb6 hb0 hf
    cases b5 <;> cases b6 <;> cases b0
    all_goals
      go_wp2_with fail
      go_meet
      exact ⟨by rw [HFB.out]; rfl, rfl⟩
  case rest =>
  obtain ⟨rfl, rfl⟩ := hcut
  go_upto_region 7 with fail
  go_cut [11] (fun g wx => ∃ b, g = .pointer (some ⟨b, 0, none⟩) ∧ Hid (BkSt w i p wx ∧ ClBlk wx b 1 i F p ∧ w.heap.size + 2 ≤ b))
  case first =>
    have HD := Lib.hid (H3.out.on (Below.refl wc.heap.size wc).drew)
    have HS0 := Lib.hid (show QS w.heap.size i.k i.x (.slice i.p i.n i.c) (.slice i.q i.m i.e) p.k p.x (.slice p.p p.n p.c) (.slice p.q p.m p.e) wc.drew from ⟨HD.out.b0.box, HD.out.b1.box⟩)
    refine wp_region_late (S := QS w.heap.size i.k i.x (.slice i.p i.n i.c) (.slice i.q i.m i.e) p.k p.x (.slice p.p p.n p.c) (.slice p.q p.m p.e)) (zs := [6]) (by kernel_rfl) ?_
    refine wpAnyL_take (v := ?_) 0 rfl (by kernel_rfl) (by kernel_rfl) (by kernel_rfl) (fun _ _ _ h => h) (by kernel_rfl) (by kernel_rfl) HS0.out (by rfl) (fun X hX => ?_) ?_
    rotate_left
    · obtain ⟨⟨s0, s1, s2, s3⟩, r0, r1, r2, r3⟩ := hX
      go_simp
      try with_reducible rfl
    try simp only [Act.put, List.setIfInBounds_toArray, List.set_cons_zero, List.set_cons_succ]
    refine wpAnyL_take (v := ?_) 1 rfl (by kernel_rfl) (by kernel_rfl) (by kernel_rfl) (fun _ _ _ h => h) (by kernel_rfl) (by kernel_rfl) HS0.out (by rfl) (fun X hX => ?_) ?_
    rotate_left
    · obtain ⟨⟨s0, s1, s2, s3⟩, r0, r1, r2, r3⟩ := hX
      go_simp
      try with_reducible rfl
    try simp only [Act.put, List.setIfInBounds_toArray, List.set_cons_zero, List.set_cons_succ]
    refine wpAnyL_take (v := ?_) 3 rfl (by kernel_rfl) (by kernel_rfl) (by kernel_rfl) (fun _ _ _ h => h) (by kernel_rfl) (by kernel_rfl) HS0.out (by rfl) (fun X hX => ?_) ?_
    rotate_left
    · obtain ⟨⟨s0, s1, s2, s3⟩, r0, r1, r2, r3⟩ := hX
      go_simp
      try with_reducible rfl
    try simp only [Act.put, List.setIfInBounds_toArray, List.set_cons_zero, List.set_cons_succ]
    refine wpAnyL_two 2 5 (by kernel_rfl) rfl rfl (fun K2 hK2 => ?_) (fun K2 hK2 => ?_)
    · go_simp
      go_at_call 24
      (with_reducible refine (HFX.out _ HD.out.below).mono ?_)
      rintro e W1 ⟨rfl, hB⟩
      have H4 := Lib.hid (HD.out.on hB)
      refine hK2.out _ _ (fun _ => ⟨H4.out.b0.box, H4.out.b1.box⟩) ?_
      try simp only [Act.put, List.setIfInBounds_toArray, List.set_cons_zero, List.set_cons_succ]
      clear hK2 K2 hB
      refine wpAnyL_take (v := ?_) 4 rfl (by kernel_rfl) (by kernel_rfl) (by kernel_rfl) (fun _ _ _ h => h) (by kernel_rfl) (by kernel_rfl) ⟨H4.out.b0.box, H4.out.b1.box⟩ (by rfl) (fun X hX => ?_) ?_
      rotate_left
      · go_simp
        try with_reducible rfl
      try simp only [Act.put, List.setIfInBounds_toArray, List.set_cons_zero, List.set_cons_succ]
      refine wpAnyL_op 5 (by kernel_rfl) rfl (fun K2 hK2 => ?_)
      go_simp
      have hB2 := (Below.refl W1.heap.size W1).alloc (Nat.le_refl _) (.cells #[.int .u8 0, .int .u8 0, .string ⟨#[]⟩, .slice none 0 0, .slice none 0 0, .string ⟨#[]⟩, .int .u8 0, .string ⟨#[]⟩, .slice none 0 0, .slice none 0 0] 40)
      have H5 := Lib.hid (H4.out.on hB2)
      refine hK2.out _ _ (fun _ => ⟨H5.out.b0.box, H5.out.b1.box⟩) ?_
      try simp only [Act.put, List.setIfInBounds_toArray, List.set_cons_zero, List.set_cons_succ]
      clear hK2 K2 hB2
      have hrow : (W1.alloc (.cells #[.int .u8 0, .int .u8 0, .string ⟨#[]⟩, .slice none 0 0, .slice none 0 0, .string ⟨#[]⟩, .int .u8 0, .string ⟨#[]⟩, .slice none 0 0, .slice none 0 0] 40)).heap[W1.heap.size]? = _ := heap_alloc_new _ _
      refine wpAnyL_op 6 (by kernel_rfl) rfl (fun K2 hK2 => ?_)
      rw [if_pos (by rfl)]
      refine wp_store_row 40 _ _ rfl W1.heap.size #[.int .u8 1, .int .u8 i.k, .string i.x, .slice i.p i.n i.c, .slice i.q i.m i.e, .string F, .int .u8 p.k, .string p.x, .slice p.p p.n p.c, .slice p.q p.m p.e] (by rfl) (by rfl) 40 _ hrow info_call rfl (one_call 1 i F p) ?_
      have hrow2 := row_set (c := #[.int .u8 1, .int .u8 i.k, .string i.x, .slice i.p i.n i.c, .slice i.q i.m i.e, .string F, .int .u8 p.k, .string p.x, .slice p.p p.n p.c, .slice p.q p.m p.e]) hrow
      have HE := Lib.hid (And.intro (H5.out.past (W' := (W1.alloc (.cells #[.int .u8 0, .int .u8 0, .string ⟨#[]⟩, .slice none 0 0, .slice none 0 0, .string ⟨#[]⟩, .int .u8 0, .string ⟨#[]⟩, .slice none 0 0, .slice none 0 0] 40)).setRow W1.heap.size #[.int .u8 1, .int .u8 i.k, .string i.x, .slice i.p i.n i.c, .slice i.q i.m i.e, .string F, .int .u8 p.k, .string p.x, .slice p.p p.n p.c, .slice p.q p.m p.e]) H4.out.lt2 (below_setRow (Below.refl _ _) (Nat.le_refl _) _)) (And.intro hrow2 H4.out.lt2))
      refine hK2.out _ _ (fun e => absurd e (by decide)) ?_
      clear hK2 K2 hrow hrow2
      try simp only [Act.put, List.setIfInBounds_toArray, List.set_cons_zero, List.set_cons_succ]
      refine wpAnyL_end (by kernel_rfl) ?_
      go_wp2_with fail
      go_meet
      exact ⟨_, rfl, Lib.hid HE.out⟩
    · go_simp
      have hB2 := (Below.refl wc.heap.size wc).alloc (Nat.le_refl _) (.cells #[.int .u8 0, .int .u8 0, .string ⟨#[]⟩, .slice none 0 0, .slice none 0 0, .string ⟨#[]⟩, .int .u8 0, .string ⟨#[]⟩, .slice none 0 0, .slice none 0 0] 40)
      have H4 := Lib.hid (H3.out.on (hB2.drew))
      refine hK2.out _ _ (fun _ => ⟨H4.out.b0.box, H4.out.b1.box⟩) ?_
      try simp only [Act.put, List.setIfInBounds_toArray, List.set_cons_zero, List.set_cons_succ]
      clear hK2 K2 hB2
      have hrow0 : ((wc.alloc (.cells #[.int .u8 0, .int .u8 0, .string ⟨#[]⟩, .slice none 0 0, .slice none 0 0, .string ⟨#[]⟩, .int .u8 0, .string ⟨#[]⟩, .slice none 0 0, .slice none 0 0] 40)).drew).heap[wc.heap.size]? = _ := heap_alloc_new _ _
      have HR0 := Lib.hid hrow0
      clear hrow0
      generalize (wc.alloc (.cells #[.int .u8 0, .int .u8 0, .string ⟨#[]⟩, .slice none 0 0, .slice none 0 0, .string ⟨#[]⟩, .int .u8 0, .string ⟨#[]⟩, .slice none 0 0, .slice none 0 0] 40)).drew = W1 at *
      refine wpAnyL_op 2 (by kernel_rfl) rfl (fun K2 hK2 => ?_)
      go_simp
      go_at_call 24
      (with_reducible refine (HFX.out _ H4.out.below).mono ?_)
      rintro e W2 ⟨rfl, hB⟩
      have H5 := Lib.hid (H4.out.on hB)
      have hrow : W2.heap[wc.heap.size]? = _ := (hB.block _ (Array.getElem?_eq_some_iff.1 HR0.out).1).trans HR0.out
      refine hK2.out _ _ (fun _ => ⟨H5.out.b0.box, H5.out.b1.box⟩) ?_
      try simp only [Act.put, List.setIfInBounds_toArray, List.set_cons_zero, List.set_cons_succ]
      clear hK2 K2 hB
      refine wpAnyL_op 4 (by kernel_rfl) rfl (fun K2 hK2 => ?_)
      go_simp
      refine hK2.out _ _ (fun _ => ⟨H5.out.b0.box, H5.out.b1.box⟩) ?_
      try simp only [Act.put, List.setIfInBounds_toArray, List.set_cons_zero, List.set_cons_succ]
      clear hK2 K2
      refine wpAnyL_op 6 (by kernel_rfl) rfl (fun K2 hK2 => ?_)
      rw [if_pos (by rfl)]
      refine wp_store_row 40 _ _ rfl wc.heap.size #[.int .u8 1, .int .u8 i.k, .string i.x, .slice i.p i.n i.c, .slice i.q i.m i.e, .string F, .int .u8 p.k, .string p.x, .slice p.p p.n p.c, .slice p.q p.m p.e] (by rfl) (by rfl) 40 _ hrow info_call rfl (one_call 1 i F p) ?_
      have hrow2 := row_set (c := #[.int .u8 1, .int .u8 i.k, .string i.x, .slice i.p i.n i.c, .slice i.q i.m i.e, .string F, .int .u8 p.k, .string p.x, .slice p.p p.n p.c, .slice p.q p.m p.e]) hrow
      have HE := Lib.hid (And.intro (H5.out.past (W' := W2.setRow wc.heap.size #[.int .u8 1, .int .u8 i.k, .string i.x, .slice i.p i.n i.c, .slice i.q i.m i.e, .string F, .int .u8 p.k, .string p.x, .slice p.p p.n p.c, .slice p.q p.m p.e]) H3.out.lt2 (below_setRow (Below.refl _ _) (Nat.le_refl _) _)) (And.intro hrow2 H3.out.lt2))
      refine hK2.out _ _ (fun e => absurd e (by decide)) ?_
      clear hK2 K2 hrow hrow2
      try simp only [Act.put, List.setIfInBounds_toArray, List.set_cons_zero, List.set_cons_succ]
      refine wpAnyL_end (by kernel_rfl) ?_
      go_wp2_with fail
      go_meet
      exact ⟨_, rfl, Lib.hid HE.out⟩
  case rest =>
  obtain ⟨b, rfl, HC⟩ := hcut
  have H4 := Lib.hid HC.out.1
  have HL := Lib.hid HC.out.2
  clear HC H3
  obtain ⟨pw, hpw⟩ : ∃ d : Fd, d = if p.k = 0 then fd0 else p := ⟨_, rfl⟩
  have HPW := Lib.hid hpw
  clear hpw
  obtain ⟨y0, y1, y2, y3⟩ := H4.out.b1.box
  go_upto_if 54 with fail
  go_cut [] (fun wx => Hid (BkSt w i p wx ∧ ClBlk wx b 1 i F pw))
  case first =>
    by_cases h0 : p.k = 0
    · have e : pw = fd0 := by rw [HPW.out, if_pos h0]
      have t0 : ((p.k : Int) == 0) = true := by rw [h0]; rfl
      have l6 := HL.out.1.c 6 _ rfl
      have l7 := HL.out.1.c 7 _ rfl
      have l8 := HL.out.1.c 8 _ rfl
      have l9 := HL.out.1.c 9 _ rfl
      have f4 := HL.out.1.free
      have HE := Lib.hid (And.intro (H4.out.past (W' := (((wc.setCell ⟨b, 6, none⟩ (.int .u8 0)).setCell ⟨b, 7, none⟩ (.string ⟨#[]⟩)).setCell ⟨b, 8, none⟩ (.slice none 0 0)).setCell ⟨b, 9, none⟩ (.slice none 0 0)) HL.out.2 (set4s_below wc b _ _ _ _)) (HL.out.1.setP fd0))
      have HEQ := Lib.hid e
      clear h0 e
      go_wp2_with fail
      go_meet
      exact Lib.hid ⟨HE.out.1, by rw [HEQ.out]; exact HE.out.2⟩
    · have e : pw = p := by rw [HPW.out, if_neg h0]
      have t0 : ((p.k : Int) == 0) = false := by rw [Bool.eq_false_iff]; simp; omega
      have HEQ := Lib.hid e
      clear h0 e
      go_wp2_with fail
      go_meet
      exact Lib.hid ⟨H4.out, by rw [HEQ.out]; exact HL.out.1⟩
  case rest =>
  have H5 := Lib.hid (And.intro hcut.out.1 hcut.out.2)
  have HB2 := Lib.hid HL.out.2
  clear hcut H4 HL y0 y1 y2 y3
  have hvp : veqR (pV p.k p.x p.l p.f) pw.r = true := by
    rw [HPW.out]
    unfold pV
    by_cases h0 : p.k = 0
    · rw [if_pos h0, if_pos h0]; exact veqR_self _
    · rw [if_neg h0, if_neg h0, fd_gotV hpb]; exact veqR_self _
  have hvi : veqR (gotV i.k i.x i.l i.f) i.r = true := by rw [fd_gotV hib]; exact veqR_self _
  have hop : ∀ W, Below w.heap.size w W → pw.Ok (fun _ => True) W := fun W h => by
    rw [HPW.out]
    by_cases h0 : p.k = 0
    · rw [if_pos h0]; exact fd0_ok _ _
    · rw [if_neg h0]; exact HOP.out W h
  have HV := Lib.hid (And.intro hvp (And.intro hvi hop))
  clear hvp hvi hop
  go_upto_region 10 with fail
  go_cut [12, 13] (fun g q wx => ∃ (b1 : Nat) (e : Int), g = .pointer (some ⟨b1, 0, none⟩) ∧ q = .int .i64 e ∧ Hid ((BkSt w i p wx ∧ ClBlk wx b 1 i F pw) ∧ GotC (fine && may) e wx b1 1 (gotV i.k i.x i.l i.f) (F) (pV p.k p.x p.l p.f)))
  case first =>
    obtain ⟨x0, x1, x2, x3⟩ := H5.out.1.b0.box
    obtain ⟨y0, y1, y2, y3⟩ := H5.out.1.b1.box
    go_wp2_with fail
    refine (HRQ.out _ H5.out.1.below).mono ?_
    rintro e v1 ⟨v, u, rfl, hl, hf, hB⟩
    have G1 := Lib.hid (And.intro (H5.out.1.on hB) (H5.out.2.same hB))
    have HR := Lib.hid (HR1.out v1 G1.out.1.below v u (hl.mono (fun _ _ _ => trivial)) (hf.mono (fun _ _ _ => trivial)))
    obtain ⟨p1, c1, rfl, -⟩ := hl.len
    obtain ⟨q1, d1, rfl, -⟩ := hf.len
    clear hl hf hB x0 x1 x2 x3 y0 y1 y2 y3
    go_wp2_with fail
    refine HR.out.mono ?_
    rintro e v2 hrd
    obtain ⟨ok, hok⟩ : ∃ r, r = (fine && may) := ⟨_, rfl⟩
    rw [← hok] at hrd
    have HOK := Lib.hid hok
    clear hok
    cases ok
    · obtain ⟨rfl, hB⟩ := readIs_no.1 hrd
      have hBa := (Below.refl v2.heap.size v2).alloc (Nat.le_refl _) (.cells #[.int .u8 0, .int .u8 0, .string ⟨#[]⟩, .slice none 0 0, .slice none 0 0, .string ⟨#[]⟩, .int .u8 0, .string ⟨#[]⟩, .slice none 0 0, .slice none 0 0] 40)
      have G2 := Lib.hid (And.intro (G1.out.1.on (hB.trans (hBa.mono hB.size))) (G1.out.2.same (hB.trans (hBa.mono hB.size))))
      clear hrd hB hBa
      go_wp2_with fail
      go_meet
      exact ⟨_, _, rfl, rfl, Lib.hid ⟨G2.out, (fun h => by rw [← HOK.out] at h; cases h), fun _ => rfl⟩⟩
    · obtain ⟨di, dp, rfl, hdi, hdp, oi, op, hB⟩ := readIs_yes.1 hrd
      have hBa := (Below.refl v2.heap.size v2).alloc (Nat.le_refl _) (.cells #[.int .u8 1, .int .u8 di.k, .string di.x, .slice di.p di.n di.c, .slice di.q di.m di.e, .string F, .int .u8 dp.k, .string dp.x, .slice dp.p dp.n dp.c, .slice dp.q dp.m dp.e] 40)
      have G2 := Lib.hid (And.intro (G1.out.1.on (hB.trans (hBa.mono hB.size))) (G1.out.2.same (hB.trans (hBa.mono hB.size))))
      have HD := Lib.hid (And.intro hdi (And.intro hdp (And.intro ((oi.imp (A' := fun _ => True) (fun _ _ _ => trivial) (fun _ _ _ => rfl)).below hBa) ((op.imp (A' := fun _ => True) (fun _ _ _ => trivial) (fun _ _ _ => rfl)).below hBa))))
      clear hrd hB hBa hdi hdp oi op
      go_wp2_with fail
      go_meet
      exact ⟨_, _, rfl, rfl, Lib.hid ⟨G2.out, (fun _ => ⟨rfl, di, dp, heap_alloc_new _ _, HD.out⟩), (fun h => by rw [← HOK.out] at h; cases h)⟩⟩
  case rest =>
  obtain ⟨b1, e, rfl, rfl, HC⟩ := hcut
  have HG1 := Lib.hid HC.out
  clear HC H5
  go_upto_region 11 with fail
  go_cut [81] (fun c wx => c = .bool false ∧ Hid (BkSt w i p wx ∧ ClBlk wx b 1 i F pw))
  case first =>
    obtain ⟨ok, hok⟩ : ∃ r, r = (fine && may) := ⟨_, rfl⟩
    have hG := HG1.out.2
    rw [← hok] at hG
    have HOK := Lib.hid hok
    clear hok
    cases ok
    · obtain rfl : e = 60 := hG.2 rfl
      have hoff : may = true → fine = false := fun h => by
        have := HOK.out
        rw [h, Bool.and_true] at this
        exact this.symm
      have HH := Lib.hid HG1.out.1
      clear hG HG1
      cases may
      · cases fine <;> (go_wp2_with fail; go_meet; exact ⟨rfl, Lib.hid HH.out⟩)
      · have hf := hoff rfl
        subst hf
        go_wp2_with fail
        go_meet
        exact ⟨rfl, Lib.hid HH.out⟩
    · obtain ⟨h0, di, dp, hc1, hdi, hdp, odi, odp⟩ := hG.1 rfl
      subst h0
      have hb := Bool.and_eq_true _ _ ▸ HOK.out.symm
      obtain ⟨hb1, hb2⟩ := hb
      subst hb1 hb2
      have HS6 := Lib.hid (same6_any 1 di F dp 1 i F pw (fun _ => True) (fun _ => True) wc odi odp (HOI.out _ HG1.out.1.1.below) (HV.out.2.2 _ HG1.out.1.1.below))
      have hv : (decide (1 = 1) && decide (F = F) && veqR di.r i.r && veqR dp.r pw.r) = true := by rw [hdi, hdp, HV.out.1, HV.out.2.1]; simp
      rw [hv] at HS6
      have HH := Lib.hid HG1.out.1
      have a0 := hc1.c 0 _ rfl
      have a1 := hc1.c 1 _ rfl
      have a2 := hc1.c 2 _ rfl
      have a3 := hc1.c 3 _ rfl
      have a4 := hc1.c 4 _ rfl
      have a5 := hc1.c 5 _ rfl
      have a6 := hc1.c 6 _ rfl
      have a7 := hc1.c 7 _ rfl
      have a8 := hc1.c 8 _ rfl
      have a9 := hc1.c 9 _ rfl
      have m0 := HH.out.2.c 0 _ rfl
      have m1 := HH.out.2.c 1 _ rfl
      have m2 := HH.out.2.c 2 _ rfl
      have m3 := HH.out.2.c 3 _ rfl
      have m4 := HH.out.2.c 4 _ rfl
      have m5 := HH.out.2.c 5 _ rfl
      have m6 := HH.out.2.c 6 _ rfl
      have m7 := HH.out.2.c 7 _ rfl
      have m8 := HH.out.2.c 8 _ rfl
      have m9 := HH.out.2.c 9 _ rfl
      clear hv hdi hdp odi odp hG HG1 hc1 HOK
      go_wp2_with fail
      refine HS6.out.mono ?_
      rintro e v1 ⟨rfl, hB⟩
      have G := Lib.hid (And.intro (HH.out.1.on hB) (HH.out.2.same hB))
      clear hB a0 a1 a2 a3 a4 a5 a6 a7 a8 a9 m0 m1 m2 m3 m4 m5 m6 m7 m8 m9
      go_wp2_with fail
      go_meet
      exact ⟨rfl, Lib.hid G.out⟩
  case rest =>
  obtain ⟨rfl, HC⟩ := hcut
  go_step
  go_step
  go_step
  go_step
  go_step
  have hm := HMY.out
  have hf := HFI.out
  have hF := HFF.out
  have hp := HPW.out
  obtain ⟨oi, op, hk, hk2, hn, hP, hT, hE⟩ := HALL.out
  subst hm hf hF hp
  exact backLaw_rest i p s n A A2 w oi op hib hpb hk hk2 hn hP hT hE HSZ.out b wc HB2.out HC.out.1 HC.out.2
end Go.Proofs.YtepjomdjkoaofaaGreatDoor
