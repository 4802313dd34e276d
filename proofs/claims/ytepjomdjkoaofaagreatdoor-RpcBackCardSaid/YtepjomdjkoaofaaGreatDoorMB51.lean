/- What is made is read as what it was made of: the law's latter part. Conditions: such as Go can hold; the library's tables; strconv.ErrRange holds an error. -/
import Derived.Test.YtepjomdjkoaofaaGreatDoorMB50
namespace Go.Proofs.YtepjomdjkoaofaaGreatDoor
open Go Go.RowKit Go.Lib

/-- what is left of a body behind its first n statements -/
def tailAt : Nat → Code → Code
  | 0, c => c
  | n + 1, .seq _ c => tailAt n c
  | _ + 1, c => c
set_option maxHeartbeats 8000000 in
set_option maxRecDepth 100000 in
theorem backLaw_rest (i p : Fd) (s : ByteArray) (n : Int) (A A2 : Nat → Prop) (w : World) (oi : i.Ok A w) (op : p.Ok A2 w) (hib : i.b = true) (hpb : p.b = true) (hk : Fit ⟨#[]⟩ i.k i.x) (hk2 : Fit ⟨#[]⟩ p.k p.x) (hn : -9223372036854775808 ≤ n ∧ n ≤ 9223372036854775807) (hP : PowTab w) (hT : Tabs w) (hE : ErrC w) (hs : s.size ≤ 10000) (b : Nat) (wc : World) (hb : w.heap.size + 2 ≤ b) (hS : BkSt w i p wc) (hC : ClBlk wc b 1 i (U.fixS s) (if p.k = 0 then fd0 else p)) {u6 u7 u12 u13 u14 u15 u16 u17 u18 u19 u20 u21 u22 u23 u24 u25 u26 u27 u28 u29 u30 u31 u32 u33 u34 u35 u36 u37 u38 u39 u40 u41 u42 u43 u44 u45 u46 u47 u48 u49 u50 u51 u52 u53 u54 u55 u56 u57 u58 u59 u60 u61 u62 u63 u64 u65 u66 u67 u68 u69 u70 u71 u72 u73 u74 u75 u76 u77 u78 u79 u80 u82 u83 u84 u85 u86 u87 u88 u89 u90 u91 u92 u93 u94 u95 u96 u97 u98 u99 u100 u101 u102 u103 u104 u105 u106 u107 u108 u109 u110 u111 u112 u113 u114 u115 u116 u117 u118 u119 u120 u121 u122 u123 u124 u125 u126 u127 u128 u129 u130 u131 u132 u133 u134 u135 u136 u137 u138 u139 u140 u141 u142 u143 u144 u145 u146 u147 u148 : Value} :
    Code.wp Tryz.prog (tailAt 9 (Tryz.f4.body.getD .skip)) (bodyPost Tryz.prog Tryz.f4 (Bools true w)) { tmps := #[.agg #[.int .u8 i.k, .string i.x, .slice i.p i.n i.c, .slice i.q i.m i.e], .agg #[.int .u8 p.k, .string p.x, .slice p.p p.n p.c, .slice p.q p.m p.e], .string s, .int .i64 n, .pointer (some ⟨w.heap.size, 0, none⟩), .pointer (some ⟨w.heap.size + 1, 0, none⟩), u6, u7, .bool false, .bool (midV i.k i.x i.l i.f), .bool (decide (p.k ∈ [5, 6, 0])), .pointer (some ⟨b, 0, none⟩), u12, u13, u14, u15, u16, u17, u18, u19, u20, u21, u22, u23, u24, u25, u26, u27, u28, u29, u30, u31, u32, u33, u34, u35, u36, u37, u38, u39, u40, u41, u42, u43, u44, u45, u46, u47, u48, u49, u50, u51, u52, u53, u54, u55, u56, u57, u58, u59, u60, u61, u62, u63, u64, u65, u66, u67, u68, u69, u70, u71, u72, u73, u74, u75, u76, u77, u78, u79, u80, .bool false, u82, u83, u84, u85, u86, u87, u88, u89, u90, u91, u92, u93, u94, u95, u96, u97, u98, u99, u100, u101, u102, u103, u104, u105, u106, u107, u108, u109, u110, u111, u112, u113, u114, u115, u116, u117, u118, u119, u120, u121, u122, u123, u124, u125, u126, u127, u128, u129, u130, u131, u132, u133, u134, u135, u136, u137, u138, u139, u140, u141, u142, u143, u144, u145, u146, u147, u148], defers := [] } wc := by
  have HNT := Lib.hid (fun W (h : Below w.heap.size w W) => notice_any s p.k p.x (.slice p.p p.n p.c) (.slice p.q p.m p.e) p.l p.f A2 W hk2 hs (op.below h).l (op.below h).f (tabs_below hT h))
  have HRP := Lib.hid (fun W (h : Below w.heap.size w W) => reply_any i.k i.x (.slice i.p i.n i.c) (.slice i.q i.m i.e) i.l i.f p.k p.x (.slice p.p p.n p.c) (.slice p.q p.m p.e) p.l p.f A A2 W hk hk2 (oi.below h).l (oi.below h).f (op.below h).l (op.below h).f (tabs_below hT h))
  have HFL := Lib.hid (fun W (h : Below w.heap.size w W) => fail_any i.k i.x (.slice i.p i.n i.c) (.slice i.q i.m i.e) i.l i.f A n s W hk (oi.below h).l (oi.below h).f hn hs (pow_on hP h) (tabs_below hT h))
  have HR2 := Lib.hid (fun W (h : Below w.heap.size w W) (v u : Value) hl hf => rdNot (p := p) (s := s) W v u hs hl hf (tabs_below hT h) (hE.on h))
  have HR3 := Lib.hid (fun W (h : Below w.heap.size w W) (v u : Value) hl hf => rdRep (i := i) (p := p) W v u hk.2.1 hl hf (tabs_below hT h) (hE.on h))
  have HR4 := Lib.hid (fun W (h : Below w.heap.size w W) (v u : Value) hl hf => rdFail (i := i) (n := n) W v u (U.fixS s) hk.2.1 hl hf (tabs_below hT h) (hE.on h))
  have HSM := Lib.hid (fun W (h : Below w.heap.size w W) => same_any _ i.k i.x (.slice i.p i.n i.c) (.slice i.q i.m i.e) i.l i.f 0 ⟨#[]⟩ (.slice none 0 0) (.slice none 0 0) .nil .nil A A W (Nat.lt_succ_self _) (oi.below h).l (oi.below h).f (HS.nil _ _ _) (HS.nil _ _ _))
  have HOI := Lib.hid (fun W (h : Below w.heap.size w W) => (oi.below h).imp (A' := fun _ => True) (fun _ _ _ => trivial) (fun _ _ _ => rfl))
  have HOP := Lib.hid (fun W (h : Below w.heap.size w W) => (op.below h).imp (A' := fun _ => True) (fun _ _ _ => trivial) (fun _ _ _ => rfl))
  obtain ⟨may, hmay⟩ : ∃ r, r = midV i.k i.x i.l i.f := ⟨_, rfl⟩
  obtain ⟨nul, hnul⟩ : ∃ r, r = nullB i.k i.x i.l i.f := ⟨_, rfl⟩
  obtain ⟨fine, hfine⟩ : ∃ r, r = decide (p.k ∈ [5, 6, 0]) := ⟨_, rfl⟩
  rw [← hmay] at HR3 HR4
  rw [← hnul] at HR3 HR4
  rw [← hfine] at HR2
  rw [show V.veq i.k i.x i.l i.f 0 ⟨#[]⟩ .nil .nil = nul from hnul.symm] at HSM
  have HFI := Lib.hid hfine
  rw [← hmay, ← hfine]
  clear oi op hk hk2 hn hP hT hE hmay hnul hfine
  have HB2 := Lib.hid hb
  have H6 := Lib.hid (And.intro hS hC)
  clear hb hS hC hs
  obtain ⟨pw, hpw⟩ : ∃ d : Fd, d = if p.k = 0 then fd0 else p := ⟨_, rfl⟩
  rw [← hpw] at H6
  have HPW := Lib.hid hpw
  clear hpw
  generalize U.fixS s = F at *
  have hvp : veqR (pV p.k p.x p.l p.f) pw.r = true := by
    rw [HPW.out]
    unfold pV
    by_cases h0 : p.k = 0
    · rw [if_pos h0, if_pos h0]; exact veqR_self _
    · rw [if_neg h0, if_neg h0, fd_gotV hpb]; exact veqR_self _
  have hvi : veqR (gotV i.k i.x i.l i.f) i.r = true := by rw [fd_gotV hib]; exact veqR_self _
  have hop : ∀ W, Below w.heap.size w W → pw.Ok (fun _ => True) W := fun W h => by
    rw [HPW.out]
    by_cases h0 : p.k = 0
    · rw [if_pos h0]; exact fd0_ok _ _
    · rw [if_neg h0]; exact HOP.out W h
  have HV := Lib.hid (And.intro hvp (And.intro hvi hop))
  clear hvp hvi hop
  change Code.wp _ (Code.seq _ _) _ _ _
  have l0 := H6.out.2.c 0 _ rfl
  have l1 := H6.out.2.c 1 _ rfl
  have l2 := H6.out.2.c 2 _ rfl
  have l3 := H6.out.2.c 3 _ rfl
  have l4 := H6.out.2.c 4 _ rfl
  have f4 := H6.out.2.free
  have H7 := Lib.hid (And.intro (H6.out.1.past HB2.out (set5s_below wc b (.int .u8 2) (.int .u8 0) (.string ⟨#[]⟩) (.slice none 0 0) (.slice none 0 0))) H6.out.2.setKI)
  go_upto_region 14 with fail
  clear l0 l1 l2 l3 l4 f4 H6
  generalize ((((wc.setCell ⟨b, 0, none⟩ (.int .u8 2)).setCell ⟨b, 1, none⟩ (.int .u8 0)).setCell ⟨b, 2, none⟩ (.string ⟨#[]⟩)).setCell ⟨b, 3, none⟩ (.slice none 0 0)).setCell ⟨b, 4, none⟩ (.slice none 0 0) = w7 at *
  go_upto_region 14 with fail
  go_cut [14, 15] (fun g q wx => ∃ (b1 : Nat) (e : Int), g = .pointer (some ⟨b1, 0, none⟩) ∧ q = .int .i64 e ∧ Hid ((BkSt w i p wx ∧ ClBlk wx b 2 fd0 F pw) ∧ GotC (fine) e wx b1 2 (r0) (F) (pV p.k p.x p.l p.f)))
  case first =>
    obtain ⟨x0, x1, x2, x3⟩ := H7.out.1.b0.box
    obtain ⟨y0, y1, y2, y3⟩ := H7.out.1.b1.box
    go_wp2_with fail
    refine (HNT.out _ H7.out.1.below).mono ?_
    rintro e v1 ⟨v, u, rfl, hl, hf, hB⟩
    have G1 := Lib.hid (And.intro (H7.out.1.on hB) (H7.out.2.same hB))
    have HR := Lib.hid (HR2.out v1 G1.out.1.below v u (hl.mono (fun _ _ _ => trivial)) (hf.mono (fun _ _ _ => trivial)))
    obtain ⟨p1, c1, rfl, -⟩ := hl.len
    obtain ⟨q1, d1, rfl, -⟩ := hf.len
    clear hl hf hB x0 x1 x2 x3 y0 y1 y2 y3
    go_wp2_with fail
    refine HR.out.mono ?_
    rintro e v2 hrd
    obtain ⟨ok, hok⟩ : ∃ r, r = (fine) := ⟨_, rfl⟩
    rw [← hok] at hrd
    have HOK := Lib.hid hok
    clear hok
    cases ok
    · obtain ⟨rfl, hB⟩ := readIs_no.1 hrd
      have hBa := (Below.refl v2.heap.size v2).alloc (Nat.le_refl _) (.cells #[.int .u8 0, .int .u8 0, .string ⟨#[]⟩, .slice none 0 0, .slice none 0 0, .string ⟨#[]⟩, .int .u8 0, .string ⟨#[]⟩, .slice none 0 0, .slice none 0 0] 40)
      have G2 := Lib.hid (And.intro (G1.out.1.on (hB.trans (hBa.mono hB.size))) (G1.out.2.same (hB.trans (hBa.mono hB.size))))
      clear hrd hB hBa
      go_wp2_with fail
      go_meet
      exact ⟨_, _, rfl, rfl, Lib.hid ⟨G2.out, (fun h => by rw [← HOK.out] at h; cases h), fun _ => rfl⟩⟩
    · obtain ⟨di, dp, rfl, hdi, hdp, oi, op, hB⟩ := readIs_yes.1 hrd
      have hBa := (Below.refl v2.heap.size v2).alloc (Nat.le_refl _) (.cells #[.int .u8 2, .int .u8 di.k, .string di.x, .slice di.p di.n di.c, .slice di.q di.m di.e, .string F, .int .u8 dp.k, .string dp.x, .slice dp.p dp.n dp.c, .slice dp.q dp.m dp.e] 40)
      have G2 := Lib.hid (And.intro (G1.out.1.on (hB.trans (hBa.mono hB.size))) (G1.out.2.same (hB.trans (hBa.mono hB.size))))
      have HD := Lib.hid (And.intro hdi (And.intro hdp (And.intro ((oi.imp (A' := fun _ => True) (fun _ _ _ => trivial) (fun _ _ _ => rfl)).below hBa) ((op.imp (A' := fun _ => True) (fun _ _ _ => trivial) (fun _ _ _ => rfl)).below hBa))))
      clear hrd hB hBa hdi hdp oi op
      go_wp2_with fail
      go_meet
      exact ⟨_, _, rfl, rfl, Lib.hid ⟨G2.out, (fun _ => ⟨rfl, di, dp, heap_alloc_new _ _, HD.out⟩), (fun h => by rw [← HOK.out] at h; cases h)⟩⟩
  case rest =>
  obtain ⟨b2, e2, rfl, rfl, HC⟩ := hcut
  have HG2 := Lib.hid HC.out
  clear HC H7
  go_upto_region 15 with fail
  go_cut [105] (fun c wx => c = .bool false ∧ Hid (BkSt w i p wx))
  case first =>
    have hG := HG2.out.2
    cases fine
    · obtain rfl : e2 = 60 := hG.2 rfl
      have HH := Lib.hid HG2.out.1
      clear hG HG2
      go_wp2_with fail
      go_meet
      exact ⟨rfl, Lib.hid HH.out.1⟩
    · obtain ⟨h0, di, dp, hc1, hdi, hdp, odi, odp⟩ := hG.1 rfl
      subst h0
      have HS6 := Lib.hid (same6_any 2 di F dp 2 fd0 F pw (fun _ => True) (fun _ => True) wc odi odp (fd0_ok _ _) (HV.out.2.2 _ HG2.out.1.1.below))
      have hv : (decide (2 = 2) && decide (F = F) && veqR di.r fd0.r && veqR dp.r pw.r) = true := by rw [hdi, hdp, HV.out.1, show veqR r0 fd0.r = true from veqR_self r0]; simp
      rw [hv] at HS6
      have HH := Lib.hid HG2.out.1
      unfold fd0 at HS6
      have a0 := hc1.c 0 _ rfl
      have a1 := hc1.c 1 _ rfl
      have a2 := hc1.c 2 _ rfl
      have a3 := hc1.c 3 _ rfl
      have a4 := hc1.c 4 _ rfl
      have a5 := hc1.c 5 _ rfl
      have a6 := hc1.c 6 _ rfl
      have a7 := hc1.c 7 _ rfl
      have a8 := hc1.c 8 _ rfl
      have a9 := hc1.c 9 _ rfl
      have m0 := HH.out.2.c 0 _ rfl
      have m1 := HH.out.2.c 1 _ rfl
      have m2 := HH.out.2.c 2 _ rfl
      have m3 := HH.out.2.c 3 _ rfl
      have m4 := HH.out.2.c 4 _ rfl
      have m5 := HH.out.2.c 5 _ rfl
      have m6 := HH.out.2.c 6 _ rfl
      have m7 := HH.out.2.c 7 _ rfl
      have m8 := HH.out.2.c 8 _ rfl
      have m9 := HH.out.2.c 9 _ rfl
      clear hv hdi hdp odi odp hG HG2 hc1
      go_wp2_with fail
      refine HS6.out.mono ?_
      rintro e v1 ⟨rfl, hB⟩
      have G := Lib.hid (HH.out.1.on hB)
      clear hB a0 a1 a2 a3 a4 a5 a6 a7 a8 a9 m0 m1 m2 m3 m4 m5 m6 m7 m8 m9
      go_wp2_with fail
      go_meet
      exact ⟨rfl, Lib.hid G.out⟩
  case rest =>
  obtain ⟨rfl, H8⟩ := hcut
  clear HG2
  go_upto_region 17 with fail
  go_cut [16] (fun c wx => c = .bool nul ∧ Hid (BkSt w i p wx ∧ True))
  case first =>
    obtain ⟨x0, x1, x2, x3⟩ := H8.out.b0.box
    go_wp2_with fail
    refine (HSM.out _ H8.out.below).mono ?_
    rintro e v1 ⟨rfl, hB⟩
    have G := Lib.hid (H8.out.on hB)
    clear hB x0 x1 x2 x3
    go_wp2_with fail
    go_meet
    exact ⟨rfl, Lib.hid ⟨G.out, trivial⟩⟩
  case rest =>
  obtain ⟨rfl, H9⟩ := hcut
  clear H8
  go_upto_region 18 with fail
  go_cut [17, 18] (fun g q wx => ∃ (b1 : Nat) (e : Int), g = .pointer (some ⟨b1, 0, none⟩) ∧ q = .int .i64 e ∧ Hid ((BkSt w i p wx ∧ True) ∧ GotC (may || nul) e wx b1 3 (gotV i.k i.x i.l i.f) (⟨#[]⟩) (r0)))
  case first =>
    obtain ⟨x0, x1, x2, x3⟩ := H9.out.1.b0.box
    obtain ⟨y0, y1, y2, y3⟩ := H9.out.1.b1.box
    go_wp2_with fail
    refine (HRP.out _ H9.out.1.below).mono ?_
    rintro e v1 ⟨v, u, rfl, hl, hf, hB⟩
    have G1 := Lib.hid (And.intro (H9.out.1.on hB) True.intro)
    have HR := Lib.hid (HR3.out v1 G1.out.1.below v u (hl.mono (fun _ _ _ => trivial)) (hf.mono (fun _ _ _ => trivial)))
    obtain ⟨p1, c1, rfl, -⟩ := hl.len
    obtain ⟨q1, d1, rfl, -⟩ := hf.len
    clear hl hf hB x0 x1 x2 x3 y0 y1 y2 y3
    go_wp2_with fail
    refine HR.out.mono ?_
    rintro e v2 hrd
    obtain ⟨ok, hok⟩ : ∃ r, r = (may || nul) := ⟨_, rfl⟩
    rw [← hok] at hrd
    have HOK := Lib.hid hok
    clear hok
    cases ok
    · obtain ⟨rfl, hB⟩ := readIs_no.1 hrd
      have hBa := (Below.refl v2.heap.size v2).alloc (Nat.le_refl _) (.cells #[.int .u8 0, .int .u8 0, .string ⟨#[]⟩, .slice none 0 0, .slice none 0 0, .string ⟨#[]⟩, .int .u8 0, .string ⟨#[]⟩, .slice none 0 0, .slice none 0 0] 40)
      have G2 := Lib.hid (And.intro (G1.out.1.on (hB.trans (hBa.mono hB.size))) True.intro)
      clear hrd hB hBa
      go_wp2_with fail
      go_meet
      exact ⟨_, _, rfl, rfl, Lib.hid ⟨G2.out, (fun h => by rw [← HOK.out] at h; cases h), fun _ => rfl⟩⟩
    · obtain ⟨di, dp, rfl, hdi, hdp, oi, op, hB⟩ := readIs_yes.1 hrd
      have hBa := (Below.refl v2.heap.size v2).alloc (Nat.le_refl _) (.cells #[.int .u8 3, .int .u8 di.k, .string di.x, .slice di.p di.n di.c, .slice di.q di.m di.e, .string ⟨#[]⟩, .int .u8 dp.k, .string dp.x, .slice dp.p dp.n dp.c, .slice dp.q dp.m dp.e] 40)
      have G2 := Lib.hid (And.intro (G1.out.1.on (hB.trans (hBa.mono hB.size))) True.intro)
      have HD := Lib.hid (And.intro hdi (And.intro hdp (And.intro ((oi.imp (A' := fun _ => True) (fun _ _ _ => trivial) (fun _ _ _ => rfl)).below hBa) ((op.imp (A' := fun _ => True) (fun _ _ _ => trivial) (fun _ _ _ => rfl)).below hBa))))
      clear hrd hB hBa hdi hdp oi op
      go_wp2_with fail
      go_meet
      exact ⟨_, _, rfl, rfl, Lib.hid ⟨G2.out, (fun _ => ⟨rfl, di, dp, heap_alloc_new _ _, HD.out⟩), (fun h => by rw [← HOK.out] at h; cases h)⟩⟩
  case rest =>
  obtain ⟨b3, e3, rfl, rfl, HC⟩ := hcut
  have H10 := Lib.hid (And.intro HC.out.1.1 HC.out.2)
  clear HC H9
  go_upto_region 19 with fail
  go_cut [19, 20] (fun g q wx => ∃ (b1 : Nat) (e : Int), g = .pointer (some ⟨b1, 0, none⟩) ∧ q = .int .i64 e ∧ Hid ((BkSt w i p wx ∧ GotC (may || nul) e3 wx b3 3 (gotV i.k i.x i.l i.f) ⟨#[]⟩ r0) ∧ GotC (may || nul) e wx b1 3 (gotV i.k i.x i.l i.f) (⟨#[]⟩) (r0)))
  case first =>
    obtain ⟨x0, x1, x2, x3⟩ := H10.out.1.b0.box
    obtain ⟨y0, y1, y2, y3⟩ := H10.out.1.b1.box
    go_wp2_with fail
    refine (HFL.out _ H10.out.1.below).mono ?_
    rintro e v1 ⟨v, u, rfl, hl, hf, hB⟩
    have G1 := Lib.hid (And.intro (H10.out.1.on hB) (H10.out.2.on hB))
    have HR := Lib.hid (HR4.out v1 G1.out.1.below v u (hl.mono (fun _ _ _ => trivial)) (hf.mono (fun _ _ _ => trivial)))
    obtain ⟨p1, c1, rfl, -⟩ := hl.len
    obtain ⟨q1, d1, rfl, -⟩ := hf.len
    clear hl hf hB x0 x1 x2 x3 y0 y1 y2 y3
    go_wp2_with fail
    refine HR.out.mono ?_
    rintro e v2 hrd
    obtain ⟨ok, hok⟩ : ∃ r, r = (may || nul) := ⟨_, rfl⟩
    rw [← hok] at hrd
    have HOK := Lib.hid hok
    clear hok
    cases ok
    · obtain ⟨rfl, hB⟩ := readIs_no.1 hrd
      have hBa := (Below.refl v2.heap.size v2).alloc (Nat.le_refl _) (.cells #[.int .u8 0, .int .u8 0, .string ⟨#[]⟩, .slice none 0 0, .slice none 0 0, .string ⟨#[]⟩, .int .u8 0, .string ⟨#[]⟩, .slice none 0 0, .slice none 0 0] 40)
      have G2 := Lib.hid (And.intro (G1.out.1.on (hB.trans (hBa.mono hB.size))) (G1.out.2.on (hB.trans (hBa.mono hB.size))))
      clear hrd hB hBa
      go_wp2_with fail
      go_meet
      exact ⟨_, _, rfl, rfl, Lib.hid ⟨G2.out, (fun h => by rw [← HOK.out] at h; cases h), fun _ => rfl⟩⟩
    · obtain ⟨di, dp, rfl, hdi, hdp, oi, op, hB⟩ := readIs_yes.1 hrd
      have hBa := (Below.refl v2.heap.size v2).alloc (Nat.le_refl _) (.cells #[.int .u8 3, .int .u8 di.k, .string di.x, .slice di.p di.n di.c, .slice di.q di.m di.e, .string ⟨#[]⟩, .int .u8 dp.k, .string dp.x, .slice dp.p dp.n dp.c, .slice dp.q dp.m dp.e] 40)
      have G2 := Lib.hid (And.intro (G1.out.1.on (hB.trans (hBa.mono hB.size))) (G1.out.2.on (hB.trans (hBa.mono hB.size))))
      have HD := Lib.hid (And.intro hdi (And.intro hdp (And.intro ((oi.imp (A' := fun _ => True) (fun _ _ _ => trivial) (fun _ _ _ => rfl)).below hBa) ((op.imp (A' := fun _ => True) (fun _ _ _ => trivial) (fun _ _ _ => rfl)).below hBa))))
      clear hrd hB hBa hdi hdp oi op
      go_wp2_with fail
      go_meet
      exact ⟨_, _, rfl, rfl, Lib.hid ⟨G2.out, (fun _ => ⟨rfl, di, dp, heap_alloc_new _ _, HD.out⟩), (fun h => by rw [← HOK.out] at h; cases h)⟩⟩
  case rest =>
  obtain ⟨b4, e4, rfl, rfl, HC⟩ := hcut
  have H11 := Lib.hid HC.out
  clear HC H10
  go_upto_region 20 with fail
  go_cut [135] (fun c wx => c = .bool false ∧ Hid (wx = wc))
  case first =>
    have hG3 := H11.out.1.2
    have hG4 := H11.out.2
    cases may <;> cases nul
    · obtain rfl : e3 = 60 := hG3.2 rfl
      obtain rfl : e4 = 60 := hG4.2 rfl
      clear hG3 hG4
      go_wp2_with fail
      go_meet
      exact ⟨rfl, Lib.hid rfl⟩
    all_goals
      obtain rfl : e3 = 0 := (hG3.1 rfl).1
      obtain rfl : e4 = 0 := (hG4.1 rfl).1
      clear hG3 hG4
      go_wp2_with fail
      go_meet
      exact ⟨rfl, Lib.hid rfl⟩
  case rest =>
  obtain ⟨rfl, hwc⟩ := hcut
  obtain rfl := hwc.out
  obtain ⟨ok, hok⟩ : ∃ r, r = (may || nul) := ⟨_, rfl⟩
  have hG3 := H11.out.1.2
  have hG4 := H11.out.2
  have HW := Lib.hid H11.out.1.1
  rw [← hok] at hG3 hG4
  clear H11 hok
  cases ok
  · obtain rfl : e3 = 60 := hG3.2 rfl
    clear hG3 hG4
    go_wp2_with fail
    go_ret
    exact ⟨rfl, HW.out.below⟩
  · obtain ⟨h0, di, dp, hc3, hdi, hdp, odi, odp⟩ := hG3.1 rfl
    obtain ⟨-, di4, dp4, hc4, hdi4, hdp4, odi4, odp4⟩ := hG4.1 rfl
    subst h0
    have HS6 := Lib.hid (same6_any 3 di ⟨#[]⟩ dp 3 i ⟨#[]⟩ fd0 (fun _ => True) (fun _ => True) wc odi odp (HOI.out _ HW.out.below) (fd0_ok _ _))
    have hv : (decide (3 = 3) && decide ((⟨#[]⟩ : ByteArray) = ⟨#[]⟩) && veqR di.r i.r && veqR dp.r fd0.r) = true := by rw [hdi, hdp, HV.out.2.1, show veqR r0 fd0.r = true from veqR_self r0]; simp
    rw [hv] at HS6
    have HS7 := Lib.hid (fun W (h : Below wc.heap.size wc W) => same6_any 3 di4 ⟨#[]⟩ dp4 3 di ⟨#[]⟩ dp (fun _ => True) (fun _ => True) W (odi4.below h) (odp4.below h) (odi.below h) (odp.below h))
    have hv2 : (decide (3 = 3) && decide ((⟨#[]⟩ : ByteArray) = ⟨#[]⟩) && veqR di4.r di.r && veqR dp4.r dp.r) = true := by rw [hdi, hdp, hdi4, hdp4, veqR_self, veqR_self]; simp
    rw [hv2] at HS7
    unfold fd0 at HS6
    have HC3 := Lib.hid (And.intro hc3 hc4)
    have a0 := hc3.c 0 _ rfl
    have a1 := hc3.c 1 _ rfl
    have a2 := hc3.c 2 _ rfl
    have a3 := hc3.c 3 _ rfl
    have a4 := hc3.c 4 _ rfl
    have a5 := hc3.c 5 _ rfl
    have a6 := hc3.c 6 _ rfl
    have a7 := hc3.c 7 _ rfl
    have a8 := hc3.c 8 _ rfl
    have a9 := hc3.c 9 _ rfl
    have m0 := hc4.c 0 _ rfl
    have m1 := hc4.c 1 _ rfl
    have m2 := hc4.c 2 _ rfl
    have m3 := hc4.c 3 _ rfl
    have m4 := hc4.c 4 _ rfl
    have m5 := hc4.c 5 _ rfl
    have m6 := hc4.c 6 _ rfl
    have m7 := hc4.c 7 _ rfl
    have m8 := hc4.c 8 _ rfl
    have m9 := hc4.c 9 _ rfl
    clear hv hv2 hdi hdp odi odp hdi4 hdp4 odi4 odp4 hG3 hG4 hc3 hc4
    obtain ⟨x0, x1, x2, x3⟩ := HW.out.b0.box
    go_wp2_with fail
    refine HS6.out.mono ?_
    rintro e v1 ⟨rfl, hB⟩
    have G := Lib.hid (And.intro (HW.out.on hB) (And.intro (HC3.out.1.same hB) (And.intro (HC3.out.2.same hB) hB)))
    clear hB a0 a1 a2 a3 a4 a5 a6 a7 a8 a9 m0 m1 m2 m3 m4 m5 m6 m7 m8 m9 x0 x1 x2 x3 HC3 HW
    have a0 := G.out.2.1.c 0 _ rfl
    have a1 := G.out.2.1.c 1 _ rfl
    have a2 := G.out.2.1.c 2 _ rfl
    have a3 := G.out.2.1.c 3 _ rfl
    have a4 := G.out.2.1.c 4 _ rfl
    have a5 := G.out.2.1.c 5 _ rfl
    have a6 := G.out.2.1.c 6 _ rfl
    have a7 := G.out.2.1.c 7 _ rfl
    have a8 := G.out.2.1.c 8 _ rfl
    have a9 := G.out.2.1.c 9 _ rfl
    have m0 := G.out.2.2.1.c 0 _ rfl
    have m1 := G.out.2.2.1.c 1 _ rfl
    have m2 := G.out.2.2.1.c 2 _ rfl
    have m3 := G.out.2.2.1.c 3 _ rfl
    have m4 := G.out.2.2.1.c 4 _ rfl
    have m5 := G.out.2.2.1.c 5 _ rfl
    have m6 := G.out.2.2.1.c 6 _ rfl
    have m7 := G.out.2.2.1.c 7 _ rfl
    have m8 := G.out.2.2.1.c 8 _ rfl
    have m9 := G.out.2.2.1.c 9 _ rfl
    go_wp2_with fail
    refine (HS7.out _ G.out.2.2.2).mono ?_
    rintro e v2 ⟨rfl, hB⟩
    have G2 := Lib.hid (G.out.1.on hB)
    clear hB a0 a1 a2 a3 a4 a5 a6 a7 a8 a9 m0 m1 m2 m3 m4 m5 m6 m7 m8 m9
    go_wp2_with fail
    go_ret
    exact ⟨rfl, G2.out.below⟩
end Go.Proofs.YtepjomdjkoaofaaGreatDoor
