/- A number's value tells the number, a text's value is written as it is quoted: the given law, walked. Conditions: such as Go can hold; the library's tables as its text lays them. -/
import Derived.Test.YtgcdfkoobbijeaaGreatDoorMP46
import Derived.Test.YtgcdfkoobbijeaaGreatDoorMP47
import Derived.Test.YtgcdfkoobbijeaaGreatDoorMP48
import Derived.Test.YtgcdfkoobbijeaaGreatDoorMP34
import Derived.Lib.AtoiAllCases
import Derived.Lib.ItoaMem
namespace Go.Proofs.YtgcdfkoobbijeaaGreatDoor
open Go Go.RowKit Go.Shelf Go.Lib

theorem parse_snoc : ∀ (l r : List UInt8) (acc v : Nat), Lib.parseUint10 acc l = .ok v → Lib.parseUint10 acc (l ++ r) = Lib.parseUint10 v r
  | [], r, acc, v, h => by
    simp only [Lib.parseUint10] at h
    injection h with h
    rw [h]; rfl
  | c :: l, r, acc, v, h => by
    simp only [Lib.parseUint10, List.cons_append] at h ⊢
    split at h
    · rename_i h1
      rw [if_pos h1]
      split at h
      · cases h
      · rename_i h2
        rw [if_neg h2]
        split at h
        · cases h
        · rename_i h3
          rw [if_neg h3]
          exact parse_snoc l r _ v h
    · cases h
theorem digit_u8 {d : Nat} (h : d < 10) : (UInt8.ofNat (48 + d)).toNat = 48 + d := Nat.mod_eq_of_lt (by omega)
theorem parse_one {acc d : Nat} (hd : d < 10) (h : acc * 10 + d < 18446744073709551616) (ha : acc < 1844674407370955162) : Lib.parseUint10 acc [UInt8.ofNat (48 + d)] = .ok (acc * 10 + d) := by
  simp only [Lib.parseUint10]
  rw [digit_u8 hd, if_pos (by omega), if_neg (by omega), show 48 + d - 48 = d by omega, if_neg (by omega)]
theorem parse_dec (u : Nat) : u < 18446744073709551616 → Lib.parseUint10 0 (Lib.decDigits u) = .ok u := by
  induction u using Nat.strongRecOn with
  | ind u ih =>
    intro hu
    unfold Lib.decDigits
    by_cases h : u < 10
    · rw [dif_pos h]
      have := parse_one (acc := 0) h (by omega) (by omega)
      rw [Nat.zero_mul, Nat.zero_add] at this
      exact this
    · rw [dif_neg h, parse_snoc _ _ _ _ (ih (u / 10) (by omega) (by omega)), parse_one (by omega) (by omega) (by omega)]
      congr 1
      omega
theorem dec_digits (u : Nat) : ∀ b ∈ Lib.decDigits u, 48 ≤ b.toNat ∧ b.toNat ≤ 57 := by
  induction u using Nat.strongRecOn with
  | ind u ih =>
    intro b hb
    unfold Lib.decDigits at hb
    by_cases h : u < 10
    · rw [dif_pos h, List.mem_singleton] at hb
      rw [hb, digit_u8 h]; omega
    · rw [dif_neg h, List.mem_append, List.mem_singleton] at hb
      rcases hb with hb | hb
      · exact ih (u / 10) (by omega) b hb
      · rw [hb, digit_u8 (by omega)]; omega
/-- the first digit -/
theorem dec_first (u : Nat) : ∃ b l, Lib.decDigits u = b :: l ∧ (b.toNat = 48 → u = 0) := by
  induction u using Nat.strongRecOn with
  | ind u ih =>
    unfold Lib.decDigits
    by_cases h : u < 10
    · rw [dif_pos h]
      exact ⟨_, [], rfl, fun e => by rw [digit_u8 h] at e; omega⟩
    · obtain ⟨b, l, e, hb⟩ := ih (u / 10) (by omega)
      rw [dif_neg h, e]
      exact ⟨b, l ++ [UInt8.ofNat (48 + u % 10)], rfl, fun e2 => by have := hb e2; omega⟩
theorem parseMag_dec {u : Nat} (hu : u < 18446744073709551616) : Lib.parseMag (Lib.decDigits u) = .ok u := by
  obtain ⟨b, l, e, _⟩ := dec_first u
  unfold Lib.parseMag
  rw [if_neg (by rw [e]; simp)]
  exact parse_dec u hu
theorem atoi_itoa (n : Int) (h0 : -9223372036854775808 ≤ n) (h1 : n ≤ 9223372036854775807) : Lib.atoiAll (Lib.itoa n) = .ok n := by
  by_cases hn : n < 0
  · obtain ⟨u, rfl⟩ : ∃ u : Nat, n = -(u : Int) := ⟨n.natAbs, by omega⟩
    rw [Lib.itoa_neg u (by omega), Lib.atoiAll_minus, parseMag_dec (by omega)]
    unfold Lib.signed
    simp only
    rw [if_neg (by omega)]
  · obtain ⟨u, rfl⟩ := Int.eq_ofNat_of_zero_le (show 0 ≤ n by omega)
    rw [Lib.itoa_nonneg]
    obtain ⟨b, l, e, _⟩ := dec_first u
    have hb := dec_digits u b (by rw [e]; exact List.mem_cons_self ..)
    have hp := parseMag_dec (u := u) (by omega)
    rw [e] at hp ⊢
    rw [Lib.atoiAll_plain b l (by omega) (by omega), hp]
    unfold Lib.signless
    simp only
    rw [if_neg (by omega)]
theorem dg_all {s : ByteArray} : ∀ (n p : Nat), p + n = s.size → (∀ i, p ≤ i → i < s.size → J.dgt (s.get! i).toNat = true) → J.dg s p = s.size
  | 0, p, h, _ => by
    rw [J.dg_stop (fun e => by omega)]
    omega
  | n + 1, p, h, hd => by
    rw [J.dg_step (by omega) (hd p (Nat.le_refl _) (by omega))]
    exact dg_all n (p + 1) (by omega) (fun i h1 h2 => hd i (by omega) h2)
/-- digits stand from a place on -/
theorem int_from {s : ByteArray} {p u : Nat} (h : Seg s p (Lib.decDigits u)) (hz : s.size = p + (Lib.decDigits u).length) : J.n2 s p 0 = (s.size, 0) := by
  obtain ⟨b, l, e, hb⟩ := dec_first u
  have hd := dec_digits u
  unfold J.n2
  cases hi : J.is s p 0 48
  · rw [if_neg (by decide)]
    have hall : ∀ i, p ≤ i → i < s.size → J.dgt (s.get! i).toNat = true := fun i h1 h2 => by
      have h3 := h.2 (i - p) (by omega)
      rw [show p + (i - p) = i by omega] at h3
      rw [h3]
      have h4 := hd ((Lib.decDigits u).getD (i - p) 0) (by
        rw [List.getD_eq_getElem?_getD, List.getElem?_eq_getElem (show i - p < (Lib.decDigits u).length by omega)]
        exact List.getElem_mem _)
      exact decide_eq_true h4
    have hg := dg_all (s.size - p) p (by omega) hall
    have hl : 0 < (Lib.decDigits u).length := by rw [e]; simp
    rw [J.ds_some (by rw [hg]; omega), hg]
  · rw [if_pos rfl]
    rw [e] at h
    have h0 := h.at
    rw [h0.is] at hi
    have hu := hb (of_decide_eq_true hi)
    subst hu
    have : Lib.decDigits 0 = [UInt8.ofNat (48 + 0)] := Lib.decDigits_one (by decide)
    rw [this] at hz
    rw [hz]
    rfl
theorem int_itoa (n : Int) : bothS (ciS ⟨(Lib.itoa n).toArray⟩) = true := by
  have h := ci_is ⟨(Lib.itoa n).toArray⟩ 0
  rw [suf_zero] at h
  have hsz : (⟨(Lib.itoa n).toArray⟩ : ByteArray).size = (Lib.itoa n).length := List.size_toArray
  have hw := Seg.whole (Lib.itoa n)
  have key : J.n2 ⟨(Lib.itoa n).toArray⟩ (J.bp ⟨(Lib.itoa n).toArray⟩ 0 0 45) 0 = ((⟨(Lib.itoa n).toArray⟩ : ByteArray).size, 0) := by
    by_cases hn : n < 0
    · obtain ⟨u, hu⟩ : ∃ u : Nat, n = -(u : Int) := ⟨n.natAbs, by omega⟩
      have e : Lib.itoa n = 45 :: Lib.decDigits u := by rw [hu, Lib.itoa_neg u (by omega)]
      rw [e] at hw hsz ⊢
      have h0 := hw.at
      rw [J.bp_yes (by rw [h0.is]; decide)]
      exact int_from hw.tail (by rw [hsz, List.length_cons]; omega)
    · obtain ⟨u, hu⟩ := Int.eq_ofNat_of_zero_le (show 0 ≤ n by omega)
      have e : Lib.itoa n = Lib.decDigits u := by rw [hu, Lib.itoa_nonneg]
      rw [e] at hw hsz ⊢
      obtain ⟨b, l, e2, _⟩ := dec_first u
      have hb := dec_digits u b (by rw [e2]; exact List.mem_cons_self ..)
      have h0 : At ⟨(Lib.decDigits u).toArray⟩ 0 b.toNat := by
        have hw2 := hw
        rw [e2] at hw2 ⊢
        exact hw2.at
      rw [J.bp_no (by rw [h0.is]; exact decide_eq_false (by omega))]
      exact int_from hw (by rw [hsz]; omega)
  rw [h, key]
  unfold bothS cut2
  rw [suf_size]
  simp
theorem qL_fix (s : ByteArray) : qL (U.fixS s) = qL s := by
  rw [qL_valid (U.fix_valid s)]
  unfold qL
  rw [← fix_rbs s s.size 0]
  rfl
theorem wr_text (x : ByteArray) : wrV 4 x .nil .nil = qL x := rfl
theorem may_text {x : ByteArray} (h : U.valid x = true) : mayV 4 x .nil .nil 0 = true := by
  unfold mayV
  have e : txk 4 x = true := h
  rw [e]
  rfl
/-- a text's value, written and read -/
theorem text_pure {s : ByteArray} (hs : s.size ≤ 20000) : prn 4 (U.fixS s) .nil .nil = (⟨(qL s).toArray⟩, 0) ∧ prsAll ⟨(qL s).toArray⟩ = ((4, U.fixS s, .nil, .nil), 0, 0) := by
  have h1 := may_text (U.fix_valid s)
  have h2 := qL_len s
  have h3 : (wrV 4 (U.fixS s) .nil .nil).length ≤ 262144 := by rw [wr_text, qL_fix]; omega
  have h4 := back_whole h1 trivial trivial h3
  rw [wr_text, qL_fix] at h4
  refine ⟨?_, h4⟩
  unfold prn
  rw [if_pos h1, wr_text, qL_fix, if_neg (by omega)]
theorem pow_lower {w w' : World} (h : PowTab w) (hb : Below w.heap.size w w') : PowTab w' := Lib.tabBelow_of_tabIs h w' hb

structure PlSt (w : World) (B : Nat) (F : ByteArray) (v u : Value) (W : World) : Prop where
  below : Below w.heap.size w W
  b : Blk4 W B 25 (.int .u8 4) (.string F) v u
  l : HS W (fun _ => True) 0 v .nil
  f : HS W (fun _ => True) 1 u .nil
theorem PlSt.on {w : World} {B : Nat} {F : ByteArray} {v u : Value} {W W' : World} (h : PlSt w B F v u W) (hB : Below W.heap.size W W') : PlSt w B F v u W' :=
  ⟨h.below.trans (hB.mono h.below.size), h.b.same (hB.block _ h.b.lt), h.l.below hB, h.f.below hB⟩
theorem PlSt.cells {w : World} {B : Nat} {F : ByteArray} {v u : Value} {W : World} (h : PlSt w B F v u W) :
    W.cell? ⟨B, 0, none⟩ = some (.int .u8 4) ∧ W.cell? ⟨B, 1, none⟩ = some (.string F) ∧ W.cell? ⟨B, 2, none⟩ = some v ∧ W.cell? ⟨B, 3, none⟩ = some u := h.b.cells

set_option maxHeartbeats 4000000 in
set_option maxRecDepth 100000 in
theorem plainLaw_any (n : Int) (s : ByteArray) (w : World) (hn : -9223372036854775808 ≤ n ∧ n ≤ 9223372036854775807) (_hs : s.size ≤ 9223372036854775807) (hP : PowTab w) (hT : Tabs w) :
    Calls Tryz.prog 5 #[.int .i64 n, .string s] w (TrueIs w) := by
  have AW := awake4_any w hT
  have HAW := Lib.hid AW
  by_cases hl : 20000 < s.size
  · have tl : decide ((20000 : Int) < (s.size : Int)) = true := decide_eq_true (by omega)
    clear hl AW
    go_enter Tryz.func5, Tryz.ntmps5
    go_wp2_with fail
    refine HAW.out.mono ?_
    rintro e w1 ⟨rfl, hB1⟩
    have H1 := Lib.hid hB1
    clear hB1
    go_wp2_with fail
    go_ret
    exact ⟨rfl, H1.out⟩
  · have tl : decide ((20000 : Int) < (s.size : Int)) = false := decide_eq_false (by omega)
    have hz : (U.fixS s).size ≤ 60000 := by have := U.fix_size s; omega
    obtain ⟨q1, q2⟩ := text_pure (s := s) (by omega)
    have hq := qL_len s
    have hnu : ∀ W, Below w.heap.size w W → Calls Tryz.prog 21 #[.int .i64 n] W (fun e w' => e = .returned (.agg #[.int .u8 3, .string ⟨(Lib.itoa n).toArray⟩, .slice none 0 0, .slice none 0 0]) ∧ Below W.heap.size W w') := fun W (hB : Below w.heap.size w W) => numberJ_any n hn.1 hn.2 W (fun w' hb => pow_lower (pow_lower hP hB) hb)
    have HNU := Lib.hid hnu
    have HIN := Lib.hid (fun W => int_some ⟨(Lib.itoa n).toArray⟩ (.slice none 0 0) (.slice none 0 0) n W (by
      have := Lib.itoa_length_le n hn.1 hn.2
      show (Lib.itoa n).toArray.size ≤ _
      rw [List.size_toArray]; omega) (int_itoa n) (atoi_itoa n hn.1 hn.2))
    have HTX := Lib.hid (fun W (hB : Below w.heap.size w W) => text4_any s W (by omega) (by omega) (tabs_below hT hB))
    have HI4 := Lib.hid (fun W => int_kind 4 (U.fixS s) (.slice none 0 0) (.slice none 0 0) W (by decide))
    have hpr := fun W (hB : Below w.heap.size w W) => print_any 4 (U.fixS s) (.slice none 0 0) (.slice none 0 0) .nil .nil (fun _ => True) W (gv_of (HS.nil _ _ _) (HS.nil _ _ _) (by decide) (.inl ⟨rfl, by omega⟩)) (tabs_below hT hB)
    rw [q1] at hpr
    have HQU := Lib.hid (fun W => quote_any s W (by omega))
    have hpa := fun W (hB : Below w.heap.size w W) => Parse_any ⟨(qL s).toArray⟩ W (by show (qL s).toArray.size ≤ _; rw [List.size_toArray]; omega) (tabs_below hT hB)
    rw [q2] at hpa
    have hsa := fun (W : World) (v u : Value) (h1 : HS W (fun _ => True) 0 v .nil) (h2 : HS W (fun _ => True) 1 u .nil) => same_any 1 4 (U.fixS s) v u .nil .nil 4 (U.fixS s) (.slice none 0 0) (.slice none 0 0) .nil .nil (fun _ => True) (fun _ => True) W (by decide) h1 h2 (HS.nil _ _ _) (HS.nil _ _ _)
    simp only [V.veq_self, show ((4 : Nat) : Int) = 4 from rfl] at hsa
    have HPR := Lib.hid hpr
    have HPA := Lib.hid hpa
    have HSA := Lib.hid hsa
    generalize (⟨(qL s).toArray⟩ : ByteArray) = q at *
    generalize U.fixS s = F at *
    generalize (⟨(Lib.itoa n).toArray⟩ : ByteArray) = D at *
    have t1 : (q.toList == q.toList) = true := by simp
    have t2 : ((n : Int) == n) = true := by simp
    clear hl AW q1 q2 hq hpr hpa hsa hz hP hT hn hnu
    go_enter Tryz.func5, Tryz.ntmps5
    go_wp2_with fail
    refine HAW.out.mono ?_
    rintro e w1 ⟨rfl, hB1⟩
    have H1 := Lib.hid hB1
    clear hB1
    go_wp2_with fail
    refine (HNU.out _ H1.out).mono ?_
    rintro e w2 ⟨rfl, hB2⟩
    have H2 := Lib.hid (H1.out.trans (hB2.mono H1.out.size))
    clear hB2
    go_wp2_with fail
    refine (HIN.out _).mono ?_
    rintro e w3 ⟨rfl, hB3⟩
    have H3 := Lib.hid (H2.out.trans (hB3.mono H2.out.size))
    clear hB3
    go_wp2_with fail
    refine (HTX.out _ H3.out).mono ?_
    rintro e w4 ⟨rfl, hB4⟩
    have H4 := Lib.hid (H3.out.trans (hB4.mono H3.out.size))
    clear hB4
    go_wp2_with fail
    refine (HPR.out _ H4.out).mono ?_
    rintro e w5 ⟨rfl, hB5⟩
    have H5 := Lib.hid (H4.out.trans (hB5.mono H4.out.size))
    clear hB5
    go_wp2_with fail
    refine (HTX.out _ H5.out).mono ?_
    rintro e w6 ⟨rfl, hB6⟩
    have H6 := Lib.hid (H5.out.trans (hB6.mono H5.out.size))
    clear hB6
    go_wp2_with fail
    refine (HI4.out _).mono ?_
    rintro e w7 ⟨rfl, hB7⟩
    have H7 := Lib.hid (H6.out.trans (hB7.mono H6.out.size))
    clear hB7
    go_wp2_with fail
    refine (HQU.out _).mono ?_
    rintro e w8 ⟨rfl, hB8⟩
    have H8 := Lib.hid (H7.out.trans (hB8.mono H7.out.size))
    clear hB8
    go_wp2_with fail
    refine (HPA.out _ H8.out).mono ?_
    rintro e w9 ⟨v9, u9, rfl, hl9, hf9, -, hB9⟩
    dsimp only at hl9 hf9
    obtain ⟨p9, q9, rfl, -⟩ := hl9.len
    obtain ⟨p10, q10, rfl, -⟩ := hf9.len
    have G0 := Lib.hid (show PlSt w w9.heap.size F (.slice p9 V.T.nil.len q9) (.slice p10 V.T.nil.len q10) (w9.alloc (.cells #[.int .u8 4, .string F, .slice p9 V.T.nil.len q9, .slice p10 V.T.nil.len q10] 25)) from
      ⟨(H8.out.trans (hB9.mono H8.out.size)).alloc (Nat.le_trans H8.out.size hB9.size) _, heap_alloc_new _ _, (hl9.mono (fun _ _ _ => trivial)).alloc _, (hf9.mono (fun _ _ _ => trivial)).alloc _⟩)
    clear hB9 hl9 hf9
    have c := G0.out.cells
    obtain ⟨c0, c1, c2, c3⟩ := c
    go_wp2_with fail
    generalize w9.alloc (.cells #[.int .u8 4, .string F, .slice p9 V.T.nil.len q9, .slice p10 V.T.nil.len q10] 25) = W0 at *
    have HQ2 := Lib.hid (fun W' (h : PlSt w w9.heap.size F (.slice p9 V.T.nil.len q9) (.slice p10 V.T.nil.len q10) W') => HTX.out W' h.below)
    have HS2 := Lib.hid (fun W' (h : PlSt w w9.heap.size F (.slice p9 V.T.nil.len q9) (.slice p10 V.T.nil.len q10) W') => HSA.out W' _ _ h.l h.f)
    have HD := Lib.hid (G0.out.on (Below.refl W0.heap.size W0).drew)
    clear H1 H2 H3 H4 H5 H6 H7 H8 HNU HIN HI4 HPR HPA HSA HTX HAW
    go_region_held3 (fun w' => w'.cell? ⟨w9.heap.size, 0, none⟩ = some (.int .u8 4) ∧ w'.cell? ⟨w9.heap.size, 1, none⟩ = some (.string F) ∧ w'.cell? ⟨w9.heap.size, 2, none⟩ = some (.slice p9 V.T.nil.len q9) ∧ w'.cell? ⟨w9.heap.size, 3, none⟩ = some (.slice p10 V.T.nil.len q10))
      (first | with_reducible exact K1.out.cells | with_reducible exact HD.out.cells)
      (first
        | (go_at_call 23; (with_reducible refine (HQU.out _).mono ?_); rintro e w10 ⟨rfl, hB10⟩; first | (have K1 := Lib.hid (K1.out.on hB10)) | (have K1 := Lib.hid (HD.out.on hB10)))
        | (go_at_call 22; (with_reducible refine (HQ2.out _ (by first | with_reducible exact K1.out | with_reducible exact HD.out)).mono ?_); rintro e w10 ⟨rfl, hB10⟩; first | (have K1 := Lib.hid (K1.out.on hB10)) | (have K1 := Lib.hid (HD.out.on hB10)))
        | (go_at_call 18; (with_reducible refine (HS2.out _ (by first | with_reducible exact K1.out | with_reducible exact HD.out)).mono ?_); rintro e w10 ⟨rfl, hB10⟩; first | (have K1 := Lib.hid (K1.out.on hB10)) | (have K1 := Lib.hid (HD.out.on hB10))))
    all_goals
      go_wp2_with fail
      go_ret
      exact ⟨rfl, K1.out.below⟩
end Go.Proofs.YtgcdfkoobbijeaaGreatDoor
