/- The place by lines of a place in a rope. Conditions: a text of at most 10^9 bytes; the library's tables. -/
import Derived.Test.YtjeopabnddekgaaDoorMQ02
import Derived.Test.YtjeopabnddekgaaDoorME53
namespace Go.Proofs.YtjeopabnddekgaaDoor
open Go Go.RowKit Go.Lib

def FPs (rv : Value) (i b S f t uM uF C : Nat) : Nat → Value → World → Prop
  | 0, y, _ => y = .int .i64 (i : Nat)
  | 1, y, _ => y = rv
  | 2, y, _ => y = .int .i64 (b : Nat)
  | 3, y, _ => y = .pointer (some ⟨S, 1, none⟩)
  | 4, y, _ => y = .int .i64 (t : Nat)
  | 5, y, _ => y = .int .i64 (min (b : Int) (t : Int))
  | 6, y, _ => ∃ c : R.Cn, y = .agg #[Value.int .i64 (((c).b : Nat) : Int), Value.int .i64 (((c).u : Nat) : Int), Value.int .i64 (((c).k : Nat) : Int), Value.bool (c).f, Value.bool (c).e] ∧ c.u = uM
  | 7, y, _ => y = .int .i64 (uM : Nat)
  | 8, y, _ => y = rv
  | 9, y, _ => y = .pointer (some ⟨S, 0, none⟩)
  | 10, y, _ => y = .int .i64 (f : Nat)
  | 11, y, _ => ∃ c : R.Cn, y = .agg #[Value.int .i64 (((c).b : Nat) : Int), Value.int .i64 (((c).u : Nat) : Int), Value.int .i64 (((c).k : Nat) : Int), Value.bool (c).f, Value.bool (c).e] ∧ c.u = uF
  | 12, y, _ => y = .int .i64 (uF : Nat)
  | 13, y, _ => y = .int .i64 (C : Nat)
  | 14, y, _ => y = .agg #[.int .i64 (i : Nat), .int .i64 (C : Nat)]
  | _, _, _ => True
theorem FPs.on {rv : Value} {i b S f t uM uF C : Nat} {iz : Nat} {y : Value} {W W' : World} (h : FPs rv i b S f t uM uF C iz y W) : FPs rv i b S f t uM uF C iz y W' := by
  unfold FPs at h ⊢
  split at h <;> first | exact h | trivial
theorem info_pos9 : (Tryd.prog.info? 38).map (·.size) = some 2 := by kernel_rfl
def PosRow (w : World) (b : Nat) (x y : Int) : Prop := w.heap[b]? = some (.cells #[.int .i64 x, .int .i64 y] 38 (0, 0))
theorem PosRow.set {w : World} {b : Nat} {x y : Int} (h : PosRow w b x y) (x' y' : Int) : PosRow (w.setRow b #[.int .i64 x', .int .i64 y']) b x' y' := by
  unfold PosRow at *
  simp [World.setRow, Array.getElem?_modify, h]
theorem PosRow.below {w w' : World} {b : Nat} {x y : Int} (h : PosRow w b x y) (hB : Below w.heap.size w w') : PosRow w' b x y := (hB.block b (Array.getElem?_eq_some_iff.1 h).1).trans h
def Pos9Is (x : ByteArray) (b : Nat) (w : World) (e : Ending) (w' : World) : Prop := e = .returned (.agg #[.int .i64 (posL x b : Nat), .int .i64 (posC x b : Nat)]) ∧ Below w.heap.size w w'
theorem cnu9 (s : ByteArray) : (R.cn s).u = U.units s := rfl
theorem cnk9 (x : ByteArray) (b : Nat) (hb : b ≤ x.size) : (R.cn (x.extract 0 b)).k = if L.to x (L.ln x b) < b then L.ln x b + 1 else L.ln x b := by
  rw [R.cn_k, show (x.extract 0 b).data.toList = (Ed.bl x).take b from by
    have := Ed.bl_ext x 0 b
    rw [List.drop_zero, Nat.sub_zero] at this
    exact this]
  exact bk_take x b hb
theorem posC9 {x : ByteArray} (hv : U.valid x = true) {b : Nat} (hb : b ≤ x.size) : U.units (x.extract 0 (L.fr x (L.ln x b))) + posC x b = U.units (x.extract 0 (min b (L.to x (L.ln x b)))) := by
  have hn := L.ln_lt x b
  have hfb := L.ln_le x b
  have hge := L.to_ge hn
  have hfx := L.fr_le hn
  have hx : U.valid (x.extract 0 (L.fr x (L.ln x b))) = true := by
    obtain ⟨u, m, v, h, ea, eb, vu, vm, vv, x1, x2, x3⟩ := at_parts hv (L.at_fr _ hn).1 (L.at_fr _ hn).2 hge (L.to_le hn)
    rw [x1]; exact vu
  have e : x.extract 0 (min b (L.to x (L.ln x b))) = x.extract 0 (L.fr x (L.ln x b)) ++ x.extract (L.fr x (L.ln x b)) (min b (L.to x (L.ln x b))) := by
    rw [ByteArray.extract_append_extract]
    congr 1 <;> omega
  unfold posC
  rw [e, U.units_app _ _ hx]
/-- what Pos goes by -/
theorem pos_facts {x : ByteArray} {b : Nat} (hb : b ≤ x.size) : ∃ k, (R.cn (x.extract 0 b)).k = k ∧ k < L.mny x ∧ (b < L.fr x k → k = L.ln x b + 1) ∧ (L.fr x k ≤ b → k = L.ln x b) := by
  have hn := L.ln_lt x b
  have hfb := L.ln_le x b
  refine ⟨_, rfl, ?_⟩
  rw [cnk9 x b hb]
  by_cases h : L.to x (L.ln x b) < b
  · rw [if_pos h]
    have h1 : L.ln x b + 1 < L.mny x := by
      by_cases h1 : L.ln x b + 1 < L.mny x
      · exact h1
      · have := L.to_end hn h1; omega
    have : b < L.fr x (L.ln x b + 1) := L.ln_up x (Nat.lt_succ_self _) h1
    exact ⟨h1, fun _ => rfl, fun h2 => by omega⟩
  · rw [if_neg h]
    exact ⟨hn, fun h2 => by omega, fun _ => rfl⟩
set_option maxHeartbeats 8000000 in
set_option maxRecDepth 100000 in
theorem pos9_any (i0 : Int) (v : Value) (t0 : R.T) (w : World) (h : RopeAt w v t0) (hs : t0.tx.size ≤ 1000000000) (hi : I64 i0) (hT : Tabs w) : Calls Tryd.prog 22 #[v, .int .i64 i0] w (Pos9Is t0.tx (U.bga t0.tx i0) w) := by
  have hle := U.bga_le t0.tx i0
  have hfit : t0.Fit := by obtain ⟨b, rv, rfl, hb, hn, ht⟩ := h; exact ht
  have hv := hfit.valid
  generalize hbb : U.bga t0.tx i0 = b at *
  have hn := L.ln_lt t0.tx b
  obtain ⟨kk, p1, p0, p2, p3⟩ := pos_facts hle
  have p4 := posC9 hv hle
  rw [← cnu9, ← cnu9] at p4
  have hfr := L.fr_le hn
  have hto := L.to_le hn
  have hmny := L.mny_le t0.tx
  have hfb := L.ln_le t0.tx b
  have HS := Lib.hid (fun (k : Nat) (hk : k < L.mny t0.tx) W (hB : Below w.heap.size w W) => (show Calls Tryd.prog 18 #[v, .int .i64 (k : Nat)] W (fun e w' => e = .returned (.tuple #[.int .i64 (L.fr t0.tx k : Nat), .bool true]) ∧ Below W.heap.size W w') from by
    have k1 := start_any (k : Int) v t0 W (h.below hB) hs ⟨by omega, by omega⟩
    rw [R.start_spec t0 hfit, if_pos ⟨by omega, by omega⟩, show ((k : Nat) : Int).toNat = k by omega] at k1
    exact k1))
  have HCn := Lib.hid (fun W (hB : Below w.heap.size w W) => (show Calls Tryd.prog 54 #[v, .int .i64 (L.ln t0.tx b : Nat)] W (fun e w' => e = .returned (.tuple #[.agg #[.int .i64 (L.fr t0.tx (L.ln t0.tx b) : Nat), .int .i64 (L.to t0.tx (L.ln t0.tx b) : Nat)], .bool true]) ∧ Below W.heap.size W w') from by
    have k1 := content_any (L.ln t0.tx b : Int) v t0 W (h.below hB) hs (by omega) (by omega)
    rw [R.con_spec t0 hfit, if_pos hn] at k1
    exact k1))
  obtain ⟨bR, rv, rfl, hbR, hnt, -⟩ := h
  have HTr := Lib.hid (fun W (hB : Below w.heap.size w W) => tree_is bR rv W ((hB.block bR (Array.getElem?_eq_some_iff.1 hbR).1).trans hbR))
  have HBg := Lib.hid (fun W (hB : Below w.heap.size w W) => begin_any i0 rv t0 W hfit (by omega) hi (hnt.below hB) (tabs_below hT hB))
  rw [hbb] at HBg
  have HB0 := Lib.hid (fun W (hB : Below w.heap.size w W) => before_any b rv t0 W hfit (by omega) hle (hnt.below hB))
  obtain ⟨uM, hUM⟩ : ∃ u, (R.cn (t0.tx.extract 0 (min b (L.to t0.tx (L.ln t0.tx b))))).u = u := ⟨_, rfl⟩
  obtain ⟨uF, hUF⟩ : ∃ u, (R.cn (t0.tx.extract 0 (L.fr t0.tx (L.ln t0.tx b)))).u = u := ⟨_, rfl⟩
  have HB1 := Lib.hid (fun W (hB : Below w.heap.size w W) => (show Calls Tryd.prog 56 #[rv, .int .i64 (min (b : Int) (L.to t0.tx (L.ln t0.tx b) : Int))] W (fun e w' => ∃ c : R.Cn, e = .returned (.agg #[Value.int .i64 ((c.b : Nat) : Int), Value.int .i64 ((c.u : Nat) : Int), Value.int .i64 ((c.k : Nat) : Int), Value.bool c.f, Value.bool c.e]) ∧ c.u = uM ∧ Below W.heap.size W w') from by
    have k1 := before_any (min b (L.to t0.tx (L.ln t0.tx b))) rv t0 W hfit (by omega) (by omega) (hnt.below hB)
    rw [show ((min b (L.to t0.tx (L.ln t0.tx b)) : Nat) : Int) = min (b : Int) (L.to t0.tx (L.ln t0.tx b) : Int) by omega] at k1
    exact k1.mono (fun e w' h => ⟨_, h.1, hUM, h.2⟩)))
  have HB2 := Lib.hid (fun W (hB : Below w.heap.size w W) => (show Calls Tryd.prog 56 #[rv, .int .i64 (L.fr t0.tx (L.ln t0.tx b) : Nat)] W (fun e w' => ∃ c : R.Cn, e = .returned (.agg #[Value.int .i64 ((c.b : Nat) : Int), Value.int .i64 ((c.u : Nat) : Int), Value.int .i64 ((c.k : Nat) : Int), Value.bool c.f, Value.bool c.e]) ∧ c.u = uF ∧ Below W.heap.size W w') from by
    exact (before_any (L.fr t0.tx (L.ln t0.tx b)) rv t0 W hfit (by omega) hfr (hnt.below hB)).mono (fun e w' h => ⟨_, h.1, hUF, h.2⟩)))
  have hbu := R.cn_le (t0.tx.extract 0 (min b (L.to t0.tx (L.ln t0.tx b))))
  have hxs : (t0.tx.extract 0 (min b (L.to t0.tx (L.ln t0.tx b)))).size ≤ t0.tx.size := by rw [ByteArray.size_extract]; omega
  have hBb := (Below.refl w.heap.size w).alloc (Nat.le_refl _) (.cells #[.int .i64 0, .int .i64 0] 38)
  have hr0 : PosRow (w.alloc (.cells #[.int .i64 0, .int .i64 0] 38)) w.heap.size 0 0 := heap_alloc_new _ _
  have H0 := Lib.hid (And.intro hBb (And.intro hr0 (World.size_alloc w (.cells #[.int .i64 0, .int .i64 0] 38))))
  rw [hUM] at hbu
  rw [hUM, hUF] at p4
  have hWr0 : IntKind.i64.wrap ((uM : Int) - (uF : Int)) = ((posC t0.tx b : Nat) : Int) := by rw [wrapI _ (by omega) (by omega)]; omega
  have fk := field_2 (R.cn (t0.tx.extract 0 b))
  unfold Pos9Is posL
  generalize R.cn (t0.tx.extract 0 b) = cc at *
  subst p1
  generalize posC t0.tx b = C at *
  generalize hLn : L.ln t0.tx b = i at *
  have HP := Lib.hid (And.intro p0 (And.intro p2 (And.intro p3 (And.intro hmny hs))))
  have HWr := Lib.hid hWr0
  clear hbR hnt hs hi hT hbb hBb hr0 p0 p2 p3 p4 hn hle hbu hxs hfr hto hmny hfb hv hfit hWr0 hLn
  go_enter Tryd.func22, Tryd.ntmps22
  go_upto_region 1 with fail
  generalize w.alloc (.cells #[.int .i64 0, .int .i64 0] 38) = W0 at *
  go_wp2_with fail
  refine (HTr.out W0 H0.out.1).mono ?_
  rintro e wa ⟨rfl, hB⟩
  have Ha := Lib.hid hB
  have Hw := Lib.hid (H0.out.1.trans (hB.mono H0.out.1.size))
  clear hB
  go_wp2_with fail
  refine (HBg.out wa Hw.out).mono ?_
  rintro e wb ⟨rfl, hB⟩
  have Hb := Lib.hid (Ha.out.trans (hB.mono Ha.out.size))
  have Hw2 := Lib.hid (Hw.out.trans (hB.mono Hw.out.size))
  clear hB Hw Ha
  go_wp2_with fail
  refine (HB0.out wb Hw2.out).mono ?_
  rintro e wc ⟨rfl, hB⟩
  have Hc := Lib.hid (Hb.out.trans (hB.mono Hb.out.size))
  have Hw3 := Lib.hid (Hw2.out.trans (hB.mono Hw2.out.size))
  clear hB Hw2 Hb
  have HSt := Lib.hid (HS.out cc.k HP.out.1)
  go_wp2_with fail
  refine (HSt.out wc Hw3.out).mono ?_
  rintro e wd ⟨rfl, hB⟩
  have Hd := Lib.hid (Hc.out.trans (hB.mono Hc.out.size))
  have Hw4 := Lib.hid (Hw3.out.trans (hB.mono Hw3.out.size))
  clear hB Hw3 Hc HSt fk
  obtain ⟨cb, cu, ck, cf, ce⟩ := cc
  dsimp only at *
  by_cases h1 : L.fr t0.tx ck ≤ b
  · obtain rfl : i = ck := (HP.out.2.2.1 h1).symm
    go_wp2_with fail
    refine (HCn.out wd Hw4.out).mono ?_
    rintro e w1 ⟨rfl, hB⟩
    have He := Lib.hid (Hd.out.trans (hB.mono Hd.out.size))
    have Hw5 := Lib.hid (Hw4.out.trans (hB.mono Hw4.out.size))
    clear hB Hw4 Hd HCn
    have Hz0 := H0.out
    go_upto_region 8 with fail
    have hBz := (Below.refl w1.heap.size w1).alloc (Nat.le_refl _) (.cells #[.int .i64 (L.fr t0.tx i : Nat), .int .i64 (L.to t0.tx i : Nat)] 74)
    have hBa : Below w.heap.size w (w1.alloc (.cells #[.int .i64 (L.fr t0.tx i : Nat), .int .i64 (L.to t0.tx i : Nat)] 74)) := Hw5.out.trans (hBz.mono Hw5.out.size)
    have hBc : Below W0.heap.size W0 (w1.alloc (.cells #[.int .i64 (L.fr t0.tx i : Nat), .int .i64 (L.to t0.tx i : Nat)] 74)) := He.out.trans (hBz.mono He.out.size)
    have hsp : EdRow (w1.alloc (.cells #[.int .i64 (L.fr t0.tx i : Nat), .int .i64 (L.to t0.tx i : Nat)] 74)) w1.heap.size (L.fr t0.tx i : Nat) (L.to t0.tx i : Nat) := heap_alloc_new _ _
    have hzz : w1.heap.size < (w1.alloc (.cells #[.int .i64 (L.fr t0.tx i : Nat), .int .i64 (L.to t0.tx i : Nat)] 74)).heap.size := by rw [World.size_alloc]; omega
    have hpr := H0.out.2.1.below hBc
    have hpz : w.heap.size < (w1.alloc (.cells #[.int .i64 (L.fr t0.tx i : Nat), .int .i64 (L.to t0.tx i : Nat)] 74)).heap.size := by have := hBc.size; have := H0.out.2.2; omega
    have H1 := Lib.hid (And.intro hBa (And.intro hsp (And.intro hzz (And.intro hpr hpz))))
    clear hBz hBa hBc hsp hzz hpr hpz Hz0 He Hw5 HTr HBg HB0 HP h1 hUM hUF
    generalize w1.alloc (.cells #[.int .i64 (L.fr t0.tx i : Nat), .int .i64 (L.to t0.tx i : Nat)] 74) = W1 at *
    generalize w1.heap.size = S at *
    generalize L.fr t0.tx i = f at *
    generalize L.to t0.tx i = t at *
    have HSp := Lib.hid (fun W (hB : Below W1.heap.size W1 W) => And.intro (H1.out.2.1.below hB).cell0 (H1.out.2.1.below hB).cell1)
    have HRd := Lib.hid ((Below.refl W1.heap.size W1).drew)
    trace_state
    refine wp_region_stepsP [some 37, some 38, some 39, some 40, some 41, some 42, some 43, some 44, some 45, some 46, some 47, some 48, some 49, some 50, some 51, none] _ _ (G := fun W => Below W1.heap.size W1 W) (F := FPs rv i b S f t uM uF C) (z := 15) (by kernel_rfl) rfl (by decide +kernel) rfl (by decide +kernel) (by decide +kernel) rfl (fun W W' h hB => h.trans (hB.mono h.size)) (fun i y W W' h _ => h.on) ?_ ?_ HRd.out
    · intro i o' ho hz a W hg hd hold K' hK
      have HG := Lib.hid hg
      have hlt : i < 16 := (Array.getElem?_eq_some_iff.1 ho).1
      clear hg
      obtain rfl | rfl | rfl | rfl | rfl | rfl | rfl | rfl | rfl | rfl | rfl | rfl | rfl | rfl | rfl | rfl : i = 0 ∨ i = 1 ∨ i = 2 ∨ i = 3 ∨ i = 4 ∨ i = 5 ∨ i = 6 ∨ i = 7 ∨ i = 8 ∨ i = 9 ∨ i = 10 ∨ i = 11 ∨ i = 12 ∨ i = 13 ∨ i = 14 ∨ i = 15 := by omega
      · obtain rfl := Option.some.inj ho
        have o6 : a.tmps[6]? = _ := (hold 6 rfl).trans rfl
        clear hd hold
        go_simp
        exact hK.out _ _ (by rfl) (Below.refl _ _)
      · obtain rfl := Option.some.inj ho
        have o5 : a.tmps[5]? = _ := (hold 5 rfl).trans rfl
        clear hd hold
        go_simp
        exact hK.out _ _ (by rfl) (Below.refl _ _)
      · obtain rfl := Option.some.inj ho
        have o1 : a.tmps[1]? = _ := (hold 1 rfl).trans rfl
        clear hd hold
        go_simp
        exact hK.out _ _ (by rfl) (Below.refl _ _)
      · obtain rfl := Option.some.inj ho
        have o9 : a.tmps[9]? = _ := (hold 9 rfl).trans rfl
        clear hd hold
        go_simp
        exact hK.out _ _ (by rfl) (Below.refl _ _)
      · obtain rfl := Option.some.inj ho
        obtain ⟨y3, e3, h3⟩ := hd 3 40 rfl (by decide +kernel) (by decide)
        have h3 : y3 = _ := h3
        have h3 := h3.symm
        subst h3
        obtain ⟨s0, s1⟩ := HSp.out W HG.out
        clear hd hold
        go_simp
        exact hK.out _ _ (by rfl) (Below.refl _ _)
      · obtain rfl := Option.some.inj ho
        obtain ⟨y2, e2, h2⟩ := hd 2 39 rfl (by decide +kernel) (by decide)
        have h2 : y2 = _ := h2
        have h2 := h2.symm
        subst h2
        obtain ⟨y4, e4, h4⟩ := hd 4 41 rfl (by decide +kernel) (by decide)
        have h4 : y4 = _ := h4
        have h4 := h4.symm
        subst h4
        clear hd hold
        go_simp
        exact hK.out _ _ (by rfl) (Below.refl _ _)
      · obtain rfl := Option.some.inj ho
        obtain ⟨y1, e1, h1⟩ := hd 1 38 rfl (by decide +kernel) (by decide)
        have h1 : y1 = _ := h1
        have h1 := h1.symm
        subst h1
        obtain ⟨y5, e5, h5⟩ := hd 5 42 rfl (by decide +kernel) (by decide)
        have h5 : y5 = _ := h5
        have h5 := h5.symm
        subst h5
        have HC := Lib.hid (HB1.out W (H1.out.1.trans (HG.out.mono H1.out.1.size)))
        clear hd hold
        go_simp
        go_at_call 56
        (with_reducible refine HC.out.mono ?_)
        rintro e W1 ⟨c, rfl, hu, hB⟩
        exact hK.out _ _ ⟨c, rfl, hu⟩ hB
      · obtain rfl := Option.some.inj ho
        obtain ⟨y6, e6, h6⟩ := hd 6 43 rfl (by decide +kernel) (by decide)
        obtain ⟨c6, hy6, hu6⟩ : ∃ c : R.Cn, y6 = .agg #[Value.int .i64 (((c).b : Nat) : Int), Value.int .i64 (((c).u : Nat) : Int), Value.int .i64 (((c).k : Nat) : Int), Value.bool (c).f, Value.bool (c).e] ∧ c.u = uM := h6
        subst hy6
        have fc := field_1 c6
        rw [hu6] at fc
        clear hd hold
        go_simp
        exact hK.out _ _ (by rfl) (Below.refl _ _)
      · obtain rfl := Option.some.inj ho
        have o5 : a.tmps[5]? = _ := (hold 5 rfl).trans rfl
        clear hd hold
        go_simp
        exact hK.out _ _ (by rfl) (Below.refl _ _)
      · obtain rfl := Option.some.inj ho
        have o9 : a.tmps[9]? = _ := (hold 9 rfl).trans rfl
        clear hd hold
        go_simp
        exact hK.out _ _ (by rfl) (Below.refl _ _)
      · obtain rfl := Option.some.inj ho
        obtain ⟨y9, e9, h9⟩ := hd 9 46 rfl (by decide +kernel) (by decide)
        have h9 : y9 = _ := h9
        have h9 := h9.symm
        subst h9
        obtain ⟨s0, s1⟩ := HSp.out W HG.out
        clear hd hold
        go_simp
        exact hK.out _ _ (by rfl) (Below.refl _ _)
      · obtain rfl := Option.some.inj ho
        obtain ⟨y8, e8, h8⟩ := hd 8 45 rfl (by decide +kernel) (by decide)
        have h8 : y8 = _ := h8
        have h8 := h8.symm
        subst h8
        obtain ⟨y10, e10, h10⟩ := hd 10 47 rfl (by decide +kernel) (by decide)
        have h10 : y10 = _ := h10
        have h10 := h10.symm
        subst h10
        have HC := Lib.hid (HB2.out W (H1.out.1.trans (HG.out.mono H1.out.1.size)))
        clear hd hold
        go_simp
        go_at_call 56
        (with_reducible refine HC.out.mono ?_)
        rintro e W1 ⟨c, rfl, hu, hB⟩
        exact hK.out _ _ ⟨c, rfl, hu⟩ hB
      · obtain rfl := Option.some.inj ho
        obtain ⟨y11, e11, h11⟩ := hd 11 48 rfl (by decide +kernel) (by decide)
        obtain ⟨c11, hy11, hu11⟩ : ∃ c : R.Cn, y11 = .agg #[Value.int .i64 (((c).b : Nat) : Int), Value.int .i64 (((c).u : Nat) : Int), Value.int .i64 (((c).k : Nat) : Int), Value.bool (c).f, Value.bool (c).e] ∧ c.u = uF := h11
        subst hy11
        have fc := field_1 c11
        rw [hu11] at fc
        clear hd hold
        go_simp
        exact hK.out _ _ (by rfl) (Below.refl _ _)
      · obtain rfl := Option.some.inj ho
        obtain ⟨y7, e7, h7⟩ := hd 7 44 rfl (by decide +kernel) (by decide)
        have h7 : y7 = _ := h7
        have h7 := h7.symm
        subst h7
        obtain ⟨y12, e12, h12⟩ := hd 12 49 rfl (by decide +kernel) (by decide)
        have h12 : y12 = _ := h12
        have h12 := h12.symm
        subst h12
        have w1 := HWr.out
        clear hd hold
        go_simp
        exact hK.out _ _ (by rfl) (Below.refl _ _)
      · obtain rfl := Option.some.inj ho
        obtain ⟨y0, e0, h0⟩ := hd 0 37 rfl (by decide +kernel) (by decide)
        have h0 : y0 = _ := h0
        have h0 := h0.symm
        subst h0
        obtain ⟨y13, e13, h13⟩ := hd 13 50 rfl (by decide +kernel) (by decide)
        have h13 : y13 = _ := h13
        have h13 := h13.symm
        subst h13
        clear hd hold
        go_simp
        exact hK.out _ _ (by rfl) (Below.refl _ _)
      · exact absurd rfl hz
    · intro a W hg hf hold hput K' hK
      obtain ⟨y14, o51, hv14⟩ := hf 14 51 rfl (by decide) (by decide)
      have hv14 : y14 = _ := hv14
      subst hv14
      have o4 : a.tmps[4]? = _ := (hold 4 rfl).trans rfl
      have hr := H1.out.2.2.2.1.below hg
      have HB := Lib.hid (below_setRow (H1.out.1.trans (hg.mono H1.out.1.size)) (Nat.le_refl w.heap.size))
      clear hg hf hold
      rw [if_pos (by rfl)]
      refine wp_store_row _ _ _ rfl w.heap.size #[.int .i64 (i : Nat), .int .i64 (C : Nat)] (by simp [Act.eval, o4]) (by simp [Act.eval, o51]) 38 _ hr info_pos9 rfl (one_edspan _ _) ?_
      refine hK.out _ _ ?_
      obtain ⟨rr, ha⟩ := hput.out
      clear hput o51 o4
      subst ha
      simp only [putL, Act.put, List.setIfInBounds_toArray, List.set_cons_zero, List.set_cons_succ]
      clear hK K'
      have hrs := hr.set (i : Nat) (C : Nat)
      go_wp2_with fail
      refine bodyPost_ret (results_cell_row (by rfl) _ _ w.heap.size 38 _ (0, 0) _ (by rfl) hrs Tryd.underlying38 rfl info_pos9) rfl ⟨rfl, HB.out _⟩
  · obtain rfl : ck = i + 1 := HP.out.2.1 (by omega)
    have hi9 : i ≤ 1000000000 := by have h2 := HP.out.1; have h3 := HP.out.2.2.2.1; have h4 := HP.out.2.2.2.2; omega
    have hwi : wrap64 ((i : Nat) : Int) = ((i : Nat) : Int) := Ed.wr_id (by omega) (by omega)
    go_wp2_with fail
    refine (HCn.out wd Hw4.out).mono ?_
    rintro e w1 ⟨rfl, hB⟩
    have He := Lib.hid (Hd.out.trans (hB.mono Hd.out.size))
    have Hw5 := Lib.hid (Hw4.out.trans (hB.mono Hw4.out.size))
    clear hB Hw4 Hd HCn
    have Hz0 := H0.out
    go_upto_region 8 with fail
    have hBz := (Below.refl w1.heap.size w1).alloc (Nat.le_refl _) (.cells #[.int .i64 (L.fr t0.tx i : Nat), .int .i64 (L.to t0.tx i : Nat)] 74)
    have hBa : Below w.heap.size w (w1.alloc (.cells #[.int .i64 (L.fr t0.tx i : Nat), .int .i64 (L.to t0.tx i : Nat)] 74)) := Hw5.out.trans (hBz.mono Hw5.out.size)
    have hBc : Below W0.heap.size W0 (w1.alloc (.cells #[.int .i64 (L.fr t0.tx i : Nat), .int .i64 (L.to t0.tx i : Nat)] 74)) := He.out.trans (hBz.mono He.out.size)
    have hsp : EdRow (w1.alloc (.cells #[.int .i64 (L.fr t0.tx i : Nat), .int .i64 (L.to t0.tx i : Nat)] 74)) w1.heap.size (L.fr t0.tx i : Nat) (L.to t0.tx i : Nat) := heap_alloc_new _ _
    have hzz : w1.heap.size < (w1.alloc (.cells #[.int .i64 (L.fr t0.tx i : Nat), .int .i64 (L.to t0.tx i : Nat)] 74)).heap.size := by rw [World.size_alloc]; omega
    have hpr := H0.out.2.1.below hBc
    have hpz : w.heap.size < (w1.alloc (.cells #[.int .i64 (L.fr t0.tx i : Nat), .int .i64 (L.to t0.tx i : Nat)] 74)).heap.size := by have := hBc.size; have := H0.out.2.2; omega
    have H1 := Lib.hid (And.intro hBa (And.intro hsp (And.intro hzz (And.intro hpr hpz))))
    clear hBz hBa hBc hsp hzz hpr hpz Hz0 He Hw5 HTr HBg HB0 HP h1 hUM hUF
    generalize w1.alloc (.cells #[.int .i64 (L.fr t0.tx i : Nat), .int .i64 (L.to t0.tx i : Nat)] 74) = W1 at *
    generalize w1.heap.size = S at *
    generalize L.fr t0.tx i = f at *
    generalize L.to t0.tx i = t at *
    have HSp := Lib.hid (fun W (hB : Below W1.heap.size W1 W) => And.intro (H1.out.2.1.below hB).cell0 (H1.out.2.1.below hB).cell1)
    have HRd := Lib.hid ((Below.refl W1.heap.size W1).drew)
    trace_state
    refine wp_region_stepsP [some 37, some 38, some 39, some 40, some 41, some 42, some 43, some 44, some 45, some 46, some 47, some 48, some 49, some 50, some 51, none] _ _ (G := fun W => Below W1.heap.size W1 W) (F := FPs rv i b S f t uM uF C) (z := 15) (by kernel_rfl) rfl (by decide +kernel) rfl (by decide +kernel) (by decide +kernel) rfl (fun W W' h hB => h.trans (hB.mono h.size)) (fun i y W W' h _ => h.on) ?_ ?_ HRd.out
    · intro i o' ho hz a W hg hd hold K' hK
      have HG := Lib.hid hg
      have hlt : i < 16 := (Array.getElem?_eq_some_iff.1 ho).1
      clear hg
      obtain rfl | rfl | rfl | rfl | rfl | rfl | rfl | rfl | rfl | rfl | rfl | rfl | rfl | rfl | rfl | rfl : i = 0 ∨ i = 1 ∨ i = 2 ∨ i = 3 ∨ i = 4 ∨ i = 5 ∨ i = 6 ∨ i = 7 ∨ i = 8 ∨ i = 9 ∨ i = 10 ∨ i = 11 ∨ i = 12 ∨ i = 13 ∨ i = 14 ∨ i = 15 := by omega
      · obtain rfl := Option.some.inj ho
        have o6 : a.tmps[6]? = _ := (hold 6 rfl).trans rfl
        clear hd hold
        go_simp
        exact hK.out _ _ (by rfl) (Below.refl _ _)
      · obtain rfl := Option.some.inj ho
        have o5 : a.tmps[5]? = _ := (hold 5 rfl).trans rfl
        clear hd hold
        go_simp
        exact hK.out _ _ (by rfl) (Below.refl _ _)
      · obtain rfl := Option.some.inj ho
        have o1 : a.tmps[1]? = _ := (hold 1 rfl).trans rfl
        clear hd hold
        go_simp
        exact hK.out _ _ (by rfl) (Below.refl _ _)
      · obtain rfl := Option.some.inj ho
        have o9 : a.tmps[9]? = _ := (hold 9 rfl).trans rfl
        clear hd hold
        go_simp
        exact hK.out _ _ (by rfl) (Below.refl _ _)
      · obtain rfl := Option.some.inj ho
        obtain ⟨y3, e3, h3⟩ := hd 3 40 rfl (by decide +kernel) (by decide)
        have h3 : y3 = _ := h3
        have h3 := h3.symm
        subst h3
        obtain ⟨s0, s1⟩ := HSp.out W HG.out
        clear hd hold
        go_simp
        exact hK.out _ _ (by rfl) (Below.refl _ _)
      · obtain rfl := Option.some.inj ho
        obtain ⟨y2, e2, h2⟩ := hd 2 39 rfl (by decide +kernel) (by decide)
        have h2 : y2 = _ := h2
        have h2 := h2.symm
        subst h2
        obtain ⟨y4, e4, h4⟩ := hd 4 41 rfl (by decide +kernel) (by decide)
        have h4 : y4 = _ := h4
        have h4 := h4.symm
        subst h4
        clear hd hold
        go_simp
        exact hK.out _ _ (by rfl) (Below.refl _ _)
      · obtain rfl := Option.some.inj ho
        obtain ⟨y1, e1, h1⟩ := hd 1 38 rfl (by decide +kernel) (by decide)
        have h1 : y1 = _ := h1
        have h1 := h1.symm
        subst h1
        obtain ⟨y5, e5, h5⟩ := hd 5 42 rfl (by decide +kernel) (by decide)
        have h5 : y5 = _ := h5
        have h5 := h5.symm
        subst h5
        have HC := Lib.hid (HB1.out W (H1.out.1.trans (HG.out.mono H1.out.1.size)))
        clear hd hold
        go_simp
        go_at_call 56
        (with_reducible refine HC.out.mono ?_)
        rintro e W1 ⟨c, rfl, hu, hB⟩
        exact hK.out _ _ ⟨c, rfl, hu⟩ hB
      · obtain rfl := Option.some.inj ho
        obtain ⟨y6, e6, h6⟩ := hd 6 43 rfl (by decide +kernel) (by decide)
        obtain ⟨c6, hy6, hu6⟩ : ∃ c : R.Cn, y6 = .agg #[Value.int .i64 (((c).b : Nat) : Int), Value.int .i64 (((c).u : Nat) : Int), Value.int .i64 (((c).k : Nat) : Int), Value.bool (c).f, Value.bool (c).e] ∧ c.u = uM := h6
        subst hy6
        have fc := field_1 c6
        rw [hu6] at fc
        clear hd hold
        go_simp
        exact hK.out _ _ (by rfl) (Below.refl _ _)
      · obtain rfl := Option.some.inj ho
        have o5 : a.tmps[5]? = _ := (hold 5 rfl).trans rfl
        clear hd hold
        go_simp
        exact hK.out _ _ (by rfl) (Below.refl _ _)
      · obtain rfl := Option.some.inj ho
        have o9 : a.tmps[9]? = _ := (hold 9 rfl).trans rfl
        clear hd hold
        go_simp
        exact hK.out _ _ (by rfl) (Below.refl _ _)
      · obtain rfl := Option.some.inj ho
        obtain ⟨y9, e9, h9⟩ := hd 9 46 rfl (by decide +kernel) (by decide)
        have h9 : y9 = _ := h9
        have h9 := h9.symm
        subst h9
        obtain ⟨s0, s1⟩ := HSp.out W HG.out
        clear hd hold
        go_simp
        exact hK.out _ _ (by rfl) (Below.refl _ _)
      · obtain rfl := Option.some.inj ho
        obtain ⟨y8, e8, h8⟩ := hd 8 45 rfl (by decide +kernel) (by decide)
        have h8 : y8 = _ := h8
        have h8 := h8.symm
        subst h8
        obtain ⟨y10, e10, h10⟩ := hd 10 47 rfl (by decide +kernel) (by decide)
        have h10 : y10 = _ := h10
        have h10 := h10.symm
        subst h10
        have HC := Lib.hid (HB2.out W (H1.out.1.trans (HG.out.mono H1.out.1.size)))
        clear hd hold
        go_simp
        go_at_call 56
        (with_reducible refine HC.out.mono ?_)
        rintro e W1 ⟨c, rfl, hu, hB⟩
        exact hK.out _ _ ⟨c, rfl, hu⟩ hB
      · obtain rfl := Option.some.inj ho
        obtain ⟨y11, e11, h11⟩ := hd 11 48 rfl (by decide +kernel) (by decide)
        obtain ⟨c11, hy11, hu11⟩ : ∃ c : R.Cn, y11 = .agg #[Value.int .i64 (((c).b : Nat) : Int), Value.int .i64 (((c).u : Nat) : Int), Value.int .i64 (((c).k : Nat) : Int), Value.bool (c).f, Value.bool (c).e] ∧ c.u = uF := h11
        subst hy11
        have fc := field_1 c11
        rw [hu11] at fc
        clear hd hold
        go_simp
        exact hK.out _ _ (by rfl) (Below.refl _ _)
      · obtain rfl := Option.some.inj ho
        obtain ⟨y7, e7, h7⟩ := hd 7 44 rfl (by decide +kernel) (by decide)
        have h7 : y7 = _ := h7
        have h7 := h7.symm
        subst h7
        obtain ⟨y12, e12, h12⟩ := hd 12 49 rfl (by decide +kernel) (by decide)
        have h12 : y12 = _ := h12
        have h12 := h12.symm
        subst h12
        have w1 := HWr.out
        clear hd hold
        go_simp
        exact hK.out _ _ (by rfl) (Below.refl _ _)
      · obtain rfl := Option.some.inj ho
        obtain ⟨y0, e0, h0⟩ := hd 0 37 rfl (by decide +kernel) (by decide)
        have h0 : y0 = _ := h0
        have h0 := h0.symm
        subst h0
        obtain ⟨y13, e13, h13⟩ := hd 13 50 rfl (by decide +kernel) (by decide)
        have h13 : y13 = _ := h13
        have h13 := h13.symm
        subst h13
        clear hd hold
        go_simp
        exact hK.out _ _ (by rfl) (Below.refl _ _)
      · exact absurd rfl hz
    · intro a W hg hf hold hput K' hK
      obtain ⟨y14, o51, hv14⟩ := hf 14 51 rfl (by decide) (by decide)
      have hv14 : y14 = _ := hv14
      subst hv14
      have o4 : a.tmps[4]? = _ := (hold 4 rfl).trans rfl
      have hr := H1.out.2.2.2.1.below hg
      have HB := Lib.hid (below_setRow (H1.out.1.trans (hg.mono H1.out.1.size)) (Nat.le_refl w.heap.size))
      clear hg hf hold
      rw [if_pos (by rfl)]
      refine wp_store_row _ _ _ rfl w.heap.size #[.int .i64 (i : Nat), .int .i64 (C : Nat)] (by simp [Act.eval, o4]) (by simp [Act.eval, o51]) 38 _ hr info_pos9 rfl (one_edspan _ _) ?_
      refine hK.out _ _ ?_
      obtain ⟨rr, ha⟩ := hput.out
      clear hput o51 o4
      subst ha
      simp only [putL, Act.put, List.setIfInBounds_toArray, List.set_cons_zero, List.set_cons_succ]
      clear hK K'
      have hrs := hr.set (i : Nat) (C : Nat)
      go_wp2_with fail
      refine bodyPost_ret (results_cell_row (by rfl) _ _ w.heap.size 38 _ (0, 0) _ (by rfl) hrs Tryd.underlying38 rfl info_pos9) rfl ⟨rfl, HB.out _⟩
end Go.Proofs.YtjeopabnddekgaaDoor
