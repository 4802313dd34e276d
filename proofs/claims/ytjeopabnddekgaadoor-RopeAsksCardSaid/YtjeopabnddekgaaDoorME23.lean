/- Two trees under a node: the other ways. Conditions: a text of at most 10^12 bytes. -/
import Derived.Test.YtjeopabnddekgaaDoorME22
namespace Go.Proofs.YtjeopabnddekgaaDoor
open Go Go.RowKit Go.Lib

set_option maxHeartbeats 8000000 in
set_option maxRecDepth 100000 in
theorem level_Binone (vl vr : Value) (d : Nat) (dl : Nat) (la lb : R.T) (dx : Nat) (x1 x2 : R.T) (yt : R.T) (w : World) (hl : NT w w.heap.size vl (.inner dl la lb)) (hr : NT w w.heap.size vr (.inner d (.inner dx x1 x2) yt)) (ol : ((.inner dl la lb) : R.T).Ok) (or : ((.inner d (.inner dx x1 x2) yt) : R.T).Ok) (hs : ((.inner dl la lb) : R.T).tx.size + ((.inner d (.inner dx x1 x2) yt) : R.T).tx.size ≤ 1000000000000) (h1 : ((.inner dl la lb) : R.T).dep + 1 < d) (h2 : d ≤ ((.inner dl la lb) : R.T).dep + 2) (h3 : yt.dep < dx) (h4 : ((.inner dl la lb) : R.T).dep ≤ ((.inner d (.inner dx x1 x2) yt) : R.T).dep + 1) :
    Calls Tryd.prog 94 #[vl, vr] w (JoinR (.inner dl la lb) (.inner d (.inner dx x1 x2) yt) w) := by
  have hnl0 := hl
  have hnr0 := hr
  obtain ⟨J, a, b', o1, o2, oy⟩ := R.lev_B1 ol or h1 h2 h3
  have HJd := Lib.hid J
  have hz : ((.inner dl la lb) : R.T).tx.size + (((.inner dx x1 x2) : R.T).tx.size + yt.tx.size) ≤ 1000000000000 := by rw [← U.app_size ((.inner dx x1 x2) : R.T).tx]; exact hs
  have hld := ol.low (by omega)
  have hrd := or.low (by have hh : ((.inner d (.inner dx x1 x2) yt) : R.T).tx.size = _ := U.app_size _ _; omega)
  have HNl := Lib.hid (fun W (hB : Below w.heap.size w W) => hnl0.below hB)
  have HDl := Lib.hid (fun W (hB : Below w.heap.size w W) => depth_any _ (.inner dl la lb) W (hnl0.below hB))
  have HDr := Lib.hid (fun W (hB : Below w.heap.size w W) => depth_any _ (.inner d (.inner dx x1 x2) yt) W (hnr0.below hB))
  have q1 : ((((.inner dl la lb) : R.T).dep : Nat) : Int) + 1 < (d : Int) := by omega
  have q3 : ((((.inner dl la lb) : R.T).dep : Nat) : Int) ≤ 81 := by omega
  have q4 : ((((.inner d (.inner dx x1 x2) yt) : R.T).dep : Nat) : Int) ≤ 81 := by omega
  have w1 : IntKind.i64.wrap ((((.inner dl la lb) : R.T).dep : Int) + 1) = (((.inner dl la lb) : R.T).dep : Int) + 1 := wrapI _ (by omega) (by omega)
  obtain ⟨bl, vl1, vl2, hbl, rfl, hlf, -, -⟩ := hl
  have HL := Lib.hid (fun W (hB : Below w.heap.size w W) => (show InnerAt W bl _ dl _ _ from (hB.block bl hbl).trans hlf).rest)
  have qA : ¬ ((((.inner d (.inner dx x1 x2) yt) : R.T).dep : Nat) : Int) + 1 < (dl : Int) := by have h4 : dl ≤ ((.inner d (.inner dx x1 x2) yt) : R.T).dep + 1 := h4; omega
  have wA : IntKind.i64.wrap ((((.inner d (.inner dx x1 x2) yt) : R.T).dep : Int) + 1) = (((.inner d (.inner dx x1 x2) yt) : R.T).dep : Int) + 1 := wrapI _ (by omega) (by omega)
  have t1 := fun W => ta_inner_inner W (.pointer (some ⟨bl, 0, none⟩))
  clear hlf
  obtain ⟨b, vx, vy, hb, rfl, hi, hx, hy⟩ := hr
  have hx0 := hx
  obtain ⟨bx, v1, v2, hbx, rfl, hj, hx1, hx2⟩ := hx
  have HJ := Lib.hid (fun W (hB : Below w.heap.size w W) => (show InnerAt W bx _ dx _ _ from (hB.block bx hbx).trans hj).rest)
  have HN1 := Lib.hid (fun W (hB : Below w.heap.size w W) => hx1.below hB)
  have HN2 := Lib.hid (fun W (hB : Below w.heap.size w W) => hx2.below hB)
  have q2 : ((yt.dep : Nat) : Int) < (dx : Int) := by have h3' := h3; (try simp only [R.dep_in] at h3'); omega
  have t3 := fun W => ta_inner_inner W (.pointer (some ⟨bx, 0, none⟩))
  clear hj hx1 hx2
  have HI := Lib.hid (fun W (hB : Below w.heap.size w W) => (show InnerAt W b _ d _ _ from (hB.block b hb).trans hi).rest)
  have HNx := Lib.hid (fun W (hB : Below w.heap.size w W) => hx0.below hB)
  have HNy := Lib.hid (fun W (hB : Below w.heap.size w W) => hy.below hB)
  have HDy := Lib.hid (fun W (hB : Below w.heap.size w W) => depth_any _ yt W (hy.below hB))
  have HO := Lib.hid (show ((.inner dl la lb) : R.T).Ok ∧ x1.Ok ∧ ((.inner dl la lb) : R.T).tx.size + x1.tx.size ≤ 1000000000000 ∧ x2.Ok ∧ yt.Ok ∧ x2.tx.size + yt.tx.size ≤ 1000000000000 ∧ (R.pr (.inner dl la lb) x1).Ok ∧ (R.pr x2 yt).Ok ∧ (R.pr (.inner dl la lb) x1).tx.size + (R.pr x2 yt).tx.size ≤ 1000000000000 from by
    have hh : ((.inner dx x1 x2) : R.T).tx.size = x1.tx.size + x2.tx.size := U.app_size _ _
    exact ⟨ol, o1, by omega, o2, oy, by omega, a, b', by simp only [R.pr_tx, U.app_size]; omega⟩)
  have t2 := fun W => ta_inner_inner W (.pointer (some ⟨b, 0, none⟩))
  clear hi hy hx0 J a b' o1 o2 oy ol or hs h1 h2 h3 h4 hz hld hrd hnl0 hnr0
  generalize er : ((.inner d (.inner dx x1 x2) yt) : R.T).dep = rd at *
  generalize el : ((.inner dl la lb) : R.T).dep = ld at *
  clear er el
  go_enter Tryd.func94, Tryd.ntmps94
  go_upto_region 2 with fail
  obtain ⟨c5, c6, c7⟩ := HL.out w (Below.refl _ _)
  have KEEP := Lib.hid (fun w' (hB : Below w.heap.size w w') => (show w'.cell? ⟨bl, 5, none⟩ = some (.int .i64 (dl : Nat)) from (HL.out w' (hB)).1))
  go_region_held3 (fun w' => w'.cell? ⟨bl, 5, none⟩ = some (.int .i64 (dl : Nat)))
    (first | exact KEEP.out _ hC1 | exact KEEP.out _ (Below.refl _ _).drew | exact KEEP.out _ (Below.refl _ _))
    (first | (go_at_call 77; (with_reducible refine (HDr.out _ ((Below.refl w.heap.size w).drew)).mono ?_); rintro e wk1 ⟨rfl, hB⟩; have hC1 := (Below.refl w.heap.size w).drew.trans hB; clear hB))
  rename_i hHeld
  have Hwa := Lib.hid (hC1)
  clear hHeld KEEP c5 c6 c7 hC1
  generalize wk1 = wa at *
  obtain ⟨c5, c6, c7⟩ := HI.out wa Hwa.out
  go_upto_region 8 with fail
  clear c5 c6 c7
  obtain ⟨c5, c6, c7⟩ := HI.out wa Hwa.out
  have KEEP := Lib.hid (fun w' (hB : Below wa.heap.size wa w') => (show w'.cell? ⟨b, 5, none⟩ = some (.int .i64 (d : Nat)) from (HI.out w' (Hwa.out.trans (hB.mono Hwa.out.size))).1))
  go_region_held3 (fun w' => w'.cell? ⟨b, 5, none⟩ = some (.int .i64 (d : Nat)))
    (first | exact KEEP.out _ hC2 | exact KEEP.out _ (Below.refl _ _).drew | exact KEEP.out _ (Below.refl _ _))
    (first | (go_at_call 77; (with_reducible refine (HDl.out _ (Hwa.out.drew)).mono ?_); rintro e wk2 ⟨rfl, hB⟩; have hC2 := (Below.refl wa.heap.size wa).drew.trans hB; clear hB))
  rename_i hHeld
  have Hwb := Lib.hid (Hwa.out.trans (hC2.mono Hwa.out.size))
  clear hHeld KEEP c5 c6 c7 hC2
  generalize wk2 = wb at *
  obtain ⟨c5, c6, c7⟩ := HI.out wb Hwb.out
  go_upto_region 10 with fail
  clear c5 c6 c7
  obtain ⟨c5, c6, c7⟩ := HJ.out wb Hwb.out
  have KEEP := Lib.hid (fun w' (hB : Below wb.heap.size wb w') => (show w'.cell? ⟨bx, 5, none⟩ = some (.int .i64 (dx : Nat)) ∧ w'.cell? ⟨b, 7, none⟩ = some vy from ⟨(HJ.out w' (Hwb.out.trans (hB.mono Hwb.out.size))).1, (HI.out w' (Hwb.out.trans (hB.mono Hwb.out.size))).2.2⟩))
  obtain ⟨d5, d6, d7⟩ := HI.out wb Hwb.out
  go_region_held3 (fun w' => w'.cell? ⟨bx, 5, none⟩ = some (.int .i64 (dx : Nat)) ∧ w'.cell? ⟨b, 7, none⟩ = some vy)
    (first | exact KEEP.out _ hC3 | exact KEEP.out _ (Below.refl _ _).drew | exact KEEP.out _ (Below.refl _ _))
    (first | (go_at_call 77; (with_reducible refine (HDy.out _ (Hwb.out.drew)).mono ?_); rintro e wk3 ⟨rfl, hB⟩; have hC3 := (Below.refl wb.heap.size wb).drew.trans hB; clear hB))
  rename_i hHeld
  have Hwc := Lib.hid (Hwb.out.trans (hC3.mono Hwb.out.size))
  clear hHeld KEEP c5 c6 c7 hC3 d5 d6 d7
  generalize wk3 = wc at *
  go_upto_region 11 with fail
  have HRd := Lib.hid (Hwc.out.drew)
  refine wp_region_stepsP [some 114, some 115, some 116, some 117, some 118, some 119, some 120, some 121, some 122, some 123, some 124, some 125, some 126, some 127, some 128, some 129, some 4] _ _ (G := fun W => Below w.heap.size w W) (F := FLv11 b bx (.iface 137 (.pointer (some ⟨bl, 0, none⟩))) (.iface 137 (.pointer (some ⟨bx, 0, none⟩))) v1 v2 vy (.inner dl la lb) x1 x2 yt) (z := 16) (by kernel_rfl) rfl (by decide +kernel) rfl (by decide +kernel) (by decide +kernel) rfl (fun W W' h hB => h.trans (hB.mono h.size)) (fun i y W W' h hB => h.on hB) ?_ ?_ HRd.out
  · intro i o' ho hz a W hg hd hold K' hK
    have HG := Lib.hid hg
    have hlt : i < 17 := (Array.getElem?_eq_some_iff.1 ho).1
    clear hg
    obtain rfl | rfl | rfl | rfl | rfl | rfl | rfl | rfl | rfl | rfl | rfl | rfl | rfl | rfl | rfl | rfl | rfl : i = 0 ∨ i = 1 ∨ i = 2 ∨ i = 3 ∨ i = 4 ∨ i = 5 ∨ i = 6 ∨ i = 7 ∨ i = 8 ∨ i = 9 ∨ i = 10 ∨ i = 11 ∨ i = 12 ∨ i = 13 ∨ i = 14 ∨ i = 15 ∨ i = 16 := by omega
    · obtain rfl := Option.some.inj ho
      have o0 : a.tmps[0]? = _ := (hold 0 rfl).trans rfl
      clear hd hold
      go_simp
      exact hK.out _ _ (by rfl) (Below.refl _ _)
    · obtain rfl := Option.some.inj ho
      have o11 : a.tmps[11]? = _ := (hold 11 rfl).trans rfl
      clear hd hold
      go_simp
      exact hK.out _ _ (by rfl) (Below.refl _ _)
    · obtain rfl := Option.some.inj ho
      obtain ⟨y1, e1, h1⟩ := hd 1 115 rfl (by decide +kernel) (by decide)
      have h1 : y1 = _ := h1
      have h1 := h1.symm
      subst h1
      clear hd hold
      go_simp
      exact hK.out _ _ (by rfl) (Below.refl _ _)
    · obtain rfl := Option.some.inj ho
      obtain ⟨y2, e2, h2⟩ := hd 2 116 rfl (by decide +kernel) (by decide)
      have h2 : y2 = _ := h2
      have h2 := h2.symm
      subst h2
      clear hd hold
      go_simp
      exact hK.out _ _ (by rfl) (Below.refl _ _)
    · obtain rfl := Option.some.inj ho
      obtain ⟨y3, e3, h3⟩ := hd 3 117 rfl (by decide +kernel) (by decide)
      have h3 : y3 = _ := h3
      have h3 := h3.symm
      subst h3
      have c6 := (HJ.out W HG.out).2.1
      clear hd hold
      go_simp
      exact hK.out _ _ (by rfl) (Below.refl _ _)
    · obtain rfl := Option.some.inj ho
      obtain ⟨y0, e0, h0⟩ := hd 0 114 rfl (by decide +kernel) (by decide)
      have h0 : y0 = _ := h0
      have h0 := h0.symm
      subst h0
      obtain ⟨y4, e4, h4⟩ := hd 4 118 rfl (by decide +kernel) (by decide)
      have h4 : y4 = _ := h4
      have h4 := h4.symm
      subst h4
      have HC := Lib.hid (pair_any (.iface 137 (.pointer (some ⟨bl, 0, none⟩))) v1 (.inner dl la lb) x1 W (HNl.out W HG.out) (HN1.out W HG.out) HO.out.1 HO.out.2.1 HO.out.2.2.1)
      clear hd hold 
      go_simp
      go_at_call 95
      (with_reducible refine HC.out.mono ?_)
      rintro e W1 ⟨y, rfl, hn, hB⟩
      exact hK.out _ _ hn hB
    · obtain rfl := Option.some.inj ho
      have o11 : a.tmps[11]? = _ := (hold 11 rfl).trans rfl
      clear hd hold
      go_simp
      exact hK.out _ _ (by rfl) (Below.refl _ _)
    · obtain rfl := Option.some.inj ho
      obtain ⟨y6, e6, h6⟩ := hd 6 120 rfl (by decide +kernel) (by decide)
      have h6 : y6 = _ := h6
      have h6 := h6.symm
      subst h6
      clear hd hold
      go_simp
      exact hK.out _ _ (by rfl) (Below.refl _ _)
    · obtain rfl := Option.some.inj ho
      obtain ⟨y7, e7, h7⟩ := hd 7 121 rfl (by decide +kernel) (by decide)
      have h7 : y7 = _ := h7
      have h7 := h7.symm
      subst h7
      clear hd hold
      go_simp
      exact hK.out _ _ (by rfl) (Below.refl _ _)
    · obtain rfl := Option.some.inj ho
      obtain ⟨y8, e8, h8⟩ := hd 8 122 rfl (by decide +kernel) (by decide)
      have h8 : y8 = _ := h8
      have h8 := h8.symm
      subst h8
      have c7 := (HJ.out W HG.out).2.2
      clear hd hold
      go_simp
      exact hK.out _ _ (by rfl) (Below.refl _ _)
    · obtain rfl := Option.some.inj ho
      have o9 : a.tmps[9]? = _ := (hold 9 rfl).trans rfl
      clear hd hold
      go_simp
      exact hK.out _ _ (by rfl) (Below.refl _ _)
    · obtain rfl := Option.some.inj ho
      obtain ⟨y10, e10, h10⟩ := hd 10 124 rfl (by decide +kernel) (by decide)
      have h10 : y10 = _ := h10
      have h10 := h10.symm
      subst h10
      clear hd hold
      go_simp
      exact hK.out _ _ (by rfl) (Below.refl _ _)
    · obtain rfl := Option.some.inj ho
      obtain ⟨y11, e11, h11⟩ := hd 11 125 rfl (by decide +kernel) (by decide)
      have h11 : y11 = _ := h11
      have h11 := h11.symm
      subst h11
      clear hd hold
      go_simp
      exact hK.out _ _ (by rfl) (Below.refl _ _)
    · obtain rfl := Option.some.inj ho
      obtain ⟨y12, e12, h12⟩ := hd 12 126 rfl (by decide +kernel) (by decide)
      have h12 : y12 = _ := h12
      have h12 := h12.symm
      subst h12
      have c7 := (HI.out W HG.out).2.2
      clear hd hold
      go_simp
      exact hK.out _ _ (by rfl) (Below.refl _ _)
    · obtain rfl := Option.some.inj ho
      obtain ⟨y9, e9, h9⟩ := hd 9 123 rfl (by decide +kernel) (by decide)
      have h9 : y9 = _ := h9
      have h9 := h9.symm
      subst h9
      obtain ⟨y13, e13, h13⟩ := hd 13 127 rfl (by decide +kernel) (by decide)
      have h13 : y13 = _ := h13
      have h13 := h13.symm
      subst h13
      have HC := Lib.hid (pair_any v2 vy (x2) (yt) W (HN2.out W HG.out) (HNy.out W HG.out) HO.out.2.2.2.1 HO.out.2.2.2.2.1 HO.out.2.2.2.2.2.1)
      clear hd hold 
      go_simp
      go_at_call 95
      (with_reducible refine HC.out.mono ?_)
      rintro e W1 ⟨y, rfl, hn, hB⟩
      exact hK.out _ _ hn hB
    · obtain rfl := Option.some.inj ho
      obtain ⟨y5, e5, h5⟩ := hd 5 119 rfl (by decide +kernel) (by decide)
      have h5 : NT W W.heap.size y5 (R.pr (.inner dl la lb) x1) := h5
      obtain ⟨y14, e14, h14⟩ := hd 14 128 rfl (by decide +kernel) (by decide)
      have h14 : NT W W.heap.size y14 (R.pr (x2) (yt)) := h14
      have HC := Lib.hid (pair_any y5 y14 (R.pr (.inner dl la lb) x1) (R.pr x2 yt) W (h5) (h14) HO.out.2.2.2.2.2.2.1 HO.out.2.2.2.2.2.2.2.1 HO.out.2.2.2.2.2.2.2.2)
      clear hd hold 
      go_simp
      go_at_call 95
      (with_reducible refine HC.out.mono ?_)
      rintro e W1 ⟨y, rfl, hn, hB⟩
      exact hK.out _ _ hn hB
    · exact absurd rfl hz
  · intro a W hg hf hold hput K' hK
    obtain ⟨yz, oz, hvz⟩ := hf 15 129 rfl (by decide) (by decide)
    have hvz : NT W W.heap.size yz (R.pr (R.pr (.inner dl la lb) x1) (R.pr x2 yt)) := hvz
    have HB := Lib.hid (And.intro hg hvz)
    clear hg hf hold hvz
    go_simp
    refine hK.out _ _ ?_
    obtain ⟨rr, ha⟩ := hput.out
    clear hput oz
    subst ha
    simp only [putL, Act.put, List.setIfInBounds_toArray, List.set_cons_zero, List.set_cons_succ]
    clear hK K'
    go_wp2_with fail
    go_ret
    exact ⟨_, _, rfl, HB.out.2, HJd.out, HB.out.1⟩
set_option maxHeartbeats 8000000 in
set_option maxRecDepth 100000 in
theorem level_Binleaf (vl vr : Value) (d : Nat) (dl : Nat) (la lb : R.T) (sx : ByteArray) (yt : R.T) (w : World) (hl : NT w w.heap.size vl (.inner dl la lb)) (hr : NT w w.heap.size vr (.inner d (.leaf sx) yt)) (ol : ((.inner dl la lb) : R.T).Ok) (or : ((.inner d (.leaf sx) yt) : R.T).Ok) (hs : ((.inner dl la lb) : R.T).tx.size + ((.inner d (.leaf sx) yt) : R.T).tx.size ≤ 1000000000000) (h1 : ((.inner dl la lb) : R.T).dep + 1 < d) (h2 : d ≤ ((.inner dl la lb) : R.T).dep + 2) (h3 : ((.leaf sx) : R.T).dep ≤ yt.dep) (h4 : ((.inner dl la lb) : R.T).dep ≤ ((.inner d (.leaf sx) yt) : R.T).dep + 1) :
    Calls Tryd.prog 94 #[vl, vr] w (JoinR (.inner dl la lb) (.inner d (.leaf sx) yt) w) := by
  have hnl0 := hl
  have hnr0 := hr
  obtain ⟨J, b', ox, oy⟩ := R.lev_B2 ol or h1 h2 h3
  have HJd := Lib.hid J
  have hz : ((.inner dl la lb) : R.T).tx.size + (((.leaf sx) : R.T).tx.size + yt.tx.size) ≤ 1000000000000 := by rw [← U.app_size ((.leaf sx) : R.T).tx]; exact hs
  have hld := ol.low (by omega)
  have hrd := or.low (by have hh : ((.inner d (.leaf sx) yt) : R.T).tx.size = _ := U.app_size _ _; omega)
  have HNl := Lib.hid (fun W (hB : Below w.heap.size w W) => hnl0.below hB)
  have HDl := Lib.hid (fun W (hB : Below w.heap.size w W) => depth_any _ (.inner dl la lb) W (hnl0.below hB))
  have HDr := Lib.hid (fun W (hB : Below w.heap.size w W) => depth_any _ (.inner d (.leaf sx) yt) W (hnr0.below hB))
  have q1 : ((((.inner dl la lb) : R.T).dep : Nat) : Int) + 1 < (d : Int) := by omega
  have q3 : ((((.inner dl la lb) : R.T).dep : Nat) : Int) ≤ 81 := by omega
  have q4 : ((((.inner d (.leaf sx) yt) : R.T).dep : Nat) : Int) ≤ 81 := by omega
  have w1 : IntKind.i64.wrap ((((.inner dl la lb) : R.T).dep : Int) + 1) = (((.inner dl la lb) : R.T).dep : Int) + 1 := wrapI _ (by omega) (by omega)
  obtain ⟨bl, vl1, vl2, hbl, rfl, hlf, -, -⟩ := hl
  have HL := Lib.hid (fun W (hB : Below w.heap.size w W) => (show InnerAt W bl _ dl _ _ from (hB.block bl hbl).trans hlf).rest)
  have qA : ¬ ((((.inner d (.leaf sx) yt) : R.T).dep : Nat) : Int) + 1 < (dl : Int) := by have h4 : dl ≤ ((.inner d (.leaf sx) yt) : R.T).dep + 1 := h4; omega
  have wA : IntKind.i64.wrap ((((.inner d (.leaf sx) yt) : R.T).dep : Int) + 1) = (((.inner d (.leaf sx) yt) : R.T).dep : Int) + 1 := wrapI _ (by omega) (by omega)
  have t1 := fun W => ta_inner_inner W (.pointer (some ⟨bl, 0, none⟩))
  clear hlf
  obtain ⟨b, vx, vy, hb, rfl, hi, hx, hy⟩ := hr
  have hx0 := hx
  obtain ⟨bx, hbx, rfl, hj⟩ := hx
  have t3 := fun W => ta_leaf_inner W (.pointer (some ⟨bx, 0, none⟩))
  clear hj
  have HI := Lib.hid (fun W (hB : Below w.heap.size w W) => (show InnerAt W b _ d _ _ from (hB.block b hb).trans hi).rest)
  have HNx := Lib.hid (fun W (hB : Below w.heap.size w W) => hx0.below hB)
  have HNy := Lib.hid (fun W (hB : Below w.heap.size w W) => hy.below hB)
  have HDy := Lib.hid (fun W (hB : Below w.heap.size w W) => depth_any _ yt W (hy.below hB))
  have HO := Lib.hid (show ((.inner dl la lb) : R.T).Ok ∧ ((.leaf sx) : R.T).Ok ∧ ((.inner dl la lb) : R.T).tx.size + ((.leaf sx) : R.T).tx.size ≤ 1000000000000 ∧ (R.pr (.inner dl la lb) (.leaf sx)).Ok ∧ yt.Ok ∧ (R.pr (.inner dl la lb) (.leaf sx)).tx.size + yt.tx.size ≤ 1000000000000 from ⟨ol, ox, by omega, b', oy, by simp only [R.pr_tx, U.app_size]; omega⟩)
  have t2 := fun W => ta_inner_inner W (.pointer (some ⟨b, 0, none⟩))
  clear hi hy hx0 J b' ox oy ol or hs h1 h2 h3 h4 hz hld hrd hnl0 hnr0
  generalize er : ((.inner d (.leaf sx) yt) : R.T).dep = rd at *
  generalize el : ((.inner dl la lb) : R.T).dep = ld at *
  clear er el
  go_enter Tryd.func94, Tryd.ntmps94
  go_upto_region 2 with fail
  obtain ⟨c5, c6, c7⟩ := HL.out w (Below.refl _ _)
  have KEEP := Lib.hid (fun w' (hB : Below w.heap.size w w') => (show w'.cell? ⟨bl, 5, none⟩ = some (.int .i64 (dl : Nat)) from (HL.out w' (hB)).1))
  go_region_held3 (fun w' => w'.cell? ⟨bl, 5, none⟩ = some (.int .i64 (dl : Nat)))
    (first | exact KEEP.out _ hC1 | exact KEEP.out _ (Below.refl _ _).drew | exact KEEP.out _ (Below.refl _ _))
    (first | (go_at_call 77; (with_reducible refine (HDr.out _ ((Below.refl w.heap.size w).drew)).mono ?_); rintro e wk1 ⟨rfl, hB⟩; have hC1 := (Below.refl w.heap.size w).drew.trans hB; clear hB))
  rename_i hHeld
  have Hwa := Lib.hid (hC1)
  clear hHeld KEEP c5 c6 c7 hC1
  generalize wk1 = wa at *
  obtain ⟨c5, c6, c7⟩ := HI.out wa Hwa.out
  go_upto_region 8 with fail
  clear c5 c6 c7
  obtain ⟨c5, c6, c7⟩ := HI.out wa Hwa.out
  have KEEP := Lib.hid (fun w' (hB : Below wa.heap.size wa w') => (show w'.cell? ⟨b, 5, none⟩ = some (.int .i64 (d : Nat)) from (HI.out w' (Hwa.out.trans (hB.mono Hwa.out.size))).1))
  go_region_held3 (fun w' => w'.cell? ⟨b, 5, none⟩ = some (.int .i64 (d : Nat)))
    (first | exact KEEP.out _ hC2 | exact KEEP.out _ (Below.refl _ _).drew | exact KEEP.out _ (Below.refl _ _))
    (first | (go_at_call 77; (with_reducible refine (HDl.out _ (Hwa.out.drew)).mono ?_); rintro e wk2 ⟨rfl, hB⟩; have hC2 := (Below.refl wa.heap.size wa).drew.trans hB; clear hB))
  rename_i hHeld
  have Hwb := Lib.hid (Hwa.out.trans (hC2.mono Hwa.out.size))
  clear hHeld KEEP c5 c6 c7 hC2
  generalize wk2 = wb at *
  obtain ⟨c5, c6, c7⟩ := HI.out wb Hwb.out
  go_upto_region 10 with fail
  clear c5 c6 c7
  go_quiet (fail)
  have Hwc := Lib.hid (below_drewN Hwb.out nq)
  generalize wb.drewN nq = wc at *
  go_upto_region 12 with fail
  have HRd := Lib.hid (Hwc.out.drew)
  refine wp_region_stepsP [some 130, some 131, some 132, some 133, some 134, some 135, some 136, some 137, some 138, some 139, some 140, some 4] _ _ (G := fun W => Below w.heap.size w W) (F := FLv12 b (.iface 137 (.pointer (some ⟨bl, 0, none⟩))) (.iface 118 (.pointer (some ⟨bx, 0, none⟩))) vy (.inner dl la lb) (.leaf sx) yt) (z := 11) (by kernel_rfl) rfl (by decide +kernel) rfl (by decide +kernel) (by decide +kernel) rfl (fun W W' h hB => h.trans (hB.mono h.size)) (fun i y W W' h hB => h.on hB) ?_ ?_ HRd.out
  · intro i o' ho hz a W hg hd hold K' hK
    have HG := Lib.hid hg
    have hlt : i < 12 := (Array.getElem?_eq_some_iff.1 ho).1
    clear hg
    obtain rfl | rfl | rfl | rfl | rfl | rfl | rfl | rfl | rfl | rfl | rfl | rfl : i = 0 ∨ i = 1 ∨ i = 2 ∨ i = 3 ∨ i = 4 ∨ i = 5 ∨ i = 6 ∨ i = 7 ∨ i = 8 ∨ i = 9 ∨ i = 10 ∨ i = 11 := by omega
    · obtain rfl := Option.some.inj ho
      have o0 : a.tmps[0]? = _ := (hold 0 rfl).trans rfl
      clear hd hold
      go_simp
      exact hK.out _ _ (by rfl) (Below.refl _ _)
    · obtain rfl := Option.some.inj ho
      have o9 : a.tmps[9]? = _ := (hold 9 rfl).trans rfl
      clear hd hold
      go_simp
      exact hK.out _ _ (by rfl) (Below.refl _ _)
    · obtain rfl := Option.some.inj ho
      obtain ⟨y1, e1, h1⟩ := hd 1 131 rfl (by decide +kernel) (by decide)
      have h1 : y1 = _ := h1
      have h1 := h1.symm
      subst h1
      clear hd hold
      go_simp
      exact hK.out _ _ (by rfl) (Below.refl _ _)
    · obtain rfl := Option.some.inj ho
      obtain ⟨y2, e2, h2⟩ := hd 2 132 rfl (by decide +kernel) (by decide)
      have h2 : y2 = _ := h2
      have h2 := h2.symm
      subst h2
      clear hd hold
      go_simp
      exact hK.out _ _ (by rfl) (Below.refl _ _)
    · obtain rfl := Option.some.inj ho
      obtain ⟨y3, e3, h3⟩ := hd 3 133 rfl (by decide +kernel) (by decide)
      have h3 : y3 = _ := h3
      have h3 := h3.symm
      subst h3
      have c6 := (HI.out W HG.out).2.1
      clear hd hold
      go_simp
      exact hK.out _ _ (by rfl) (Below.refl _ _)
    · obtain rfl := Option.some.inj ho
      obtain ⟨y0, e0, h0⟩ := hd 0 130 rfl (by decide +kernel) (by decide)
      have h0 : y0 = _ := h0
      have h0 := h0.symm
      subst h0
      obtain ⟨y4, e4, h4⟩ := hd 4 134 rfl (by decide +kernel) (by decide)
      have h4 : y4 = _ := h4
      have h4 := h4.symm
      subst h4
      have HC := Lib.hid (pair_any (.iface 137 (.pointer (some ⟨bl, 0, none⟩))) (.iface 118 (.pointer (some ⟨bx, 0, none⟩))) (.inner dl la lb) (.leaf sx) W (HNl.out W HG.out) (HNx.out W HG.out) HO.out.1 HO.out.2.1 HO.out.2.2.1)
      clear hd hold 
      go_simp
      go_at_call 95
      (with_reducible refine HC.out.mono ?_)
      rintro e W1 ⟨y, rfl, hn, hB⟩
      exact hK.out _ _ hn hB
    · obtain rfl := Option.some.inj ho
      have o9 : a.tmps[9]? = _ := (hold 9 rfl).trans rfl
      clear hd hold
      go_simp
      exact hK.out _ _ (by rfl) (Below.refl _ _)
    · obtain rfl := Option.some.inj ho
      obtain ⟨y6, e6, h6⟩ := hd 6 136 rfl (by decide +kernel) (by decide)
      have h6 : y6 = _ := h6
      have h6 := h6.symm
      subst h6
      clear hd hold
      go_simp
      exact hK.out _ _ (by rfl) (Below.refl _ _)
    · obtain rfl := Option.some.inj ho
      obtain ⟨y7, e7, h7⟩ := hd 7 137 rfl (by decide +kernel) (by decide)
      have h7 : y7 = _ := h7
      have h7 := h7.symm
      subst h7
      clear hd hold
      go_simp
      exact hK.out _ _ (by rfl) (Below.refl _ _)
    · obtain rfl := Option.some.inj ho
      obtain ⟨y8, e8, h8⟩ := hd 8 138 rfl (by decide +kernel) (by decide)
      have h8 : y8 = _ := h8
      have h8 := h8.symm
      subst h8
      have c7 := (HI.out W HG.out).2.2
      clear hd hold
      go_simp
      exact hK.out _ _ (by rfl) (Below.refl _ _)
    · obtain rfl := Option.some.inj ho
      obtain ⟨y5, e5, h5⟩ := hd 5 135 rfl (by decide +kernel) (by decide)
      have h5 : NT W W.heap.size y5 (R.pr (.inner dl la lb) (.leaf sx)) := h5
      obtain ⟨y9, e9, h9⟩ := hd 9 139 rfl (by decide +kernel) (by decide)
      have h9 : y9 = _ := h9
      have h9 := h9.symm
      subst h9
      have HC := Lib.hid (pair_any y5 vy (R.pr (.inner dl la lb) (.leaf sx)) yt W h5 (HNy.out W HG.out) HO.out.2.2.2.1 HO.out.2.2.2.2.1 HO.out.2.2.2.2.2)
      clear hd hold 
      go_simp
      go_at_call 95
      (with_reducible refine HC.out.mono ?_)
      rintro e W1 ⟨y, rfl, hn, hB⟩
      exact hK.out _ _ hn hB
    · exact absurd rfl hz
  · intro a W hg hf hold hput K' hK
    obtain ⟨yz, oz, hvz⟩ := hf 10 140 rfl (by decide) (by decide)
    have hvz : NT W W.heap.size yz (R.pr (R.pr (.inner dl la lb) (.leaf sx)) yt) := hvz
    have HB := Lib.hid (And.intro hg hvz)
    clear hg hf hold hvz
    go_simp
    refine hK.out _ _ ?_
    obtain ⟨rr, ha⟩ := hput.out
    clear hput oz
    subst ha
    simp only [putL, Act.put, List.setIfInBounds_toArray, List.set_cons_zero, List.set_cons_succ]
    clear hK K'
    go_wp2_with fail
    go_ret
    exact ⟨_, _, rfl, HB.out.2, HJd.out, HB.out.1⟩
set_option maxHeartbeats 8000000 in
set_option maxRecDepth 100000 in
theorem level_Binin (vl vr : Value) (d : Nat) (dl : Nat) (la lb : R.T) (dx : Nat) (x1 x2 : R.T) (yt : R.T) (w : World) (hl : NT w w.heap.size vl (.inner dl la lb)) (hr : NT w w.heap.size vr (.inner d (.inner dx x1 x2) yt)) (ol : ((.inner dl la lb) : R.T).Ok) (or : ((.inner d (.inner dx x1 x2) yt) : R.T).Ok) (hs : ((.inner dl la lb) : R.T).tx.size + ((.inner d (.inner dx x1 x2) yt) : R.T).tx.size ≤ 1000000000000) (h1 : ((.inner dl la lb) : R.T).dep + 1 < d) (h2 : d ≤ ((.inner dl la lb) : R.T).dep + 2) (h3 : ((.inner dx x1 x2) : R.T).dep ≤ yt.dep) (h4 : ((.inner dl la lb) : R.T).dep ≤ ((.inner d (.inner dx x1 x2) yt) : R.T).dep + 1) :
    Calls Tryd.prog 94 #[vl, vr] w (JoinR (.inner dl la lb) (.inner d (.inner dx x1 x2) yt) w) := by
  have hnl0 := hl
  have hnr0 := hr
  obtain ⟨J, b', ox, oy⟩ := R.lev_B2 ol or h1 h2 h3
  have HJd := Lib.hid J
  have hz : ((.inner dl la lb) : R.T).tx.size + (((.inner dx x1 x2) : R.T).tx.size + yt.tx.size) ≤ 1000000000000 := by rw [← U.app_size ((.inner dx x1 x2) : R.T).tx]; exact hs
  have hld := ol.low (by omega)
  have hrd := or.low (by have hh : ((.inner d (.inner dx x1 x2) yt) : R.T).tx.size = _ := U.app_size _ _; omega)
  have HNl := Lib.hid (fun W (hB : Below w.heap.size w W) => hnl0.below hB)
  have HDl := Lib.hid (fun W (hB : Below w.heap.size w W) => depth_any _ (.inner dl la lb) W (hnl0.below hB))
  have HDr := Lib.hid (fun W (hB : Below w.heap.size w W) => depth_any _ (.inner d (.inner dx x1 x2) yt) W (hnr0.below hB))
  have q1 : ((((.inner dl la lb) : R.T).dep : Nat) : Int) + 1 < (d : Int) := by omega
  have q3 : ((((.inner dl la lb) : R.T).dep : Nat) : Int) ≤ 81 := by omega
  have q4 : ((((.inner d (.inner dx x1 x2) yt) : R.T).dep : Nat) : Int) ≤ 81 := by omega
  have w1 : IntKind.i64.wrap ((((.inner dl la lb) : R.T).dep : Int) + 1) = (((.inner dl la lb) : R.T).dep : Int) + 1 := wrapI _ (by omega) (by omega)
  obtain ⟨bl, vl1, vl2, hbl, rfl, hlf, -, -⟩ := hl
  have HL := Lib.hid (fun W (hB : Below w.heap.size w W) => (show InnerAt W bl _ dl _ _ from (hB.block bl hbl).trans hlf).rest)
  have qA : ¬ ((((.inner d (.inner dx x1 x2) yt) : R.T).dep : Nat) : Int) + 1 < (dl : Int) := by have h4 : dl ≤ ((.inner d (.inner dx x1 x2) yt) : R.T).dep + 1 := h4; omega
  have wA : IntKind.i64.wrap ((((.inner d (.inner dx x1 x2) yt) : R.T).dep : Int) + 1) = (((.inner d (.inner dx x1 x2) yt) : R.T).dep : Int) + 1 := wrapI _ (by omega) (by omega)
  have t1 := fun W => ta_inner_inner W (.pointer (some ⟨bl, 0, none⟩))
  clear hlf
  obtain ⟨b, vx, vy, hb, rfl, hi, hx, hy⟩ := hr
  have hx0 := hx
  obtain ⟨bx, v1, v2, hbx, rfl, hj, hx1, hx2⟩ := hx
  have HJ := Lib.hid (fun W (hB : Below w.heap.size w W) => (show InnerAt W bx _ dx _ _ from (hB.block bx hbx).trans hj).rest)
  have HN1 := Lib.hid (fun W (hB : Below w.heap.size w W) => hx1.below hB)
  have HN2 := Lib.hid (fun W (hB : Below w.heap.size w W) => hx2.below hB)
  have q2 : ¬ ((yt.dep : Nat) : Int) < (dx : Int) := by have h3' := h3; (try simp only [R.dep_in] at h3'); omega
  have t3 := fun W => ta_inner_inner W (.pointer (some ⟨bx, 0, none⟩))
  clear hj hx1 hx2
  have HI := Lib.hid (fun W (hB : Below w.heap.size w W) => (show InnerAt W b _ d _ _ from (hB.block b hb).trans hi).rest)
  have HNx := Lib.hid (fun W (hB : Below w.heap.size w W) => hx0.below hB)
  have HNy := Lib.hid (fun W (hB : Below w.heap.size w W) => hy.below hB)
  have HDy := Lib.hid (fun W (hB : Below w.heap.size w W) => depth_any _ yt W (hy.below hB))
  have HO := Lib.hid (show ((.inner dl la lb) : R.T).Ok ∧ ((.inner dx x1 x2) : R.T).Ok ∧ ((.inner dl la lb) : R.T).tx.size + ((.inner dx x1 x2) : R.T).tx.size ≤ 1000000000000 ∧ (R.pr (.inner dl la lb) (.inner dx x1 x2)).Ok ∧ yt.Ok ∧ (R.pr (.inner dl la lb) (.inner dx x1 x2)).tx.size + yt.tx.size ≤ 1000000000000 from ⟨ol, ox, by omega, b', oy, by simp only [R.pr_tx, U.app_size]; omega⟩)
  have t2 := fun W => ta_inner_inner W (.pointer (some ⟨b, 0, none⟩))
  clear hi hy hx0 J b' ox oy ol or hs h1 h2 h3 h4 hz hld hrd hnl0 hnr0
  generalize er : ((.inner d (.inner dx x1 x2) yt) : R.T).dep = rd at *
  generalize el : ((.inner dl la lb) : R.T).dep = ld at *
  clear er el
  go_enter Tryd.func94, Tryd.ntmps94
  go_upto_region 2 with fail
  obtain ⟨c5, c6, c7⟩ := HL.out w (Below.refl _ _)
  have KEEP := Lib.hid (fun w' (hB : Below w.heap.size w w') => (show w'.cell? ⟨bl, 5, none⟩ = some (.int .i64 (dl : Nat)) from (HL.out w' (hB)).1))
  go_region_held3 (fun w' => w'.cell? ⟨bl, 5, none⟩ = some (.int .i64 (dl : Nat)))
    (first | exact KEEP.out _ hC1 | exact KEEP.out _ (Below.refl _ _).drew | exact KEEP.out _ (Below.refl _ _))
    (first | (go_at_call 77; (with_reducible refine (HDr.out _ ((Below.refl w.heap.size w).drew)).mono ?_); rintro e wk1 ⟨rfl, hB⟩; have hC1 := (Below.refl w.heap.size w).drew.trans hB; clear hB))
  rename_i hHeld
  have Hwa := Lib.hid (hC1)
  clear hHeld KEEP c5 c6 c7 hC1
  generalize wk1 = wa at *
  obtain ⟨c5, c6, c7⟩ := HI.out wa Hwa.out
  go_upto_region 8 with fail
  clear c5 c6 c7
  obtain ⟨c5, c6, c7⟩ := HI.out wa Hwa.out
  have KEEP := Lib.hid (fun w' (hB : Below wa.heap.size wa w') => (show w'.cell? ⟨b, 5, none⟩ = some (.int .i64 (d : Nat)) from (HI.out w' (Hwa.out.trans (hB.mono Hwa.out.size))).1))
  go_region_held3 (fun w' => w'.cell? ⟨b, 5, none⟩ = some (.int .i64 (d : Nat)))
    (first | exact KEEP.out _ hC2 | exact KEEP.out _ (Below.refl _ _).drew | exact KEEP.out _ (Below.refl _ _))
    (first | (go_at_call 77; (with_reducible refine (HDl.out _ (Hwa.out.drew)).mono ?_); rintro e wk2 ⟨rfl, hB⟩; have hC2 := (Below.refl wa.heap.size wa).drew.trans hB; clear hB))
  rename_i hHeld
  have Hwb := Lib.hid (Hwa.out.trans (hC2.mono Hwa.out.size))
  clear hHeld KEEP c5 c6 c7 hC2
  generalize wk2 = wb at *
  obtain ⟨c5, c6, c7⟩ := HI.out wb Hwb.out
  go_upto_region 10 with fail
  clear c5 c6 c7
  obtain ⟨c5, c6, c7⟩ := HJ.out wb Hwb.out
  have KEEP := Lib.hid (fun w' (hB : Below wb.heap.size wb w') => (show w'.cell? ⟨bx, 5, none⟩ = some (.int .i64 (dx : Nat)) ∧ w'.cell? ⟨b, 7, none⟩ = some vy from ⟨(HJ.out w' (Hwb.out.trans (hB.mono Hwb.out.size))).1, (HI.out w' (Hwb.out.trans (hB.mono Hwb.out.size))).2.2⟩))
  obtain ⟨d5, d6, d7⟩ := HI.out wb Hwb.out
  go_region_held3 (fun w' => w'.cell? ⟨bx, 5, none⟩ = some (.int .i64 (dx : Nat)) ∧ w'.cell? ⟨b, 7, none⟩ = some vy)
    (first | exact KEEP.out _ hC3 | exact KEEP.out _ (Below.refl _ _).drew | exact KEEP.out _ (Below.refl _ _))
    (first | (go_at_call 77; (with_reducible refine (HDy.out _ (Hwb.out.drew)).mono ?_); rintro e wk3 ⟨rfl, hB⟩; have hC3 := (Below.refl wb.heap.size wb).drew.trans hB; clear hB))
  rename_i hHeld
  have Hwc := Lib.hid (Hwb.out.trans (hC3.mono Hwb.out.size))
  clear hHeld KEEP c5 c6 c7 hC3 d5 d6 d7
  generalize wk3 = wc at *
  go_upto_region 12 with fail
  have HRd := Lib.hid (Hwc.out.drew)
  refine wp_region_stepsP [some 130, some 131, some 132, some 133, some 134, some 135, some 136, some 137, some 138, some 139, some 140, some 4] _ _ (G := fun W => Below w.heap.size w W) (F := FLv12 b (.iface 137 (.pointer (some ⟨bl, 0, none⟩))) (.iface 137 (.pointer (some ⟨bx, 0, none⟩))) vy (.inner dl la lb) (.inner dx x1 x2) yt) (z := 11) (by kernel_rfl) rfl (by decide +kernel) rfl (by decide +kernel) (by decide +kernel) rfl (fun W W' h hB => h.trans (hB.mono h.size)) (fun i y W W' h hB => h.on hB) ?_ ?_ HRd.out
  · intro i o' ho hz a W hg hd hold K' hK
    have HG := Lib.hid hg
    have hlt : i < 12 := (Array.getElem?_eq_some_iff.1 ho).1
    clear hg
    obtain rfl | rfl | rfl | rfl | rfl | rfl | rfl | rfl | rfl | rfl | rfl | rfl : i = 0 ∨ i = 1 ∨ i = 2 ∨ i = 3 ∨ i = 4 ∨ i = 5 ∨ i = 6 ∨ i = 7 ∨ i = 8 ∨ i = 9 ∨ i = 10 ∨ i = 11 := by omega
    · obtain rfl := Option.some.inj ho
      have o0 : a.tmps[0]? = _ := (hold 0 rfl).trans rfl
      clear hd hold
      go_simp
      exact hK.out _ _ (by rfl) (Below.refl _ _)
    · obtain rfl := Option.some.inj ho
      have o9 : a.tmps[9]? = _ := (hold 9 rfl).trans rfl
      clear hd hold
      go_simp
      exact hK.out _ _ (by rfl) (Below.refl _ _)
    · obtain rfl := Option.some.inj ho
      obtain ⟨y1, e1, h1⟩ := hd 1 131 rfl (by decide +kernel) (by decide)
      have h1 : y1 = _ := h1
      have h1 := h1.symm
      subst h1
      clear hd hold
      go_simp
      exact hK.out _ _ (by rfl) (Below.refl _ _)
    · obtain rfl := Option.some.inj ho
      obtain ⟨y2, e2, h2⟩ := hd 2 132 rfl (by decide +kernel) (by decide)
      have h2 : y2 = _ := h2
      have h2 := h2.symm
      subst h2
      clear hd hold
      go_simp
      exact hK.out _ _ (by rfl) (Below.refl _ _)
    · obtain rfl := Option.some.inj ho
      obtain ⟨y3, e3, h3⟩ := hd 3 133 rfl (by decide +kernel) (by decide)
      have h3 : y3 = _ := h3
      have h3 := h3.symm
      subst h3
      have c6 := (HI.out W HG.out).2.1
      clear hd hold
      go_simp
      exact hK.out _ _ (by rfl) (Below.refl _ _)
    · obtain rfl := Option.some.inj ho
      obtain ⟨y0, e0, h0⟩ := hd 0 130 rfl (by decide +kernel) (by decide)
      have h0 : y0 = _ := h0
      have h0 := h0.symm
      subst h0
      obtain ⟨y4, e4, h4⟩ := hd 4 134 rfl (by decide +kernel) (by decide)
      have h4 : y4 = _ := h4
      have h4 := h4.symm
      subst h4
      have HC := Lib.hid (pair_any (.iface 137 (.pointer (some ⟨bl, 0, none⟩))) (.iface 137 (.pointer (some ⟨bx, 0, none⟩))) (.inner dl la lb) (.inner dx x1 x2) W (HNl.out W HG.out) (HNx.out W HG.out) HO.out.1 HO.out.2.1 HO.out.2.2.1)
      clear hd hold 
      go_simp
      go_at_call 95
      (with_reducible refine HC.out.mono ?_)
      rintro e W1 ⟨y, rfl, hn, hB⟩
      exact hK.out _ _ hn hB
    · obtain rfl := Option.some.inj ho
      have o9 : a.tmps[9]? = _ := (hold 9 rfl).trans rfl
      clear hd hold
      go_simp
      exact hK.out _ _ (by rfl) (Below.refl _ _)
    · obtain rfl := Option.some.inj ho
      obtain ⟨y6, e6, h6⟩ := hd 6 136 rfl (by decide +kernel) (by decide)
      have h6 : y6 = _ := h6
      have h6 := h6.symm
      subst h6
      clear hd hold
      go_simp
      exact hK.out _ _ (by rfl) (Below.refl _ _)
    · obtain rfl := Option.some.inj ho
      obtain ⟨y7, e7, h7⟩ := hd 7 137 rfl (by decide +kernel) (by decide)
      have h7 : y7 = _ := h7
      have h7 := h7.symm
      subst h7
      clear hd hold
      go_simp
      exact hK.out _ _ (by rfl) (Below.refl _ _)
    · obtain rfl := Option.some.inj ho
      obtain ⟨y8, e8, h8⟩ := hd 8 138 rfl (by decide +kernel) (by decide)
      have h8 : y8 = _ := h8
      have h8 := h8.symm
      subst h8
      have c7 := (HI.out W HG.out).2.2
      clear hd hold
      go_simp
      exact hK.out _ _ (by rfl) (Below.refl _ _)
    · obtain rfl := Option.some.inj ho
      obtain ⟨y5, e5, h5⟩ := hd 5 135 rfl (by decide +kernel) (by decide)
      have h5 : NT W W.heap.size y5 (R.pr (.inner dl la lb) (.inner dx x1 x2)) := h5
      obtain ⟨y9, e9, h9⟩ := hd 9 139 rfl (by decide +kernel) (by decide)
      have h9 : y9 = _ := h9
      have h9 := h9.symm
      subst h9
      have HC := Lib.hid (pair_any y5 vy (R.pr (.inner dl la lb) (.inner dx x1 x2)) yt W h5 (HNy.out W HG.out) HO.out.2.2.2.1 HO.out.2.2.2.2.1 HO.out.2.2.2.2.2)
      clear hd hold 
      go_simp
      go_at_call 95
      (with_reducible refine HC.out.mono ?_)
      rintro e W1 ⟨y, rfl, hn, hB⟩
      exact hK.out _ _ hn hB
    · exact absurd rfl hz
  · intro a W hg hf hold hput K' hK
    obtain ⟨yz, oz, hvz⟩ := hf 10 140 rfl (by decide) (by decide)
    have hvz : NT W W.heap.size yz (R.pr (R.pr (.inner dl la lb) (.inner dx x1 x2)) yt) := hvz
    have HB := Lib.hid (And.intro hg hvz)
    clear hg hf hold hvz
    go_simp
    refine hK.out _ _ ?_
    obtain ⟨rr, ha⟩ := hput.out
    clear hput oz
    subst ha
    simp only [putL, Act.put, List.setIfInBounds_toArray, List.set_cons_zero, List.set_cons_succ]
    clear hK K'
    go_wp2_with fail
    go_ret
    exact ⟨_, _, rfl, HB.out.2, HJd.out, HB.out.1⟩
end Go.Proofs.YtjeopabnddekgaaDoor
