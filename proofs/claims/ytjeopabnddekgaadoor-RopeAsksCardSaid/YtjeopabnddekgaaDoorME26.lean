/- Two trees, one behind the other. Conditions: a text of at most 10^12 bytes. -/
import Derived.Test.YtjeopabnddekgaaDoorME25
namespace Go.Proofs.YtjeopabnddekgaaDoor
open Go Go.RowKit Go.Lib

def FJn10 (b : Nat) (vl vx vy : Value) (l xt yt rt : R.T) : Nat → Value → World → Prop
  | 0, y, _ => y = vl
  | 1, y, _ => y = .pointer (some ⟨b, 0, none⟩)
  | 2, y, _ => y = .pointer (some ⟨b, 0, none⟩)
  | 3, y, _ => y = .pointer (some ⟨b, 6, none⟩)
  | 4, y, _ => y = vx
  | 5, y, W => ∃ tj, NT W W.heap.size y tj ∧ (R.Joined l xt) tj
  | 6, y, _ => y = .pointer (some ⟨b, 0, none⟩)
  | 7, y, _ => y = .pointer (some ⟨b, 0, none⟩)
  | 8, y, _ => y = .pointer (some ⟨b, 7, none⟩)
  | 9, y, _ => y = vy
  | 10, y, W => ∃ tj, NT W W.heap.size y tj ∧ (R.Joined l rt) tj
  | _, _, _ => True
theorem FJn10.on {b : Nat} {vl vx vy : Value} {l xt yt rt : R.T} {iz : Nat} {y : Value} {W W' : World} (h : FJn10 b vl vx vy l xt yt rt iz y W) (hB : Below W.heap.size W W') : FJn10 b vl vx vy l xt yt rt iz y W' := by
  unfold FJn10 at h ⊢
  split at h
  · exact h
  · exact h
  · exact h
  · exact h
  · exact h
  · obtain ⟨t, h1, h2⟩ := h; exact ⟨t, h1.below hB, h2⟩
  · exact h
  · exact h
  · exact h
  · exact h
  · obtain ⟨t, h1, h2⟩ := h; exact ⟨t, h1.below hB, h2⟩
  · trivial
set_option maxHeartbeats 8000000 in
set_option maxRecDepth 100000 in
theorem join_Bleaf (vl vr : Value) (sl : ByteArray) (d : Nat) (x y : R.T) (w : World) (hl : NT w w.heap.size vl (.leaf sl)) (hr : NT w w.heap.size vr (.inner d x y)) (ol : ((.leaf sl) : R.T).Ok) (or : ((.inner d x y) : R.T).Ok) (hs : ((.leaf sl) : R.T).tx.size + ((.inner d x y) : R.T).tx.size ≤ 1000000000000) (h1 : ((.leaf sl) : R.T).dep + 1 < d) (h4 : ((.leaf sl) : R.T).dep ≤ ((.inner d x y) : R.T).dep + 1)
    (ih : ∀ vx W, Below w.heap.size w W → NT W W.heap.size vx x → Calls Tryd.prog 70 #[vl, vx] W (JoinR (.leaf sl) x W)) :
    Calls Tryd.prog 70 #[vl, vr] w (JoinR (.leaf sl) (.inner d x y) w) := by
  have HFin := Lib.hid (fun t1 (J : R.Joined (.leaf sl) x t1) => (R.join_B or h1 J).2.2)
  have hz : ((.leaf sl) : R.T).tx.size + (x.tx.size + y.tx.size) ≤ 1000000000000 := by rw [← U.app_size x.tx]; exact hs
  have hld := ol.low (by omega)
  have hrd := or.low (by omega)
  have HDl := Lib.hid (fun W (hB : Below w.heap.size w W) => depth_any _ (.leaf sl) W (hl.below hB))
  have HDr := Lib.hid (fun W (hB : Below w.heap.size w W) => depth_any _ (.inner d x y) W (hr.below hB))
  have q1 : ((((.leaf sl) : R.T).dep : Nat) : Int) + 1 < (d : Int) := by omega
  have q3 : ((((.leaf sl) : R.T).dep : Nat) : Int) ≤ 81 := by omega
  have q4 : ((((.inner d x y) : R.T).dep : Nat) : Int) ≤ 81 := by omega
  have w1 : IntKind.i64.wrap ((((.leaf sl) : R.T).dep : Int) + 1) = (((.leaf sl) : R.T).dep : Int) + 1 := wrapI _ (by omega) (by omega)
  obtain ⟨bl, hbl, rfl, hlf⟩ := hl
  have t1 := fun W => ta_leaf_inner W (.pointer (some ⟨bl, 0, none⟩))
  clear hlf
  obtain ⟨b, vx, vy, hb, rfl, hi, hx, hy⟩ := hr
  have HI := Lib.hid (fun W (hB : Below w.heap.size w W) => (show InnerAt W b _ d _ _ from (hB.block b hb).trans hi).rest)
  have HIH := Lib.hid (fun W (hB : Below w.heap.size w W) => ih vx W hB (hx.below hB))
  have HLv := Lib.hid (fun W (hB : Below w.heap.size w W) yj tj (hn : NT W W.heap.size yj tj) (J : R.Joined (.leaf sl) x tj) => level_any yj vy tj y W hn (hy.below hB) J.ok or.2.1 (by rw [J.tx, U.app_size]; omega) (R.join_B or h1 J).1 (R.join_B or h1 J).2.1)
  have t2 := fun W => ta_inner_inner W (.pointer (some ⟨b, 0, none⟩))
  clear hi hx hy ih ol or hs h1 h4 hz hld hrd
  generalize er : ((.inner d x y) : R.T).dep = rd at *
  generalize el : ((.leaf sl) : R.T).dep = ld at *
  clear er el
  go_enter Tryd.func70, Tryd.ntmps70
  go_upto_region 6 with fail
  go_quiet (fail)
  have Hwa := Lib.hid (below_drewN (Below.refl w.heap.size w) nq)
  generalize w.drewN nq = wa at *
  obtain ⟨c5, c6, c7⟩ := HI.out wa Hwa.out
  go_upto_region 9 with fail
  clear c5 c6 c7
  obtain ⟨c5, c6, c7⟩ := HI.out wa Hwa.out
  have KEEP := Lib.hid (fun w' (hB : Below wa.heap.size wa w') => (show w'.cell? ⟨b, 5, none⟩ = some (.int .i64 (d : Nat)) from (HI.out w' (Hwa.out.trans (hB.mono Hwa.out.size))).1))
  go_region_held3 (fun w' => w'.cell? ⟨b, 5, none⟩ = some (.int .i64 (d : Nat)))
    (first | exact KEEP.out _ hC2 | exact KEEP.out _ (Below.refl _ _).drew | exact KEEP.out _ (Below.refl _ _))
    (first | (go_at_call 77; (with_reducible refine (HDl.out _ (Hwa.out.drew)).mono ?_); rintro e wk2 ⟨rfl, hB⟩; have hC2 := (Below.refl wa.heap.size wa).drew.trans hB; clear hB))
  rename_i hHeld
  have Hwb := Lib.hid (Hwa.out.trans (hC2.mono Hwa.out.size))
  clear hHeld KEEP c5 c6 c7 hC2
  generalize wk2 = wb at *
  go_upto_region 10 with fail
  have HRd := Lib.hid (Hwb.out.drew)
  refine wp_region_stepsP [some 58, some 59, some 60, some 61, some 62, some 63, some 64, some 65, some 66, some 67, some 68, some 4] _ _ (G := fun W => Below w.heap.size w W) (F := FJn10 b (.iface 118 (.pointer (some ⟨bl, 0, none⟩))) vx vy (.leaf sl) x y (.inner d x y)) (z := 11) (by kernel_rfl) rfl (by decide +kernel) rfl (by decide +kernel) (by decide +kernel) rfl (fun W W' h hB => h.trans (hB.mono h.size)) (fun i y W W' h hB => h.on hB) ?_ ?_ HRd.out
  · intro i o' ho hz a W hg hd hold K' hK
    have HG := Lib.hid hg
    have hlt : i < 12 := (Array.getElem?_eq_some_iff.1 ho).1
    clear hg
    obtain rfl | rfl | rfl | rfl | rfl | rfl | rfl | rfl | rfl | rfl | rfl | rfl : i = 0 ∨ i = 1 ∨ i = 2 ∨ i = 3 ∨ i = 4 ∨ i = 5 ∨ i = 6 ∨ i = 7 ∨ i = 8 ∨ i = 9 ∨ i = 10 ∨ i = 11 := by omega
    · obtain rfl := Option.some.inj ho
      have o0 : a.tmps[0]? = _ := (hold 0 rfl).trans rfl
      clear hd hold
      go_simp
      exact hK.out _ _ (by rfl) (Below.refl _ _)
    · obtain rfl := Option.some.inj ho
      have o7 : a.tmps[7]? = _ := (hold 7 rfl).trans rfl
      clear hd hold
      go_simp
      exact hK.out _ _ (by rfl) (Below.refl _ _)
    · obtain rfl := Option.some.inj ho
      obtain ⟨y1, e1, h1⟩ := hd 1 59 rfl (by decide +kernel) (by decide)
      have h1 : y1 = _ := h1
      have h1 := h1.symm
      subst h1
      clear hd hold
      go_simp
      exact hK.out _ _ (by rfl) (Below.refl _ _)
    · obtain rfl := Option.some.inj ho
      obtain ⟨y2, e2, h2⟩ := hd 2 60 rfl (by decide +kernel) (by decide)
      have h2 : y2 = _ := h2
      have h2 := h2.symm
      subst h2
      clear hd hold
      go_simp
      exact hK.out _ _ (by rfl) (Below.refl _ _)
    · obtain rfl := Option.some.inj ho
      obtain ⟨y3, e3, h3⟩ := hd 3 61 rfl (by decide +kernel) (by decide)
      have h3 : y3 = _ := h3
      have h3 := h3.symm
      subst h3
      have c6 := (HI.out W HG.out).2.1
      clear hd hold
      go_simp
      exact hK.out _ _ (by rfl) (Below.refl _ _)
    · obtain rfl := Option.some.inj ho
      obtain ⟨y0, e0, h0⟩ := hd 0 58 rfl (by decide +kernel) (by decide)
      have h0 : y0 = _ := h0
      have h0 := h0.symm
      subst h0
      obtain ⟨y4, e4, h4⟩ := hd 4 62 rfl (by decide +kernel) (by decide)
      have h4 : y4 = _ := h4
      have h4 := h4.symm
      subst h4
      have HC := Lib.hid (HIH.out W HG.out)
      clear hd hold 
      go_simp
      go_at_call 70
      (with_reducible refine HC.out.mono ?_)
      rintro e W1 ⟨tj, y, rfl, hn, hJ, hB⟩
      exact hK.out _ _ ⟨tj, hn, hJ⟩ hB
    · obtain rfl := Option.some.inj ho
      have o7 : a.tmps[7]? = _ := (hold 7 rfl).trans rfl
      clear hd hold
      go_simp
      exact hK.out _ _ (by rfl) (Below.refl _ _)
    · obtain rfl := Option.some.inj ho
      obtain ⟨y6, e6, h6⟩ := hd 6 64 rfl (by decide +kernel) (by decide)
      have h6 : y6 = _ := h6
      have h6 := h6.symm
      subst h6
      clear hd hold
      go_simp
      exact hK.out _ _ (by rfl) (Below.refl _ _)
    · obtain rfl := Option.some.inj ho
      obtain ⟨y7, e7, h7⟩ := hd 7 65 rfl (by decide +kernel) (by decide)
      have h7 : y7 = _ := h7
      have h7 := h7.symm
      subst h7
      clear hd hold
      go_simp
      exact hK.out _ _ (by rfl) (Below.refl _ _)
    · obtain rfl := Option.some.inj ho
      obtain ⟨y8, e8, h8⟩ := hd 8 66 rfl (by decide +kernel) (by decide)
      have h8 : y8 = _ := h8
      have h8 := h8.symm
      subst h8
      have c7 := (HI.out W HG.out).2.2
      clear hd hold
      go_simp
      exact hK.out _ _ (by rfl) (Below.refl _ _)
    · obtain rfl := Option.some.inj ho
      obtain ⟨y5, e5, h5⟩ := hd 5 63 rfl (by decide +kernel) (by decide)
      obtain ⟨t5, n5, q5⟩ : ∃ tj, NT W W.heap.size y5 tj ∧ (R.Joined (.leaf sl) x) tj := h5
      obtain ⟨y9, e9, h9⟩ := hd 9 67 rfl (by decide +kernel) (by decide)
      have h9 : y9 = _ := h9
      have h9 := h9.symm
      subst h9
      have hqj := q5
      have HC := Lib.hid (HLv.out W HG.out y5 t5 n5 q5)
      clear hd hold 
      go_simp
      go_at_call 94
      (with_reducible refine HC.out.mono ?_)
      rintro e W1 ⟨tj, y, rfl, hn, hJ, hB⟩
      exact hK.out _ _ ⟨tj, hn, HFin.out _ hqj _ hJ⟩ hB
    · exact absurd rfl hz
  · intro a W hg hf hold hput K' hK
    obtain ⟨yz, oz, hvz⟩ := hf 10 68 rfl (by decide) (by decide)
    obtain ⟨tz, hn, hq⟩ : ∃ tj, NT W W.heap.size yz tj ∧ (R.Joined (.leaf sl) (.inner d x y)) tj := hvz
    have HB := Lib.hid (And.intro hg hn)
    clear hg hf hold hn
    go_simp
    refine hK.out _ _ ?_
    obtain ⟨rr, ha⟩ := hput.out
    clear hput oz
    subst ha
    simp only [putL, Act.put, List.setIfInBounds_toArray, List.set_cons_zero, List.set_cons_succ]
    clear hK K'
    go_wp2_with fail
    go_ret
    exact ⟨tz, _, rfl, HB.out.2, hq, HB.out.1⟩
set_option maxHeartbeats 8000000 in
set_option maxRecDepth 100000 in
theorem join_Bin (vl vr : Value) (dl : Nat) (la lb : R.T) (d : Nat) (x y : R.T) (w : World) (hl : NT w w.heap.size vl (.inner dl la lb)) (hr : NT w w.heap.size vr (.inner d x y)) (ol : ((.inner dl la lb) : R.T).Ok) (or : ((.inner d x y) : R.T).Ok) (hs : ((.inner dl la lb) : R.T).tx.size + ((.inner d x y) : R.T).tx.size ≤ 1000000000000) (h1 : ((.inner dl la lb) : R.T).dep + 1 < d) (h4 : ((.inner dl la lb) : R.T).dep ≤ ((.inner d x y) : R.T).dep + 1)
    (ih : ∀ vx W, Below w.heap.size w W → NT W W.heap.size vx x → Calls Tryd.prog 70 #[vl, vx] W (JoinR (.inner dl la lb) x W)) :
    Calls Tryd.prog 70 #[vl, vr] w (JoinR (.inner dl la lb) (.inner d x y) w) := by
  have HFin := Lib.hid (fun t1 (J : R.Joined (.inner dl la lb) x t1) => (R.join_B or h1 J).2.2)
  have hz : ((.inner dl la lb) : R.T).tx.size + (x.tx.size + y.tx.size) ≤ 1000000000000 := by rw [← U.app_size x.tx]; exact hs
  have hld := ol.low (by omega)
  have hrd := or.low (by omega)
  have HDl := Lib.hid (fun W (hB : Below w.heap.size w W) => depth_any _ (.inner dl la lb) W (hl.below hB))
  have HDr := Lib.hid (fun W (hB : Below w.heap.size w W) => depth_any _ (.inner d x y) W (hr.below hB))
  have q1 : ((((.inner dl la lb) : R.T).dep : Nat) : Int) + 1 < (d : Int) := by omega
  have q3 : ((((.inner dl la lb) : R.T).dep : Nat) : Int) ≤ 81 := by omega
  have q4 : ((((.inner d x y) : R.T).dep : Nat) : Int) ≤ 81 := by omega
  have w1 : IntKind.i64.wrap ((((.inner dl la lb) : R.T).dep : Int) + 1) = (((.inner dl la lb) : R.T).dep : Int) + 1 := wrapI _ (by omega) (by omega)
  obtain ⟨bl, vl1, vl2, hbl, rfl, hlf, -, -⟩ := hl
  have HL := Lib.hid (fun W (hB : Below w.heap.size w W) => (show InnerAt W bl _ dl _ _ from (hB.block bl hbl).trans hlf).rest)
  have qA : ¬ ((((.inner d x y) : R.T).dep : Nat) : Int) + 1 < (dl : Int) := by have h4 : dl ≤ ((.inner d x y) : R.T).dep + 1 := h4; omega
  have wA : IntKind.i64.wrap ((((.inner d x y) : R.T).dep : Int) + 1) = (((.inner d x y) : R.T).dep : Int) + 1 := wrapI _ (by omega) (by omega)
  have t1 := fun W => ta_inner_inner W (.pointer (some ⟨bl, 0, none⟩))
  clear hlf
  obtain ⟨b, vx, vy, hb, rfl, hi, hx, hy⟩ := hr
  have HI := Lib.hid (fun W (hB : Below w.heap.size w W) => (show InnerAt W b _ d _ _ from (hB.block b hb).trans hi).rest)
  have HIH := Lib.hid (fun W (hB : Below w.heap.size w W) => ih vx W hB (hx.below hB))
  have HLv := Lib.hid (fun W (hB : Below w.heap.size w W) yj tj (hn : NT W W.heap.size yj tj) (J : R.Joined (.inner dl la lb) x tj) => level_any yj vy tj y W hn (hy.below hB) J.ok or.2.1 (by rw [J.tx, U.app_size]; omega) (R.join_B or h1 J).1 (R.join_B or h1 J).2.1)
  have t2 := fun W => ta_inner_inner W (.pointer (some ⟨b, 0, none⟩))
  clear hi hx hy ih ol or hs h1 h4 hz hld hrd
  generalize er : ((.inner d x y) : R.T).dep = rd at *
  generalize el : ((.inner dl la lb) : R.T).dep = ld at *
  clear er el
  go_enter Tryd.func70, Tryd.ntmps70
  go_upto_region 6 with fail
  obtain ⟨c5, c6, c7⟩ := HL.out w (Below.refl _ _)
  have KEEP := Lib.hid (fun w' (hB : Below w.heap.size w w') => (show w'.cell? ⟨bl, 5, none⟩ = some (.int .i64 (dl : Nat)) from (HL.out w' (hB)).1))
  go_region_held3 (fun w' => w'.cell? ⟨bl, 5, none⟩ = some (.int .i64 (dl : Nat)))
    (first | exact KEEP.out _ hC1 | exact KEEP.out _ (Below.refl _ _).drew | exact KEEP.out _ (Below.refl _ _))
    (first | (go_at_call 77; (with_reducible refine (HDr.out _ ((Below.refl w.heap.size w).drew)).mono ?_); rintro e wk1 ⟨rfl, hB⟩; have hC1 := (Below.refl w.heap.size w).drew.trans hB; clear hB))
  rename_i hHeld
  have Hwa := Lib.hid (hC1)
  clear hHeld KEEP c5 c6 c7 hC1
  generalize wk1 = wa at *
  obtain ⟨c5, c6, c7⟩ := HI.out wa Hwa.out
  go_upto_region 9 with fail
  clear c5 c6 c7
  obtain ⟨c5, c6, c7⟩ := HI.out wa Hwa.out
  have KEEP := Lib.hid (fun w' (hB : Below wa.heap.size wa w') => (show w'.cell? ⟨b, 5, none⟩ = some (.int .i64 (d : Nat)) from (HI.out w' (Hwa.out.trans (hB.mono Hwa.out.size))).1))
  go_region_held3 (fun w' => w'.cell? ⟨b, 5, none⟩ = some (.int .i64 (d : Nat)))
    (first | exact KEEP.out _ hC2 | exact KEEP.out _ (Below.refl _ _).drew | exact KEEP.out _ (Below.refl _ _))
    (first | (go_at_call 77; (with_reducible refine (HDl.out _ (Hwa.out.drew)).mono ?_); rintro e wk2 ⟨rfl, hB⟩; have hC2 := (Below.refl wa.heap.size wa).drew.trans hB; clear hB))
  rename_i hHeld
  have Hwb := Lib.hid (Hwa.out.trans (hC2.mono Hwa.out.size))
  clear hHeld KEEP c5 c6 c7 hC2
  generalize wk2 = wb at *
  go_upto_region 10 with fail
  have HRd := Lib.hid (Hwb.out.drew)
  refine wp_region_stepsP [some 58, some 59, some 60, some 61, some 62, some 63, some 64, some 65, some 66, some 67, some 68, some 4] _ _ (G := fun W => Below w.heap.size w W) (F := FJn10 b (.iface 137 (.pointer (some ⟨bl, 0, none⟩))) vx vy (.inner dl la lb) x y (.inner d x y)) (z := 11) (by kernel_rfl) rfl (by decide +kernel) rfl (by decide +kernel) (by decide +kernel) rfl (fun W W' h hB => h.trans (hB.mono h.size)) (fun i y W W' h hB => h.on hB) ?_ ?_ HRd.out
  · intro i o' ho hz a W hg hd hold K' hK
    have HG := Lib.hid hg
    have hlt : i < 12 := (Array.getElem?_eq_some_iff.1 ho).1
    clear hg
    obtain rfl | rfl | rfl | rfl | rfl | rfl | rfl | rfl | rfl | rfl | rfl | rfl : i = 0 ∨ i = 1 ∨ i = 2 ∨ i = 3 ∨ i = 4 ∨ i = 5 ∨ i = 6 ∨ i = 7 ∨ i = 8 ∨ i = 9 ∨ i = 10 ∨ i = 11 := by omega
    · obtain rfl := Option.some.inj ho
      have o0 : a.tmps[0]? = _ := (hold 0 rfl).trans rfl
      clear hd hold
      go_simp
      exact hK.out _ _ (by rfl) (Below.refl _ _)
    · obtain rfl := Option.some.inj ho
      have o7 : a.tmps[7]? = _ := (hold 7 rfl).trans rfl
      clear hd hold
      go_simp
      exact hK.out _ _ (by rfl) (Below.refl _ _)
    · obtain rfl := Option.some.inj ho
      obtain ⟨y1, e1, h1⟩ := hd 1 59 rfl (by decide +kernel) (by decide)
      have h1 : y1 = _ := h1
      have h1 := h1.symm
      subst h1
      clear hd hold
      go_simp
      exact hK.out _ _ (by rfl) (Below.refl _ _)
    · obtain rfl := Option.some.inj ho
      obtain ⟨y2, e2, h2⟩ := hd 2 60 rfl (by decide +kernel) (by decide)
      have h2 : y2 = _ := h2
      have h2 := h2.symm
      subst h2
      clear hd hold
      go_simp
      exact hK.out _ _ (by rfl) (Below.refl _ _)
    · obtain rfl := Option.some.inj ho
      obtain ⟨y3, e3, h3⟩ := hd 3 61 rfl (by decide +kernel) (by decide)
      have h3 : y3 = _ := h3
      have h3 := h3.symm
      subst h3
      have c6 := (HI.out W HG.out).2.1
      clear hd hold
      go_simp
      exact hK.out _ _ (by rfl) (Below.refl _ _)
    · obtain rfl := Option.some.inj ho
      obtain ⟨y0, e0, h0⟩ := hd 0 58 rfl (by decide +kernel) (by decide)
      have h0 : y0 = _ := h0
      have h0 := h0.symm
      subst h0
      obtain ⟨y4, e4, h4⟩ := hd 4 62 rfl (by decide +kernel) (by decide)
      have h4 : y4 = _ := h4
      have h4 := h4.symm
      subst h4
      have HC := Lib.hid (HIH.out W HG.out)
      clear hd hold 
      go_simp
      go_at_call 70
      (with_reducible refine HC.out.mono ?_)
      rintro e W1 ⟨tj, y, rfl, hn, hJ, hB⟩
      exact hK.out _ _ ⟨tj, hn, hJ⟩ hB
    · obtain rfl := Option.some.inj ho
      have o7 : a.tmps[7]? = _ := (hold 7 rfl).trans rfl
      clear hd hold
      go_simp
      exact hK.out _ _ (by rfl) (Below.refl _ _)
    · obtain rfl := Option.some.inj ho
      obtain ⟨y6, e6, h6⟩ := hd 6 64 rfl (by decide +kernel) (by decide)
      have h6 : y6 = _ := h6
      have h6 := h6.symm
      subst h6
      clear hd hold
      go_simp
      exact hK.out _ _ (by rfl) (Below.refl _ _)
    · obtain rfl := Option.some.inj ho
      obtain ⟨y7, e7, h7⟩ := hd 7 65 rfl (by decide +kernel) (by decide)
      have h7 : y7 = _ := h7
      have h7 := h7.symm
      subst h7
      clear hd hold
      go_simp
      exact hK.out _ _ (by rfl) (Below.refl _ _)
    · obtain rfl := Option.some.inj ho
      obtain ⟨y8, e8, h8⟩ := hd 8 66 rfl (by decide +kernel) (by decide)
      have h8 : y8 = _ := h8
      have h8 := h8.symm
      subst h8
      have c7 := (HI.out W HG.out).2.2
      clear hd hold
      go_simp
      exact hK.out _ _ (by rfl) (Below.refl _ _)
    · obtain rfl := Option.some.inj ho
      obtain ⟨y5, e5, h5⟩ := hd 5 63 rfl (by decide +kernel) (by decide)
      obtain ⟨t5, n5, q5⟩ : ∃ tj, NT W W.heap.size y5 tj ∧ (R.Joined (.inner dl la lb) x) tj := h5
      obtain ⟨y9, e9, h9⟩ := hd 9 67 rfl (by decide +kernel) (by decide)
      have h9 : y9 = _ := h9
      have h9 := h9.symm
      subst h9
      have hqj := q5
      have HC := Lib.hid (HLv.out W HG.out y5 t5 n5 q5)
      clear hd hold 
      go_simp
      go_at_call 94
      (with_reducible refine HC.out.mono ?_)
      rintro e W1 ⟨tj, y, rfl, hn, hJ, hB⟩
      exact hK.out _ _ ⟨tj, hn, HFin.out _ hqj _ hJ⟩ hB
    · exact absurd rfl hz
  · intro a W hg hf hold hput K' hK
    obtain ⟨yz, oz, hvz⟩ := hf 10 68 rfl (by decide) (by decide)
    obtain ⟨tz, hn, hq⟩ : ∃ tj, NT W W.heap.size yz tj ∧ (R.Joined (.inner dl la lb) (.inner d x y)) tj := hvz
    have HB := Lib.hid (And.intro hg hn)
    clear hg hf hold hn
    go_simp
    refine hK.out _ _ ?_
    obtain ⟨rr, ha⟩ := hput.out
    clear hput oz
    subst ha
    simp only [putL, Act.put, List.setIfInBounds_toArray, List.set_cons_zero, List.set_cons_succ]
    clear hK K'
    go_wp2_with fail
    go_ret
    exact ⟨tz, _, rfl, HB.out.2, hq, HB.out.1⟩
end Go.Proofs.YtjeopabnddekgaaDoor
