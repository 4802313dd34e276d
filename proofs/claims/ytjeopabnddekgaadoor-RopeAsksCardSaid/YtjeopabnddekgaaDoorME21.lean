/- Two trees under a node: the other ways. Conditions: a text of at most 10^12 bytes. -/
import Derived.Test.YtjeopabnddekgaaDoorME20
namespace Go.Proofs.YtjeopabnddekgaaDoor
open Go Go.RowKit Go.Lib

def FLv6 (b : Nat) (vx vy vr : Value) (x yt r : R.T) : Nat → Value → World → Prop
  | 0, y, _ => y = .pointer (some ⟨b, 0, none⟩)
  | 1, y, _ => y = .pointer (some ⟨b, 0, none⟩)
  | 2, y, _ => y = .pointer (some ⟨b, 6, none⟩)
  | 3, y, _ => y = vx
  | 4, y, _ => y = .pointer (some ⟨b, 0, none⟩)
  | 5, y, _ => y = .pointer (some ⟨b, 0, none⟩)
  | 6, y, _ => y = .pointer (some ⟨b, 7, none⟩)
  | 7, y, _ => y = vy
  | 8, y, _ => y = vr
  | 9, y, W => NT W W.heap.size y (R.pr (yt) (r))
  | 10, y, W => NT W W.heap.size y (R.pr x (R.pr yt r))
  | _, _, _ => True
theorem FLv6.on {b : Nat} {vx vy vr : Value} {x yt r : R.T} {iz : Nat} {y : Value} {W W' : World} (h : FLv6 b vx vy vr x yt r iz y W) (hB : Below W.heap.size W W') : FLv6 b vx vy vr x yt r iz y W' := by
  unfold FLv6 at h ⊢
  split at h
  · exact h
  · exact h
  · exact h
  · exact h
  · exact h
  · exact h
  · exact h
  · exact h
  · exact h
  · exact h.below hB
  · exact h.below hB
  · trivial
set_option maxHeartbeats 8000000 in
set_option maxRecDepth 100000 in
theorem level_A2leaf (vl vr : Value) (d : Nat) (sy : ByteArray) (x r : R.T) (w : World) (hl : NT w w.heap.size vl (.inner d x (.leaf sy))) (hr : NT w w.heap.size vr r) (ol : ((.inner d x (.leaf sy)) : R.T).Ok) (or : r.Ok) (hs : ((.inner d x (.leaf sy)) : R.T).tx.size + r.tx.size ≤ 1000000000000) (h1 : r.dep + 1 < d) (h2 : d ≤ r.dep + 2) (h3 : ((.leaf sy) : R.T).dep ≤ x.dep) :
    Calls Tryd.prog 94 #[vl, vr] w (JoinR (.inner d x (.leaf sy)) r w) := by
  obtain ⟨J, b', ox, oy⟩ := R.lev_A2 ol or h1 h2 h3
  have HJd := Lib.hid J
  have hz : x.tx.size + ((.leaf sy) : R.T).tx.size + r.tx.size ≤ 1000000000000 := by rw [← U.app_size]; exact hs
  obtain ⟨b, vx, vy, hb, rfl, hi, hx, hy⟩ := hl
  have hy0 := hy
  obtain ⟨by_, hby, rfl, hj⟩ := hy
  have t2 := fun W => ta_leaf_inner W (.pointer (some ⟨by_, 0, none⟩))
  clear hj
  have HI := Lib.hid (fun W (hB : Below w.heap.size w W) => (show InnerAt W b _ d _ _ from (hB.block b hb).trans hi).rest)
  have HNx := Lib.hid (fun W (hB : Below w.heap.size w W) => hx.below hB)
  have HNy := Lib.hid (fun W (hB : Below w.heap.size w W) => hy0.below hB)
  have HNr := Lib.hid (fun W (hB : Below w.heap.size w W) => hr.below hB)
  have HDr := Lib.hid (fun W (hB : Below w.heap.size w W) => depth_any _ r W (hr.below hB))
  have HDx := Lib.hid (fun W (hB : Below w.heap.size w W) => depth_any _ x W (hx.below hB))
  have HO := Lib.hid (show ((.leaf sy) : R.T).Ok ∧ r.Ok ∧ ((.leaf sy) : R.T).tx.size + r.tx.size ≤ 1000000000000 ∧ x.Ok ∧ (R.pr (.leaf sy) r).Ok ∧ x.tx.size + (R.pr (.leaf sy) r).tx.size ≤ 1000000000000 from ⟨oy, or, by omega, ox, b', by simp only [R.pr_tx, U.app_size]; omega⟩)
  have t1 := fun W => ta_inner_inner W (.pointer (some ⟨b, 0, none⟩))
  have hld := or.low (by omega)
  have q1 : ((r.dep : Nat) : Int) + 1 < (d : Int) := by omega
  have q3 : ((r.dep : Nat) : Int) ≤ 81 := by omega
  have w1 : IntKind.i64.wrap ((r.dep : Int) + 1) = (r.dep : Int) + 1 := wrapI _ (by omega) (by omega)
  clear hi hx hr hy0 J b' ox oy ol or hs h1 h2 h3 hz hld
  go_enter Tryd.func94, Tryd.ntmps94
  go_upto_region 2 with fail
  obtain ⟨c5, c6, c7⟩ := HI.out w (Below.refl _ _)
  have KEEP := Lib.hid (fun w' (hB : Below w.heap.size w w') => (show w'.cell? ⟨b, 5, none⟩ = some (.int .i64 (d : Nat)) from (HI.out w' (hB)).1))
  go_region_held3 (fun w' => w'.cell? ⟨b, 5, none⟩ = some (.int .i64 (d : Nat)))
    (first | exact KEEP.out _ hC1 | exact KEEP.out _ (Below.refl _ _).drew | exact KEEP.out _ (Below.refl _ _))
    (first | (go_at_call 77; (with_reducible refine (HDr.out _ ((Below.refl w.heap.size w).drew)).mono ?_); rintro e wk1 ⟨rfl, hB⟩; have hC1 := (Below.refl w.heap.size w).drew.trans hB; clear hB))
  rename_i hHeld
  have Hwa := Lib.hid (hC1)
  clear hHeld KEEP c5 c6 c7 hC1
  generalize wk1 = wa at *
  obtain ⟨c5, c6, c7⟩ := HI.out wa Hwa.out
  go_upto_region 4 with fail
  clear c5 c6 c7
  go_quiet (fail)
  have Hwb := Lib.hid (below_drewN Hwa.out nq)
  generalize wa.drewN nq = wb at *
  go_upto_region 6 with fail
  have HRd := Lib.hid (Hwb.out.drew)
  refine wp_region_stepsP [some 66, some 67, some 68, some 69, some 70, some 71, some 72, some 73, some 74, some 75, some 76, some 4] _ _ (G := fun W => Below w.heap.size w W) (F := FLv6 b vx (.iface 118 (.pointer (some ⟨by_, 0, none⟩))) vr x (.leaf sy) r) (z := 11) (by kernel_rfl) rfl (by decide +kernel) rfl (by decide +kernel) (by decide +kernel) rfl (fun W W' h hB => h.trans (hB.mono h.size)) (fun i y W W' h hB => h.on hB) ?_ ?_ HRd.out
  · intro i o' ho hz a W hg hd hold K' hK
    have HG := Lib.hid hg
    have hlt : i < 12 := (Array.getElem?_eq_some_iff.1 ho).1
    clear hg
    obtain rfl | rfl | rfl | rfl | rfl | rfl | rfl | rfl | rfl | rfl | rfl | rfl : i = 0 ∨ i = 1 ∨ i = 2 ∨ i = 3 ∨ i = 4 ∨ i = 5 ∨ i = 6 ∨ i = 7 ∨ i = 8 ∨ i = 9 ∨ i = 10 ∨ i = 11 := by omega
    · obtain rfl := Option.some.inj ho
      have o5 : a.tmps[5]? = _ := (hold 5 rfl).trans rfl
      clear hd hold
      go_simp
      exact hK.out _ _ (by rfl) (Below.refl _ _)
    · obtain rfl := Option.some.inj ho
      obtain ⟨y0, e0, h0⟩ := hd 0 66 rfl (by decide +kernel) (by decide)
      have h0 : y0 = _ := h0
      have h0 := h0.symm
      subst h0
      clear hd hold
      go_simp
      exact hK.out _ _ (by rfl) (Below.refl _ _)
    · obtain rfl := Option.some.inj ho
      obtain ⟨y1, e1, h1⟩ := hd 1 67 rfl (by decide +kernel) (by decide)
      have h1 : y1 = _ := h1
      have h1 := h1.symm
      subst h1
      clear hd hold
      go_simp
      exact hK.out _ _ (by rfl) (Below.refl _ _)
    · obtain rfl := Option.some.inj ho
      obtain ⟨y2, e2, h2⟩ := hd 2 68 rfl (by decide +kernel) (by decide)
      have h2 : y2 = _ := h2
      have h2 := h2.symm
      subst h2
      have c6 := (HI.out W HG.out).2.1
      clear hd hold
      go_simp
      exact hK.out _ _ (by rfl) (Below.refl _ _)
    · obtain rfl := Option.some.inj ho
      have o5 : a.tmps[5]? = _ := (hold 5 rfl).trans rfl
      clear hd hold
      go_simp
      exact hK.out _ _ (by rfl) (Below.refl _ _)
    · obtain rfl := Option.some.inj ho
      obtain ⟨y4, e4, h4⟩ := hd 4 70 rfl (by decide +kernel) (by decide)
      have h4 : y4 = _ := h4
      have h4 := h4.symm
      subst h4
      clear hd hold
      go_simp
      exact hK.out _ _ (by rfl) (Below.refl _ _)
    · obtain rfl := Option.some.inj ho
      obtain ⟨y5, e5, h5⟩ := hd 5 71 rfl (by decide +kernel) (by decide)
      have h5 : y5 = _ := h5
      have h5 := h5.symm
      subst h5
      clear hd hold
      go_simp
      exact hK.out _ _ (by rfl) (Below.refl _ _)
    · obtain rfl := Option.some.inj ho
      obtain ⟨y6, e6, h6⟩ := hd 6 72 rfl (by decide +kernel) (by decide)
      have h6 : y6 = _ := h6
      have h6 := h6.symm
      subst h6
      have c7 := (HI.out W HG.out).2.2
      clear hd hold
      go_simp
      exact hK.out _ _ (by rfl) (Below.refl _ _)
    · obtain rfl := Option.some.inj ho
      have o1 : a.tmps[1]? = _ := (hold 1 rfl).trans rfl
      clear hd hold
      go_simp
      exact hK.out _ _ (by rfl) (Below.refl _ _)
    · obtain rfl := Option.some.inj ho
      obtain ⟨y7, e7, h7⟩ := hd 7 73 rfl (by decide +kernel) (by decide)
      have h7 : y7 = _ := h7
      have h7 := h7.symm
      subst h7
      obtain ⟨y8, e8, h8⟩ := hd 8 74 rfl (by decide +kernel) (by decide)
      have h8 : y8 = _ := h8
      have h8 := h8.symm
      subst h8
      have HC := Lib.hid (pair_any (.iface 118 (.pointer (some ⟨by_, 0, none⟩))) vr (.leaf sy) r W (HNy.out W HG.out) (HNr.out W HG.out) HO.out.1 HO.out.2.1 HO.out.2.2.1)
      clear hd hold 
      go_simp
      go_at_call 95
      (with_reducible refine HC.out.mono ?_)
      rintro e W1 ⟨y, rfl, hn, hB⟩
      exact hK.out _ _ hn hB
    · obtain rfl := Option.some.inj ho
      obtain ⟨y3, e3, h3⟩ := hd 3 69 rfl (by decide +kernel) (by decide)
      have h3 : y3 = _ := h3
      have h3 := h3.symm
      subst h3
      obtain ⟨y9, e9, h9⟩ := hd 9 75 rfl (by decide +kernel) (by decide)
      have h9 : NT W W.heap.size y9 (R.pr (.leaf sy) r) := h9
      have HC := Lib.hid (pair_any vx y9 x (R.pr (.leaf sy) r) W (HNx.out W HG.out) h9 HO.out.2.2.2.1 HO.out.2.2.2.2.1 HO.out.2.2.2.2.2)
      clear hd hold 
      go_simp
      go_at_call 95
      (with_reducible refine HC.out.mono ?_)
      rintro e W1 ⟨y, rfl, hn, hB⟩
      exact hK.out _ _ hn hB
    · exact absurd rfl hz
  · intro a W hg hf hold hput K' hK
    obtain ⟨yz, oz, hvz⟩ := hf 10 76 rfl (by decide) (by decide)
    have hvz : NT W W.heap.size yz (R.pr x (R.pr (.leaf sy) r)) := hvz
    have HB := Lib.hid (And.intro hg hvz)
    clear hg hf hold hvz
    go_simp
    refine hK.out _ _ ?_
    obtain ⟨rr, ha⟩ := hput.out
    clear hput oz
    subst ha
    simp only [putL, Act.put, List.setIfInBounds_toArray, List.set_cons_zero, List.set_cons_succ]
    clear hK K'
    go_wp2_with fail
    go_ret
    exact ⟨_, _, rfl, HB.out.2, HJd.out, HB.out.1⟩
set_option maxHeartbeats 8000000 in
set_option maxRecDepth 100000 in
theorem level_A2in (vl vr : Value) (d : Nat) (dy : Nat) (y1 y2 : R.T) (x r : R.T) (w : World) (hl : NT w w.heap.size vl (.inner d x (.inner dy y1 y2))) (hr : NT w w.heap.size vr r) (ol : ((.inner d x (.inner dy y1 y2)) : R.T).Ok) (or : r.Ok) (hs : ((.inner d x (.inner dy y1 y2)) : R.T).tx.size + r.tx.size ≤ 1000000000000) (h1 : r.dep + 1 < d) (h2 : d ≤ r.dep + 2) (h3 : ((.inner dy y1 y2) : R.T).dep ≤ x.dep) :
    Calls Tryd.prog 94 #[vl, vr] w (JoinR (.inner d x (.inner dy y1 y2)) r w) := by
  obtain ⟨J, b', ox, oy⟩ := R.lev_A2 ol or h1 h2 h3
  have HJd := Lib.hid J
  have hz : x.tx.size + ((.inner dy y1 y2) : R.T).tx.size + r.tx.size ≤ 1000000000000 := by rw [← U.app_size]; exact hs
  obtain ⟨b, vx, vy, hb, rfl, hi, hx, hy⟩ := hl
  have hy0 := hy
  obtain ⟨by_, v1, v2, hby, rfl, hj, -, -⟩ := hy
  have HJ := Lib.hid (fun W (hB : Below w.heap.size w W) => (show InnerAt W by_ _ dy _ _ from (hB.block by_ hby).trans hj).rest)
  have q2 : ¬ ((x.dep : Nat) : Int) < (dy : Int) := by have h3 : dy ≤ x.dep := h3; omega
  have t2 := fun W => ta_inner_inner W (.pointer (some ⟨by_, 0, none⟩))
  clear hj
  have HI := Lib.hid (fun W (hB : Below w.heap.size w W) => (show InnerAt W b _ d _ _ from (hB.block b hb).trans hi).rest)
  have HNx := Lib.hid (fun W (hB : Below w.heap.size w W) => hx.below hB)
  have HNy := Lib.hid (fun W (hB : Below w.heap.size w W) => hy0.below hB)
  have HNr := Lib.hid (fun W (hB : Below w.heap.size w W) => hr.below hB)
  have HDr := Lib.hid (fun W (hB : Below w.heap.size w W) => depth_any _ r W (hr.below hB))
  have HDx := Lib.hid (fun W (hB : Below w.heap.size w W) => depth_any _ x W (hx.below hB))
  have HO := Lib.hid (show ((.inner dy y1 y2) : R.T).Ok ∧ r.Ok ∧ ((.inner dy y1 y2) : R.T).tx.size + r.tx.size ≤ 1000000000000 ∧ x.Ok ∧ (R.pr (.inner dy y1 y2) r).Ok ∧ x.tx.size + (R.pr (.inner dy y1 y2) r).tx.size ≤ 1000000000000 from ⟨oy, or, by omega, ox, b', by simp only [R.pr_tx, U.app_size]; omega⟩)
  have t1 := fun W => ta_inner_inner W (.pointer (some ⟨b, 0, none⟩))
  have hld := or.low (by omega)
  have q1 : ((r.dep : Nat) : Int) + 1 < (d : Int) := by omega
  have q3 : ((r.dep : Nat) : Int) ≤ 81 := by omega
  have w1 : IntKind.i64.wrap ((r.dep : Int) + 1) = (r.dep : Int) + 1 := wrapI _ (by omega) (by omega)
  clear hi hx hr hy0 J b' ox oy ol or hs h1 h2 h3 hz hld
  go_enter Tryd.func94, Tryd.ntmps94
  go_upto_region 2 with fail
  obtain ⟨c5, c6, c7⟩ := HI.out w (Below.refl _ _)
  have KEEP := Lib.hid (fun w' (hB : Below w.heap.size w w') => (show w'.cell? ⟨b, 5, none⟩ = some (.int .i64 (d : Nat)) from (HI.out w' (hB)).1))
  go_region_held3 (fun w' => w'.cell? ⟨b, 5, none⟩ = some (.int .i64 (d : Nat)))
    (first | exact KEEP.out _ hC1 | exact KEEP.out _ (Below.refl _ _).drew | exact KEEP.out _ (Below.refl _ _))
    (first | (go_at_call 77; (with_reducible refine (HDr.out _ ((Below.refl w.heap.size w).drew)).mono ?_); rintro e wk1 ⟨rfl, hB⟩; have hC1 := (Below.refl w.heap.size w).drew.trans hB; clear hB))
  rename_i hHeld
  have Hwa := Lib.hid (hC1)
  clear hHeld KEEP c5 c6 c7 hC1
  generalize wk1 = wa at *
  obtain ⟨c5, c6, c7⟩ := HI.out wa Hwa.out
  go_upto_region 4 with fail
  clear c5 c6 c7
  obtain ⟨c5, c6, c7⟩ := HJ.out wa Hwa.out
  have KEEP := Lib.hid (fun w' (hB : Below wa.heap.size wa w') => (show w'.cell? ⟨by_, 5, none⟩ = some (.int .i64 (dy : Nat)) ∧ w'.cell? ⟨b, 6, none⟩ = some vx from ⟨(HJ.out w' (Hwa.out.trans (hB.mono Hwa.out.size))).1, (HI.out w' (Hwa.out.trans (hB.mono Hwa.out.size))).2.1⟩))
  obtain ⟨d5, d6, d7⟩ := HI.out wa Hwa.out
  go_region_held3 (fun w' => w'.cell? ⟨by_, 5, none⟩ = some (.int .i64 (dy : Nat)) ∧ w'.cell? ⟨b, 6, none⟩ = some vx)
    (first | exact KEEP.out _ hC2 | exact KEEP.out _ (Below.refl _ _).drew | exact KEEP.out _ (Below.refl _ _))
    (first | (go_at_call 77; (with_reducible refine (HDx.out _ (Hwa.out.drew)).mono ?_); rintro e wk2 ⟨rfl, hB⟩; have hC2 := (Below.refl wa.heap.size wa).drew.trans hB; clear hB))
  rename_i hHeld
  have Hwb := Lib.hid (Hwa.out.trans (hC2.mono Hwa.out.size))
  clear hHeld KEEP c5 c6 c7 hC2 d5 d6 d7
  generalize wk2 = wb at *
  go_upto_region 6 with fail
  have HRd := Lib.hid (Hwb.out.drew)
  refine wp_region_stepsP [some 66, some 67, some 68, some 69, some 70, some 71, some 72, some 73, some 74, some 75, some 76, some 4] _ _ (G := fun W => Below w.heap.size w W) (F := FLv6 b vx (.iface 137 (.pointer (some ⟨by_, 0, none⟩))) vr x (.inner dy y1 y2) r) (z := 11) (by kernel_rfl) rfl (by decide +kernel) rfl (by decide +kernel) (by decide +kernel) rfl (fun W W' h hB => h.trans (hB.mono h.size)) (fun i y W W' h hB => h.on hB) ?_ ?_ HRd.out
  · intro i o' ho hz a W hg hd hold K' hK
    have HG := Lib.hid hg
    have hlt : i < 12 := (Array.getElem?_eq_some_iff.1 ho).1
    clear hg
    obtain rfl | rfl | rfl | rfl | rfl | rfl | rfl | rfl | rfl | rfl | rfl | rfl : i = 0 ∨ i = 1 ∨ i = 2 ∨ i = 3 ∨ i = 4 ∨ i = 5 ∨ i = 6 ∨ i = 7 ∨ i = 8 ∨ i = 9 ∨ i = 10 ∨ i = 11 := by omega
    · obtain rfl := Option.some.inj ho
      have o5 : a.tmps[5]? = _ := (hold 5 rfl).trans rfl
      clear hd hold
      go_simp
      exact hK.out _ _ (by rfl) (Below.refl _ _)
    · obtain rfl := Option.some.inj ho
      obtain ⟨y0, e0, h0⟩ := hd 0 66 rfl (by decide +kernel) (by decide)
      have h0 : y0 = _ := h0
      have h0 := h0.symm
      subst h0
      clear hd hold
      go_simp
      exact hK.out _ _ (by rfl) (Below.refl _ _)
    · obtain rfl := Option.some.inj ho
      obtain ⟨y1, e1, h1⟩ := hd 1 67 rfl (by decide +kernel) (by decide)
      have h1 : y1 = _ := h1
      have h1 := h1.symm
      subst h1
      clear hd hold
      go_simp
      exact hK.out _ _ (by rfl) (Below.refl _ _)
    · obtain rfl := Option.some.inj ho
      obtain ⟨y2, e2, h2⟩ := hd 2 68 rfl (by decide +kernel) (by decide)
      have h2 : y2 = _ := h2
      have h2 := h2.symm
      subst h2
      have c6 := (HI.out W HG.out).2.1
      clear hd hold
      go_simp
      exact hK.out _ _ (by rfl) (Below.refl _ _)
    · obtain rfl := Option.some.inj ho
      have o5 : a.tmps[5]? = _ := (hold 5 rfl).trans rfl
      clear hd hold
      go_simp
      exact hK.out _ _ (by rfl) (Below.refl _ _)
    · obtain rfl := Option.some.inj ho
      obtain ⟨y4, e4, h4⟩ := hd 4 70 rfl (by decide +kernel) (by decide)
      have h4 : y4 = _ := h4
      have h4 := h4.symm
      subst h4
      clear hd hold
      go_simp
      exact hK.out _ _ (by rfl) (Below.refl _ _)
    · obtain rfl := Option.some.inj ho
      obtain ⟨y5, e5, h5⟩ := hd 5 71 rfl (by decide +kernel) (by decide)
      have h5 : y5 = _ := h5
      have h5 := h5.symm
      subst h5
      clear hd hold
      go_simp
      exact hK.out _ _ (by rfl) (Below.refl _ _)
    · obtain rfl := Option.some.inj ho
      obtain ⟨y6, e6, h6⟩ := hd 6 72 rfl (by decide +kernel) (by decide)
      have h6 : y6 = _ := h6
      have h6 := h6.symm
      subst h6
      have c7 := (HI.out W HG.out).2.2
      clear hd hold
      go_simp
      exact hK.out _ _ (by rfl) (Below.refl _ _)
    · obtain rfl := Option.some.inj ho
      have o1 : a.tmps[1]? = _ := (hold 1 rfl).trans rfl
      clear hd hold
      go_simp
      exact hK.out _ _ (by rfl) (Below.refl _ _)
    · obtain rfl := Option.some.inj ho
      obtain ⟨y7, e7, h7⟩ := hd 7 73 rfl (by decide +kernel) (by decide)
      have h7 : y7 = _ := h7
      have h7 := h7.symm
      subst h7
      obtain ⟨y8, e8, h8⟩ := hd 8 74 rfl (by decide +kernel) (by decide)
      have h8 : y8 = _ := h8
      have h8 := h8.symm
      subst h8
      have HC := Lib.hid (pair_any (.iface 137 (.pointer (some ⟨by_, 0, none⟩))) vr (.inner dy y1 y2) r W (HNy.out W HG.out) (HNr.out W HG.out) HO.out.1 HO.out.2.1 HO.out.2.2.1)
      clear hd hold 
      go_simp
      go_at_call 95
      (with_reducible refine HC.out.mono ?_)
      rintro e W1 ⟨y, rfl, hn, hB⟩
      exact hK.out _ _ hn hB
    · obtain rfl := Option.some.inj ho
      obtain ⟨y3, e3, h3⟩ := hd 3 69 rfl (by decide +kernel) (by decide)
      have h3 : y3 = _ := h3
      have h3 := h3.symm
      subst h3
      obtain ⟨y9, e9, h9⟩ := hd 9 75 rfl (by decide +kernel) (by decide)
      have h9 : NT W W.heap.size y9 (R.pr (.inner dy y1 y2) r) := h9
      have HC := Lib.hid (pair_any vx y9 x (R.pr (.inner dy y1 y2) r) W (HNx.out W HG.out) h9 HO.out.2.2.2.1 HO.out.2.2.2.2.1 HO.out.2.2.2.2.2)
      clear hd hold 
      go_simp
      go_at_call 95
      (with_reducible refine HC.out.mono ?_)
      rintro e W1 ⟨y, rfl, hn, hB⟩
      exact hK.out _ _ hn hB
    · exact absurd rfl hz
  · intro a W hg hf hold hput K' hK
    obtain ⟨yz, oz, hvz⟩ := hf 10 76 rfl (by decide) (by decide)
    have hvz : NT W W.heap.size yz (R.pr x (R.pr (.inner dy y1 y2) r)) := hvz
    have HB := Lib.hid (And.intro hg hvz)
    clear hg hf hold hvz
    go_simp
    refine hK.out _ _ ?_
    obtain ⟨rr, ha⟩ := hput.out
    clear hput oz
    subst ha
    simp only [putL, Act.put, List.setIfInBounds_toArray, List.set_cons_zero, List.set_cons_succ]
    clear hK K'
    go_wp2_with fail
    go_ret
    exact ⟨_, _, rfl, HB.out.2, HJd.out, HB.out.1⟩
end Go.Proofs.YtjeopabnddekgaaDoor
