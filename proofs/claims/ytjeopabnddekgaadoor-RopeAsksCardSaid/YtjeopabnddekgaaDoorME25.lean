/- Two trees, one behind the other. Conditions: a text of at most 10^12 bytes. -/
import Derived.Test.YtjeopabnddekgaaDoorME24
namespace Go.Proofs.YtjeopabnddekgaaDoor
open Go Go.RowKit Go.Lib

def FJn7 (b : Nat) (vx vy vr : Value) (x yt r lt : R.T) : Nat → Value → World → Prop
  | 0, y, _ => y = .pointer (some ⟨b, 0, none⟩)
  | 1, y, _ => y = .pointer (some ⟨b, 0, none⟩)
  | 2, y, _ => y = .pointer (some ⟨b, 6, none⟩)
  | 3, y, _ => y = vx
  | 4, y, _ => y = .pointer (some ⟨b, 0, none⟩)
  | 5, y, _ => y = .pointer (some ⟨b, 0, none⟩)
  | 6, y, _ => y = .pointer (some ⟨b, 7, none⟩)
  | 7, y, _ => y = vy
  | 8, y, _ => y = vr
  | 9, y, W => ∃ tj, NT W W.heap.size y tj ∧ (R.Joined yt r) tj
  | 10, y, W => ∃ tj, NT W W.heap.size y tj ∧ (R.Joined lt r) tj
  | _, _, _ => True
theorem FJn7.on {b : Nat} {vx vy vr : Value} {x yt r lt : R.T} {iz : Nat} {y : Value} {W W' : World} (h : FJn7 b vx vy vr x yt r lt iz y W) (hB : Below W.heap.size W W') : FJn7 b vx vy vr x yt r lt iz y W' := by
  unfold FJn7 at h ⊢
  split at h
  · exact h
  · exact h
  · exact h
  · exact h
  · exact h
  · exact h
  · exact h
  · exact h
  · exact h
  · obtain ⟨t, h1, h2⟩ := h; exact ⟨t, h1.below hB, h2⟩
  · obtain ⟨t, h1, h2⟩ := h; exact ⟨t, h1.below hB, h2⟩
  · trivial
namespace R
theorem join_A {d : Nat} {x y r t1 : T} (h : (T.inner d x y).Ok) (h1 : r.dep + 1 < d) (J : Joined y r t1) : x.dep ≤ t1.dep + 2 ∧ t1.dep ≤ x.dep + 2 ∧ ∀ t, Joined x t1 t → Joined (.inner d x y) r t := by
  obtain ⟨hx, hy, h9, h10, h11⟩ := h
  have lo := J.lo
  have hi := J.hi
  have eq := J.eq
  refine ⟨by omega, by omega, fun t K => ⟨K.ok, by rw [K.tx, J.tx, ← ByteArray.append_assoc]; rfl, ?_, ?_, fun e1 _ => by simp only [dep_in] at e1; omega⟩⟩
  all_goals
    have l2 := K.lo
    have h2 := K.hi
    have e2 := K.eq
    simp only [dep_in]
    omega
theorem join_B {d : Nat} {l x y t1 : T} (h : (T.inner d x y).Ok) (h1 : l.dep + 1 < d) (J : Joined l x t1) : t1.dep ≤ y.dep + 2 ∧ y.dep ≤ t1.dep + 2 ∧ ∀ t, Joined t1 y t → Joined l (.inner d x y) t := by
  obtain ⟨hx, hy, h9, h10, h11⟩ := h
  have lo := J.lo
  have hi := J.hi
  have eq := J.eq
  refine ⟨by omega, by omega, fun t K => ⟨K.ok, by rw [K.tx, J.tx, ByteArray.append_assoc]; rfl, ?_, ?_, fun _ e2 => by simp only [dep_in] at e2; omega⟩⟩
  all_goals
    have l2 := K.lo
    have h2 := K.hi
    have e2 := K.eq
    simp only [dep_in]
    omega
end R
set_option maxHeartbeats 8000000 in
set_option maxRecDepth 100000 in
theorem join_A (vl vr : Value) (d : Nat) (x y r : R.T) (w : World) (hl : NT w w.heap.size vl (.inner d x y)) (hr : NT w w.heap.size vr r) (ol : (R.T.inner d x y).Ok) (or : r.Ok) (hs : (R.T.inner d x y).tx.size + r.tx.size ≤ 1000000000000) (h1 : r.dep + 1 < d)
    (ih : ∀ vy W, Below w.heap.size w W → NT W W.heap.size vy y → Calls Tryd.prog 70 #[vy, vr] W (JoinR y r W)) :
    Calls Tryd.prog 70 #[vl, vr] w (JoinR (.inner d x y) r w) := by
  have HFin := Lib.hid (fun t1 (J : R.Joined y r t1) => (R.join_A ol h1 J).2.2)
  have hz : x.tx.size + y.tx.size + r.tx.size ≤ 1000000000000 := by rw [← U.app_size]; exact hs
  have hld := or.low (by omega)
  obtain ⟨b, vx, vy, hb, rfl, hi, hx, hy⟩ := hl
  have HI := Lib.hid (fun W (hB : Below w.heap.size w W) => (show InnerAt W b _ d _ _ from (hB.block b hb).trans hi).rest)
  have HIH := Lib.hid (fun W (hB : Below w.heap.size w W) => ih vy W hB (hy.below hB))
  have HLv := Lib.hid (fun W (hB : Below w.heap.size w W) yj tj (hn : NT W W.heap.size yj tj) (J : R.Joined y r tj) => level_any vx yj x tj W (hx.below hB) hn ol.1 J.ok (by rw [J.tx, U.app_size]; omega) (R.join_A ol h1 J).1 (R.join_A ol h1 J).2.1)
  have HDr := Lib.hid (fun W (hB : Below w.heap.size w W) => depth_any _ r W (hr.below hB))
  obtain ⟨Tr, xr, rfl, -⟩ := hr.meth (fun e => by subst e; exact or)
  have t1 := fun W => ta_inner_inner W (.pointer (some ⟨b, 0, none⟩))
  have q1 : ((r.dep : Nat) : Int) + 1 < (d : Int) := by omega
  have q3 : ((r.dep : Nat) : Int) ≤ 81 := by omega
  have w1 : IntKind.i64.wrap ((r.dep : Int) + 1) = (r.dep : Int) + 1 := wrapI _ (by omega) (by omega)
  clear hi hx hy hr ih ol or hs h1 hz hld
  go_enter Tryd.func70, Tryd.ntmps70
  go_upto_region 6 with fail
  obtain ⟨c5, c6, c7⟩ := HI.out w (Below.refl _ _)
  have KEEP := Lib.hid (fun w' (hB : Below w.heap.size w w') => (show w'.cell? ⟨b, 5, none⟩ = some (.int .i64 (d : Nat)) from (HI.out w' (hB)).1))
  go_region_held3 (fun w' => w'.cell? ⟨b, 5, none⟩ = some (.int .i64 (d : Nat)))
    (first | exact KEEP.out _ hC1 | exact KEEP.out _ (Below.refl _ _).drew | exact KEEP.out _ (Below.refl _ _))
    (first | (go_at_call 77; (with_reducible refine (HDr.out _ ((Below.refl w.heap.size w).drew)).mono ?_); rintro e wk1 ⟨rfl, hB⟩; have hC1 := (Below.refl w.heap.size w).drew.trans hB; clear hB))
  rename_i hHeld
  have Hwa := Lib.hid (hC1)
  clear hHeld KEEP c5 c6 c7 hC1
  generalize wk1 = wa at *
  go_upto_region 7 with fail
  have HRd := Lib.hid (Hwa.out.drew)
  refine wp_region_stepsP [some 31, some 32, some 33, some 34, some 35, some 36, some 37, some 38, some 39, some 40, some 41, some 4] _ _ (G := fun W => Below w.heap.size w W) (F := FJn7 b vx vy (.iface Tr xr) x y r (.inner d x y)) (z := 11) (by kernel_rfl) rfl (by decide +kernel) rfl (by decide +kernel) (by decide +kernel) rfl (fun W W' h hB => h.trans (hB.mono h.size)) (fun i y W W' h hB => h.on hB) ?_ ?_ HRd.out
  · intro i o' ho hz a W hg hd hold K' hK
    have HG := Lib.hid hg
    have hlt : i < 12 := (Array.getElem?_eq_some_iff.1 ho).1
    clear hg
    obtain rfl | rfl | rfl | rfl | rfl | rfl | rfl | rfl | rfl | rfl | rfl | rfl : i = 0 ∨ i = 1 ∨ i = 2 ∨ i = 3 ∨ i = 4 ∨ i = 5 ∨ i = 6 ∨ i = 7 ∨ i = 8 ∨ i = 9 ∨ i = 10 ∨ i = 11 := by omega
    · obtain rfl := Option.some.inj ho
      have o5 : a.tmps[5]? = _ := (hold 5 rfl).trans rfl
      clear hd hold
      go_simp
      exact hK.out _ _ (by rfl) (Below.refl _ _)
    · obtain rfl := Option.some.inj ho
      obtain ⟨y0, e0, h0⟩ := hd 0 31 rfl (by decide +kernel) (by decide)
      have h0 : y0 = _ := h0
      have h0 := h0.symm
      subst h0
      clear hd hold
      go_simp
      exact hK.out _ _ (by rfl) (Below.refl _ _)
    · obtain rfl := Option.some.inj ho
      obtain ⟨y1, e1, h1⟩ := hd 1 32 rfl (by decide +kernel) (by decide)
      have h1 : y1 = _ := h1
      have h1 := h1.symm
      subst h1
      clear hd hold
      go_simp
      exact hK.out _ _ (by rfl) (Below.refl _ _)
    · obtain rfl := Option.some.inj ho
      obtain ⟨y2, e2, h2⟩ := hd 2 33 rfl (by decide +kernel) (by decide)
      have h2 : y2 = _ := h2
      have h2 := h2.symm
      subst h2
      have c6 := (HI.out W HG.out).2.1
      clear hd hold
      go_simp
      exact hK.out _ _ (by rfl) (Below.refl _ _)
    · obtain rfl := Option.some.inj ho
      have o5 : a.tmps[5]? = _ := (hold 5 rfl).trans rfl
      clear hd hold
      go_simp
      exact hK.out _ _ (by rfl) (Below.refl _ _)
    · obtain rfl := Option.some.inj ho
      obtain ⟨y4, e4, h4⟩ := hd 4 35 rfl (by decide +kernel) (by decide)
      have h4 : y4 = _ := h4
      have h4 := h4.symm
      subst h4
      clear hd hold
      go_simp
      exact hK.out _ _ (by rfl) (Below.refl _ _)
    · obtain rfl := Option.some.inj ho
      obtain ⟨y5, e5, h5⟩ := hd 5 36 rfl (by decide +kernel) (by decide)
      have h5 : y5 = _ := h5
      have h5 := h5.symm
      subst h5
      clear hd hold
      go_simp
      exact hK.out _ _ (by rfl) (Below.refl _ _)
    · obtain rfl := Option.some.inj ho
      obtain ⟨y6, e6, h6⟩ := hd 6 37 rfl (by decide +kernel) (by decide)
      have h6 : y6 = _ := h6
      have h6 := h6.symm
      subst h6
      have c7 := (HI.out W HG.out).2.2
      clear hd hold
      go_simp
      exact hK.out _ _ (by rfl) (Below.refl _ _)
    · obtain rfl := Option.some.inj ho
      have o1 : a.tmps[1]? = _ := (hold 1 rfl).trans rfl
      clear hd hold
      go_simp
      exact hK.out _ _ (by rfl) (Below.refl _ _)
    · obtain rfl := Option.some.inj ho
      obtain ⟨y7, e7, h7⟩ := hd 7 38 rfl (by decide +kernel) (by decide)
      have h7 : y7 = _ := h7
      have h7 := h7.symm
      subst h7
      obtain ⟨y8, e8, h8⟩ := hd 8 39 rfl (by decide +kernel) (by decide)
      have h8 : y8 = _ := h8
      have h8 := h8.symm
      subst h8
      have HC := Lib.hid (HIH.out W HG.out)
      clear hd hold 
      go_simp
      go_at_call 70
      (with_reducible refine HC.out.mono ?_)
      rintro e W1 ⟨tj, y, rfl, hn, hJ, hB⟩
      exact hK.out _ _ ⟨tj, hn, hJ⟩ hB
    · obtain rfl := Option.some.inj ho
      obtain ⟨y3, e3, h3⟩ := hd 3 34 rfl (by decide +kernel) (by decide)
      have h3 : y3 = _ := h3
      have h3 := h3.symm
      subst h3
      obtain ⟨y9, e9, h9⟩ := hd 9 40 rfl (by decide +kernel) (by decide)
      obtain ⟨t9, n9, q9⟩ : ∃ tj, NT W W.heap.size y9 tj ∧ (R.Joined y r) tj := h9
      have hqj := q9
      have HC := Lib.hid (HLv.out W HG.out y9 t9 n9 q9)
      clear hd hold 
      go_simp
      go_at_call 94
      (with_reducible refine HC.out.mono ?_)
      rintro e W1 ⟨tj, y, rfl, hn, hJ, hB⟩
      exact hK.out _ _ ⟨tj, hn, HFin.out _ hqj _ hJ⟩ hB
    · exact absurd rfl hz
  · intro a W hg hf hold hput K' hK
    obtain ⟨yz, oz, hvz⟩ := hf 10 41 rfl (by decide) (by decide)
    obtain ⟨tz, hn, hq⟩ : ∃ tj, NT W W.heap.size yz tj ∧ (R.Joined (.inner d x y) r) tj := hvz
    have HB := Lib.hid (And.intro hg hn)
    clear hg hf hold hn
    go_simp
    refine hK.out _ _ ?_
    obtain ⟨rr, ha⟩ := hput.out
    clear hput oz
    subst ha
    simp only [putL, Act.put, List.setIfInBounds_toArray, List.set_cons_zero, List.set_cons_succ]
    clear hK K'
    go_wp2_with fail
    go_ret
    exact ⟨tz, _, rfl, HB.out.2, hq, HB.out.1⟩
end Go.Proofs.YtjeopabnddekgaaDoor
