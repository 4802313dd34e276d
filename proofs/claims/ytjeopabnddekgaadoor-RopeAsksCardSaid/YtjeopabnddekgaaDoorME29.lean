/- A text as a tree. Conditions: a valid text of at most 10^12 bytes; the library's tables. -/
import Derived.Test.YtjeopabnddekgaaDoorME28
import Derived.Test.YtjeopabnddekgaaDoorME12
namespace Go.Proofs.YtjeopabnddekgaaDoor
open Go Go.RowKit Go.Lib

/-- a tree of this text -/
def R.IsTx (s : ByteArray) (t : R.T) : Prop := t.Fit ∧ t.tx = s
def GrownR (s : ByteArray) (w : World) (e : Ending) (w' : World) : Prop := ∃ t v, e = .returned v ∧ NT w' w'.heap.size v t ∧ R.IsTx s t ∧ Below w.heap.size w w'
theorem ext_parts (s : ByteArray) (h : Nat) (hh : h ≤ s.size) : s.extract 0 h ++ s.extract h s.size = s := by
  apply ByteArray.ext
  rw [ByteArray.data_append, ByteArray.data_extract, ByteArray.data_extract]
  simp
  omega
theorem not_empty {s : ByteArray} (h : 0 < s.size) : s.toList.isEmpty = false := by
  rw [ByteArray.toList_eq]
  cases hl : s.data.toList with
  | nil => have := R.list_len s; rw [hl] at this; simp at this; omega
  | cons a l => rfl
theorem half_facts (s : ByteArray) (h1 : 64 < s.size) (hv : U.valid s = true) : (U.valid (s.extract 0 (U.bgn s (s.size / 2))) = true ∧ U.valid (s.extract (U.bgn s (s.size / 2)) s.size) = true) ∧ 0 < U.bgn s (s.size / 2) ∧ U.bgn s (s.size / 2) < s.size := by
  obtain ⟨g1, g2, g3⟩ := U.bgn_good s hv (s.size / 2) (by omega)
  have hw := U.facts s (U.bgn s (s.size / 2)) (by omega)
  refine ⟨?_, by omega, by omega⟩
  have hp := ext_parts s (U.bgn s (s.size / 2)) (by omega)
  have hz : (s.extract 0 (U.bgn s (s.size / 2))).size = U.bgn s (s.size / 2) := by rw [ByteArray.size_extract]; omega
  refine U.valid_part _ _ (by rw [hp]; exact hv) ?_
  rw [hp, hz, U.bga_nat, if_pos (by omega)]
  exact U.good_start s _ (by omega) g1
def FGr6 (s : ByteArray) (hh : Nat) : Nat → Value → World → Prop
  | 0, y, _ => y = .string s
  | 1, y, _ => y = .int .i64 (hh : Nat)
  | 2, y, _ => y = .string (s.extract 0 hh)
  | 3, y, W => ∃ tj, NT W W.heap.size y tj ∧ (R.IsTx (s.extract 0 hh)) tj
  | 4, y, _ => y = .string s
  | 5, y, _ => y = .int .i64 (hh : Nat)
  | 6, y, _ => y = .string (s.extract hh s.size)
  | 7, y, W => ∃ tj, NT W W.heap.size y tj ∧ (R.IsTx (s.extract hh s.size)) tj
  | 8, y, W => ∃ tj, NT W W.heap.size y tj ∧ (R.IsTx s) tj
  | _, _, _ => True
theorem FGr6.on {s : ByteArray} {hh : Nat} {iz : Nat} {y : Value} {W W' : World} (h : FGr6 s hh iz y W) (hB : Below W.heap.size W W') : FGr6 s hh iz y W' := by
  unfold FGr6 at h ⊢
  split at h
  · exact h
  · exact h
  · exact h
  · obtain ⟨t, h1, h2⟩ := h; exact ⟨t, h1.below hB, h2⟩
  · exact h
  · exact h
  · exact h
  · obtain ⟨t, h1, h2⟩ := h; exact ⟨t, h1.below hB, h2⟩
  · obtain ⟨t, h1, h2⟩ := h; exact ⟨t, h1.below hB, h2⟩
  · trivial
set_option maxHeartbeats 4000000 in
set_option maxRecDepth 100000 in
theorem grown_none (w : World) : Calls Tryd.prog 37 #[.string ⟨#[]⟩] w (GrownR ⟨#[]⟩ w) := by
  go_enter Tryd.func37, Tryd.ntmps37
  go_wp2_with fail
  go_ret
  exact ⟨.none, _, rfl, nt_none _ _, ⟨.inl rfl, rfl⟩, Below.refl _ _⟩
set_option maxHeartbeats 4000000 in
set_option maxRecDepth 100000 in
theorem grown_leaf (s : ByteArray) (w : World) (h0 : 0 < s.size) (h1 : s.size ≤ 64) (hv : U.valid s = true) : Calls Tryd.prog 37 #[.string s] w (GrownR s w) := by
  have HM := Lib.hid (fun W => measure_any s W (by omega))
  have HC := Lib.hid (fun W => clone_any s W (by omega))
  have HX := Lib.hid (And.intro h0 (And.intro h1 hv))
  have k1 : (s.size : Int) ≤ 64 := by omega
  have hne : s.toList.isEmpty = false := not_empty h0
  clear h0 h1 hv
  go_enter Tryd.func37, Tryd.ntmps37
  go_wp2_with fail
  refine (HM.out w).mono ?_
  rintro e w1 ⟨rfl, hB1⟩
  have H1 := Lib.hid hB1
  clear hB1
  go_wp2_with fail
  refine (HC.out w1).mono ?_
  rintro e w2 ⟨rfl, hB2⟩
  have H2 := Lib.hid (H1.out.trans (hB2.mono H1.out.size))
  clear hB2
  go_wp2_with fail
  go_ret
  exact ⟨.leaf s, _, rfl, ⟨w2.heap.size, by rw [World.size_alloc]; omega, rfl, heap_alloc_new _ _⟩, ⟨.inr HX.out, rfl⟩, H2.out.alloc H2.out.size _⟩
set_option maxHeartbeats 8000000 in
set_option maxRecDepth 100000 in
theorem grown_big (s : ByteArray) (w : World) (h1 : 64 < s.size) (hs : s.size ≤ 1000000000000) (hv : U.valid s = true) (hT : Tabs w)
    (ih : ∀ x W, Below w.heap.size w W → x.size < s.size → U.valid x = true → Calls Tryd.prog 37 #[.string x] W (GrownR x W)) : Calls Tryd.prog 37 #[.string s] w (GrownR s w) := by
  obtain ⟨hb, hb1, hb2⟩ := half_facts s h1 hv
  have hbg : U.bga s ((s.size / 2 : Nat) : Int) = U.bgn s (s.size / 2) := by rw [U.bga_nat, if_pos (by omega)]
  obtain ⟨v1, v2⟩ := hb
  have HG1 := Lib.hid (fun W (hB : Below w.heap.size w W) => ih (s.extract 0 (U.bgn s (s.size / 2))) W hB (by rw [ByteArray.size_extract]; omega) v1)
  have HG2 := Lib.hid (fun W (hB : Below w.heap.size w W) => ih (s.extract (U.bgn s (s.size / 2)) s.size) W hB (by rw [ByteArray.size_extract]; omega) v2)
  have HBg := Lib.hid (fun W (hB : Below w.heap.size w W) => utfBegin_all s ((s.size / 2 : Nat) : Int) W hs (tabs_below hT hB))
  have HTx := Lib.hid (ext_parts s (U.bgn s (s.size / 2)) (by omega))
  have HSz : Hid (∀ t1 t2 : R.T, t1.tx = s.extract 0 (U.bgn s (s.size / 2)) → t2.tx = s.extract (U.bgn s (s.size / 2)) s.size → t1.tx.size + t2.tx.size ≤ 1000000000000) := Lib.hid (fun t1 t2 e1 e2 => by
    rw [e1, e2, ByteArray.size_extract, ByteArray.size_extract]; omega)
  have HH : Hid ((0 : Int) ≤ (U.bgn s (s.size / 2) : Int) ∧ (U.bgn s (s.size / 2) : Int) ≤ (s.size : Int) ∧ U.bgn s (s.size / 2) ≤ s.size ∧ 0 ≤ U.bgn s (s.size / 2)) := Lib.hid (by omega)
  have k1 : ¬ (s.size : Int) ≤ 64 := by omega
  have hne : s.toList.isEmpty = false := not_empty (by omega)
  have hd : ((s.size / 2 : Nat) : Int) = (s.size : Int) / 2 := by omega
  have HBe : Hid (bgnAt s ((s.size / 2 : Nat) : Int) = U.bgn s (s.size / 2)) := Lib.hid hbg
  clear h1 hv hT ih hb1 hb2 v1 v2 hbg
  generalize U.bgn s (s.size / 2) = hh at *
  rw [hd] at HBg HBe
  clear hd
  go_enter Tryd.func37, Tryd.ntmps37
  go_wp2_with fail
  refine (HBg.out w (Below.refl _ _)).mono ?_
  rw [HBe.out]
  rintro e w1 ⟨rfl, hB1⟩
  have H1 := Lib.hid hB1
  clear hB1
  go_upto_region 6 with fail
  have HRd := Lib.hid (H1.out.drew)
  refine wp_region_stepsP [some 21, some 22, some 23, some 24, some 25, some 26, some 27, some 28, some 29, some 2] _ _ (G := fun W => Below w.heap.size w W) (F := FGr6 s hh) (z := 9) (by kernel_rfl) rfl (by decide +kernel) rfl (by decide +kernel) (by decide +kernel) rfl (fun W W' h hB => h.trans (hB.mono h.size)) (fun i y W W' h hB => h.on hB) ?_ ?_ HRd.out
  · intro i o' ho hz a W hg hd hold K' hK
    have HG := Lib.hid hg
    have hlt : i < 10 := (Array.getElem?_eq_some_iff.1 ho).1
    clear hg
    obtain rfl | rfl | rfl | rfl | rfl | rfl | rfl | rfl | rfl | rfl : i = 0 ∨ i = 1 ∨ i = 2 ∨ i = 3 ∨ i = 4 ∨ i = 5 ∨ i = 6 ∨ i = 7 ∨ i = 8 ∨ i = 9 := by omega
    · obtain rfl := Option.some.inj ho
      have o0 : a.tmps[0]? = _ := (hold 0 rfl).trans rfl
      clear hd hold
      go_simp
      exact hK.out _ _ (by rfl) (Below.refl _ _)
    · obtain rfl := Option.some.inj ho
      have o3 : a.tmps[3]? = _ := (hold 3 rfl).trans rfl
      clear hd hold
      go_simp
      exact hK.out _ _ (by rfl) (Below.refl _ _)
    · obtain rfl := Option.some.inj ho
      obtain ⟨y0, e0, h0⟩ := hd 0 21 rfl (by decide +kernel) (by decide)
      have h0 : y0 = _ := h0
      have h0 := h0.symm
      subst h0
      obtain ⟨y1, e1, h1⟩ := hd 1 22 rfl (by decide +kernel) (by decide)
      have h1 : y1 = _ := h1
      have h1 := h1.symm
      subst h1
      obtain ⟨k1, k2, k3, k4⟩ := HH.out
      clear hd hold
      go_simp
      exact hK.out _ _ (by rfl) (Below.refl _ _)
    · obtain rfl := Option.some.inj ho
      obtain ⟨y2, e2, h2⟩ := hd 2 23 rfl (by decide +kernel) (by decide)
      have h2 : y2 = _ := h2
      have h2 := h2.symm
      subst h2
      have HC := Lib.hid (HG1.out W HG.out)
      clear hd hold 
      go_simp
      go_at_call 37
      (with_reducible refine HC.out.mono ?_)
      rintro e W1 ⟨tj, y, rfl, hn, hJ, hB⟩
      exact hK.out _ _ ⟨tj, hn, hJ⟩ hB
    · obtain rfl := Option.some.inj ho
      have o0 : a.tmps[0]? = _ := (hold 0 rfl).trans rfl
      clear hd hold
      go_simp
      exact hK.out _ _ (by rfl) (Below.refl _ _)
    · obtain rfl := Option.some.inj ho
      have o3 : a.tmps[3]? = _ := (hold 3 rfl).trans rfl
      clear hd hold
      go_simp
      exact hK.out _ _ (by rfl) (Below.refl _ _)
    · obtain rfl := Option.some.inj ho
      obtain ⟨y4, e4, h4⟩ := hd 4 25 rfl (by decide +kernel) (by decide)
      have h4 : y4 = _ := h4
      have h4 := h4.symm
      subst h4
      obtain ⟨y5, e5, h5⟩ := hd 5 26 rfl (by decide +kernel) (by decide)
      have h5 : y5 = _ := h5
      have h5 := h5.symm
      subst h5
      obtain ⟨k1, k2, k3, k4⟩ := HH.out
      clear hd hold
      go_simp
      exact hK.out _ _ (by rfl) (Below.refl _ _)
    · obtain rfl := Option.some.inj ho
      obtain ⟨y6, e6, h6⟩ := hd 6 27 rfl (by decide +kernel) (by decide)
      have h6 : y6 = _ := h6
      have h6 := h6.symm
      subst h6
      have HC := Lib.hid (HG2.out W HG.out)
      clear hd hold 
      go_simp
      go_at_call 37
      (with_reducible refine HC.out.mono ?_)
      rintro e W1 ⟨tj, y, rfl, hn, hJ, hB⟩
      exact hK.out _ _ ⟨tj, hn, hJ⟩ hB
    · obtain rfl := Option.some.inj ho
      obtain ⟨y3, e3, h3⟩ := hd 3 24 rfl (by decide +kernel) (by decide)
      obtain ⟨t3, n3, q3⟩ : ∃ tj, NT W W.heap.size y3 tj ∧ (R.IsTx (s.extract 0 hh)) tj := h3
      obtain ⟨y7, e7, h7⟩ := hd 7 28 rfl (by decide +kernel) (by decide)
      obtain ⟨t7, n7, q7⟩ : ∃ tj, NT W W.heap.size y7 tj ∧ (R.IsTx (s.extract hh s.size)) tj := h7
      have q4x := q3.2
      have q8x := q7.2
      have HC := Lib.hid (join_any y3 y7 t3 t7 W n3 n7 q3.1 q7.1 (HSz.out t3 t7 q3.2 q7.2))
      clear hd hold 
      go_simp
      go_at_call 70
      (with_reducible refine HC.out.mono ?_)
      rintro e W1 ⟨tj, y, rfl, hn, hF, hx, hB⟩
      exact hK.out _ _ ⟨tj, hn, hF, by rw [hx, q4x, q8x]; exact HTx.out⟩ hB
    · exact absurd rfl hz
  · intro a W hg hf hold hput K' hK
    obtain ⟨yz, oz, hvz⟩ := hf 8 29 rfl (by decide) (by decide)
    obtain ⟨tz, hn, hq⟩ : ∃ tj, NT W W.heap.size yz tj ∧ (R.IsTx s) tj := hvz
    have HB := Lib.hid (And.intro hg hn)
    clear hg hf hold hn
    go_simp
    refine hK.out _ _ ?_
    obtain ⟨rr, ha⟩ := hput.out
    clear hput oz
    subst ha
    simp only [putL, Act.put, List.setIfInBounds_toArray, List.set_cons_zero, List.set_cons_succ]
    clear hK K'
    go_wp2_with fail
    go_ret
    exact ⟨tz, _, rfl, HB.out.2, hq, HB.out.1⟩
theorem grown_any : ∀ (n : Nat) (s : ByteArray) (w : World), s.size ≤ n → s.size ≤ 1000000000000 → U.valid s = true → Tabs w → Calls Tryd.prog 37 #[.string s] w (GrownR s w)
  | n, s, w, hn, hs, hv, hT => by
    by_cases h0 : s.size = 0
    · rw [U.empty_of s h0]; exact grown_none w
    · by_cases h1 : s.size ≤ 64
      · exact grown_leaf s w (by omega) h1 hv
      · cases n with
        | zero => omega
        | succ n => exact grown_big s w (by omega) hs hv hT (fun x W hB hx hvx => grown_any n x W (by omega) (by omega) hvx (tabs_below hT hB))
end Go.Proofs.YtjeopabnddekgaaDoor
