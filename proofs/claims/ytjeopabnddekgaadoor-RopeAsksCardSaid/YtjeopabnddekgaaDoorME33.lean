/- The place behind so many units of a tree's text. Conditions: a text of at most 10^12 bytes. -/
import Derived.Test.YtjeopabnddekgaaDoorME32
namespace Go.Proofs.YtjeopabnddekgaaDoor
open Go Go.RowKit Go.Lib

def FCt (c : R.Cn) (s : ByteArray) (i : Int) (B Q : Nat) : Nat → Value → World → Prop
  | 0, y, _ => y = .pointer (some ⟨B, 0, none⟩)
  | 1, y, _ => y = .int .i64 (c.b : Nat)
  | 2, y, _ => y = .string s
  | 3, y, _ => y = .int .i64 i
  | 4, y, _ => y = .pointer (some ⟨B, 1, none⟩)
  | 5, y, _ => y = .int .i64 (c.u : Nat)
  | 6, y, _ => y = .int .i64 (i - (c.u : Nat))
  | 7, y, _ => y = .int .i64 (U.cut s (i - (c.u : Nat)) : Nat)
  | 8, y, _ => y = .int .i64 ((c.b : Int) + (U.cut s (i - (c.u : Nat)) : Int))
  | _, _, _ => True
theorem FCt.on {c : R.Cn} {s : ByteArray} {i : Int} {B Q : Nat} {iz : Nat} {y : Value} {W W' : World} (h : FCt c s i B Q iz y W) (hB : Below W.heap.size W W') : FCt c s i B Q iz y W' := by
  unfold FCt at h ⊢
  split at h
  · exact h
  · exact h
  · exact h
  · exact h
  · exact h
  · exact h
  · exact h
  · exact h
  · exact h
  · trivial
namespace R
/-- a leaf by its units -/
def unP (i : Int) (c : Cn) : Bool := decide (i < (c.u : Int))
def cutT (t : T) (i : Int) : Nat := (fd (unP i) t Cn.none).1.b + U.cut (fd (unP i) t Cn.none).2 (i - ((fd (unP i) t Cn.none).1.u : Nat))
theorem un_spec (t : T) (h : t.Fit) (i : Int) : ∃ u s v, fd (unP i) t Cn.none = (cn u, s) ∧ Fnd (unP i) t ByteArray.empty u s v ∧ (u.size = 0 ∨ ((U.units u : Nat) : Int) ≤ i) ∧ (v.size = 0 ∨ i < ((U.units (u ++ s) : Nat) : Int)) := by
  obtain ⟨u, s, v, e, F⟩ := fd_spec (unP i) t ByteArray.empty h (U.valid_none _ rfl)
  rw [empty_app] at e
  refine ⟨u, s, v, e, F, ?_, ?_⟩
  · refine F.pu.imp id fun h => ?_
    have h : decide (i < ((U.units (ByteArray.empty ++ u) : Nat) : Int)) = false := h
    rw [empty_app, decide_eq_false_iff_not] at h
    omega
  · refine F.pv.imp id fun h => ?_
    have h : decide (i < ((U.units (ByteArray.empty ++ u ++ s) : Nat) : Int)) = true := h
    rw [empty_app, decide_eq_true_iff] at h
    exact h
end R
theorem U.cut_le (s : ByteArray) (u : Int) : U.cut s u ≤ s.size := by
  obtain ⟨_, _, _, _, h, _⟩ := U.cut_st s u s.size 0 0 (Nat.zero_le _) (by omega)
  exact h
set_option maxHeartbeats 2000000 in
set_option maxRecDepth 100000 in
theorem cut1_any (i : Int) (q : Nat) (w : World) (hq : w.cell? ⟨q, 0, none⟩ = some (.int .i64 i)) (hqw : q < w.heap.size) : FnIs w (R.unP i) 82 q := by
  intro c W hc hB
  have h0 : W.cell? ⟨q, 0, none⟩ = some (.int .i64 i) := (hB.cell (p := ⟨q, 0, none⟩) hqw).trans hq
  have hqW : q < W.heap.size := Nat.lt_of_lt_of_le hqw hB.size
  have hqn : ¬ q = W.heap.size := by omega
  go_enter Tryd.func82, Tryd.ntmps82
  go_wp2_with fail
  go_ret
  exact ⟨rfl, (Below.refl _ W).alloc (Nat.le_refl _) _⟩
set_option maxHeartbeats 4000000 in
set_option maxRecDepth 100000 in
theorem cutR_any (i : Int) (v : Value) (t : R.T) (w : World) (ht : t.Fit) (hs : t.tx.size ≤ 1000000000000) (hi : I64 i) (h : NT w w.heap.size v t) :
    Calls Tryd.prog 55 #[v, .int .i64 i] w (IntR (R.cutT t i) w) := by
  obtain ⟨u, s, x, efd, F, hu, hx⟩ := R.un_spec t ht i
  have hsz : t.tx.size = u.size + s.size + x.size := by rw [F.tx, U.app_size, U.app_size]
  have hE : R.cutT t i = (R.cn u).b + U.cut s (i - ((R.cn u).u : Nat)) := by unfold R.cutT; rw [efd]
  have hcu := R.cn_le u
  have hcut := U.cut_le s (i - ((R.cn u).u : Nat))
  have hui : ((R.cn u).u : Int) = 0 ∨ ((R.cn u).u : Int) ≤ i := by
    rcases hu with h0 | h0
    · left; have := U.units_none u h0; show ((U.units u : Nat) : Int) = 0; omega
    · right; exact h0
  have hBb := (Below.refl w.heap.size w).alloc (Nat.le_refl _) (.cells #[.int .i64 i] 3)
  have hz0 : (w.alloc (.cells #[.int .i64 i] 3)).heap.size = w.heap.size + 1 := World.size_alloc _ _
  have hq0 : (w.alloc (.cells #[.int .i64 i] 3)).cell? ⟨w.heap.size, 0, none⟩ = some (.int .i64 i) := by simp
  have HL := Lib.hid (find_any (R.unP i) 82 w.heap.size v t _ ht hs (h.below hBb) (cut1_any i w.heap.size _ hq0 (by omega)) (enters_of Tryd.func82 (by kernel_rfl) rfl))
  rw [efd] at HL
  rw [hE]
  have HSz : Hid (s.size ≤ 1000000000000) := Lib.hid (by omega)
  have HWr : Hid (IntKind.i64.wrap (i - ((R.cn u).u : Int)) = i - ((R.cn u).u : Int)) := Lib.hid (wrapI _ (by obtain ⟨h1, h2⟩ := hi; omega) (by obtain ⟨h1, h2⟩ := hi; omega))
  have HMx : Hid (i - ((R.cn u).u : Nat) ≤ 9223372036854775807) := Lib.hid (by obtain ⟨h1, h2⟩ := hi; omega)
  have HWs : Hid (((R.cn u).b : Int) ≤ 1000000000000 ∧ ((U.cut s (i - ((R.cn u).u : Nat)) : Nat) : Int) ≤ 1000000000000) := Lib.hid (by obtain ⟨h1, h2, h3⟩ := hcu; omega)
  have H0 := Lib.hid (And.intro hBb (And.intro hq0 hz0))
  clear hBb h hs hsz hcu hcut hui hu hx F ht efd hE hq0 hz0
  generalize R.cn u = c at *
  go_enter Tryd.func55, Tryd.ntmps55
  go_upto_region 1 with fail
  generalize w.alloc (.cells #[.int .i64 i] 3) = W0 at *
  go_wp2_with fail
  refine HL.out.mono ?_
  rintro e w1 ⟨rfl, hB1⟩
  have hB2 := (Below.refl w1.heap.size w1).alloc (Nat.le_refl _) (.cells #[Value.int .i64 (((c).b : Nat) : Int), Value.int .i64 (((c).u : Nat) : Int), Value.int .i64 (((c).k : Nat) : Int), Value.bool (c).f, Value.bool (c).e] 96)
  have hr : CnRow (w1.alloc (.cells #[Value.int .i64 (((c).b : Nat) : Int), Value.int .i64 (((c).u : Nat) : Int), Value.int .i64 (((c).k : Nat) : Int), Value.bool (c).f, Value.bool (c).e] 96)) w1.heap.size c := CnRow.new w1 _
  have hBa : Below W0.heap.size W0 (w1.alloc (.cells #[Value.int .i64 (((c).b : Nat) : Int), Value.int .i64 (((c).u : Nat) : Int), Value.int .i64 (((c).k : Nat) : Int), Value.bool (c).f, Value.bool (c).e] 96)) := hB1.trans (hB2.mono hB1.size)
  have hz : w1.heap.size < (w1.alloc (.cells #[Value.int .i64 (((c).b : Nat) : Int), Value.int .i64 (((c).u : Nat) : Int), Value.int .i64 (((c).k : Nat) : Int), Value.bool (c).f, Value.bool (c).e] 96)).heap.size := by rw [World.size_alloc]; omega
  have H1 := Lib.hid (And.intro hBa (And.intro hr hz))
  clear hB1 hB2 hr hz hBa HL
  dsimp only
  go_upto_region 2 with fail
  generalize w1.alloc (.cells #[Value.int .i64 (((c).b : Nat) : Int), Value.int .i64 (((c).u : Nat) : Int), Value.int .i64 (((c).k : Nat) : Int), Value.bool (c).f, Value.bool (c).e] 96) = W1 at *
  generalize w1.heap.size = B at *
  have HC0 := Lib.hid (fun W (hB : Below W1.heap.size W1 W) => (H1.out.2.1.below hB H1.out.2.2).cnAt)
  have HI0 := Lib.hid (fun W (hB : Below W1.heap.size W1 W) => (show W.cell? ⟨w.heap.size, 0, none⟩ = some (.int .i64 i) from ((H1.out.1.trans (hB.mono H1.out.1.size)).cell (p := ⟨w.heap.size, 0, none⟩) (by show w.heap.size < W0.heap.size; have := H0.out.2.2; omega)).trans H0.out.2.1))
  have HRd := Lib.hid ((Below.refl W1.heap.size W1).drew)
  refine wp_region_stepsP [some 13, some 14, some 15, some 16, some 17, some 18, some 19, some 20, some 21, some 4] _ _ (G := fun W => Below W1.heap.size W1 W) (F := FCt c s i B 0) (z := 9) (by kernel_rfl) rfl (by decide +kernel) rfl (by decide +kernel) (by decide +kernel) rfl (fun W W' h hB => h.trans (hB.mono h.size)) (fun i y W W' h hB => h.on hB) ?_ ?_ HRd.out
  · intro i o' ho hz a W hg hd hold K' hK
    have HG := Lib.hid hg
    have hlt : i < 10 := (Array.getElem?_eq_some_iff.1 ho).1
    clear hg
    obtain rfl | rfl | rfl | rfl | rfl | rfl | rfl | rfl | rfl | rfl : i = 0 ∨ i = 1 ∨ i = 2 ∨ i = 3 ∨ i = 4 ∨ i = 5 ∨ i = 6 ∨ i = 7 ∨ i = 8 ∨ i = 9 := by omega
    · obtain rfl := Option.some.inj ho
      have o5 : a.tmps[5]? = _ := (hold 5 rfl).trans rfl
      clear hd hold
      go_simp
      exact hK.out _ _ (by rfl) (Below.refl _ _)
    · obtain rfl := Option.some.inj ho
      obtain ⟨y0, e0, h0⟩ := hd 0 13 rfl (by decide +kernel) (by decide)
      have h0 : y0 = _ := h0
      have h0 := h0.symm
      subst h0
      obtain ⟨f0, f1, f2, f3, f4⟩ := HC0.out W HG.out
      clear hd hold
      go_simp
      exact hK.out _ _ (by rfl) (Below.refl _ _)
    · obtain rfl := Option.some.inj ho
      have o6 : a.tmps[6]? = _ := (hold 6 rfl).trans rfl
      clear hd hold
      go_simp
      exact hK.out _ _ (by rfl) (Below.refl _ _)
    · obtain rfl := Option.some.inj ho
      have o3 : a.tmps[3]? = _ := (hold 3 rfl).trans rfl
      have x0 := HI0.out W HG.out
      clear hd hold
      go_simp
      exact hK.out _ _ (by rfl) (Below.refl _ _)
    · obtain rfl := Option.some.inj ho
      have o5 : a.tmps[5]? = _ := (hold 5 rfl).trans rfl
      clear hd hold
      go_simp
      exact hK.out _ _ (by rfl) (Below.refl _ _)
    · obtain rfl := Option.some.inj ho
      obtain ⟨y4, e4, h4⟩ := hd 4 17 rfl (by decide +kernel) (by decide)
      have h4 : y4 = _ := h4
      have h4 := h4.symm
      subst h4
      obtain ⟨f0, f1, f2, f3, f4⟩ := HC0.out W HG.out
      clear hd hold
      go_simp
      exact hK.out _ _ (by rfl) (Below.refl _ _)
    · obtain rfl := Option.some.inj ho
      obtain ⟨y3, e3, h3⟩ := hd 3 16 rfl (by decide +kernel) (by decide)
      have h3 : y3 = _ := h3
      have h3 := h3.symm
      subst h3
      obtain ⟨y5, e5, h5⟩ := hd 5 18 rfl (by decide +kernel) (by decide)
      have h5 : y5 = _ := h5
      have h5 := h5.symm
      subst h5
      have w1 := HWr.out
      clear hd hold
      go_simp
      exact hK.out _ _ (by rfl) (Below.refl _ _)
    · obtain rfl := Option.some.inj ho
      obtain ⟨y2, e2, h2⟩ := hd 2 15 rfl (by decide +kernel) (by decide)
      have h2 : y2 = _ := h2
      have h2 := h2.symm
      subst h2
      obtain ⟨y6, e6, h6⟩ := hd 6 19 rfl (by decide +kernel) (by decide)
      have h6 : y6 = _ := h6
      have h6 := h6.symm
      subst h6
      have HC := Lib.hid (utfCut_any s (i - (c.u : Nat)) W HSz.out HMx.out)
      clear hd hold 
      go_simp
      go_at_call 83
      (with_reducible refine HC.out.mono ?_)
      rintro e W1 ⟨rfl, hB⟩
      exact hK.out _ _ (by rfl) hB
    · obtain rfl := Option.some.inj ho
      obtain ⟨y1, e1, h1⟩ := hd 1 14 rfl (by decide +kernel) (by decide)
      have h1 : y1 = _ := h1
      have h1 := h1.symm
      subst h1
      obtain ⟨y7, e7, h7⟩ := hd 7 20 rfl (by decide +kernel) (by decide)
      have h7 : y7 = _ := h7
      have h7 := h7.symm
      subst h7
      obtain ⟨w1, w2⟩ := HWs.out
      clear hd hold
      go_simp
      exact hK.out _ _ (by show Value.int _ (IntKind.i64.wrap _) = _; rw [wrapI _ (by omega) (by omega)]) (Below.refl _ _)
    · exact absurd rfl hz
  · intro a W hg hf hold hput K' hK
    obtain ⟨y8, o21, hv8⟩ := hf 8 21 rfl (by decide) (by decide)
    have hv8 : y8 = _ := hv8
    subst hv8
    have HB := Lib.hid ((H0.out.1.trans (H1.out.1.mono H0.out.1.size)).trans (hg.mono (Nat.le_trans H0.out.1.size H1.out.1.size)))
    clear hg hf hold
    go_simp
    refine hK.out _ _ ?_
    obtain ⟨rr, ha⟩ := hput.out
    clear hput o21
    subst ha
    simp only [putL, Act.put, List.setIfInBounds_toArray, List.set_cons_zero, List.set_cons_succ]
    clear hK K'
    go_wp2_with fail
    go_ret
    exact ⟨by push_cast; rfl, HB.out⟩
end Go.Proofs.YtjeopabnddekgaaDoor
