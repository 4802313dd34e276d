/- Next, At, Spans, the program's own, of any list of tokens. Conditions: the table of kinds as the program's text lays it. -/
import Derived.Test.YthglpfmbmmlbjaaDoorLxRd
import Derived.Laws.CopyOwn
namespace Go.Proofs
open Go Go.RowKit Go.Lib
namespace YthglpfmbmmlbjaaDoor
namespace D
theorem getD_of {ts : List TkI} {i : Nat} {t : TkI} (h : ts[i]? = some t) : ts.getD i ⟨0, 0, 0⟩ = t := by rw [List.getD_eq_getElem?_getD, h]; rfl
theorem nxF_yes {ts : List TkI} {f i : Nat} {t : TkI} (h : ts[i]? = some t) (hc : cnt t.k = true) : nxF ts (f + 1) i = i := by
  have hi : i < ts.length := (List.getElem?_eq_some_iff.1 h).1
  simp only [nxF, if_pos hi, getD_of h, hc, if_true]
theorem nxF_no {ts : List TkI} {f i : Nat} {t : TkI} (h : ts[i]? = some t) (hc : cnt t.k = false) : nxF ts (f + 1) i = nxF ts f (i + 1) := by
  have hi : i < ts.length := (List.getElem?_eq_some_iff.1 h).1
  simp only [nxF, if_pos hi, getD_of h, hc, Bool.false_eq_true, if_false]
theorem nxF_end {ts : List TkI} {f : Nat} : nxF ts f ts.length = ts.length := by
  cases f with
  | zero => rfl
  | succ f => simp [nxF]
theorem spAt_succ {ts : List TkI} {i : Nat} {t : TkI} (h : ts[i]? = some t) : spAt ts (i + 1) = enI (spAt ts i) t.w := by show enI _ _ = _; rw [getD_of h]
theorem atF_yes {ts : List TkI} {p : Int} {f i : Nat} (hi : i < ts.length) (h : p < spAt ts (i + 1)) : atF ts p (f + 1) i = i := by simp only [atF, if_pos hi, if_pos h]
theorem atF_no {ts : List TkI} {p : Int} {f i : Nat} (hi : i < ts.length) (h : ¬ p < spAt ts (i + 1)) : atF ts p (f + 1) i = atF ts p f (i + 1) := by simp only [atF, if_pos hi, if_neg h]
theorem atF_end {ts : List TkI} {p : Int} {f i : Nat} (hi : ¬ i < ts.length) : atF ts p f i = -1 := by
  cases f with
  | zero => rfl
  | succ f => simp only [atF, if_neg hi]
end D
def SameN (w w' : World) : Prop := w' = w
set_option maxHeartbeats 1000000 in
set_option maxRecDepth 100000 in
theorem next_any (v : Value) (ts : List TkI) (n : Int) (hn : I6 n) (w : World) (h : RdT w v ts) (hT : Trv w) : Calls Tryd.prog 11 #[v, .int .i64 n] w (fun e w' => e = .returned (.int .i64 (D.nx ts n)) ∧ SameN w w') := by
  obtain ⟨z, cap, rfl, hlc, hcap, hlen, hok, hr⟩ := h
  unfold I6 at hn
  have HC := Lib.hid (fun k hk => counts_any k hk w hT)
  have HR := Lib.hid hr
  have HOk := Lib.hid hok
  obtain ⟨m, hm⟩ : ∃ m : Nat, max n 0 = (m : Int) := ⟨(max n 0).toNat, by omega⟩
  have hmb : (m : Int) ≤ 9223372036854775807 := by omega
  have HNX := Lib.hid (show D.nx ts n = if ts.length ≤ m then ts.length else D.nxF ts (ts.length - m) m by
    unfold D.nx
    by_cases h1 : (ts.length : Int) ≤ n
    · rw [if_pos h1, if_pos (by omega)]
    · rw [if_neg h1]
      by_cases h2 : n < 0
      · rw [show n.toNat = m by omega]
        by_cases h3 : ts.length ≤ m
        · rw [if_pos h3, show ts.length - m = 0 by omega]; show m = _; omega
        · rw [if_neg h3]
      · rw [show n.toNat = m by omega, if_neg (by omega)])
  generalize D.nx ts n = y at *
  clear hr hok hT hn
  go_enter Tryd.func11, Tryd.ntmps11
  go_wp2_with fail
  go_loopw [5] (fun p wr => ∃ i : Nat, p = .int .i64 i ∧ (i : Int) ≤ 9223372036854775807 ∧ Hid (SameN w wr ∧ m ≤ i ∧ (i = m ∨ i ≤ ts.length) ∧ (i < ts.length → D.nxF ts (ts.length - i) i = y) ∧ (¬ i < ts.length → y = ts.length))) (fun p _ => ts.length - (RowKit.intOf p).toNat)
  case atStart =>
    refine ⟨m, rfl, hmb, Lib.hid ⟨rfl, Nat.le_refl _, Or.inl rfl, fun h => ?_, fun h => ?_⟩⟩
    · rw [HNX.out, if_neg (by omega)]
    · rw [HNX.out, if_pos (by omega)]
  case round =>
    obtain ⟨i, rfl, hib, HW⟩ := hrel
    obtain rfl : wr = w := HW.out.1
    by_cases hlt : i < ts.length
    · obtain ⟨t, hj⟩ : ∃ t, ts[i]? = some t := ⟨_, List.getElem?_eq_getElem hlt⟩
      obtain ⟨b, o, rfl, hb, c0, c1, c2⟩ := HR.out i t hj
      have hk := (HOk.out t (List.mem_of_getElem? hj)).1
      have hc := HC.out t.k hk
      have HJ := Lib.hid (And.intro hj hlt)
      have i1 : (i : Int) < (ts.length : Int) := by omega
      have i0 : (0 : Int) ≤ (i : Int) := Int.natCast_nonneg i
      have i2 : (i : Int) ≤ 1000000000000000 := by omega
      obtain ⟨f, hf⟩ : ∃ f, ts.length - i = f + 1 := ⟨ts.length - i - 1, by omega⟩
      have HF := Lib.hid hf
      have HV := Lib.hid (HW.out.2.2.2.1 hlt)
      clear hj hlt hf c1 c2 hk
      cases hcn : D.cnt t.k
      · rw [hcn] at hc
        have HN := Lib.hid (D.nxF_no (f := f) HJ.out.1 hcn)
        generalize t.k = k at *
        go_wp2_with fail
        refine hc.mono ?_
        rintro e w1 ⟨rfl, rfl⟩
        go_wp2_with fail
        go_roundw
        case rel =>
          refine ⟨i + 1, by go_num, by omega, Lib.hid ⟨rfl, by have := HW.out.2.1; omega, Or.inr HJ.out.2, fun h => ?_, fun h => ?_⟩⟩
          · rw [← HV.out, HF.out, HN.out]; congr 1; have := HF.out; omega
          · have hlast : i + 1 = ts.length := by have := HJ.out.2; omega
            rw [← HV.out, HF.out, HN.out, hlast, D.nxF_end]
        case measure => have := HJ.out.2; simp [RowKit.intOf]; omega
      · rw [hcn] at hc
        have HN := Lib.hid (D.nxF_yes (f := f) HJ.out.1 hcn)
        generalize t.k = k at *
        go_wp2_with fail
        refine hc.mono ?_
        rintro e w1 ⟨rfl, rfl⟩
        go_wp2_with fail
        go_ret
        exact ⟨by rw [← HV.out, HF.out, HN.out]; rfl, rfl⟩
    · have i1 : ¬ (i : Int) < (ts.length : Int) := by omega
      have HV := Lib.hid (HW.out.2.2.2.2 hlt)
      clear hlt
      go_wp2_with fail
      go_ret
      exact ⟨by rw [HV.out]; rfl, rfl⟩
set_option maxHeartbeats 1000000 in
set_option maxRecDepth 100000 in
theorem at_any (v : Value) (ts : List TkI) (p : Int) (hp : I6 p) (w : World) (h : RdT w v ts) : Calls Tryd.prog 9 #[v, .int .i64 p] w (IntB (D.atI ts p) w) := by
  by_cases hneg : p < 0
  · have hv : D.atI ts p = -1 := by unfold D.atI; rw [if_pos hneg]
    rw [hv]
    clear hv h
    go_enter Tryd.func9, Tryd.ntmps9
    go_wp2_with fail
    go_ret
    exact ⟨rfl, Below.refl _ _⟩
  have hv : D.atI ts p = D.atF ts p ts.length 0 := by unfold D.atI; rw [if_neg hneg]
  rw [hv]
  clear hv
  have HRd := Lib.hid h
  obtain ⟨z, cap, rfl, hlc, hcap, hlen, hok, hr⟩ := h
  unfold I6 at hp
  have HOk := Lib.hid hok
  generalize hy : D.atF ts p ts.length 0 = y
  have HY := Lib.hid hy
  clear hr hok hy
  go_enter Tryd.func9, Tryd.ntmps9
  go_wp2_with fail
  go_loopw [5, 12] (fun a q wr => ∃ (i : Nat) (x : Int), q = .int .i64 i ∧ a = .int .i64 x ∧ i ≤ ts.length ∧ (0 ≤ x ∧ x ≤ 1099511627776) ∧ Hid (Below w.heap.size w wr ∧ x = D.spAt ts i ∧ D.atF ts p (ts.length - i) i = y)) (fun _ q _ => ts.length - (RowKit.intOf q).toNat)
  case atStart => exact ⟨0, 0, rfl, rfl, Nat.zero_le _, by decide, Lib.hid ⟨Below.refl _ _, rfl, HY.out⟩⟩
  case round =>
    obtain ⟨i, x, rfl, rfl, hi, hx, HW⟩ := hrel
    by_cases hlt : i < ts.length
    · obtain ⟨t, hj⟩ : ∃ t, ts[i]? = some t := ⟨_, List.getElem?_eq_getElem hlt⟩
      obtain ⟨z2, cap2, hzz, _, _, _, _, hr⟩ := HRd.out.below HW.out.1
      injection hzz with hz1 hz2 hz3
      subst hz1 hz3
      obtain ⟨b, o, rfl, hb, c0, c1, c2⟩ := hr i t hj
      clear hr
      have hok := HOk.out t (List.mem_of_getElem? hj)
      have hen := fun W => end_any x t hok hx W
      have HS := Lib.hid (D.spAt_succ hj)
      have hin := D.enI_in (w := t.w) hx
      have HJ := Lib.hid (And.intro hj hlt)
      have i1 : (i : Int) < (ts.length : Int) := by omega
      have i0 : (0 : Int) ≤ (i : Int) := Int.natCast_nonneg i
      have i2 : (i : Int) ≤ 1000000000000000 := by omega
      obtain ⟨f, hf⟩ : ∃ f, ts.length - i = f + 1 := ⟨ts.length - i - 1, by omega⟩
      have HF := Lib.hid hf
      have HL := Lib.hid hlt
      have HEN := Lib.hid (show D.enI x t.w = D.spAt ts (i + 1) by rw [HS.out, HW.out.2.1])
      obtain ⟨tk, tw, tl⟩ := t
      simp only at hen hin HEN c0 c1 c2
      generalize D.enI x tw = y2 at *
      clear hj hlt hf hok
      have hb2 : Below w.heap.size w (wr.alloc (.cells #[.int .u8 tk, .int .i64 tw, .int .i64 tl] 34)) := HW.out.1.alloc HW.out.1.size _
      have HB2 := Lib.hid hb2
      clear hb2
      by_cases hpy : p < y2
      · have HN := Lib.hid (D.atF_yes (f := f) HL.out (show p < D.spAt ts (i + 1) by rw [← HEN.out]; exact hpy))
        go_wp2_with fail
        refine (hen _).mono ?_
        rintro e w1 ⟨rfl, hb1⟩
        go_wp2_with fail
        go_ret
        exact ⟨by rw [← HW.out.2.2, HF.out, HN.out]; rfl, HB2.out.trans (hb1.mono HB2.out.size)⟩
      · have HN := Lib.hid (D.atF_no (f := f) HL.out (show ¬ p < D.spAt ts (i + 1) by rw [← HEN.out]; exact hpy))
        go_wp2_with fail
        refine (hen _).mono ?_
        rintro e w1 ⟨rfl, hb1⟩
        go_wp2_with fail
        go_roundw
        case rel => exact ⟨i + 1, y2, by go_num, rfl, HL.out, by omega, Lib.hid ⟨HB2.out.trans (hb1.mono HB2.out.size), HEN.out, by rw [← HW.out.2.2, HF.out, HN.out]; congr 1; have := HF.out; omega⟩⟩
        case measure => have := HL.out; simp [RowKit.intOf]; omega
    · have i1 : ¬ (i : Int) < (ts.length : Int) := by omega
      have HN := Lib.hid (D.atF_end (ts := ts) (p := p) (f := ts.length - i) hlt)
      clear hlt
      go_wp2_with fail
      go_ret
      exact ⟨by rw [← HW.out.2.2, HN.out]; rfl, HW.out.1⟩
end YthglpfmbmmlbjaaDoor
end Go.Proofs
