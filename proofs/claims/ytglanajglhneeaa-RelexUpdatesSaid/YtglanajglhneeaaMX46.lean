/- Spans, the document's, of any list of tokens. Conditions: none. -/
import Derived.Test.YtglanajglhneeaaMX39
import Derived.Laws.AppendOwn
namespace Go.Proofs
open Go Go.RowKit Go.Lib
namespace Ytglanajglhneeaa
namespace D
def enI (a w : Int) : Int := min (a + min (max w 0) 1099511627776) 1099511627776
/-- where a token begins -/
def spAt (ts : List TkI) : Nat → Int
  | 0 => 0
  | j + 1 => enI (spAt ts j) ((ts.getD j ⟨0, 0, 0⟩).w)
theorem enI_in {a w : Int} (h : 0 ≤ a ∧ a ≤ 1099511627776) : a ≤ enI a w ∧ enI a w ≤ 1099511627776 := by unfold enI; omega
theorem getD_of {ts : List TkI} {i : Nat} {t : TkI} (h : ts[i]? = some t) : ts.getD i ⟨0, 0, 0⟩ = t := by rw [List.getD_eq_getElem?_getD, h]; rfl
theorem spAt_succ {ts : List TkI} {i : Nat} {t : TkI} (h : ts[i]? = some t) : spAt ts (i + 1) = enI (spAt ts i) t.w := by show enI _ _ = _; rw [getD_of h]
theorem spAt_bg {ts : List Tk} (hf : Fine ts) : ∀ n, n ≤ ts.length → spAt (ts.map Tk.i) n = (bg ts n : Int)
  | 0, _ => by rw [bg_zero]; rfl
  | n + 1, h => by
    obtain ⟨t, ht⟩ : ∃ t, ts[n]? = some t := ⟨_, List.getElem?_eq_getElem h⟩
    have hat := hf.at ht
    rw [spAt_succ (show (ts.map Tk.i)[n]? = some t.i by rw [List.getElem?_map, ht]; rfl), spAt_bg hf n (by omega), hat.2.1]
    unfold enI
    show min ((bg ts n : Int) + min (max (t.w : Int) 0) 1099511627776) 1099511627776 = _
    have := hat.2.2
    omega
end D
theorem infoSpan2 : (Try.prog.info? 32).map (fun i => (i.zero, i.size, i.bytes)) = some (some (.agg #[.int .i64 0, .int .i64 0]), 2, 16) := by kernel_rfl
/-- spans' cells -/
def spCells (ts : List TkI) : Nat → List Value
  | 0 => []
  | i + 1 => spCells ts i ++ [.int .i64 (D.spAt ts i), .int .i64 (D.spAt ts (i + 1))]
theorem spCells_len (ts : List TkI) : ∀ i, (spCells ts i).length = i * 2
  | 0 => rfl
  | i + 1 => by show (spCells ts i ++ _).length = _; rw [List.length_append, spCells_len ts i]; show i * 2 + 2 = _; omega
theorem spCells_at (ts : List TkI) : ∀ i j, j < i → (spCells ts i)[j * 2]? = some (.int .i64 (D.spAt ts j)) ∧ (spCells ts i)[j * 2 + 1]? = some (.int .i64 (D.spAt ts (j + 1)))
  | 0, j, h => absurd h (Nat.not_lt_zero _)
  | i + 1, j, h => by
    have hl := spCells_len ts i
    show (spCells ts i ++ _)[j * 2]? = _ ∧ (spCells ts i ++ _)[j * 2 + 1]? = _
    by_cases e : j = i
    · subst e
      rw [List.getElem?_append_right (by omega), List.getElem?_append_right (by omega), hl]
      refine ⟨?_, ?_⟩
      · rw [Nat.sub_self]; rfl
      · rw [show j * 2 + 1 - j * 2 = 1 by omega]; rfl
    · rw [List.getElem?_append_left (by omega), List.getElem?_append_left (by omega)]
      exact spCells_at ts i j (by omega)
/-- spans as they lie -/
def RdS (W : World) (v : Value) (ts : List TkI) : Prop := ∃ z cap, v = .slice z ts.length cap ∧ ∀ j, j < ts.length → ∃ b o, z = some ⟨b, o, none⟩ ∧ b < W.heap.size ∧ W.cell? ⟨b, o + j * 2, none⟩ = some (.int .i64 (D.spAt ts j)) ∧ W.cell? ⟨b, o + j * 2 + 1, none⟩ = some (.int .i64 (D.spAt ts (j + 1)))
theorem RdS.below {W W' : World} {v : Value} {ts : List TkI} (h : RdS W v ts) (hB : Below W.heap.size W W') : RdS W' v ts := by
  obtain ⟨z, cap, hv, h5⟩ := h
  refine ⟨z, cap, hv, fun j hj => ?_⟩
  obtain ⟨b, o, hz, hb, c0, c1⟩ := h5 j hj
  exact ⟨b, o, hz, Nat.lt_of_lt_of_le hb hB.size, (hB.cell (p := ⟨b, _, none⟩) hb).trans c0, (hB.cell (p := ⟨b, _, none⟩) hb).trans c1⟩
theorem rdS_own {W : World} {n0 : Nat} {v : Value} {ts : List TkI} (h : W.ownsRow n0 32 2 v ts.length (spCells ts ts.length)) : RdS W v ts := by
  rcases h.2 with ⟨rfl, h1⟩ | ⟨g, cap, cur, rfl, g1, g2, g3, g4, g5, g6⟩
  · exact ⟨none, 0, by rw [h1], fun j hj => by omega⟩
  · refine ⟨some ⟨g, 0, none⟩, cap, rfl, fun j hj => ?_⟩
    have hcell : ∀ i u, (spCells ts ts.length)[i]? = some u → W.cell? ⟨g, i, none⟩ = some u := fun i u hu => by
      rw [Lib.cell_of_heap g2, ← Array.getElem?_toList]
      have hi : i < ts.length * 2 := by
        have := (List.getElem?_eq_some_iff.1 hu).1
        rwa [spCells_len] at this
      rw [← g6, List.getElem?_take_of_lt hi] at hu
      exact hu
    have hc := spCells_at ts ts.length j hj
    exact ⟨g, 0, rfl, (Array.getElem?_eq_some_iff.1 g2).1, by rw [Nat.zero_add]; exact hcell _ _ hc.1, by rw [Nat.zero_add]; exact hcell _ _ hc.2⟩
def SpOwn (ts : List TkI) (w : World) (e : Ending) (w' : World) : Prop := ∃ v, e = .returned v ∧ RdS w' v ts ∧ Below w.heap.size w w'
set_option maxHeartbeats 2000000 in
set_option maxRecDepth 100000 in
theorem refSpans_any (v : Value) (ts : List TkI) (w : World) (h : RdT w v ts) (hlen8 : ts.length ≤ 1000000000) : Calls Try.prog 62 #[v] w (SpOwn ts w) := by
  have HRd := Lib.hid h
  obtain ⟨z, cap, rfl, hlc, hcap, hlen, hok, _⟩ := h
  have HOk := Lib.hid hok
  obtain ⟨i0, hi0, hz0, hz1, hz2⟩ := info_parts infoSpan2
  clear hok
  go_enter Try.func62, Try.ntmps62
  go_wp2_with fail
  go_loopw [4, 5, 6] (fun u a q wr => ∃ (i : Nat) (x : Int), q = .int .i64 i ∧ a = .int .i64 x ∧ i ≤ ts.length ∧ (0 ≤ x ∧ x ≤ 1099511627776) ∧ wr.ownsRow w.heap.size 32 2 u i (spCells ts i) ∧ Hid (Below w.heap.size w wr ∧ x = D.spAt ts i)) (fun _ _ q _ => ts.length - (RowKit.intOf q).toNat)
  case atStart => exact ⟨0, 0, rfl, rfl, Nat.zero_le _, by decide, World.ownsRow_nil _ _ _ _, Lib.hid ⟨Below.refl _ _, rfl⟩⟩
  case round =>
    obtain ⟨i, x, rfl, rfl, hi, hx, hown, HW⟩ := hrel
    by_cases hlt : i < ts.length
    · obtain ⟨t, hj⟩ : ∃ t, ts[i]? = some t := ⟨_, List.getElem?_eq_getElem hlt⟩
      obtain ⟨z2, cap2, hzz, _, _, _, _, hr⟩ := HRd.out.below HW.out.1
      injection hzz with h1 h2 h3
      subst h1 h3
      obtain ⟨b, o, rfl, hb, c0, c1, c2⟩ := hr i t hj
      clear hr
      have hw6 := (HOk.out t (List.mem_of_getElem? hj)).2.1
      have hsp := D.spAt_succ hj
      rw [← HW.out.2] at hsp
      have i1 : (i : Int) < (ts.length : Int) := by omega
      have j0 : (0 : Int) ≤ (i : Int) := Int.natCast_nonneg i
      have i2 : (i : Int) ≤ 1000000000000000 := by omega
      have HL := Lib.hid hlt
      obtain ⟨tk, tw, tl⟩ := t
      simp only at c0 c1 c2 hw6 hsp
      unfold I6 at hw6
      have hin := D.enI_in (w := tw) hx
      unfold D.enI at hsp hin
      generalize hy2 : min (x + min (max tw 0) 1099511627776) 1099511627776 = y2 at *
      have HSp := Lib.hid hsp
      have hbelow : w.heap.size ≤ wr.heap.size := HW.out.1.size
      have hnews : ∀ (j : Nat) (u : Value), [Value.int .i64 x, .int .i64 y2][j]? = some u → (wr.alloc (.cells #[.int .i64 x, .int .i64 y2] 32)).cell? ((⟨wr.heap.size, 0, none⟩ : Addr).add j) = some u := by
        intro j u hu
        have hadd : (⟨wr.heap.size, 0, none⟩ : Addr).add j = ⟨wr.heap.size, j, none⟩ := by unfold Addr.add; split <;> simp_all
        rw [hadd, cell_of_row _ _ j _ _ (0, 0) (heap_alloc_new _ _), ← Array.getElem?_toList]
        exact hu
      have HO := Lib.hid (And.intro (hown.alloc (.cells #[.int .i64 x, .int .i64 y2] 32)) (And.intro hnews (show w.heap.size ≤ (wr.alloc (.cells #[.int .i64 x, .int .i64 y2] 32)).heap.size by rw [World.size_alloc]; omega)))
      have HB9 := Lib.hid (And.intro (HW.out.1.alloc hbelow (.cells #[.int .i64 x, .int .i64 y2] 32)) hown)
      have HY := Lib.hid hy2
      have hxs := HW.out.2
      have HXS := Lib.hid hxs
      clear hj hlt hown hnews hsp hxs hb
      by_cases hneg : tw < 0
      · by_cases hf : (0 : Int) < 1099511627776 - x
        · have e2 : y2 = x := by omega
          subst e2
          clear hy2
          go_wp2_with (at_builtin; refine wpList_append_own _ rfl _ _ 87 rfl w.heap.size 32 i0 _ 2 16 Try.underlying87 hi0 hz0 hz1 hz2 rfl (by decide) _ i (spCells ts i) rfl HO.out.1 ⟨wr.heap.size, 0, none⟩ 1 1 [.int .i64 y2, .int .i64 y2] rfl rfl HO.out.2.1 (fun u hu => by
              simp only [List.mem_cons, List.not_mem_nil, or_false] at hu
              rcases hu with rfl | rfl <;> rfl) (by unfold maxLen; omega) (by omega) HO.out.2.2 ?_; intro v4 w4 own4 hg4 _)
          have own5 : w4.ownsRow w.heap.size 32 2 v4 (i + 1) (spCells ts (i + 1)) := by
            show w4.ownsRow w.heap.size 32 2 v4 (i + 1) (spCells ts i ++ [.int .i64 (D.spAt ts i), .int .i64 (D.spAt ts (i + 1))])
            rw [← HXS.out, HSp.out]
            exact own4
          have hb4 := HB9.out.1.grown hg4 HB9.out.1.size (fun k hk => (HO.out.1.lt k hk).1)
          have HF := Lib.hid (And.intro own5 hb4)
          clear own4 own5 hg4 hb4
          go_wp2_with fail
          go_roundw
          case rel => exact ⟨i + 1, y2, by go_num, rfl, HL.out, by omega, HF.out.1, Lib.hid ⟨HF.out.2, HSp.out.symm⟩⟩
          case measure => have := HL.out; simp [RowKit.intOf]; omega
        · have e2 : y2 = 1099511627776 := by omega
          subst e2
          clear hy2
          go_wp2_with (at_builtin; refine wpList_append_own _ rfl _ _ 87 rfl w.heap.size 32 i0 _ 2 16 Try.underlying87 hi0 hz0 hz1 hz2 rfl (by decide) _ i (spCells ts i) rfl HO.out.1 ⟨wr.heap.size, 0, none⟩ 1 1 [.int .i64 x, .int .i64 1099511627776] rfl rfl HO.out.2.1 (fun u hu => by
              simp only [List.mem_cons, List.not_mem_nil, or_false] at hu
              rcases hu with rfl | rfl <;> rfl) (by unfold maxLen; omega) (by omega) HO.out.2.2 ?_; intro v4 w4 own4 hg4 _)
          have own5 : w4.ownsRow w.heap.size 32 2 v4 (i + 1) (spCells ts (i + 1)) := by
            show w4.ownsRow w.heap.size 32 2 v4 (i + 1) (spCells ts i ++ [.int .i64 (D.spAt ts i), .int .i64 (D.spAt ts (i + 1))])
            rw [← HXS.out, HSp.out]
            exact own4
          have hb4 := HB9.out.1.grown hg4 HB9.out.1.size (fun k hk => (HO.out.1.lt k hk).1)
          have HF := Lib.hid (And.intro own5 hb4)
          clear own4 own5 hg4 hb4
          go_wp2_with fail
          go_roundw
          case rel => exact ⟨i + 1, 1099511627776, by go_num, rfl, HL.out, by omega, HF.out.1, Lib.hid ⟨HF.out.2, HSp.out.symm⟩⟩
          case measure => have := HL.out; simp [RowKit.intOf]; omega
      · by_cases hf : tw < 1099511627776 - x
        · have e2 : x + tw = y2 := by omega
          clear hy2
          go_wp2_with (at_builtin; refine wpList_append_own _ rfl _ _ 87 rfl w.heap.size 32 i0 _ 2 16 Try.underlying87 hi0 hz0 hz1 hz2 rfl (by decide) _ i (spCells ts i) rfl HO.out.1 ⟨wr.heap.size, 0, none⟩ 1 1 [.int .i64 x, .int .i64 y2] rfl rfl HO.out.2.1 (fun u hu => by
              simp only [List.mem_cons, List.not_mem_nil, or_false] at hu
              rcases hu with rfl | rfl <;> rfl) (by unfold maxLen; omega) (by omega) HO.out.2.2 ?_; intro v4 w4 own4 hg4 _)
          have own5 : w4.ownsRow w.heap.size 32 2 v4 (i + 1) (spCells ts (i + 1)) := by
            show w4.ownsRow w.heap.size 32 2 v4 (i + 1) (spCells ts i ++ [.int .i64 (D.spAt ts i), .int .i64 (D.spAt ts (i + 1))])
            rw [← HXS.out, HSp.out]
            exact own4
          have hb4 := HB9.out.1.grown hg4 HB9.out.1.size (fun k hk => (HO.out.1.lt k hk).1)
          have HF := Lib.hid (And.intro own5 hb4)
          clear own4 own5 hg4 hb4
          go_wp2_with fail
          go_roundw
          case rel => exact ⟨i + 1, y2, by go_num, rfl, HL.out, by omega, HF.out.1, Lib.hid ⟨HF.out.2, HSp.out.symm⟩⟩
          case measure => have := HL.out; simp [RowKit.intOf]; omega
        · have e2 : y2 = 1099511627776 := by omega
          subst e2
          clear hy2
          go_wp2_with (at_builtin; refine wpList_append_own _ rfl _ _ 87 rfl w.heap.size 32 i0 _ 2 16 Try.underlying87 hi0 hz0 hz1 hz2 rfl (by decide) _ i (spCells ts i) rfl HO.out.1 ⟨wr.heap.size, 0, none⟩ 1 1 [.int .i64 x, .int .i64 1099511627776] rfl rfl HO.out.2.1 (fun u hu => by
              simp only [List.mem_cons, List.not_mem_nil, or_false] at hu
              rcases hu with rfl | rfl <;> rfl) (by unfold maxLen; omega) (by omega) HO.out.2.2 ?_; intro v4 w4 own4 hg4 _)
          have own5 : w4.ownsRow w.heap.size 32 2 v4 (i + 1) (spCells ts (i + 1)) := by
            show w4.ownsRow w.heap.size 32 2 v4 (i + 1) (spCells ts i ++ [.int .i64 (D.spAt ts i), .int .i64 (D.spAt ts (i + 1))])
            rw [← HXS.out, HSp.out]
            exact own4
          have hb4 := HB9.out.1.grown hg4 HB9.out.1.size (fun k hk => (HO.out.1.lt k hk).1)
          have HF := Lib.hid (And.intro own5 hb4)
          clear own4 own5 hg4 hb4
          go_wp2_with fail
          go_roundw
          case rel => exact ⟨i + 1, 1099511627776, by go_num, rfl, HL.out, by omega, HF.out.1, Lib.hid ⟨HF.out.2, HSp.out.symm⟩⟩
          case measure => have := HL.out; simp [RowKit.intOf]; omega
    · have i1 : ¬ (i : Int) < (ts.length : Int) := by omega
      obtain rfl : i = ts.length := by omega
      have HR := Lib.hid (rdS_own hown)
      clear hlt hown
      go_wp2_with fail
      go_ret
      exact ⟨_, rfl, HR.out, HW.out.1⟩
/-- a span of a text's tokens -/
theorem RdS.sp {W : World} {z : Option Addr} {n cap : Nat} {ts : List D.Tk} (h : RdS W (.slice z n cap) (ts.map D.Tk.i)) (hf : D.Fine ts) {j : Nat} (hj : j < ts.length) : ∃ b o, z = some ⟨b, o, none⟩ ∧ b < W.heap.size ∧ W.cell? ⟨b, o + j * 2, none⟩ = some (.int .i64 (D.bg ts j : Int)) ∧ W.cell? ⟨b, o + j * 2 + 1, none⟩ = some (.int .i64 (D.bg ts (j + 1) : Int)) := by
  obtain ⟨z2, c2, hv, hr⟩ := h
  injection hv with h1 h2 h3
  subst h1
  obtain ⟨b, o, e1, e2, e3, e4⟩ := hr j (by rw [List.length_map]; exact hj)
  rw [D.spAt_bg hf j (by omega)] at e3
  rw [D.spAt_bg hf (j + 1) (by omega)] at e4
  exact ⟨b, o, e1, e2, e3, e4⟩
theorem RdS.shape {W : World} {v : Value} {ts : List D.Tk} (h : RdS W v (ts.map D.Tk.i)) : ∃ z cap, v = .slice z ts.length cap := by
  obtain ⟨z, cap, hv, _⟩ := h
  rw [List.length_map] at hv
  exact ⟨z, cap, hv⟩
end Ytglanajglhneeaa
end Go.Proofs
