/- Token, Counts, Spans, At, Next, the document's, of any list of tokens. Conditions: none. -/
import Derived.Test.YthglpfmbmmlbjaaDoorLxSpans
namespace Go.Proofs
open Go Go.RowKit Go.Lib
namespace YthglpfmbmmlbjaaDoor
set_option maxHeartbeats 1000000 in
set_option maxRecDepth 100000 in
theorem refToken_any (k : Nat) (hk : k < 256) (w : World) : Calls Tryd.prog 20 #[.int .u8 k] w (BoolS (D.isK k) w) := by
  generalize hb : D.isK k = b
  have HB := Lib.hid hb
  clear hb
  by_cases h1 : 1 ≤ k
  · have e1 : decide ((1 : Int) ≤ (k : Int)) = true := decide_eq_true (by omega)
    by_cases h17 : k ≤ 17
    · have e2 : decide ((k : Int) ≤ 17) = true := decide_eq_true (by omega)
      obtain rfl : b = true := by rw [← HB.out]; unfold D.isK; rw [decide_eq_true h1, decide_eq_true h17]; rfl
      clear h1 h17
      go_enter Tryd.func20, Tryd.ntmps20
      go_wp2_with fail
      go_ret
      exact ⟨rfl, rfl⟩
    · have e2 : decide ((k : Int) ≤ 17) = false := decide_eq_false (by omega)
      by_cases h20 : 20 ≤ k
      · have e3 : decide ((20 : Int) ≤ (k : Int)) = true := decide_eq_true (by omega)
        by_cases h40 : k ≤ 40
        · have e4 : decide ((k : Int) ≤ 40) = true := decide_eq_true (by omega)
          obtain rfl : b = true := by rw [← HB.out]; unfold D.isK; rw [decide_eq_true h20, decide_eq_true h40]; simp
          clear h1 h17 h20 h40
          go_enter Tryd.func20, Tryd.ntmps20
          go_wp2_with fail
          go_ret
          exact ⟨rfl, rfl⟩
        · have e4 : decide ((k : Int) ≤ 40) = false := decide_eq_false (by omega)
          obtain rfl : b = false := by rw [← HB.out]; unfold D.isK; rw [decide_eq_false h17, decide_eq_false h40]; simp
          clear h1 h17 h20 h40
          go_enter Tryd.func20, Tryd.ntmps20
          go_wp2_with fail
          go_ret
          exact ⟨rfl, rfl⟩
      · have e3 : decide ((20 : Int) ≤ (k : Int)) = false := decide_eq_false (by omega)
        obtain rfl : b = false := by rw [← HB.out]; unfold D.isK; rw [decide_eq_false h17, decide_eq_false h20]; simp
        clear h1 h17 h20
        go_enter Tryd.func20, Tryd.ntmps20
        go_wp2_with fail
        go_ret
        exact ⟨rfl, rfl⟩
  · obtain rfl : k = 0 := by omega
    obtain rfl : b = false := by rw [← HB.out]; rfl
    clear h1
    go_enter Tryd.func20, Tryd.ntmps20
    go_wp2_with fail
    go_ret
    exact ⟨rfl, rfl⟩
set_option maxHeartbeats 1000000 in
set_option maxRecDepth 100000 in
theorem refCounts_any (k : Nat) (hk : k < 256) (w : World) : Calls Tryd.prog 14 #[.int .u8 k] w (BoolS (D.cnt k) w) := by
  have ht := fun W => refToken_any k hk W
  by_cases h : k = 1 ∨ k = 2 ∨ k = 3 ∨ k = 4 ∨ k = 5 ∨ k = 9
  · rcases h with rfl | rfl | rfl | rfl | rfl | rfl
    all_goals
      clear ht
      go_enter Tryd.func14, Tryd.ntmps14
      go_wp2_with fail
      go_ret
      exact ⟨rfl, rfl⟩
  · have hc : D.cnt k = D.isK k := by
      have : D.triv k = false := by unfold D.triv; exact decide_eq_false (by simp; omega)
      unfold D.cnt; rw [this]; simp
    rw [hc]
    have e1 : ((k : Int) == 1) = false := by rw [beq_eq_false_iff_ne]; omega
    have e2 : ((k : Int) == 2) = false := by rw [beq_eq_false_iff_ne]; omega
    have e3 : ((k : Int) == 3) = false := by rw [beq_eq_false_iff_ne]; omega
    have e4 : ((k : Int) == 4) = false := by rw [beq_eq_false_iff_ne]; omega
    have e5 : ((k : Int) == 5) = false := by rw [beq_eq_false_iff_ne]; omega
    have e9 : ((k : Int) == 9) = false := by rw [beq_eq_false_iff_ne]; omega
    clear h hc
    generalize D.isK k = b at *
    go_enter Tryd.func14, Tryd.ntmps14
    go_wp2_with fail
    refine (ht _).mono ?_
    rintro e w1 ⟨rfl, rfl⟩
    go_wp2_with fail
    go_ret
    exact ⟨rfl, rfl⟩
/-- spans' cells -/
def spCells (ts : List TkI) : Nat → List Value
  | 0 => []
  | i + 1 => spCells ts i ++ [.int .i64 (D.spAt ts i), .int .i64 (D.spAt ts (i + 1))]
theorem spCells_len (ts : List TkI) : ∀ i, (spCells ts i).length = i * 2
  | 0 => rfl
  | i + 1 => by show (spCells ts i ++ _).length = _; rw [List.length_append, spCells_len ts i]; show i * 2 + 2 = _; omega
theorem spCells_at (ts : List TkI) : ∀ i j, j < i → (spCells ts i)[j * 2]? = some (.int .i64 (D.spAt ts j)) ∧ (spCells ts i)[j * 2 + 1]? = some (.int .i64 (D.spAt ts (j + 1)))
  | 0, j, h => absurd h (Nat.not_lt_zero _)
  | i + 1, j, h => by
    have hl := spCells_len ts i
    show (spCells ts i ++ _)[j * 2]? = _ ∧ (spCells ts i ++ _)[j * 2 + 1]? = _
    by_cases e : j = i
    · subst e
      rw [List.getElem?_append_right (by omega), List.getElem?_append_right (by omega), hl]
      refine ⟨?_, ?_⟩
      · rw [Nat.sub_self]; rfl
      · rw [show j * 2 + 1 - j * 2 = 1 by omega]; rfl
    · rw [List.getElem?_append_left (by omega), List.getElem?_append_left (by omega)]
      exact spCells_at ts i j (by omega)
/-- spans as they lie -/
def RdS (W : World) (v : Value) (ts : List TkI) : Prop := ∃ z cap, v = .slice z ts.length cap ∧ ∀ j, j < ts.length → ∃ b o, z = some ⟨b, o, none⟩ ∧ b < W.heap.size ∧ W.cell? ⟨b, o + j * 2, none⟩ = some (.int .i64 (D.spAt ts j)) ∧ W.cell? ⟨b, o + j * 2 + 1, none⟩ = some (.int .i64 (D.spAt ts (j + 1)))
theorem RdS.below {W W' : World} {v : Value} {ts : List TkI} (h : RdS W v ts) (hB : Below W.heap.size W W') : RdS W' v ts := by
  obtain ⟨z, cap, hv, h5⟩ := h
  refine ⟨z, cap, hv, fun j hj => ?_⟩
  obtain ⟨b, o, hz, hb, c0, c1⟩ := h5 j hj
  exact ⟨b, o, hz, Nat.lt_of_lt_of_le hb hB.size, (hB.cell (p := ⟨b, _, none⟩) hb).trans c0, (hB.cell (p := ⟨b, _, none⟩) hb).trans c1⟩
theorem SpRow.rd {W : World} {g : Nat} {ts : List TkI} (h : SpRow W g ts.length ts ts.length) : RdS W (.slice (some ⟨g, 0, none⟩) ts.length ts.length) ts :=
  ⟨_, _, rfl, fun j hj => ⟨g, 0, rfl, by obtain ⟨cur, h1, _⟩ := h; exact (Array.getElem?_eq_some_iff.1 h1).1, by rw [Nat.zero_add]; exact (h.cells hj).1, by rw [Nat.zero_add]; exact (h.cells hj).2⟩⟩
theorem rdS_own {W : World} {n0 : Nat} {v : Value} {ts : List TkI} (h : W.ownsRow n0 26 2 v ts.length (spCells ts ts.length)) : RdS W v ts := by
  rcases h.2 with ⟨rfl, h1⟩ | ⟨g, cap, cur, rfl, g1, g2, g3, g4, g5, g6⟩
  · exact ⟨none, 0, by rw [h1], fun j hj => by omega⟩
  · refine ⟨some ⟨g, 0, none⟩, cap, rfl, fun j hj => ?_⟩
    have hcell : ∀ i u, (spCells ts ts.length)[i]? = some u → W.cell? ⟨g, i, none⟩ = some u := fun i u hu => by
      rw [Lib.cell_of_heap g2, ← Array.getElem?_toList]
      have hi : i < ts.length * 2 := by
        have := (List.getElem?_eq_some_iff.1 hu).1
        rwa [spCells_len] at this
      rw [← g6, List.getElem?_take_of_lt hi] at hu
      exact hu
    have hc := spCells_at ts ts.length j hj
    exact ⟨g, 0, rfl, (Array.getElem?_eq_some_iff.1 g2).1, by rw [Nat.zero_add]; exact hcell _ _ hc.1, by rw [Nat.zero_add]; exact hcell _ _ hc.2⟩
def SpOwn (ts : List TkI) (w : World) (e : Ending) (w' : World) : Prop := ∃ v, e = .returned v ∧ RdS w' v ts ∧ Below w.heap.size w w'
set_option maxHeartbeats 2000000 in
set_option maxRecDepth 100000 in
theorem refSpans_any (v : Value) (ts : List TkI) (w : World) (h : RdT w v ts) (hlen8 : ts.length ≤ 1000000000) : Calls Tryd.prog 8 #[v] w (SpOwn ts w) := by
  have HRd := Lib.hid h
  obtain ⟨z, cap, rfl, hlc, hcap, hlen, hok, _⟩ := h
  have HOk := Lib.hid hok
  obtain ⟨i0, hi0, hz0, hz1, hz2⟩ := info_parts infoSpan2
  clear hok
  go_enter Tryd.func8, Tryd.ntmps8
  go_wp2_with fail
  go_loopw [4, 5, 6] (fun u a q wr => ∃ (i : Nat) (x : Int), q = .int .i64 i ∧ a = .int .i64 x ∧ i ≤ ts.length ∧ (0 ≤ x ∧ x ≤ 1099511627776) ∧ wr.ownsRow w.heap.size 26 2 u i (spCells ts i) ∧ Hid (Below w.heap.size w wr ∧ x = D.spAt ts i)) (fun _ _ q _ => ts.length - (RowKit.intOf q).toNat)
  case atStart => exact ⟨0, 0, rfl, rfl, Nat.zero_le _, by decide, World.ownsRow_nil _ _ _ _, Lib.hid ⟨Below.refl _ _, rfl⟩⟩
  case round =>
    obtain ⟨i, x, rfl, rfl, hi, hx, hown, HW⟩ := hrel
    by_cases hlt : i < ts.length
    · obtain ⟨t, hj⟩ : ∃ t, ts[i]? = some t := ⟨_, List.getElem?_eq_getElem hlt⟩
      obtain ⟨z2, cap2, hzz, _, _, _, _, hr⟩ := HRd.out.below HW.out.1
      injection hzz with h1 h2 h3
      subst h1 h3
      obtain ⟨b, o, rfl, hb, c0, c1, c2⟩ := hr i t hj
      clear hr
      have hw6 := (HOk.out t (List.mem_of_getElem? hj)).2.1
      have hsp := D.spAt_succ hj
      rw [← HW.out.2] at hsp
      have i1 : (i : Int) < (ts.length : Int) := by omega
      have j0 : (0 : Int) ≤ (i : Int) := Int.natCast_nonneg i
      have i2 : (i : Int) ≤ 1000000000000000 := by omega
      have HL := Lib.hid hlt
      obtain ⟨tk, tw, tl⟩ := t
      simp only at c0 c1 c2 hw6 hsp
      unfold I6 at hw6
      have hin := D.enI_in (w := tw) hx
      unfold D.enI at hsp hin
      generalize hy2 : min (x + min (max tw 0) 1099511627776) 1099511627776 = y2 at *
      have HSp := Lib.hid hsp
      have hbelow : w.heap.size ≤ wr.heap.size := HW.out.1.size
      have hnews : ∀ (j : Nat) (u : Value), [Value.int .i64 x, .int .i64 y2][j]? = some u → (wr.alloc (.cells #[.int .i64 x, .int .i64 y2] 26)).cell? ((⟨wr.heap.size, 0, none⟩ : Addr).add j) = some u := by
        intro j u hu
        have hadd : (⟨wr.heap.size, 0, none⟩ : Addr).add j = ⟨wr.heap.size, j, none⟩ := by unfold Addr.add; split <;> simp_all
        rw [hadd, cell_of_row _ _ j _ _ (0, 0) (heap_alloc_new _ _), ← Array.getElem?_toList]
        exact hu
      have HO := Lib.hid (And.intro (hown.alloc (.cells #[.int .i64 x, .int .i64 y2] 26)) (And.intro hnews (show w.heap.size ≤ (wr.alloc (.cells #[.int .i64 x, .int .i64 y2] 26)).heap.size by rw [World.size_alloc]; omega)))
      have HB9 := Lib.hid (And.intro (HW.out.1.alloc hbelow (.cells #[.int .i64 x, .int .i64 y2] 26)) hown)
      have HY := Lib.hid hy2
      have hxs := HW.out.2
      have HXS := Lib.hid hxs
      clear hj hlt hown hnews hsp hxs hb
      by_cases hneg : tw < 0
      · by_cases hf : (0 : Int) < 1099511627776 - x
        · have e2 : y2 = x := by omega
          subst e2
          clear hy2
          go_wp2_with (at_builtin; refine wpList_append_own _ rfl _ _ 23 rfl w.heap.size 26 i0 _ 2 16 Tryd.underlying23 hi0 hz0 hz1 hz2 rfl (by decide) _ i (spCells ts i) rfl HO.out.1 ⟨wr.heap.size, 0, none⟩ 1 1 [.int .i64 y2, .int .i64 y2] rfl rfl HO.out.2.1 (fun u hu => by
              simp only [List.mem_cons, List.not_mem_nil, or_false] at hu
              rcases hu with rfl | rfl <;> rfl) (by unfold maxLen; omega) (by omega) HO.out.2.2 ?_; intro v4 w4 own4 hg4 _)
          have own5 : w4.ownsRow w.heap.size 26 2 v4 (i + 1) (spCells ts (i + 1)) := by
            show w4.ownsRow w.heap.size 26 2 v4 (i + 1) (spCells ts i ++ [.int .i64 (D.spAt ts i), .int .i64 (D.spAt ts (i + 1))])
            rw [← HXS.out, HSp.out]
            exact own4
          have hb4 := HB9.out.1.grown hg4 HB9.out.1.size (fun k hk => (HO.out.1.lt k hk).1)
          have HF := Lib.hid (And.intro own5 hb4)
          clear own4 own5 hg4 hb4
          go_wp2_with fail
          go_roundw
          case rel => exact ⟨i + 1, y2, by go_num, rfl, HL.out, by omega, HF.out.1, Lib.hid ⟨HF.out.2, HSp.out.symm⟩⟩
          case measure => have := HL.out; simp [RowKit.intOf]; omega
        · have e2 : y2 = 1099511627776 := by omega
          subst e2
          clear hy2
          go_wp2_with (at_builtin; refine wpList_append_own _ rfl _ _ 23 rfl w.heap.size 26 i0 _ 2 16 Tryd.underlying23 hi0 hz0 hz1 hz2 rfl (by decide) _ i (spCells ts i) rfl HO.out.1 ⟨wr.heap.size, 0, none⟩ 1 1 [.int .i64 x, .int .i64 1099511627776] rfl rfl HO.out.2.1 (fun u hu => by
              simp only [List.mem_cons, List.not_mem_nil, or_false] at hu
              rcases hu with rfl | rfl <;> rfl) (by unfold maxLen; omega) (by omega) HO.out.2.2 ?_; intro v4 w4 own4 hg4 _)
          have own5 : w4.ownsRow w.heap.size 26 2 v4 (i + 1) (spCells ts (i + 1)) := by
            show w4.ownsRow w.heap.size 26 2 v4 (i + 1) (spCells ts i ++ [.int .i64 (D.spAt ts i), .int .i64 (D.spAt ts (i + 1))])
            rw [← HXS.out, HSp.out]
            exact own4
          have hb4 := HB9.out.1.grown hg4 HB9.out.1.size (fun k hk => (HO.out.1.lt k hk).1)
          have HF := Lib.hid (And.intro own5 hb4)
          clear own4 own5 hg4 hb4
          go_wp2_with fail
          go_roundw
          case rel => exact ⟨i + 1, 1099511627776, by go_num, rfl, HL.out, by omega, HF.out.1, Lib.hid ⟨HF.out.2, HSp.out.symm⟩⟩
          case measure => have := HL.out; simp [RowKit.intOf]; omega
      · by_cases hf : tw < 1099511627776 - x
        · have e2 : x + tw = y2 := by omega
          clear hy2
          go_wp2_with (at_builtin; refine wpList_append_own _ rfl _ _ 23 rfl w.heap.size 26 i0 _ 2 16 Tryd.underlying23 hi0 hz0 hz1 hz2 rfl (by decide) _ i (spCells ts i) rfl HO.out.1 ⟨wr.heap.size, 0, none⟩ 1 1 [.int .i64 x, .int .i64 y2] rfl rfl HO.out.2.1 (fun u hu => by
              simp only [List.mem_cons, List.not_mem_nil, or_false] at hu
              rcases hu with rfl | rfl <;> rfl) (by unfold maxLen; omega) (by omega) HO.out.2.2 ?_; intro v4 w4 own4 hg4 _)
          have own5 : w4.ownsRow w.heap.size 26 2 v4 (i + 1) (spCells ts (i + 1)) := by
            show w4.ownsRow w.heap.size 26 2 v4 (i + 1) (spCells ts i ++ [.int .i64 (D.spAt ts i), .int .i64 (D.spAt ts (i + 1))])
            rw [← HXS.out, HSp.out]
            exact own4
          have hb4 := HB9.out.1.grown hg4 HB9.out.1.size (fun k hk => (HO.out.1.lt k hk).1)
          have HF := Lib.hid (And.intro own5 hb4)
          clear own4 own5 hg4 hb4
          go_wp2_with fail
          go_roundw
          case rel => exact ⟨i + 1, y2, by go_num, rfl, HL.out, by omega, HF.out.1, Lib.hid ⟨HF.out.2, HSp.out.symm⟩⟩
          case measure => have := HL.out; simp [RowKit.intOf]; omega
        · have e2 : y2 = 1099511627776 := by omega
          subst e2
          clear hy2
          go_wp2_with (at_builtin; refine wpList_append_own _ rfl _ _ 23 rfl w.heap.size 26 i0 _ 2 16 Tryd.underlying23 hi0 hz0 hz1 hz2 rfl (by decide) _ i (spCells ts i) rfl HO.out.1 ⟨wr.heap.size, 0, none⟩ 1 1 [.int .i64 x, .int .i64 1099511627776] rfl rfl HO.out.2.1 (fun u hu => by
              simp only [List.mem_cons, List.not_mem_nil, or_false] at hu
              rcases hu with rfl | rfl <;> rfl) (by unfold maxLen; omega) (by omega) HO.out.2.2 ?_; intro v4 w4 own4 hg4 _)
          have own5 : w4.ownsRow w.heap.size 26 2 v4 (i + 1) (spCells ts (i + 1)) := by
            show w4.ownsRow w.heap.size 26 2 v4 (i + 1) (spCells ts i ++ [.int .i64 (D.spAt ts i), .int .i64 (D.spAt ts (i + 1))])
            rw [← HXS.out, HSp.out]
            exact own4
          have hb4 := HB9.out.1.grown hg4 HB9.out.1.size (fun k hk => (HO.out.1.lt k hk).1)
          have HF := Lib.hid (And.intro own5 hb4)
          clear own4 own5 hg4 hb4
          go_wp2_with fail
          go_roundw
          case rel => exact ⟨i + 1, 1099511627776, by go_num, rfl, HL.out, by omega, HF.out.1, Lib.hid ⟨HF.out.2, HSp.out.symm⟩⟩
          case measure => have := HL.out; simp [RowKit.intOf]; omega
    · have i1 : ¬ (i : Int) < (ts.length : Int) := by omega
      obtain rfl : i = ts.length := by omega
      have HR := Lib.hid (rdS_own hown)
      clear hlt hown
      go_wp2_with fail
      go_ret
      exact ⟨_, rfl, HR.out, HW.out.1⟩
end YthglpfmbmmlbjaaDoor
end Go.Proofs
