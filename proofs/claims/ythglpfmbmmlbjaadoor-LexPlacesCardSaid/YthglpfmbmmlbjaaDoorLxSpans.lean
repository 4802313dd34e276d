/- Spans, the program's own, of any list of tokens. Conditions: none. -/
import Derived.Test.YthglpfmbmmlbjaaDoorLxFns
import Derived.Laws.AppendOwn
namespace Go.Proofs
open Go Go.RowKit Go.Lib
namespace YthglpfmbmmlbjaaDoor
/-- spans as they lie, so many of them told -/
def SpRow (W : World) (g n : Nat) (ts : List TkI) (i : Nat) : Prop := ∃ cur, W.heap[g]? = some (.cells cur 26 (0, 0)) ∧ cur.size = n * 2 ∧ (∀ j, j < i → cur[j * 2]? = some (.int .i64 (D.spAt ts j)) ∧ cur[j * 2 + 1]? = some (.int .i64 (D.spAt ts (j + 1)))) ∧ ∀ j, j < n * 2 → ∃ x, cur[j]? = some (.int .i64 x)
theorem SpRow.below {W W' : World} {g n : Nat} {ts : List TkI} {i : Nat} (h : SpRow W g n ts i) (hB : Below W.heap.size W W') : SpRow W' g n ts i := by
  obtain ⟨cur, h1, h2⟩ := h
  exact ⟨cur, (hB.block g (Array.getElem?_eq_some_iff.1 h1).1).trans h1, h2⟩
theorem SpRow.cells {W : World} {g n : Nat} {ts : List TkI} {i : Nat} (h : SpRow W g n ts i) {j : Nat} (hj : j < i) : W.cell? ⟨g, j * 2, none⟩ = some (.int .i64 (D.spAt ts j)) ∧ W.cell? ⟨g, j * 2 + 1, none⟩ = some (.int .i64 (D.spAt ts (j + 1))) := by
  obtain ⟨cur, h1, h2, h3, _⟩ := h
  rw [Lib.cell_of_heap h1, Lib.cell_of_heap h1]
  exact h3 j hj
theorem SpRow.ready {W : World} {g n : Nat} {ts : List TkI} {i : Nat} (h : SpRow W g n ts i) {j : Nat} (hj : j < n) : (∃ x, W.cell? ⟨g, j * 2, none⟩ = some (.int .i64 x)) ∧ (∃ x, W.cell? ⟨g, j * 2 + 1, none⟩ = some (.int .i64 x)) ∧ ∀ k, W.frozen? ⟨g, k, none⟩ = false := by
  obtain ⟨cur, h1, h2, _, h4⟩ := h
  obtain ⟨x, hx⟩ := h4 (j * 2) (by omega)
  obtain ⟨y, hy⟩ := h4 (j * 2 + 1) (by omega)
  exact ⟨⟨x, by rw [Lib.cell_of_heap h1]; exact hx⟩, ⟨y, by rw [Lib.cell_of_heap h1]; exact hy⟩, fun k => by simp [World.frozen?, h1]⟩
theorem SpRow.set {W : World} {g n : Nat} {ts : List TkI} {i : Nat} (h : SpRow W g n ts i) (hi : i < n) : SpRow ((W.setCell ⟨g, i * 2, none⟩ (.int .i64 (D.spAt ts i))).setCell ⟨g, i * 2 + 1, none⟩ (.int .i64 (D.spAt ts (i + 1)))) g n ts (i + 1) := by
  obtain ⟨cur, h1, h2, h3, h4⟩ := h
  rw [setCell_eq_setRow W g (i * 2) _ _ _ _ h1]
  have h5 := setRow_heap W g _ (cur.setIfInBounds (i * 2) (.int .i64 (D.spAt ts i))) _ _ h1
  rw [setCell_eq_setRow _ g (i * 2 + 1) _ _ _ _ h5]
  refine ⟨_, setRow_heap _ g _ _ _ _ h5, by simp [h2], fun j hj => ?_, fun j hj => ?_⟩
  · by_cases e : j = i
    · subst e
      refine ⟨?_, ?_⟩
      · rw [Array.getElem?_setIfInBounds_ne (by omega), Array.getElem?_setIfInBounds_self_of_lt (by omega)]
      · rw [Array.getElem?_setIfInBounds_self_of_lt (by simp; omega)]
    · rw [Array.getElem?_setIfInBounds_ne (by omega), Array.getElem?_setIfInBounds_ne (by omega), Array.getElem?_setIfInBounds_ne (by omega), Array.getElem?_setIfInBounds_ne (by omega)]
      exact h3 j (by omega)
  · by_cases e1 : j = i * 2 + 1
    · subst e1; exact ⟨_, Array.getElem?_setIfInBounds_self_of_lt (by simp; omega)⟩
    · rw [Array.getElem?_setIfInBounds_ne (by omega)]
      by_cases e2 : j = i * 2
      · subst e2; exact ⟨_, Array.getElem?_setIfInBounds_self_of_lt (by omega)⟩
      · rw [Array.getElem?_setIfInBounds_ne (by omega)]; exact h4 j hj
/-- what Spans answers -/
def SpansAre (ts : List TkI) (w : World) (e : Ending) (w' : World) : Prop := ∃ g, e = .returned (.slice (some ⟨g, 0, none⟩) ts.length ts.length) ∧ w.heap.size ≤ g ∧ SpRow w' g ts.length ts ts.length ∧ Below w.heap.size w w'
theorem infoSpan2 : (Tryd.prog.info? 26).map (fun i => (i.zero, i.size, i.bytes)) = some (some (.agg #[.int .i64 0, .int .i64 0]), 2, 16) := by kernel_rfl
theorem made_spans (m : Nat) : ∀ j, j < m → ∃ x, (madeCells (Value.agg #[.int .i64 0, .int .i64 0]).cells m)[j]? = some (.int .i64 x) := by
  intro j hj
  have h2 : j % 2 = 0 ∨ j % 2 = 1 := by omega
  unfold madeCells
  rcases h2 with h2 | h2 <;> exact ⟨0, by simp [Array.getElem?_range, hj, Value.cells, h2]⟩
set_option maxHeartbeats 2000000 in
set_option maxRecDepth 100000 in
theorem spans_any (v : Value) (ts : List TkI) (w : World) (h : RdT w v ts) (hlen8 : ts.length ≤ 1000000000000) : Calls Tryd.prog 7 #[v] w (SpansAre ts w) := by
  have HRd := Lib.hid h
  obtain ⟨z, cap, rfl, hlc, hcap, hlen, hok, hr⟩ := h
  have HOk := Lib.hid hok
  obtain ⟨i0, hi0, hz0, hz1, hz2⟩ := info_parts infoSpan2
  obtain ⟨M, hM⟩ : ∃ M, M = madeCells (Value.agg #[.int .i64 0, .int .i64 0]).cells (((ts.length : Nat) : Int).toNat * i0.size) := ⟨_, rfl⟩
  have hMs : M.size = ts.length * 2 := by rw [hM, size_madeCells, hz1, Int.toNat_natCast]
  have hMx : ∀ j, j < ts.length * 2 → ∃ x, M[j]? = some (.int .i64 x) := by
    rw [hM, hz1, Int.toNat_natCast]
    exact made_spans _
  have hmk : ∀ W : World, (Instr.makeSlice 23 (.int .i64 (ts.length : Int)) (.int .i64 (ts.length : Int))).run Tryd.prog W = .ok (.slice (some ⟨W.heap.size, 0, none⟩) ts.length ts.length) (W.alloc (.cells M 26)) := fun W => by
    have h := run_make (P := Tryd.prog) W 23 26 i0 _ Tryd.underlying23 hi0 hz0 .i64 .i64 (ts.length : Int) (ts.length : Int) (by omega) (by omega) (by rw [hz2]; omega) (by omega)
    rw [← hM] at h
    simpa using h
  have HR0 := Lib.hid (show SpRow (w.alloc (.cells M 26)) w.heap.size ts.length ts 0 ∧ Below w.heap.size w (w.alloc (.cells M 26)) from ⟨⟨M, heap_alloc_new w _, hMs, fun j hj => by omega, hMx⟩, (Below.refl w.heap.size w).alloc (Nat.le_refl _) _⟩)
  clear hr hok hM hMs hMx hz0 hz1 hz2 hi0
  go_enter Tryd.func7, Tryd.ntmps7
  go_upto_region 2 with fail
  generalize w.alloc _ = W0 at *
  go_wp2_with fail
  go_loopw [4, 13] (fun a q wr => ∃ (i : Nat) (x : Int), q = .int .i64 i ∧ a = .int .i64 x ∧ i ≤ ts.length ∧ (0 ≤ x ∧ x ≤ 1099511627776) ∧ Hid (Below w.heap.size w wr ∧ x = D.spAt ts i ∧ SpRow wr w.heap.size ts.length ts i)) (fun _ q _ => ts.length - (RowKit.intOf q).toNat)
  case atStart => exact ⟨0, 0, rfl, rfl, Nat.zero_le _, by decide, Lib.hid ⟨HR0.out.2, rfl, HR0.out.1⟩⟩
  case round =>
    obtain ⟨i, x, rfl, rfl, hi, hx, HW⟩ := hrel
    by_cases hlt : i < ts.length
    · obtain ⟨t, hj⟩ : ∃ t, ts[i]? = some t := ⟨_, List.getElem?_eq_getElem hlt⟩
      obtain ⟨z2, cap2, hzz, _, _, _, _, hr⟩ := HRd.out.below HW.out.1
      injection hzz with hz1 hz2 hz3
      subst hz1 hz3
      obtain ⟨b, o, rfl, hb, c0, c1, c2⟩ := hr i t hj
      clear hr
      have hok := HOk.out t (List.mem_of_getElem? hj)
      have hen := fun W => end_any x t hok hx W
      have HS := Lib.hid (D.spAt_succ hj)
      have hin := D.enI_in (w := t.w) hx
      have i1 : (i : Int) < (ts.length : Int) := by omega
      have i0 : (0 : Int) ≤ (i : Int) := Int.natCast_nonneg i
      have i2 : (i : Int) ≤ 1000000000000000 := by omega
      have i3 : i < ts.length := hlt
      have HL := Lib.hid hlt
      have HEN := Lib.hid (show D.enI x t.w = D.spAt ts (i + 1) by rw [HS.out, HW.out.2.1])
      obtain ⟨tk, tw, tl⟩ := t
      simp only at hen hin HEN c0 c1 c2
      generalize D.enI x tw = y2 at *
      clear hj hlt hok
      have HB2 := Lib.hid (show Below w.heap.size w (wr.alloc (.cells #[.int .u8 tk, .int .i64 tw, .int .i64 tl] 34)) ∧ SpRow (wr.alloc (.cells #[.int .u8 tk, .int .i64 tw, .int .i64 tl] 34)) w.heap.size ts.length ts i from ⟨HW.out.1.alloc HW.out.1.size _, HW.out.2.2.below ((Below.refl _ _).alloc (Nat.le_refl _) _)⟩)
      go_wp2_with fail
      refine (hen _).mono ?_
      rintro e w1 ⟨rfl, hb1⟩
      have hsp := HB2.out.2.below hb1
      obtain ⟨⟨x1, q1⟩, ⟨x2, q2⟩, q3⟩ := hsp.ready HL.out
      have f1 := q3 (i * 2)
      have f2 := q3 (i * 2 + 1)
      have HSP := Lib.hid (hsp.set HL.out)
      have HB3 := Lib.hid (HB2.out.1.trans (hb1.mono HB2.out.1.size))
      clear hsp q3 hb1 c0 c1 c2
      rw [← HW.out.2.1, ← HEN.out] at HSP
      go_wp2_with fail
      go_roundw
      case rel => exact ⟨i + 1, y2, by go_num, rfl, HL.out, by omega, Lib.hid ⟨(HB3.out.setCell (p := ⟨w.heap.size, _, none⟩) (Nat.le_refl _) _).setCell (p := ⟨w.heap.size, _, none⟩) (Nat.le_refl _) _, HEN.out, HSP.out⟩⟩
      case measure => have := HL.out; simp [RowKit.intOf]; omega
    · have i1 : ¬ (i : Int) < (ts.length : Int) := by omega
      obtain rfl : i = ts.length := by omega
      clear hlt
      go_wp2_with fail
      go_ret
      exact ⟨w.heap.size, rfl, Nat.le_refl _, HW.out.2.2, HW.out.1⟩
end YthglpfmbmmlbjaaDoor
end Go.Proofs
