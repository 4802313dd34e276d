/- Of relex: measure, lies, fault. Conditions: tokens of a text, spans that lie in it. -/
import Derived.Test.YtglanajglhneeaaMX35
namespace Go.Proofs
open Go Go.RowKit Go.Lib
namespace Ytglanajglhneeaa
set_option maxHeartbeats 2000000 in
set_option maxRecDepth 100000 in
theorem measure_any (v : Value) (ts : List D.Tk) (w : World) (h : RdT w v (ts.map D.Tk.i)) (hf : D.Fine ts) : Calls Try.prog 59 #[v] w (fun e w' => e = .returned (.tuple #[.int .i64 (D.bg ts ts.length : Int), .bool true]) ∧ Below w.heap.size w w') := by
  have HRd := Lib.hid h
  have HF := Lib.hid hf
  obtain ⟨z, cap, rfl, hlc, hcap, hlen, _, _⟩ := h
  have hl0 := hf.1
  rw [List.length_map] at *
  clear hf
  have j1 : ¬ (1048576 : Int) < (ts.length : Int) := by omega
  go_enter Try.func59, Try.ntmps59
  go_wp2_with fail
  go_loopw [2, 11] (fun a b wr => ∃ (i x : Nat), a = .int .i64 x ∧ b = .int .i64 i ∧ i ≤ ts.length ∧ x ≤ 20000 ∧ Hid (Below w.heap.size w wr ∧ x = D.bg ts i)) (fun _ b _ => ts.length - (RowKit.intOf b).toNat)
  case atStart => exact ⟨0, 0, rfl, rfl, Nat.zero_le _, Nat.zero_le _, Lib.hid ⟨Below.refl _ _, (D.bg_zero ts).symm⟩⟩
  case round =>
    obtain ⟨i, x, rfl, rfl, hi, hx, HW⟩ := hrel
    by_cases hlt : i < ts.length
    · obtain ⟨t, ht⟩ : ∃ t, ts[i]? = some t := ⟨_, List.getElem?_eq_getElem hlt⟩
      have hat := HF.out.at ht
      rw [← HW.out.2] at hat
      obtain ⟨b, o, rfl, _, c0, c1, c2⟩ := (HRd.out.below HW.out.1).tk ht
      have i1 : (i : Int) < (ts.length : Int) := by omega
      have i0 : (0 : Int) ≤ (i : Int) := Int.natCast_nonneg i
      have i3 : (i : Int) ≤ 1000000000000000 := by omega
      have i4 : i < ts.length := hlt
      have HX := Lib.hid (And.intro ht hat)
      obtain ⟨tk, tw, tl⟩ := t
      simp only at c0 c1 c2 hat
      have hb := hat.2.2
      have hw2 := hat.1
      have e1 : ¬ (tw : Int) < 1 := by omega
      have e2 : ¬ (1099511627776 : Int) < (tw : Int) := by omega
      have e3 : ¬ (tl : Int) < 0 := by omega
      have e4 : ¬ (1099511627776 : Int) < (tl : Int) := by omega
      clear ht hat hlt
      go_upto_region 6 with fail
      have n0 : (wr.alloc (.cells #[.int .u8 (tk : Int), .int .i64 (tw : Int), .int .i64 (tl : Int)] 24)).heap[wr.heap.size]? = some (.cells #[.int .u8 (tk : Int), .int .i64 (tw : Int), .int .i64 (tl : Int)] 24 (0, 0)) := heap_alloc_new wr _
      have hbw : Below w.heap.size w (wr.alloc (.cells #[.int .u8 (tk : Int), .int .i64 (tw : Int), .int .i64 (tl : Int)] 24)) := HW.out.1.alloc HW.out.1.size _
      have HB := Lib.hid hbw
      generalize wr.alloc _ = W1 at *
      generalize wr.heap.size = N1 at *
      have y1 : W1.cell? ⟨N1, 1, none⟩ = some (.int .i64 (tw : Int)) := by rw [Lib.cell_of_heap n0]; rfl
      have y2 : W1.cell? ⟨N1, 2, none⟩ = some (.int .i64 (tl : Int)) := by rw [Lib.cell_of_heap n0]; rfl
      clear n0 hbw
      go_wp2_with fail
      go_roundw
      case rel => exact ⟨i + 1, x + tw, by go_num, by go_num, i4, by omega, Lib.hid ⟨HB.out, HX.out.2.2.1.symm⟩⟩
      case measure => simp [RowKit.intOf]; omega
    · have e1 : ¬ (i : Int) < (ts.length : Int) := by omega
      have HY := Lib.hid (show x = D.bg ts ts.length by rw [HW.out.2]; congr 1; omega)
      clear hlt
      go_wp2_with fail
      go_ret2
      exact ⟨by rw [← HY.out]; rfl, HW.out.1⟩
set_option maxHeartbeats 2000000 in
set_option maxRecDepth 100000 in
theorem lies_any (f k n : Nat) (h1 : f ≤ k) (h2 : k ≤ n) (h3 : n ≤ 1000000) (w : World) : Calls Try.prog 60 #[.agg #[.int .i64 f, .int .i64 k], .int .i64 n] w (fun e w' => e = .returned (.bool true) ∧ Below w.heap.size w w') := by
  go_enter Try.func60, Try.ntmps60
  go_upto_region 1 with fail
  have n0 : (w.alloc (.cells #[.int .i64 (f : Int), .int .i64 (k : Int)] 32)).heap[w.heap.size]? = some (.cells #[.int .i64 (f : Int), .int .i64 (k : Int)] 32 (0, 0)) := heap_alloc_new w _
  have hbw : Below w.heap.size w (w.alloc (.cells #[.int .i64 (f : Int), .int .i64 (k : Int)] 32)) := (Below.refl _ _).alloc (Nat.le_refl _) _
  have HB := Lib.hid hbw
  generalize w.alloc _ = W1 at *
  have y0 : W1.cell? ⟨w.heap.size, 0, none⟩ = some (.int .i64 (f : Int)) := by rw [Lib.cell_of_heap n0]; rfl
  have y1 : W1.cell? ⟨w.heap.size, 1, none⟩ = some (.int .i64 (k : Int)) := by rw [Lib.cell_of_heap n0]; rfl
  have i0 : (0 : Int) ≤ (f : Int) := Int.natCast_nonneg f
  have i1 : (f : Int) ≤ (k : Int) := by omega
  have i2 : (k : Int) ≤ (n : Int) := by omega
  clear n0 hbw h1 h2
  go_wp2_with fail
  go_ret
  exact ⟨rfl, HB.out⟩
set_option maxHeartbeats 2000000 in
set_option maxRecDepth 100000 in
theorem fault_any (v : Value) (ts : List D.Tk) (t : ByteArray) (oF oT nT : Nat) (w : World) (h : RdT w v (ts.map D.Tk.i)) (hf : D.Fine ts) (h1 : oF ≤ oT) (h2 : oT ≤ D.bg ts ts.length) (h3 : oF ≤ nT) (h4 : nT ≤ t.size) (h5 : D.bg ts ts.length + nT = t.size + oT) (ht : t.size ≤ 1000000) : Calls Try.prog 35 #[v, .string t, .agg #[.int .i64 oF, .int .i64 oT], .agg #[.int .i64 oF, .int .i64 nT]] w (fun e w' => e = .returned (.int .i64 0) ∧ Below w.heap.size w w') := by
  have hL := hf.2.2.1
  have HM := Lib.hid (fun W (hB : Below w.heap.size w W) => measure_any v ts W (h.below hB) hf)
  clear h hf
  generalize D.bg ts ts.length = n at *
  have HLi := Lib.hid (fun W => lies_any oF oT n h1 h2 (by omega) W)
  have HLi2 := Lib.hid (fun W => lies_any oF nT t.size h3 h4 ht W)
  go_enter Try.func35, Try.ntmps35
  go_upto_region 1 with fail
  have n0 : ((w.alloc (.cells #[.int .i64 (oF : Int), .int .i64 (oT : Int)] 32)).alloc (.cells #[.int .i64 (oF : Int), .int .i64 (nT : Int)] 32)).heap[w.heap.size]? = some (.cells #[.int .i64 (oF : Int), .int .i64 (oT : Int)] 32 (0, 0)) := (heap_alloc_old _ _ (by simp)).trans (heap_alloc_new w _)
  have n1 : ((w.alloc (.cells #[.int .i64 (oF : Int), .int .i64 (oT : Int)] 32)).alloc (.cells #[.int .i64 (oF : Int), .int .i64 (nT : Int)] 32)).heap[w.heap.size + 1]? = some (.cells #[.int .i64 (oF : Int), .int .i64 (nT : Int)] 32 (0, 0)) := by
    have := heap_alloc_new (w.alloc (.cells #[.int .i64 (oF : Int), .int .i64 (oT : Int)] 32)) (.cells #[.int .i64 (oF : Int), .int .i64 (nT : Int)] 32)
    rwa [World.size_alloc] at this
  have hbw : Below w.heap.size w ((w.alloc (.cells #[.int .i64 (oF : Int), .int .i64 (oT : Int)] 32)).alloc (.cells #[.int .i64 (oF : Int), .int .i64 (nT : Int)] 32)) := ((Below.refl _ _).alloc (Nat.le_refl _) _).alloc (by simp) _
  generalize (w.alloc _).alloc _ = W1 at *
  go_wp2_with fail
  refine (HM.out _ hbw).mono ?_
  rintro e w2 ⟨rfl, hb2⟩
  have r0 := (hb2.block _ (Array.getElem?_eq_some_iff.1 n0).1).trans n0
  have r1 := (hb2.block _ (Array.getElem?_eq_some_iff.1 n1).1).trans n1
  have HB := Lib.hid (hbw.trans (hb2.mono hbw.size))
  clear n0 n1 hbw hb2
  have y0 : w2.cell? ⟨w.heap.size, 0, none⟩ = some (.int .i64 (oF : Int)) := by rw [Lib.cell_of_heap r0]; rfl
  have y1 : w2.cell? ⟨w.heap.size, 1, none⟩ = some (.int .i64 (oT : Int)) := by rw [Lib.cell_of_heap r0]; rfl
  have y2 : w2.cell? ⟨w.heap.size + 1, 0, none⟩ = some (.int .i64 (oF : Int)) := by rw [Lib.cell_of_heap r1]; rfl
  have y3 : w2.cell? ⟨w.heap.size + 1, 1, none⟩ = some (.int .i64 (nT : Int)) := by rw [Lib.cell_of_heap r1]; rfl
  go_wp2_with fail
  refine (HLi.out _).mono ?_
  rintro e w3 ⟨rfl, hb3⟩
  have s0 := (hb3.block _ (Array.getElem?_eq_some_iff.1 r0).1).trans r0
  have s1 := (hb3.block _ (Array.getElem?_eq_some_iff.1 r1).1).trans r1
  have HB3 := Lib.hid (HB.out.trans (hb3.mono HB.out.size))
  clear y0 y1 y2 y3 r0 r1 hb3
  have y0 : w3.cell? ⟨w.heap.size, 0, none⟩ = some (.int .i64 (oF : Int)) := by rw [Lib.cell_of_heap s0]; rfl
  have y1 : w3.cell? ⟨w.heap.size, 1, none⟩ = some (.int .i64 (oT : Int)) := by rw [Lib.cell_of_heap s0]; rfl
  have y2 : w3.cell? ⟨w.heap.size + 1, 0, none⟩ = some (.int .i64 (oF : Int)) := by rw [Lib.cell_of_heap s1]; rfl
  have y3 : w3.cell? ⟨w.heap.size + 1, 1, none⟩ = some (.int .i64 (nT : Int)) := by rw [Lib.cell_of_heap s1]; rfl
  go_wp2_with fail
  refine (HLi2.out _).mono ?_
  rintro e w4 ⟨rfl, hb4⟩
  have q0 := (hb4.block _ (Array.getElem?_eq_some_iff.1 s0).1).trans s0
  have q1 := (hb4.block _ (Array.getElem?_eq_some_iff.1 s1).1).trans s1
  have HB4 := Lib.hid (HB3.out.trans (hb4.mono HB3.out.size))
  clear y0 y1 y2 y3 s0 s1 hb4
  have y0 : w4.cell? ⟨w.heap.size, 0, none⟩ = some (.int .i64 (oF : Int)) := by rw [Lib.cell_of_heap q0]; rfl
  have y1 : w4.cell? ⟨w.heap.size, 1, none⟩ = some (.int .i64 (oT : Int)) := by rw [Lib.cell_of_heap q0]; rfl
  have y2 : w4.cell? ⟨w.heap.size + 1, 0, none⟩ = some (.int .i64 (oF : Int)) := by rw [Lib.cell_of_heap q1]; rfl
  have y3 : w4.cell? ⟨w.heap.size + 1, 1, none⟩ = some (.int .i64 (nT : Int)) := by rw [Lib.cell_of_heap q1]; rfl
  have e1 : (n : Int) - (oT : Int) = (t.size : Int) - (nT : Int) := by omega
  go_wp2_with fail
  go_ret
  exact ⟨rfl, HB4.out⟩
end Ytglanajglhneeaa
end Go.Proofs
