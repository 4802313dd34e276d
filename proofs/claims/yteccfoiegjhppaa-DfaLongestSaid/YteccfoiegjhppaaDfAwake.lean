/- The chapter's examples of tokens: awake. Conditions: none. -/
import Derived.Test.YteccfoiegjhppaaDfScan
import Derived.Test.YteccfoiegjhppaaDfWordB
namespace Go.Proofs
open Go Go.RowKit Go.Lib
namespace Yteccfoiegjhppaa
namespace D
def tl : List ByteArray := [⟨#[108, 101, 116, 32, 120]⟩, ⟨#[108, 101, 116, 115]⟩, ⟨#[47, 42, 32, 97, 32, 42, 47, 98]⟩, ⟨#[47, 42, 32, 97, 32, 42]⟩, ⟨#[34, 97, 92, 34, 98, 34, 99]⟩, ⟨#[34, 97]⟩, ⟨#[61, 61]⟩, ⟨#[38]⟩, ⟨#[35]⟩, ⟨#[255, 97]⟩, ⟨#[49, 50, 97]⟩]
def wt : List Tk := [⟨10, 3, 1⟩, ⟨6, 4, 1⟩, ⟨3, 7, 0⟩, ⟨4, 6, 1⟩, ⟨8, 6, 0⟩, ⟨9, 2, 1⟩, ⟨27, 2, 0⟩, ⟨5, 1, 1⟩, ⟨5, 1, 0⟩, ⟨5, 1, 2⟩, ⟨7, 2, 1⟩]
theorem Tk.mk_eq {a b : Tk} (h1 : a.k = b.k) (h2 : a.w = b.w) (h3 : a.l = b.l) : a = b := by cases a; cases b; cases h1; cases h2; cases h3; rfl
theorem tok_tl {i : Nat} (h : i < 11) : tok ((tl.getD i ByteArray.empty).extract 0 (tl.getD i ByteArray.empty).size) = wt.getD i ⟨0, 0, 0⟩ := by
  have h11 : i = 0 ∨ i = 1 ∨ i = 2 ∨ i = 3 ∨ i = 4 ∨ i = 5 ∨ i = 6 ∨ i = 7 ∨ i = 8 ∨ i = 9 ∨ i = 10 := by omega
  rcases h11 with rfl | rfl | rfl | rfl | rfl | rfl | rfl | rfl | rfl | rfl | rfl <;> (refine Tk.mk_eq ?_ ?_ ?_ <;> decide +kernel)
theorem tl_pos {i : Nat} (h : i < 11) : 0 < (tl.getD i ByteArray.empty).size ∧ (tl.getD i ByteArray.empty).size ≤ 100 := by
  have h11 : i = 0 ∨ i = 1 ∨ i = 2 ∨ i = 3 ∨ i = 4 ∨ i = 5 ∨ i = 6 ∨ i = 7 ∨ i = 8 ∨ i = 9 ∨ i = 10 := by omega
  rcases h11 with rfl | rfl | rfl | rfl | rfl | rfl | rfl | rfl | rfl | rfl | rfl <;> decide
theorem Wd_while : Wd ⟨#[119, 104, 105, 108, 101]⟩ = 14 := by decide +kernel
theorem Wd_9a : Wd ⟨#[57, 97]⟩ = 0 := by decide +kernel
end D
theorem tl_cell {i : Nat} (h : i < 11) : ((D.tl.map Value.string).toArray)[i]? = some (.string (D.tl.getD i ByteArray.empty)) := by
  rw [List.getElem?_toArray, List.getElem?_map, List.getD_eq_getElem?_getD]
  rw [List.getElem?_eq_getElem (show i < D.tl.length from h)]
  rfl
def wcells : Array Value := #[.int .u8 10, .int .i64 3, .int .i64 1, .int .u8 6, .int .i64 4, .int .i64 1, .int .u8 3, .int .i64 7, .int .i64 0, .int .u8 4, .int .i64 6, .int .i64 1, .int .u8 8, .int .i64 6, .int .i64 0, .int .u8 9, .int .i64 2, .int .i64 1, .int .u8 27, .int .i64 2, .int .i64 0, .int .u8 5, .int .i64 1, .int .i64 1, .int .u8 5, .int .i64 1, .int .i64 0, .int .u8 5, .int .i64 1, .int .i64 2, .int .u8 7, .int .i64 2, .int .i64 1]
theorem wt_cell {i : Nat} (h : i < 11) : wcells[i * 3]? = some (.int .u8 ((D.wt.getD i ⟨0, 0, 0⟩).k : Int)) ∧ wcells[i * 3 + 1]? = some (.int .i64 ((D.wt.getD i ⟨0, 0, 0⟩).w : Int)) ∧ wcells[i * 3 + 2]? = some (.int .i64 ((D.wt.getD i ⟨0, 0, 0⟩).l : Int)) := by
  have h11 : i = 0 ∨ i = 1 ∨ i = 2 ∨ i = 3 ∨ i = 4 ∨ i = 5 ∨ i = 6 ∨ i = 7 ∨ i = 8 ∨ i = 9 ∨ i = 10 := by omega
  rcases h11 with rfl | rfl | rfl | rfl | rfl | rfl | rfl | rfl | rfl | rfl | rfl <;> exact ⟨rfl, rfl, rfl⟩
set_option maxHeartbeats 4000000 in
set_option maxRecDepth 100000 in
theorem awake11_any (w : World) : Calls Try.prog 4 #[] w (fun e w' => e = .returned (.bool true) ∧ Below w.heap.size w w') := by
  have HS := Lib.hid scan_any
  have HC := Lib.hid class_any
  have HW := Lib.hid Word_any
  go_enter Try.func4, Try.ntmps4
  go_upto_region 3 with fail
  generalize hW : (w.alloc _).alloc _ = W0
  have HCell := Lib.hid (show ∀ i, i < 11 → W0.cell? ⟨w.heap.size, i, none⟩ = some (.string (D.tl.getD i ByteArray.empty)) ∧ W0.cell? ⟨w.heap.size + 1, i * 3, none⟩ = some (.int .u8 ((D.wt.getD i ⟨0, 0, 0⟩).k : Int)) ∧ W0.cell? ⟨w.heap.size + 1, i * 3 + 1, none⟩ = some (.int .i64 ((D.wt.getD i ⟨0, 0, 0⟩).w : Int)) ∧ W0.cell? ⟨w.heap.size + 1, i * 3 + 2, none⟩ = some (.int .i64 ((D.wt.getD i ⟨0, 0, 0⟩).l : Int)) from fun i h => by
    have h2 := wt_cell h
    have n1 : ((w.alloc (.cells (D.tl.map Value.string).toArray 9)).alloc (.cells wcells 24)).heap[w.heap.size]? = some (.cells (D.tl.map Value.string).toArray 9) := (Below.heap_alloc _ _ _ (by rw [World.size_alloc]; omega)).trans (heap_alloc_new w _)
    have n2 : ((w.alloc (.cells (D.tl.map Value.string).toArray 9)).alloc (.cells wcells 24)).heap[w.heap.size + 1]? = some (.cells wcells 24) := by
      have := heap_alloc_new (w.alloc (.cells (D.tl.map Value.string).toArray 9)) (.cells wcells 24)
      rwa [World.size_alloc] at this
    have hE : ((w.alloc (.cells (D.tl.map Value.string).toArray 9)).alloc (.cells wcells 24)) = W0 := hW
    rw [hE] at n1 n2
    rw [Lib.cell_of_heap n1, Lib.cell_of_heap n2, Lib.cell_of_heap n2, Lib.cell_of_heap n2]
    exact ⟨tl_cell h, h2⟩)
  have HB := Lib.hid (show Below w.heap.size w W0 ∧ w.heap.size + 1 < W0.heap.size by rw [← hW]; exact ⟨((Below.refl w.heap.size w).alloc (Nat.le_refl _) _).alloc (by rw [World.size_alloc]; omega) _, by rw [World.size_alloc, World.size_alloc]; omega⟩)
  clear hW
  go_wp2_with fail
  go_loopw [3] (fun p wr => ∃ i : Nat, p = .int .i64 i ∧ i ≤ 11 ∧ Hid (Below W0.heap.size W0 wr)) (fun p _ => 11 - (RowKit.intOf p).toNat)
  case atStart => exact ⟨0, rfl, Nat.zero_le _, Lib.hid (Below.refl _ _)⟩
  case round =>
    obtain ⟨i, rfl, hi, HR⟩ := hrel
    by_cases hlt : i < 11
    · have i1 : (i : Int) < 11 := by omega
      have i0 : (0 : Int) ≤ (i : Int) := Int.natCast_nonneg i
      have HLT := Lib.hid hlt
      have hts := D.tl_pos hlt
      have htk := D.tok_tl hlt
      have hc := HCell.out i hlt
      have x0 : wr.cell? ⟨w.heap.size, i, none⟩ = _ := (HR.out.cell (p := ⟨w.heap.size, _, none⟩) (by have := HB.out.2; show w.heap.size < _; omega)).trans hc.1
      generalize D.tl.getD i ByteArray.empty = tx at *
      generalize D.wt.getD i ⟨0, 0, 0⟩ = wx at *
      obtain ⟨wk, ww, wl⟩ := wx
      have hsc := fun W => HS.out tx 0 hts.1 (by omega) W
      rw [htk] at hsc
      have HC3 := Lib.hid hc.2
      clear hc htk hts
      go_wp2_with fail
      refine (hsc _).mono ?_
      rintro e w1 ⟨rfl, hb1⟩
      go_upto_region 7 with fail
      have r1 : TokRow (w1.alloc (.cells #[.int .u8 wk, .int .i64 ww, .int .i64 wl] 24)) w1.heap.size wk ww wl := heap_alloc_new w1 _
      have b1 : Below W0.heap.size W0 (w1.alloc (.cells #[.int .u8 wk, .int .i64 ww, .int .i64 wl] 24)) := (HR.out.trans (hb1.mono HR.out.size)).alloc (Nat.le_trans HR.out.size hb1.size) _
      generalize w1.alloc _ = W1 at *
      generalize w1.heap.size = N1 at *
      have hW0 := HB.out.2
      have y0 : W1.cell? ⟨w.heap.size + 1, i * 3, none⟩ = _ := (b1.cell (p := ⟨w.heap.size + 1, _, none⟩) hW0).trans HC3.out.1
      have y1 : W1.cell? ⟨w.heap.size + 1, i * 3 + 1, none⟩ = _ := (b1.cell (p := ⟨w.heap.size + 1, _, none⟩) hW0).trans HC3.out.2.1
      have y2 : W1.cell? ⟨w.heap.size + 1, i * 3 + 2, none⟩ = _ := (b1.cell (p := ⟨w.heap.size + 1, _, none⟩) hW0).trans HC3.out.2.2
      have z0 : W1.cell? ⟨N1, 0, none⟩ = some (.int .u8 wk) := by rw [Lib.cell_of_heap r1]; rfl
      have z1 : W1.cell? ⟨N1, 1, none⟩ = some (.int .i64 ww) := by rw [Lib.cell_of_heap r1]; rfl
      have z2 : W1.cell? ⟨N1, 2, none⟩ = some (.int .i64 wl) := by rw [Lib.cell_of_heap r1]; rfl
      have HBB := Lib.hid b1
      clear r1 b1 hb1 x0 hW0 hlt
      go_quiet (fail)
      go_wp2_with fail
      go_roundw
      case rel => exact ⟨i + 1, by go_num, HLT.out, Lib.hid (HBB.out.trans ⟨rfl, rfl, rfl, Nat.le_refl _, fun _ _ => rfl⟩)⟩
      case measure => have := HLT.out; simp [RowKit.intOf]; omega
    · obtain rfl : i = 11 := by omega
      have h1 := fun W => HC.out 34 (by omega) W
      have h2 := fun W => HW.out ⟨#[119, 104, 105, 108, 101]⟩ (by decide) W
      have h3 := fun W => HW.out ⟨#[57, 97]⟩ (by decide) W
      rw [D.Wd_while] at h2
      rw [D.Wd_9a] at h3
      have h1' : ∀ W, Calls Try.prog 7 #[.int .i32 34] W (IntB 5 W) := h1
      clear h1 hlt hi
      go_wp2_with fail
      refine (h1' _).mono ?_
      rintro e w1 ⟨rfl, hb1⟩
      go_wp2_with fail
      refine (h2 _).mono ?_
      rintro e w2 ⟨rfl, hb2⟩
      go_wp2_with fail
      refine (h3 _).mono ?_
      rintro e w3 ⟨rfl, hb3⟩
      go_wp2_with fail
      go_ret
      have b0 := HB.out.1.trans (HR.out.mono HB.out.1.size)
      exact ⟨rfl, (b0.trans (hb1.mono b0.size)).trans ((hb2.mono (Nat.le_trans b0.size hb1.size)).trans (hb3.mono (Nat.le_trans (Nat.le_trans b0.size hb1.size) hb2.size)))⟩
end Yteccfoiegjhppaa
end Go.Proofs
