/- The document's own answers of layer 9: lines and places. Conditions: a text of at most 10^9 bytes. -/
import Derived.Test.YtjeopabnddekgaaDoorMQ06
namespace Go.Proofs.YtjeopabnddekgaaDoor
open Go Go.RowKit Go.Shelf Go.Lib

def StRef (x : ByteArray) (i : Int) (w : World) (e : Ending) (w' : World) : Prop := e = .returned (.tuple #[.int .i64 (if 0 ≤ i ∧ i < (L.mny x : Int) then L.fr x i.toNat else 0 : Nat), .bool (decide (0 ≤ i ∧ i < (L.mny x : Int)))]) ∧ Below w.heap.size w w'
set_option maxHeartbeats 1000000 in
set_option maxRecDepth 100000 in
theorem refStart_any (x : ByteArray) (i : Int) (w : World) (hs : x.size ≤ 1000000000) : Calls Tryd.prog 19 #[.string x, .int .i64 i] w (StRef x i w) := by
  have hst := Lib.hid (fun W => refStarts_any x W (by omega))
  have hm := L.mny_le x
  unfold StRef
  by_cases h : 0 ≤ i ∧ i < (L.mny x : Int)
  · rw [if_pos h, decide_eq_true h]
    obtain ⟨n, rfl⟩ : ∃ n : Nat, i = (n : Nat) := ⟨i.toNat, by omega⟩
    rw [show ((n : Nat) : Int).toNat = n by omega]
    have hn : n < L.mny x := by omega
    have j1 : (0 : Int) ≤ (n : Int) := by omega
    have j2 : (n : Int) < (L.mny x : Int) := by omega
    have j3 : (L.mny x : Int) ≤ 1000000001 := by omega
    obtain ⟨f, hf⟩ : ∃ f, L.fr x n = f := ⟨_, rfl⟩
    rw [hf]
    clear h hm hs
    go_enter Tryd.func19, Tryd.ntmps19
    go_wp2_with fail
    refine (hst.out _).mono ?_
    rintro e w2 ⟨g, cap, rfl, hown, hB2⟩
    have H2 := Lib.hid hB2
    have c0 := offs_cell hown hn
    rw [hf] at c0
    clear hown hB2 hf
    generalize L.mny x = m at *
    go_wp2_with fail
    go_ret2
    exact ⟨rfl, H2.out⟩
  · rw [if_neg h, decide_eq_false h]
    have j3 : (L.mny x : Int) ≤ 1000000001 := by omega
    by_cases h0 : i < 0
    all_goals
      have h1 : i < 0 ∨ (L.mny x : Int) ≤ i := by omega
      clear h hm hs
      go_enter Tryd.func19, Tryd.ntmps19
      go_wp2_with fail
      refine (hst.out _).mono ?_
      rintro e w2 ⟨g, cap, rfl, hown, hB2⟩
      have H2 := Lib.hid hB2
      have h2 : 0 ≤ i → (L.mny x : Int) ≤ i := by omega
      have j4 : (0 : Int) ≤ (L.mny x : Int) := by omega
      clear hown hB2 h1
      generalize L.mny x = m at *
      first
        | (have h3 := h2 (by omega)
           go_wp2_with fail
           go_ret2
           exact ⟨rfl, H2.out⟩)
        | (go_wp2_with fail
           go_ret2
           exact ⟨rfl, H2.out⟩)
set_option maxHeartbeats 1000000 in
set_option maxRecDepth 100000 in
theorem refOff9_any (x : ByteArray) (l c : Int) (w : World) (hs : x.size ≤ 1000000000) : Calls Tryd.prog 21 #[.string x, .agg #[.int .i64 l, .int .i64 c]] w (IntIs (ofs x l c) w) := by
  have HO := Lib.hid (fun W => refOffset_any x l c W (by omega))
  have hBb := (Below.refl w.heap.size w).alloc (Nat.le_refl _) (.cells #[.int .i64 l, .int .i64 c] 38)
  have hr0 : (w.alloc (.cells #[.int .i64 l, .int .i64 c] 38)).heap[w.heap.size]? = some (.cells #[.int .i64 l, .int .i64 c] 38 (0, 0)) := heap_alloc_new _ _
  have H0 := Lib.hid (And.intro hBb hr0)
  clear hBb hr0
  go_enter Tryd.func21, Tryd.ntmps21
  go_upto_region 1 with fail
  generalize w.alloc (.cells #[.int .i64 l, .int .i64 c] 38) = W0 at *
  obtain ⟨p1, p2⟩ : W0.cell? ⟨w.heap.size, 0, none⟩ = some (.int .i64 l) ∧ W0.cell? ⟨w.heap.size, 1, none⟩ = some (.int .i64 c) := by
    refine ⟨?_, ?_⟩ <;> (rw [Lib.cell_of_heap H0.out.2]; rfl)
  go_wp2_with fail
  refine (HO.out _).mono ?_
  rintro e w2 ⟨rfl, hB⟩
  have H2 := Lib.hid (H0.out.1.trans (hB.mono H0.out.1.size))
  clear hB
  go_wp2_with fail
  go_ret
  exact ⟨rfl, H2.out⟩
theorem info_pos10 : (Tryd.prog.info? 38).map (·.size) = some 2 := by kernel_rfl
set_option maxHeartbeats 1000000 in
set_option maxRecDepth 100000 in
theorem refPos9_any (x : ByteArray) (i : Int) (w : World) (hs : x.size ≤ 1000000000) : Calls Tryd.prog 23 #[.string x, .int .i64 i] w (PosIs x (bgnAt x i) w) := by
  have HO := Lib.hid (fun W => refPos_any x i W (by omega))
  unfold PosIs at HO ⊢
  generalize ((posL x (bgnAt x i) : Nat) : Int) = a at *
  generalize ((posC x (bgnAt x i) : Nat) : Int) = c at *
  have hBb := (Below.refl w.heap.size w).alloc (Nat.le_refl _) (.cells #[.int .i64 0, .int .i64 0] 38)
  have hr0 : (w.alloc (.cells #[.int .i64 0, .int .i64 0] 38)).heap[w.heap.size]? = some (.cells #[.int .i64 0, .int .i64 0] 38 (0, 0)) := heap_alloc_new _ _
  have H0 := Lib.hid (And.intro hBb (And.intro hr0 (World.size_alloc w (.cells #[.int .i64 0, .int .i64 0] 38))))
  clear hBb hr0
  go_enter Tryd.func23, Tryd.ntmps23
  go_upto_region 1 with fail
  generalize w.alloc (.cells #[.int .i64 0, .int .i64 0] 38) = W0 at *
  go_wp2_with fail
  refine (HO.out _).mono ?_
  rintro e w2 ⟨rfl, hB⟩
  have hr : w2.heap[w.heap.size]? = some (.cells #[.int .i64 0, .int .i64 0] 38 (0, 0)) := (hB.block w.heap.size (by have := H0.out.2.2; omega)).trans H0.out.2.1
  have H2 := Lib.hid (below_setRow (cs := #[Value.int .i64 a, Value.int .i64 c]) (H0.out.1.trans (hB.mono H0.out.1.size)) (Nat.le_refl w.heap.size))
  have hrs : (w2.setRow w.heap.size #[Value.int .i64 a, Value.int .i64 c]).heap[w.heap.size]? = some (.cells #[Value.int .i64 a, Value.int .i64 c] 38 (0, 0)) := by
    simp [World.setRow, Array.getElem?_modify, hr]
  have HR := Lib.hid hrs
  clear hB hrs
  go_wp2_with (refine wpList_store_row rfl 38 _ _ rfl w.heap.size #[.int .i64 a, .int .i64 c] (by rfl) (by rfl) 38 _ hr info_pos10 rfl (by simp [Value.oneCell']) ?_)
  exact bodyPost_ret (results_cell_row (by rfl) _ _ w.heap.size 38 _ (0, 0) _ (by rfl) HR.out Tryd.underlying38 rfl info_pos10) rfl ⟨rfl, H2.out⟩
end Go.Proofs.YtjeopabnddekgaaDoor
