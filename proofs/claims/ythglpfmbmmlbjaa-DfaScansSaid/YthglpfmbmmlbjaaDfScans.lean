/- DfaScans: Word and Scan are the document's, of any string at any place. Conditions: a string of at most 10^15 bytes. -/
import Derived.Test.YthglpfmbmmlbjaaDfScan
import Derived.Test.YthglpfmbmmlbjaaDfRefScan
namespace Go.Proofs
open Go Go.RowKit Go.Lib
namespace Ythglpfmbmmlbjaa
def TrueIs (w : World) (e : Ending) (w' : World) : Prop := e = .returned (.bool true) ∧ Below w.heap.size w w'
theorem tok_has (s : ByteArray) (p : Int) (hs : s.size ≤ 1000000000000000) : ∃ b t, (∀ W, Calls Try.prog 8 #[.string s, .int .i64 p] W (TokB b t W)) ∧ (∀ W, Calls Try.prog 9 #[.string s, .int .i64 p] W (TokB b t W)) := by
  by_cases h : p < 0 ∨ (s.size : Int) ≤ p
  · exact ⟨false, ⟨0, 0, 0⟩, fun W => scan_out s p h hs W, fun W => refScan_out s p h hs W⟩
  · obtain ⟨n, rfl⟩ : ∃ n : Nat, p = (n : Int) := ⟨p.toNat, by omega⟩
    exact ⟨true, D.tok (s.extract n s.size), fun W => scan_any s n (by omega) hs W, fun W => refScan_any s n (by omega) hs W⟩
set_option maxHeartbeats 1000000 in
set_option maxRecDepth 100000 in
theorem scansLaw_any (s : ByteArray) (p : Int) (hs : s.size ≤ 1000000000000000) (_hp : -9223372036854775808 ≤ p ∧ p ≤ 9223372036854775807) (w : World) : Calls Try.prog 3 #[.string s, .int .i64 p] w (TrueIs w) := by
  obtain ⟨b, t, h1, h2⟩ := tok_has s p hs
  obtain ⟨tk, tw, tl⟩ := t
  have h3 := fun W => Word_any s hs W
  have h4 := fun W => refWord_any s hs W
  have H1 := Lib.hid h1
  have H2 := Lib.hid h2
  have H3 := Lib.hid h3
  have H4 := Lib.hid h4
  generalize D.Wd s = k at *
  clear h1 h2 h3 h4
  go_enter Try.func3, Try.ntmps3
  go_wp2_with fail
  refine (H1.out _).mono ?_
  rintro e w1 ⟨rfl, hb1⟩
  go_upto_region 2 with fail
  have r1 : TokRow (w1.alloc (.cells #[.int .u8 tk, .int .i64 tw, .int .i64 tl] 23)) w1.heap.size tk tw tl := heap_alloc_new w1 _
  have b1 : Below w.heap.size w (w1.alloc (.cells #[.int .u8 tk, .int .i64 tw, .int .i64 tl] 23)) := hb1.alloc hb1.size _
  generalize w1.alloc _ = W1 at *
  generalize w1.heap.size = N1 at *
  clear hb1
  go_wp2_with fail
  refine (H2.out _).mono ?_
  rintro e w2 ⟨rfl, hb2⟩
  go_upto_region 3 with fail
  have r2 : TokRow (w2.alloc (.cells #[.int .u8 tk, .int .i64 tw, .int .i64 tl] 23)) w2.heap.size tk tw tl := heap_alloc_new w2 _
  have r1' : TokRow (w2.alloc (.cells #[.int .u8 tk, .int .i64 tw, .int .i64 tl] 23)) N1 tk tw tl := (Below.heap_alloc w2 _ _ (by have := hb2.size; have := (Array.getElem?_eq_some_iff.1 r1).1; omega)).trans (r1.below hb2)
  have b2 : Below w.heap.size w (w2.alloc (.cells #[.int .u8 tk, .int .i64 tw, .int .i64 tl] 23)) := (b1.trans (hb2.mono b1.size)).alloc (by have := b1.size; have := hb2.size; omega) _
  generalize w2.alloc _ = W2 at *
  generalize w2.heap.size = N2 at *
  clear hb2 r1 b1
  go_wp2_with (first
    | (refine wpList_load_row rfl 23 _ rfl N1 (by rfl) 23 _ (0, 0) _ r1' Try.underlying23 rfl info_tok ?_)
    | (refine wpList_load_row rfl 23 _ rfl N2 (by rfl) 23 _ (0, 0) _ r2 Try.underlying23 rfl info_tok ?_))
  refine (H3.out _).mono ?_
  rintro e w3 ⟨rfl, hb3⟩
  go_wp2_with fail
  refine (H4.out _).mono ?_
  rintro e w4 ⟨rfl, hb4⟩
  go_wp2_with fail
  go_ret
  exact ⟨rfl, (b2.trans (hb3.mono b2.size)).trans (hb4.mono (Nat.le_trans b2.size hb3.size))⟩
end Ythglpfmbmmlbjaa
end Go.Proofs
