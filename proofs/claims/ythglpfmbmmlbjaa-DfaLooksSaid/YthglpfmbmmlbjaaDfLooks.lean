/- DfaLooks: whatever stands behind the bytes that a token has and looked at, it is the same. Conditions: strings such as an argument can be. -/
import Derived.Test.YthglpfmbmmlbjaaDfScan
import Derived.Test.YthglpfmbmmlbjaaDfAwake
import Derived.Test.YthglpfmbmmlbjaaDfMathL
namespace Go.Proofs
open Go Go.RowKit Go.Lib
namespace Ythglpfmbmmlbjaa
def TrueIs (w : World) (e : Ending) (w' : World) : Prop := e = .returned (.bool true) ∧ Below w.heap.size w w'
/-- a token's box behind an allocation -/
theorem box_new (w1 : World) (a b c : Int) : TokRow (w1.alloc (.cells #[.int .u8 a, .int .i64 b, .int .i64 c] 23)) w1.heap.size a b c := heap_alloc_new w1 _
set_option maxHeartbeats 2000000 in
set_option maxRecDepth 100000 in
theorem looksLaw_any (s : ByteArray) (p : Int) (m : ByteArray) (hs : s.size ≤ 140737488351232) (_hp : -9223372036854775808 ≤ p ∧ p ≤ 9223372036854775807) (hm : m.size ≤ 140737488351232) (w : World) : Calls Try.prog 5 #[.string s, .int .i64 p, .string m] w (TrueIs w) := by
  have HA := Lib.hid awake11_any
  have HO := Lib.hid (fun h W => scan_out s p h (by omega) W)
  have HI := Lib.hid (fun (n : Nat) (h : n < s.size) W => scan_any s n h (by omega) W)
  have HX := Lib.hid (fun (u : ByteArray) (n : Nat) (h : n < u.size) (hu : u.size ≤ 1000000000000000) W => scan_any u n h hu W)
  go_enter Try.func5, Try.ntmps5
  go_wp2_with fail
  refine (HA.out _).mono ?_
  rintro e W0 ⟨rfl, hb0⟩
  have HB0 := Lib.hid hb0
  clear hb0
  by_cases hout : p < 0 ∨ (s.size : Int) ≤ p
  · have ho := fun W => HO.out hout W
    clear hout
    go_wp2_with fail
    refine (ho _).mono ?_
    rintro e w1 ⟨rfl, hb1⟩
    go_upto_region 4 with fail
    have r1 := box_new w1 0 0 0
    have b1 := (HB0.out.trans (hb1.mono HB0.out.size)).alloc (Nat.le_trans HB0.out.size hb1.size) (.cells #[.int .u8 0, .int .i64 0, .int .i64 0] 23)
    have HBB := Lib.hid b1
    generalize w1.alloc _ = W1 at *
    generalize w1.heap.size = N1 at *
    clear b1 hb1
    have z0 : W1.cell? ⟨N1, 0, none⟩ = some (.int .u8 0) := by rw [Lib.cell_of_heap r1]; rfl
    have z1 : W1.cell? ⟨N1, 1, none⟩ = some (.int .i64 0) := by rw [Lib.cell_of_heap r1]; rfl
    have z2 : W1.cell? ⟨N1, 2, none⟩ = some (.int .i64 0) := by rw [Lib.cell_of_heap r1]; rfl
    clear r1
    go_wp2_with fail
    go_ret
    exact ⟨rfl, HBB.out⟩
  obtain ⟨n, rfl⟩ : ∃ n : Nat, p = (n : Int) := ⟨p.toNat, by omega⟩
  have hn : n < s.size := by omega
  have hz : (s.extract n s.size).size = s.size - n := by rw [ByteArray.size_extract]; omega
  have hf : 0 < (D.tok (s.extract n s.size)).w ∧ (D.tok (s.extract n s.size)).w ≤ s.size - n ∧ (D.tok (s.extract n s.size)).l ≤ 3 := by
    have h1 := D.run_fits (s.extract n s.size)
    refine ⟨(h1.2.2 (by omega)).2, by rw [hz] at h1; exact h1.2.1, ?_⟩
    show D.lk _ _ _ ≤ 3
    unfold D.lk
    split
    · omega
    · split <;> omega
  have hi := fun W => HI.out n hn W
  have hlk := D.scan_looks s m n hn
  have HU := Lib.hid (HX.out (s.extract 0 (n + (D.tok (s.extract n s.size)).w + (D.tok (s.extract n s.size)).l) ++ m) n)
  have HZ := Lib.hid (fun W => HX.out (s.extract n s.size) 0 (by omega) (by omega) W)
  have hxx : (s.extract n s.size).extract 0 (s.extract n s.size).size = s.extract n s.size := by rw [ByteArray.extract_zero_size]
  rw [hxx] at HZ
  generalize D.tok (s.extract n s.size) = t at *
  obtain ⟨tk, tw, tl⟩ := t
  simp only at hf hlk HU
  clear hout HO HI hxx
  have HN := Lib.hid hn
  have HF := Lib.hid hf
  by_cases hl : s.size < n + tw + tl
  · have e1 : (s.size : Int) < (n : Int) + (tw : Int) + (tl : Int) := by omega
    clear hlk HU HZ hl hz
    go_wp2_with fail
    refine (hi _).mono ?_
    rintro e w1 ⟨rfl, hb1⟩
    go_upto_region 4 with fail
    have r1 := box_new w1 tk tw tl
    have b1 := (HB0.out.trans (hb1.mono HB0.out.size)).alloc (Nat.le_trans HB0.out.size hb1.size) (.cells #[.int .u8 tk, .int .i64 tw, .int .i64 tl] 23)
    have HBB := Lib.hid b1
    generalize w1.alloc _ = W1 at *
    generalize w1.heap.size = N1 at *
    clear b1 hb1
    have z1 : W1.cell? ⟨N1, 1, none⟩ = some (.int .i64 tw) := by rw [Lib.cell_of_heap r1]; rfl
    have z2 : W1.cell? ⟨N1, 2, none⟩ = some (.int .i64 tl) := by rw [Lib.cell_of_heap r1]; rfl
    clear r1
    go_wp2_with fail
    go_ret
    exact ⟨rfl, HBB.out⟩
  · have hus : (s.extract 0 (n + tw + tl) ++ m).size = n + tw + tl + m.size := by rw [ByteArray.size_append, ByteArray.size_extract]; omega
    have hu := fun W => HU.out (by have := HF.out.1; omega) (by omega) W
    rw [hlk (by omega)] at hu
    have e1 : ¬ (s.size : Int) < (n : Int) + (tw : Int) + (tl : Int) := by omega
    have e2 : n + tw + tl ≤ s.size := by omega
    have e3 : n ≤ s.size := by omega
    have HUS := Lib.hid hus
    clear hlk HU hl
    go_wp2_with fail
    refine (hi _).mono ?_
    rintro e w1 ⟨rfl, hb1⟩
    go_upto_region 4 with fail
    have r1 := box_new w1 tk tw tl
    have b1 := (HB0.out.trans (hb1.mono HB0.out.size)).alloc (Nat.le_trans HB0.out.size hb1.size) (.cells #[.int .u8 tk, .int .i64 tw, .int .i64 tl] 23)
    generalize w1.alloc _ = W1 at *
    generalize w1.heap.size = N1 at *
    have z1 : W1.cell? ⟨N1, 1, none⟩ = some (.int .i64 tw) := by rw [Lib.cell_of_heap r1]; rfl
    have z2 : W1.cell? ⟨N1, 2, none⟩ = some (.int .i64 tl) := by rw [Lib.cell_of_heap r1]; rfl
    have HR1 := Lib.hid (And.intro r1 b1)
    clear r1 b1 hb1
    go_upto_region 6 with fail
    go_wp2_with fail
    refine (hu _).mono ?_
    rintro e w2 ⟨rfl, hb2⟩
    go_upto_region 7 with fail
    have r2 := box_new w2 tk tw tl
    have r1 := (Below.heap_alloc w2 (.cells #[.int .u8 tk, .int .i64 tw, .int .i64 tl] 23) N1 (by have := hb2.size; have := (Array.getElem?_eq_some_iff.1 HR1.out.1).1; omega)).trans (HR1.out.1.below hb2)
    have b2 := (HR1.out.2.trans (hb2.mono HR1.out.2.size)).alloc (Nat.le_trans HR1.out.2.size hb2.size) (.cells #[.int .u8 tk, .int .i64 tw, .int .i64 tl] 23)
    generalize w2.alloc _ = W2 at *
    generalize w2.heap.size = N2 at *
    have HR2 := Lib.hid (And.intro r1 (And.intro r2 b2))
    clear r1 r2 b2 hb2 z1 z2 HR1
    go_wp2_with fail
    refine (HZ.out _).mono ?_
    rintro e w3 ⟨rfl, hb3⟩
    go_upto_region 8 with fail
    have r3 := box_new w3 tk tw tl
    have r2 : TokRow _ N2 tk tw tl := (Below.heap_alloc w3 (.cells #[.int .u8 tk, .int .i64 tw, .int .i64 tl] 23) N2 (by have := hb3.size; have := (Array.getElem?_eq_some_iff.1 HR2.out.2.1).1; omega)).trans (TokRow.below HR2.out.2.1 hb3)
    have r1 : TokRow _ N1 tk tw tl := (Below.heap_alloc w3 (.cells #[.int .u8 tk, .int .i64 tw, .int .i64 tl] 23) N1 (by have := hb3.size; have := (Array.getElem?_eq_some_iff.1 HR2.out.1).1; omega)).trans (TokRow.below HR2.out.1 hb3)
    have b3 := (HR2.out.2.2.trans (hb3.mono HR2.out.2.2.size)).alloc (Nat.le_trans HR2.out.2.2.size hb3.size) (.cells #[.int .u8 tk, .int .i64 tw, .int .i64 tl] 23)
    generalize w3.alloc _ = W3 at *
    generalize w3.heap.size = N3 at *
    have x0 : W3.cell? ⟨N1, 0, none⟩ = some (.int .u8 tk) := by rw [Lib.cell_of_heap r1]; rfl
    have x1 : W3.cell? ⟨N1, 1, none⟩ = some (.int .i64 tw) := by rw [Lib.cell_of_heap r1]; rfl
    have x2 : W3.cell? ⟨N1, 2, none⟩ = some (.int .i64 tl) := by rw [Lib.cell_of_heap r1]; rfl
    have y0 : W3.cell? ⟨N2, 0, none⟩ = some (.int .u8 tk) := by rw [Lib.cell_of_heap r2]; rfl
    have y1 : W3.cell? ⟨N2, 1, none⟩ = some (.int .i64 tw) := by rw [Lib.cell_of_heap r2]; rfl
    have y2 : W3.cell? ⟨N2, 2, none⟩ = some (.int .i64 tl) := by rw [Lib.cell_of_heap r2]; rfl
    have z0 : W3.cell? ⟨N3, 0, none⟩ = some (.int .u8 tk) := by rw [Lib.cell_of_heap r3]; rfl
    have z1 : W3.cell? ⟨N3, 1, none⟩ = some (.int .i64 tw) := by rw [Lib.cell_of_heap r3]; rfl
    have z2 : W3.cell? ⟨N3, 2, none⟩ = some (.int .i64 tl) := by rw [Lib.cell_of_heap r3]; rfl
    have HBB := Lib.hid b3
    clear r1 r2 r3 b3 hb3 HR2
    go_wp2_with fail
    go_ret
    exact ⟨rfl, HBB.out⟩
end Ythglpfmbmmlbjaa
end Go.Proofs
