/- DfaAll: token behind token a string is gone through. Conditions: a string of at most 10^15 bytes. -/
import Derived.Test.YthglpfmbmmlbjaaDfScan
import Derived.Test.YthglpfmbmmlbjaaDfAwake
import Derived.Test.YthglpfmbmmlbjaaDfMathB
namespace Go.Proofs
open Go Go.RowKit Go.Lib
namespace Ythglpfmbmmlbjaa
def TrueIs (w : World) (e : Ending) (w' : World) : Prop := e = .returned (.bool true) ∧ Below w.heap.size w w'
namespace D
/-- of any token -/
theorem tok_fits (r : ByteArray) (h : 0 < r.size) : 0 < (tok r).w ∧ (tok r).w ≤ r.size ∧ (tok r).l ≤ 3 ∧ (tok r).w + (tok r).l ≤ r.size + 1 ∧ 0 < (tok r).k ∧ (tok r).k ≤ 40 := by
  have hf := run_fits r
  have h3 := hf.2.2 h
  have hk : ∀ q : Fin 35, q.1 ≠ 0 → 0 < kd q.1 ∧ kd q.1 ≤ 40 := by decide +kernel
  have hw : ∀ x, 0 < wrd x ∧ wrd x ≤ 40 := by
    intro x; unfold wrd; repeat' split
    all_goals decide
  unfold tok
  dsimp only
  have hl : lk r (run r).1 (run r).2 ≤ 3 ∧ (run r).2 + lk r (run r).1 (run r).2 ≤ r.size + 1 := by
    unfold lk
    split
    · omega
    · split <;> omega
  refine ⟨h3.2, hf.2.1, hl.1, hl.2, ?_⟩
  split
  · exact hw _
  · exact hk ⟨_, hf.1⟩ h3.1
end D
set_option maxHeartbeats 1000000 in
set_option maxRecDepth 100000 in
theorem allLaw_any (s : ByteArray) (hs : s.size ≤ 1000000000000000) (w : World) : Calls Try.prog 6 #[.string s] w (TrueIs w) := by
  have HS := Lib.hid (fun (p : Nat) (h : p < s.size) W => scan_any s p h hs W)
  have HO := Lib.hid (fun (p : Int) h W => scan_out s p h hs W)
  have HA := Lib.hid awake11_any
  go_enter Try.func6, Try.ntmps6
  go_wp2_with fail
  refine (HA.out _).mono ?_
  rintro e W0 ⟨rfl, hb0⟩
  have HB0 := Lib.hid hb0
  clear hb0
  by_cases hbig : 20000 < s.size
  · have i1 : (20000 : Int) < (s.size : Int) := by omega
    clear hbig
    go_wp2_with fail
    go_ret
    exact ⟨rfl, HB0.out⟩
  have i1 : ¬ (20000 : Int) < (s.size : Int) := by omega
  have i2 : s.size ≤ 20000 := by omega
  clear hbig hs
  go_wp2_with fail
  go_loopw [3] (fun p wr => ∃ i : Nat, p = .int .i64 i ∧ i ≤ s.size ∧ Hid (Below W0.heap.size W0 wr)) (fun p _ => s.size - (RowKit.intOf p).toNat)
  case atStart => exact ⟨0, rfl, Nat.zero_le _, Lib.hid (Below.refl _ _)⟩
  case round =>
    obtain ⟨i, rfl, hi, HR⟩ := hrel
    by_cases hlt : i < s.size
    · have j1 : (i : Int) < (s.size : Int) := by omega
      have hz : (s.extract i s.size).size = s.size - i := by rw [ByteArray.size_extract]; omega
      have hsc := fun W => HS.out i hlt W
      have hf := D.tok_fits (s.extract i s.size) (by omega)
      rw [hz] at hf
      have HLT := Lib.hid hlt
      generalize D.tok (s.extract i s.size) = t at *
      obtain ⟨tk, tw, tl⟩ := t
      obtain ⟨g1, g2, g3, g4, g5, g6⟩ := hf
      simp only at g1 g2 g3 g4 g5 g6
      clear hz hlt
      go_wp2_with fail
      refine (hsc _).mono ?_
      rintro e w1 ⟨rfl, hb1⟩
      go_upto_region 8 with fail
      have r1 : TokRow (w1.alloc (.cells #[.int .u8 tk, .int .i64 tw, .int .i64 tl] 23)) w1.heap.size tk tw tl := heap_alloc_new w1 _
      have b1 : Below W0.heap.size W0 (w1.alloc (.cells #[.int .u8 tk, .int .i64 tw, .int .i64 tl] 23)) := (HR.out.trans (hb1.mono HR.out.size)).alloc (Nat.le_trans HR.out.size hb1.size) _
      generalize w1.alloc _ = W1 at *
      generalize w1.heap.size = N1 at *
      have z0 : W1.cell? ⟨N1, 0, none⟩ = some (.int .u8 tk) := by rw [Lib.cell_of_heap r1]; rfl
      have z1 : W1.cell? ⟨N1, 1, none⟩ = some (.int .i64 tw) := by rw [Lib.cell_of_heap r1]; rfl
      have z2 : W1.cell? ⟨N1, 2, none⟩ = some (.int .i64 tl) := by rw [Lib.cell_of_heap r1]; rfl
      have e1 : decide ((tw : Int) ≤ 0) = false := decide_eq_false (by omega)
      have e2 : decide ((tl : Int) < 0) = false := decide_eq_false (by omega)
      have e3 : decide ((3 : Int) < (tl : Int)) = false := decide_eq_false (by omega)
      have e4 : ((tk : Int) == 0) = false := by simp; omega
      have e5 : ¬ ((s.size : Int) + 1 < (i : Int) + (tw : Int) + (tl : Int)) := by omega
      have HBB := Lib.hid b1
      clear r1 b1 hb1
      go_wp2_with fail
      go_roundw
      case rel => exact ⟨i + tw, by go_num, by omega, HBB⟩
      case measure => have := HLT.out; simp [RowKit.intOf]; omega
    · obtain rfl : i = s.size := by omega
      have ho := fun W => HO.out (s.size : Int) (Or.inr (Int.le_refl _)) W
      clear hlt
      go_wp2_with fail
      refine (ho _).mono ?_
      rintro e w1 ⟨rfl, hb1⟩
      go_wp2_with fail
      go_ret
      have b0 := HB0.out.trans (HR.out.mono HB0.out.size)
      exact ⟨rfl, (b0.trans (hb1.mono b0.size)).alloc (Nat.le_trans b0.size hb1.size) _⟩
end Ythglpfmbmmlbjaa
end Go.Proofs
