/- The number that digits tell, at most so great. Conditions: digits alone. -/
import Derived.Test.YtmaclplhphfkiaaDoorFrAny
namespace Go.Proofs
open Go Go.RowKit Go.Lib
namespace YtmaclplhphfkiaaDoor
open F

namespace F
theorem num_le (l : Bs) : num l ≤ 262145 := by
  unfold num
  suffices h : ∀ (l : Bs) (n : Nat), n ≤ 262145 → l.foldl (fun n c => min (10 * n + (c.toNat - 48)) 262145) n ≤ 262145 from h l 0 (by decide)
  intro l
  induction l with
  | nil => intro n h; exact h
  | cons c l ih => intro n h; exact ih _ (Nat.min_le_right _ _)
theorem num_snoc (a : Bs) (c : UInt8) : num (a ++ [c]) = min (10 * num a + (c.toNat - 48)) 262145 := by
  unfold num
  rw [List.foldl_append]; rfl
end F
def NumIs (n : Nat) (w : World) (e : Ending) (w' : World) : Prop := e = .returned (.int .i64 (n : Nat)) ∧ Below w.heap.size w w'
set_option maxRecDepth 100000 in
set_option maxHeartbeats 1000000 in
theorem atMost_any (l : Bs) (hl : isNum l = true) (w : World) : Calls Tryd.prog 125 #[.string (ba l), .int .i64 262145] w (NumIs (num l) w) := by
  have hall : ∀ (pos : Nat) (h : pos < l.length), 48 ≤ (l[pos]).toNat ∧ (l[pos]).toNat ≤ 57 := fun pos h => by
    unfold isNum at hl
    rw [Bool.and_eq_true, List.all_eq_true] at hl
    have := hl.2 _ (List.getElem_mem h)
    simpa using this
  have hsz := ba_size l
  have hI0 : Hid ((w.iter (ba l) 0).heap[w.heap.size]? = some (.stringIter (ba l) 0)) := Lib.hid (heap_alloc_new w (.stringIter (ba l) 0))
  have hB0 := Lib.hid (show Below w.heap.size w (w.iter (ba l) 0) from (Below.refl w.heap.size w).alloc (Nat.le_refl _) (.stringIter (ba l) 0))
  clear hl
  go_enter Tryd.func125, Tryd.ntmps125
  go_wp2_with fail
  go_loopw [5] (fun p wr => ∃ pos : Nat, pos ≤ l.length ∧ p = .int .i64 (num (l.take pos) : Nat) ∧ Hid (wr.heap[w.heap.size]? = some (.stringIter (ba l) pos)) ∧ Hid (Below w.heap.size w wr)) (fun _ wr => l.length - posOf w.heap.size wr)
  case atStart => exact ⟨0, Nat.zero_le _, rfl, hI0, hB0⟩
  case round =>
    obtain ⟨pos, hp, rfl, HI, HB⟩ := hrel
    have HM := Lib.hid (posOf_at HI.out)
    have hn := num_le (l.take pos)
    by_cases hlt : pos < l.length
    · have hlt' : pos < (ba l).size := by rw [ba_size]; exact hlt
      have HS := Lib.hid (show num (l.take (pos + 1)) = min (10 * num (l.take pos) + ((l[pos]'hlt).toNat - 48)) 262145 by rw [List.take_add_one, List.getElem?_eq_getElem hlt]; exact num_snoc _ _)
      have hd := hall pos hlt
      obtain ⟨c, hc⟩ : ∃ c, l[pos]'hlt = c := ⟨_, rfl⟩
      have hgt := (ba_get l pos hlt').trans hc
      rw [hc] at hd HS
      have hnx := fun ty => Lib.run_next_ascii_at (P := Tryd.prog) wr w.heap.size (ba l) pos ty HI.out hlt' (by rw [hgt]; omega)
      rw [hgt] at hnx
      have HI2 := Lib.hid (Lib.iterAt_heap wr w.heap.size (ba l) pos (pos + 1) HI.out)
      have HB2 := Lib.hid (Lib.below_iterAt HB.out (Nat.le_refl _) (ba l) (pos + 1))
      have HM2 := Lib.hid (posOf_at HI2.out)
      generalize num (l.take pos) = n at *
      obtain ⟨d1, d2⟩ := hd
      clear hgt hc hall
      go_wp2_with fail
      go_roundw
      case rel => exact ⟨pos + 1, hlt, by rw [HS.out]; congr 1; omega, HI2, HB2⟩
      case measure => rw [HM.out, HM2.out]; omega
    · obtain rfl : pos = l.length := by omega
      have hnx := fun ty => Lib.run_next_end_at (P := Tryd.prog) wr w.heap.size (ba l) l.length ty HI.out (by rw [ba_size]; exact hlt)
      rw [List.take_length] at hn
      go_wp2_with fail
      go_ret
      exact ⟨by rw [List.take_length]; rfl, HB.out⟩
end YtmaclplhphfkiaaDoor
end Go.Proofs
