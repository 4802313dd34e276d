/- Of the law DfaLongest: sign, character. Conditions: strings of at most 10^12 bytes. -/
import Derived.Test.YteccfoiegjhppaaDlQuo
import Derived.Laws.RangeAny
namespace Go.Proofs
open Go Go.RowKit Go.Lib
namespace Yteccfoiegjhppaa
theorem sgl_cell {i : Nat} (h : i < 21) : ((D.sgl.map Value.string).toArray)[i]? = some (.string (D.sgl.getD i ByteArray.empty)) := by
  rw [List.getElem?_toArray, List.getElem?_map, List.getElem?_eq_getElem (by exact h), List.getD_eq_getElem?_getD, List.getElem?_eq_getElem (by exact h)]; rfl
set_option maxHeartbeats 4000000 in
set_option maxRecDepth 100000 in
theorem sign9_any (s : ByteArray) (w : World) : Calls Try.prog 17 #[.string s] w (fun e w' => e = .returned (.int .u8 (D.sgn s : Int)) ∧ Below w.heap.size w w') := by
  generalize hk : D.sgn s = k
  unfold D.sgn at hk
  have HK := Lib.hid hk
  clear hk
  go_enter Try.func17, Try.ntmps17
  go_upto_region 2 with fail
  generalize hW : w.alloc _ = W0
  have HCell := Lib.hid (show ∀ i, i < 21 → W0.cell? ⟨w.heap.size, i, none⟩ = some (.string (D.sgl.getD i ByteArray.empty)) from fun i h => by
    rw [← hW, Lib.cell_of_heap (heap_alloc_new w _)]
    exact sgl_cell h)
  have HB := Lib.hid (show Below w.heap.size w W0 ∧ w.heap.size < W0.heap.size by rw [← hW]; exact ⟨(Below.refl w.heap.size w).alloc (Nat.le_refl _) _, by rw [World.size_alloc]; omega⟩)
  clear hW
  generalize hm : w.heap.size = m1 at *
  go_wp2_with fail
  go_loopw [4] (fun v wx => ∃ i : Nat, v = .int .i64 i ∧ i ≤ 21 ∧ Hid (wx = W0 ∧ D.sgf s (21 - i) i = k)) (fun v _ => 21 - (RowKit.intOf v).toNat)
  case atStart => exact ⟨0, rfl, Nat.zero_le _, Lib.hid ⟨rfl, HK.out⟩⟩
  case round =>
    obtain ⟨i, rfl, hi, HR⟩ := hrel
    obtain rfl : wr = W0 := HR.out.1
    by_cases hlt : i < 21
    · have i1 : (i : Int) < 21 := by omega
      have i0 : (0 : Int) ≤ (i : Int) := Int.natCast_nonneg i
      have c1 := HCell.out i hlt
      have HLT := Lib.hid hlt
      have HU := Lib.hid (show D.sgf s (21 - i) i = (if s.toList = (D.sgl.getD i ByteArray.empty).toList then 20 + i else D.sgf s (21 - (i + 1)) (i + 1)) by rw [show 21 - i = (21 - (i + 1)) + 1 by omega]; rfl)
      by_cases he : s.toList = (D.sgl.getD i ByteArray.empty).toList
      · have HX := Lib.hid (show k = 20 + i by rw [← HR.out.2, HU.out, if_pos he])
        generalize D.sgl.getD i ByteArray.empty = x at *
        have ee : (x.toList == s.toList) = true := by rw [he, beq_self_eq_true]
        clear he hlt hi
        go_wp2_with fail
        go_ret
        rw [HX.out]
        have h20 := HLT.out
        exact ⟨by go_num, HB.out.1⟩
      · have HE := Lib.hid (show D.sgf s (21 - (i + 1)) (i + 1) = k by rw [← HR.out.2, HU.out, if_neg he])
        generalize D.sgl.getD i ByteArray.empty = x at *
        have ee : (x.toList == s.toList) = false := by rw [beq_eq_false_iff_ne]; exact fun h => he h.symm
        clear he hlt hi
        go_wp2_with fail
        go_roundw
        case rel => exact ⟨i + 1, by go_num, HLT.out, Lib.hid ⟨by first | rfl | trivial, HE.out⟩⟩
        case measure => have := HLT.out; simp [RowKit.intOf]; omega
    · obtain rfl : i = 21 := by omega
      have HX := Lib.hid (show k = 0 by rw [← HR.out.2]; rfl)
      go_wp2_with fail
      go_ret
      rw [HX.out]
      exact ⟨rfl, HB.out.1⟩
set_option maxHeartbeats 2000000 in
set_option maxRecDepth 100000 in
theorem character_any (s : ByteArray) (hs : s.size ≤ 1000000000000) (w : World) : Calls Try.prog 18 #[.string s] w (BoolB (D.chr1 s) w) := by
  generalize hk : D.chr1 s = r
  unfold D.chr1 at hk
  have HL := Lib.hid (D.cnt_le s s.size 0 (Nat.zero_le _))
  generalize hT : D.cnt s s.size 0 = T at *
  have HK := Lib.hid hk
  have HC := Lib.hid hT
  clear hT hk
  go_enter Try.func18, Try.ntmps18
  go_wp2_with fail
  go_loopw [3] (fun v wr => ∃ (f n pos : Nat), v = .int .i64 n ∧ n ≤ s.size ∧ Hid (wr.heap[w.heap.size]? = some (.stringIter s pos)) ∧ pos ≤ s.size ∧ Hid (n + D.cnt s f pos = T ∧ s.size ≤ pos + f ∧ n ≤ pos) ∧ Below w.heap.size w wr) (fun _ wr => s.size - wr.iterPos w.heap.size)
  case atStart => exact ⟨s.size, 0, 0, rfl, Nat.zero_le _, Lib.hid (World.iter_heap _ _ _), by omega, Lib.hid ⟨by have := HC.out; omega, by omega, Nat.le_refl _⟩, (Below.refl w.heap.size w).alloc (Nat.le_refl _) _⟩
  case round =>
    obtain ⟨f, n, pos, rfl, hn, HI, hp, HU, hbl⟩ := hrel
    have HM := Lib.hid (iterPos_of HI.out)
    have n0 : (0 : Int) ≤ (n : Int) := Int.natCast_nonneg n
    by_cases hlt : pos < s.size
    · have hw1 := U.wd_pos hlt
      have hw2 := U.wd_le hlt
      obtain ⟨f', rfl⟩ : ∃ f', f = f' + 1 := ⟨f - 1, by have := HU.out.2; omega⟩
      have hnx : ∀ ty, (Instr.next (.pointer (some ⟨w.heap.size, 0, none⟩)) true ty).run Try.prog wr = .ok (.tuple #[.bool true, .int .i64 pos, .int .i32 (U.ch s pos)]) (wr.iterAt w.heap.size s (pos + U.wd s pos)) := fun ty => Lib.run_next_any_at wr _ s pos ty HI.out hlt
      have hI1 := Lib.hid (Lib.iterAt_heap wr _ s pos (pos + U.wd s pos) HI.out)
      have hbl1 := Lib.below_iterAt hbl (Nat.le_refl _) s (pos + U.wd s pos)
      have HM1 := Lib.hid (iterPos_of hI1.out)
      have HS := Lib.hid (D.cnt_step s f' pos hlt)
      have HLT := Lib.hid (And.intro hlt (And.intro hw1 hw2))
      generalize hd : U.wd s pos = d at *
      generalize U.ch s pos = rr at *
      clear hbl hd
      go_wp2_with fail
      go_roundw
      case rel => exact ⟨f', n + 1, pos + d, by go_num, by have := HU.out; have := HLT.out; omega, hI1, HLT.out.2.2, Lib.hid ⟨by have := HU.out.1; rw [HS.out] at this; omega, by have := HU.out.2; have := HLT.out.2.1; omega, by have := HU.out.2; have := HLT.out.2.1; omega⟩, hbl1⟩
      case measure => rw [HM1.out, HM.out]; have := HLT.out; omega
    · have hnx : ∀ ty, (Instr.next (.pointer (some ⟨w.heap.size, 0, none⟩)) true ty).run Try.prog wr = _ := fun ty => Lib.run_next_end_at wr _ s pos ty HI.out hlt
      have HE := Lib.hid (show n = T by have := HU.out.1; rw [D.cnt_end s f pos hlt] at this; exact this)
      cases r
      · have hne : n ≠ 1 := fun e => by have := HK.out; rw [← HE.out, e] at this; exact absurd this (by decide)
        have e1 : ((n : Int) == 1) = false := by rw [beq_eq_false_iff_ne]; omega
        clear hne
        go_wp2_with fail
        go_ret
        exact ⟨rfl, hbl⟩
      · have hne : n = 1 := by have := HK.out; rw [← HE.out] at this; exact of_decide_eq_true this
        subst hne
        go_wp2_with fail
        go_ret
        exact ⟨rfl, hbl⟩
end Yteccfoiegjhppaa
end Go.Proofs
