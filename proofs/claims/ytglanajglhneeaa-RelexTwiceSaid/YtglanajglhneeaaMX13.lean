/- The scanner's table, the document's. Conditions: a state, a class of the table. -/
import Derived.Test.YtglanajglhneeaaMX11
import Derived.Test.YtglanajglhneeaaMX12
namespace Go.Proofs.Ytglanajglhneeaa
open Go Go.RowKit Go.Lib

set_option maxHeartbeats 1000000 in
set_option maxRecDepth 100000 in
theorem refStep_none (q c : Nat) (h : q ∉ [0, 1, 2, 3, 4, 5, 7, 8, 9, 10, 12, 14, 16, 18, 20, 22]) (hc : c < 24) (w : World) : Calls Try.prog 54 #[.int .i64 q, .int .i64 c] w (IntB (-1) w) := by
  have e0 : ((q : Int) == 0) = false := by simp only [List.mem_cons, not_or] at h; simp; omega
  have e1 : ((q : Int) == 1) = false := by simp only [List.mem_cons, not_or] at h; simp; omega
  have e2 : ((q : Int) == 2) = false := by simp only [List.mem_cons, not_or] at h; simp; omega
  have e3 : ((q : Int) == 3) = false := by simp only [List.mem_cons, not_or] at h; simp; omega
  have e4 : ((q : Int) == 4) = false := by simp only [List.mem_cons, not_or] at h; simp; omega
  have e5 : ((q : Int) == 5) = false := by simp only [List.mem_cons, not_or] at h; simp; omega
  have e7 : ((q : Int) == 7) = false := by simp only [List.mem_cons, not_or] at h; simp; omega
  have e8 : ((q : Int) == 8) = false := by simp only [List.mem_cons, not_or] at h; simp; omega
  have e9 : ((q : Int) == 9) = false := by simp only [List.mem_cons, not_or] at h; simp; omega
  have e10 : ((q : Int) == 10) = false := by simp only [List.mem_cons, not_or] at h; simp; omega
  have e12 : ((q : Int) == 12) = false := by simp only [List.mem_cons, not_or] at h; simp; omega
  have e14 : ((q : Int) == 14) = false := by simp only [List.mem_cons, not_or] at h; simp; omega
  have e16 : ((q : Int) == 16) = false := by simp only [List.mem_cons, not_or] at h; simp; omega
  have e18 : ((q : Int) == 18) = false := by simp only [List.mem_cons, not_or] at h; simp; omega
  have e20 : ((q : Int) == 20) = false := by simp only [List.mem_cons, not_or] at h; simp; omega
  have e22 : ((q : Int) == 22) = false := by simp only [List.mem_cons, not_or] at h; simp; omega
  have g1 : decide ((c : Int) < 0) = false := decide_eq_false (by omega)
  have g2 : decide ((23 : Int) < (c : Int)) = false := decide_eq_false (by omega)
  clear h hc
  go_enter Try.func54, Try.ntmps54
  go_wp2_with fail
  go_ret
  exact ⟨rfl, Below.refl _ _⟩
theorem refStep_any (q c : Nat) (hq : q < 35) (hc : c < 24) (w : World) : Calls Try.prog 54 #[.int .i64 q, .int .i64 c] w (IntB (D.stp q c) w) := by
  by_cases hm : q ∈ [0, 1, 2, 3, 4, 5, 7, 8, 9, 10, 12, 14, 16, 18, 20, 22]
  · simp only [List.mem_cons, List.not_mem_nil, or_false] at hm
    rcases hm with rfl | rfl | rfl | rfl | rfl | rfl | rfl | rfl | rfl | rfl | rfl | rfl | rfl | rfl | rfl | rfl
    · exact refStep_0 c hc w
    · exact refStep_1 c hc w
    · exact refStep_2 c hc w
    · exact refStep_3 c hc w
    · exact refStep_4 c hc w
    · exact refStep_5 c hc w
    · exact refStep_7 c hc w
    · exact refStep_8 c hc w
    · exact refStep_9 c hc w
    · exact refStep_10 c hc w
    · exact refStep_12 c hc w
    · exact refStep_14 c hc w
    · exact refStep_16 c hc w
    · exact refStep_18 c hc w
    · exact refStep_20 c hc w
    · exact refStep_22 c hc w
  · have hs : D.stp q c = -1 := by
      have : ∀ (q : Fin 35) (c : Fin 24), q.1 ∉ [0, 1, 2, 3, 4, 5, 7, 8, 9, 10, 12, 14, 16, 18, 20, 22] → D.stp q.1 c.1 = -1 := by decide +kernel
      exact this ⟨q, hq⟩ ⟨c, hc⟩ hm
    rw [hs]
    exact refStep_none q c hm hc w
set_option maxHeartbeats 4000000 in
set_option maxRecDepth 100000 in
theorem refKind_any (q : Nat) (hq : q < 35) (w : World) : Calls Try.prog 56 #[.int .i64 q] w (ByteB (D.kd q) w) := by
  have i1 : (0 : Int) ≤ (q : Int) := Int.natCast_nonneg q
  have i2 : (q : Int) < 35 := by omega
  have i3 : q < 35 := hq
  have g1 : decide ((q : Int) < 0) = false := decide_eq_false (by omega)
  have g2 : decide ((35 : Int) ≤ (q : Int)) = false := decide_eq_false (by omega)
  have HC := Lib.hid (int_at .u8 zsk q _ (zsk_at hq))
  clear hq
  go_enter Try.func56, Try.ntmps56
  go_upto_region 2 with (refine wpList_buildFlat rfl 98 5 35 _ rfl .u8 zsk (by kernel_rfl) (by kernel_rfl) (by kernel_rfl) (by kernel_rfl) (by decide) (by decide) (by kernel_rfl) ?_)
  generalize hW : w.alloc _ = W0
  have c1 : W0.cell? ⟨w.heap.size, q, none⟩ = some (.int .u8 (D.kd q)) := by
    rw [← hW, Lib.cell_of_heap (heap_alloc_new w _)]
    exact HC.out
  have HB := Lib.hid (show Below w.heap.size w W0 by rw [← hW]; exact (Below.refl w.heap.size w).alloc (Nat.le_refl _) _)
  clear hW
  generalize D.kd q = k at *
  go_wp2_with fail
  go_ret
  exact ⟨rfl, HB.out⟩
set_option maxHeartbeats 1000000 in
set_option maxRecDepth 100000 in
theorem ends_any (q : Nat) (hq : q < 35) (w : World) : Calls Try.prog 58 #[.int .i64 q] w (BoolB (!D.lon q) w) := by
  have HL := Lib.hid (fun c (hc : c < 24) W => refStep_any q c hq hc W)
  have HQ := Lib.hid hq
  clear hq
  generalize hb : (!D.lon q) = b
  have HB := Lib.hid hb
  clear hb
  go_enter Try.func58, Try.ntmps58
  go_wp2_with fail
  go_loopw [3] (fun p wr => ∃ i : Nat, p = .int .i64 i ∧ i ≤ 24 ∧ Hid (Below w.heap.size w wr ∧ ∀ c, c < i → D.stp q c < 0)) (fun p _ => 24 - (RowKit.intOf p).toNat)
  case atStart => exact ⟨0, rfl, Nat.zero_le _, Lib.hid ⟨Below.refl _ _, fun c h => by omega⟩⟩
  case round =>
    obtain ⟨i, rfl, hi, HR⟩ := hrel
    by_cases hlt : i < 24
    · have i1 : (i : Int) < 24 := by omega
      have HLT := Lib.hid hlt
      have hc := HL.out i hlt
      by_cases hz : 0 ≤ D.stp q i
      · have HT := Lib.hid (show b = false by rw [← HB.out]; unfold D.lon; rw [show ((List.range 24).any fun c => decide (0 ≤ D.stp q c)) = true from List.any_eq_true.2 ⟨i, List.mem_range.2 hlt, decide_eq_true hz⟩]; rfl)
        generalize D.stp q i = x at *
        clear hlt
        go_wp2_with fail
        refine (hc _).mono ?_
        rintro e w' ⟨rfl, hb⟩
        go_wp2_with fail
        go_ret
        exact ⟨by rw [HT.out]; rfl, HR.out.1.trans (hb.mono HR.out.1.size)⟩
      · have HZ := Lib.hid (show D.stp q i < 0 by omega)
        have hz2 : ¬ (0 ≤ D.stp q i) := hz
        generalize D.stp q i = x at hc hz2
        clear hlt hz
        go_wp2_with fail
        refine (hc _).mono ?_
        rintro e w' ⟨rfl, hb⟩
        go_wp2_with fail
        go_roundw
        case rel => exact ⟨i + 1, by go_num, HLT.out, Lib.hid ⟨HR.out.1.trans (hb.mono HR.out.1.size), fun c h => by by_cases e : c = i; (· subst e; exact HZ.out); (· exact HR.out.2 c (by omega))⟩⟩
        case measure => have := HLT.out; simp [RowKit.intOf]; omega
    · obtain rfl : i = 24 := by omega
      have HT := Lib.hid (show b = true by rw [← HB.out]; unfold D.lon; rw [show ((List.range 24).any fun c => decide (0 ≤ D.stp q c)) = false from by rw [List.any_eq_false]; intro c hc; have := HR.out.2 c (List.mem_range.1 hc); simpa using this]; rfl)
      clear hlt hi
      go_wp2_with fail
      go_ret
      exact ⟨by rw [HT.out]; rfl, HR.out.1⟩
end Go.Proofs.Ytglanajglhneeaa
