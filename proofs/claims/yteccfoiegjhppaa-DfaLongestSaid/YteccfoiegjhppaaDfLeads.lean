/- The scanner's steps, the program's own: where a state leads, state by state. Conditions: a state, a class of the table. -/
import Derived.Test.YteccfoiegjhppaaDfLeads1
import Derived.Test.YteccfoiegjhppaaDfLeads2
import Derived.Test.YteccfoiegjhppaaDfLeads3
import Derived.Test.YteccfoiegjhppaaDfLeads4
namespace Go.Proofs.Yteccfoiegjhppaa
open Go Go.RowKit Go.Lib

set_option maxHeartbeats 1000000 in
set_option maxRecDepth 100000 in
theorem leads_none (q c : Nat) (h : q ∉ [0, 1, 2, 3, 4, 5, 7, 8, 9, 10, 12, 14, 16, 18, 20, 22]) (w : World) : Calls Try.prog 20 #[.int .i64 q, .int .i64 c] w (IntB (-1) w) := by
  have e0 : ((q : Int) == 0) = false := by simp only [List.mem_cons, not_or] at h; simp; omega
  have e1 : ((q : Int) == 1) = false := by simp only [List.mem_cons, not_or] at h; simp; omega
  have e2 : ((q : Int) == 2) = false := by simp only [List.mem_cons, not_or] at h; simp; omega
  have e3 : ((q : Int) == 3) = false := by simp only [List.mem_cons, not_or] at h; simp; omega
  have e4 : ((q : Int) == 4) = false := by simp only [List.mem_cons, not_or] at h; simp; omega
  have e5 : ((q : Int) == 5) = false := by simp only [List.mem_cons, not_or] at h; simp; omega
  have e7 : ((q : Int) == 7) = false := by simp only [List.mem_cons, not_or] at h; simp; omega
  have e8 : ((q : Int) == 8) = false := by simp only [List.mem_cons, not_or] at h; simp; omega
  have e9 : ((q : Int) == 9) = false := by simp only [List.mem_cons, not_or] at h; simp; omega
  have e10 : ((q : Int) == 10) = false := by simp only [List.mem_cons, not_or] at h; simp; omega
  have e12 : ((q : Int) == 12) = false := by simp only [List.mem_cons, not_or] at h; simp; omega
  have e14 : ((q : Int) == 14) = false := by simp only [List.mem_cons, not_or] at h; simp; omega
  have e16 : ((q : Int) == 16) = false := by simp only [List.mem_cons, not_or] at h; simp; omega
  have e18 : ((q : Int) == 18) = false := by simp only [List.mem_cons, not_or] at h; simp; omega
  have e20 : ((q : Int) == 20) = false := by simp only [List.mem_cons, not_or] at h; simp; omega
  have e22 : ((q : Int) == 22) = false := by simp only [List.mem_cons, not_or] at h; simp; omega
  clear h
  go_enter Try.func20, Try.ntmps20
  go_wp2_with fail
  go_ret
  exact ⟨rfl, Below.refl _ _⟩
theorem leads_any (q c : Nat) (hq : q < 35) (hc : c < 24) (w : World) : Calls Try.prog 20 #[.int .i64 q, .int .i64 c] w (IntB (D.stp q c) w) := by
  by_cases hm : q ∈ [0, 1, 2, 3, 4, 5, 7, 8, 9, 10, 12, 14, 16, 18, 20, 22]
  · simp only [List.mem_cons, List.not_mem_nil, or_false] at hm
    rcases hm with rfl | rfl | rfl | rfl | rfl | rfl | rfl | rfl | rfl | rfl | rfl | rfl | rfl | rfl | rfl | rfl
    · exact leads_0 c hc w
    · exact leads_1 c hc w
    · exact leads_2 c hc w
    · exact leads_3 c hc w
    · exact leads_4 c hc w
    · exact leads_5 c hc w
    · exact leads_7 c hc w
    · exact leads_8 c hc w
    · exact leads_9 c hc w
    · exact leads_10 c hc w
    · exact leads_12 c hc w
    · exact leads_14 c hc w
    · exact leads_16 c hc w
    · exact leads_18 c hc w
    · exact leads_20 c hc w
    · exact leads_22 c hc w
  · have hs : D.stp q c = -1 := by
      have : ∀ (q : Fin 35) (c : Fin 24), q.1 ∉ [0, 1, 2, 3, 4, 5, 7, 8, 9, 10, 12, 14, 16, 18, 20, 22] → D.stp q.1 c.1 = -1 := by decide +kernel
      exact this ⟨q, hq⟩ ⟨c, hc⟩ hm
    rw [hs]
    exact leads_none q c hm w
set_option maxHeartbeats 1000000 in
set_option maxRecDepth 100000 in
theorem leadsOn_any (q : Nat) (hq : q < 35) (w : World) : Calls Try.prog 21 #[.int .i64 q] w (BoolB (D.lon q) w) := by
  have HL := Lib.hid (fun c (hc : c < 24) W => leads_any q c hq hc W)
  have HQ := Lib.hid hq
  clear hq
  go_enter Try.func21, Try.ntmps21
  go_wp2_with fail
  go_loopw [4] (fun p wr => ∃ i : Nat, p = .int .i64 i ∧ i ≤ 24 ∧ Hid (Below w.heap.size w wr ∧ ∀ c, c < i → D.stp q c < 0)) (fun p _ => 24 - (RowKit.intOf p).toNat)
  case atStart => exact ⟨0, rfl, Nat.zero_le _, Lib.hid ⟨Below.refl _ _, fun c h => by omega⟩⟩
  case round =>
    obtain ⟨i, rfl, hi, HR⟩ := hrel
    by_cases hlt : i < 24
    · have i1 : (i : Int) < 24 := by omega
      have HI := Lib.hid (D.stp_in HQ.out hlt)
      have HLT := Lib.hid hlt
      have hc := HL.out i hlt
      by_cases hz : 0 ≤ D.stp q i
      · have HZ := Lib.hid hz
        have HT := Lib.hid (show D.lon q = true by unfold D.lon; rw [List.any_eq_true]; exact ⟨i, List.mem_range.2 hlt, decide_eq_true hz⟩)
        generalize D.stp q i = x at *
        have ex : (x != -1) = true := by simp; omega
        clear hz hlt
        go_wp2_with fail
        refine (hc _).mono ?_
        rintro e w' ⟨rfl, hb⟩
        go_wp2_with fail
        go_ret
        exact ⟨by rw [HT.out]; rfl, HR.out.1.trans (hb.mono HR.out.1.size)⟩
      · have HZ := Lib.hid hz
        have hx : D.stp q i = -1 := by have := HI.out; omega
        rw [hx] at hc
        clear hz hlt hx HI
        go_wp2_with fail
        refine (hc _).mono ?_
        rintro e w' ⟨rfl, hb⟩
        go_wp2_with fail
        go_roundw
        case rel => exact ⟨i + 1, by go_num, HLT.out, Lib.hid ⟨HR.out.1.trans (hb.mono HR.out.1.size), fun c h => by by_cases e : c = i; (· subst e; exact HZ.out); (· exact HR.out.2 c (by omega))⟩⟩
        case measure => have := HLT.out; simp [RowKit.intOf]; omega
    · obtain rfl : i = 24 := by omega
      have HT := Lib.hid (show D.lon q = false by unfold D.lon; rw [List.any_eq_false]; intro c hc; have := HR.out.2 c (List.mem_range.1 hc); simpa using this)
      clear hlt hi
      go_wp2_with fail
      go_ret
      exact ⟨by rw [HT.out]; rfl, HR.out.1⟩
end Go.Proofs.Yteccfoiegjhppaa
