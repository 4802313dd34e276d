/- The scanner goes over a string's characters; which word a name is; how far was looked: the program's own. Conditions: a string of at most 10^15 bytes. -/
import Derived.Test.YteccfoiegjhppaaDfLeads
import Derived.Test.YteccfoiegjhppaaDfClass
import Derived.Laws.RangeAny
namespace Go.Proofs
open Go Go.RowKit Go.Lib
namespace Yteccfoiegjhppaa
def TwoB (a b : Nat) (w : World) (e : Ending) (w' : World) : Prop := e = .returned (.tuple #[.int .i64 a, .int .i64 b]) ∧ Below w.heap.size w w'
set_option maxHeartbeats 1000000 in
set_option maxRecDepth 100000 in
theorem run_any (s : ByteArray) (hs : s.size ≤ 1000000000000000) (w : World) : Calls Try.prog 9 #[.string s] w (TwoB (D.run s).1 (D.run s).2 w) := by
  have HC := Lib.hid class_any
  have HL := Lib.hid leads_any
  generalize hR : D.run s = R
  have HRun := Lib.hid hR
  clear hR
  obtain ⟨ra, rb⟩ := R
  go_enter Try.func9, Try.ntmps9
  go_wp2_with fail
  go_loopw [2] (fun v wr => ∃ (f q pos : Nat), v = .int .i64 q ∧ q < 35 ∧ Hid (wr.heap[w.heap.size]? = some (.stringIter s pos)) ∧ pos ≤ s.size ∧ Hid (D.cr s f q pos = (ra, rb) ∧ s.size ≤ pos + f) ∧ Below w.heap.size w wr) (fun _ wr => s.size - wr.iterPos w.heap.size)
  case atStart => exact ⟨s.size, 0, 0, rfl, by decide, Lib.hid (World.iter_heap _ _ _), by omega, Lib.hid ⟨HRun.out, by omega⟩, (Below.refl w.heap.size w).alloc (Nat.le_refl _) _⟩
  case round =>
    obtain ⟨f, q, pos, rfl, hq, HI, hp, HU, hbl⟩ := hrel
    have HM := Lib.hid (iterPos_of HI.out)
    by_cases hlt : pos < s.size
    · have hw1 := U.wd_pos hlt
      have hw2 := U.wd_le hlt
      have hch := (U.facts s pos hlt).2.2.2.2.2
      obtain ⟨f', rfl⟩ : ∃ f', f = f' + 1 := ⟨f - 1, by have := HU.out.2; omega⟩
      have hnx : ∀ ty, (Instr.next (.pointer (some ⟨w.heap.size, 0, none⟩)) true ty).run Try.prog wr = .ok (.tuple #[.bool true, .int .i64 pos, .int .i32 (U.ch s pos)]) (wr.iterAt w.heap.size s (pos + U.wd s pos)) := fun ty => Lib.run_next_any_at wr _ s pos ty HI.out hlt
      have hI1 := Lib.hid (Lib.iterAt_heap wr _ s pos (pos + U.wd s pos) HI.out)
      have hbl1 := Lib.below_iterAt hbl (Nat.le_refl _) s (pos + U.wd s pos)
      have hcl := fun W => HC.out (U.ch s pos) hch W
      have hld := fun W => HL.out q (D.cls (U.ch s pos)) hq (D.cls_lt _) W
      have hin := D.stp_in hq (D.cls_lt (U.ch s pos))
      have HStop := Lib.hid (D.cr_stop s (f' + 1) q pos)
      have HStep := Lib.hid (D.cr_step s f' q pos hlt)
      have HLT := Lib.hid (And.intro hlt (And.intro hw1 hw2))
      generalize D.stp q (D.cls (U.ch s pos)) = x at *
      generalize D.cls (U.ch s pos) = c at *
      generalize hd : U.wd s pos = d at *
      generalize U.ch s pos = r at *
      clear hbl hch hd hq
      by_cases hx : x < 0
      · obtain rfl : x = -1 := by omega
        have HE := Lib.hid ((HStop.out hx).symm.trans HU.out.1)
        clear hx hin
        go_wp2_with fail
        refine (hcl _).mono ?_
        rintro e w1 ⟨rfl, hb1⟩
        go_wp2_with fail
        refine (hld _).mono ?_
        rintro e w2 ⟨rfl, hb2⟩
        go_wp2_with fail
        go_ret2
        have e1 := HE.out
        injection e1 with e1 e2
        subst e1 e2
        exact ⟨rfl, (hbl1.trans (hb1.mono hbl1.size)).trans (hb2.mono (Nat.le_trans hbl1.size hb1.size))⟩
      · have HE := Lib.hid ((HStep.out hx).symm.trans HU.out.1)
        obtain ⟨y, rfl⟩ : ∃ y : Nat, x = (y : Int) := ⟨x.toNat, by omega⟩
        have hy : y < 35 := by omega
        have ey : ((y : Int) == -1) = false := by simp
        clear hx hin
        go_wp2_with fail
        refine (hcl _).mono ?_
        rintro e w1 ⟨rfl, hb1⟩
        go_wp2_with fail
        refine (hld _).mono ?_
        rintro e w2 ⟨rfl, hb2⟩
        have hI3 := (Below.block hb2 w.heap.size (by have := (Array.getElem?_eq_some_iff.1 hI1.out).1; exact Nat.lt_of_lt_of_le this hb1.size)).trans ((Below.block hb1 w.heap.size (Array.getElem?_eq_some_iff.1 hI1.out).1).trans hI1.out)
        have H3 := Lib.hid hI3
        have HM3 := Lib.hid (iterPos_of hI3)
        have hbl3 := (hbl1.trans (hb1.mono hbl1.size)).trans (hb2.mono (Nat.le_trans hbl1.size hb1.size))
        clear hI3 hbl1 hb1 hb2
        go_wp2_with fail
        go_roundw
        case rel => exact ⟨f', y, pos + d, rfl, hy, H3, HLT.out.2.2, Lib.hid ⟨by rw [← HE.out]; rfl, by have := HU.out.2; have := HLT.out.2.1; omega⟩, hbl3⟩
        case measure => rw [HM3.out, HM.out]; have := HLT.out; omega
    · have hnx : ∀ ty, (Instr.next (.pointer (some ⟨w.heap.size, 0, none⟩)) true ty).run Try.prog wr = _ := fun ty => Lib.run_next_end_at wr _ s pos ty HI.out hlt
      have HE := Lib.hid ((D.cr_end s f q pos hlt).symm.trans HU.out.1)
      have HP := Lib.hid (show pos = s.size by omega)
      go_wp2_with fail
      go_ret2
      have e1 := HE.out
      injection e1 with e1 e2
      rw [HP.out] at e2
      subst e1 e2
      exact ⟨rfl, hbl⟩
set_option maxHeartbeats 1000000 in
set_option maxRecDepth 100000 in
theorem look_any (r : ByteArray) (q d : Nat) (hq : q < 35) (hd : 0 < d ∧ d ≤ r.size) (hs : r.size ≤ 1000000000000000) (w : World) : Calls Try.prog 11 #[.string r, .int .i64 q, .int .i64 d] w (IntB (D.lk r q d) w) := by
  have hl := fun W => leadsOn_any q hq W
  unfold D.lk
  have hr : 0 < r.size := by omega
  cases hq2 : D.lon q
  · rw [hq2] at hl
    rw [if_neg (by decide)]
    have hb := U.at_byte hr
    have i0 : 0 < r.size := hr
    by_cases h1 : d = 1
    · subst h1
      by_cases h2 : 128 ≤ (r.get! 0).toNat
      · rw [if_pos ⟨rfl, h2⟩]
        have e1 : decide ((128 : Int) ≤ ((r.get! 0).toNat : Int)) = true := decide_eq_true (by omega)
        have HX : ((min 3 (r.size - 1 + 1) : Nat) : Int) = min 3 (r.size : Int) := by omega
        rw [HX]
        clear h2 HX hq hq2
        go_enter Try.func11, Try.ntmps11
        go_wp2_with fail
        refine (hl _).mono ?_
        rintro e w1 ⟨rfl, hb1⟩
        go_wp2_with fail
        go_ret
        exact ⟨rfl, hb1⟩
      · rw [if_neg (fun h => h2 h.2)]
        have e1 : decide ((128 : Int) ≤ ((r.get! 0).toNat : Int)) = false := decide_eq_false (by omega)
        clear h2 hq hq2
        go_enter Try.func11, Try.ntmps11
        go_wp2_with fail
        refine (hl _).mono ?_
        rintro e w1 ⟨rfl, hb1⟩
        go_wp2_with fail
        go_ret
        exact ⟨rfl, hb1⟩
    · rw [if_neg (fun h => h1 h.1)]
      have e1 : ((d : Int) == 1) = false := by simp; omega
      clear h1 hq hq2
      go_enter Try.func11, Try.ntmps11
      go_wp2_with fail
      refine (hl _).mono ?_
      rintro e w1 ⟨rfl, hb1⟩
      go_wp2_with fail
      go_ret
      exact ⟨rfl, hb1⟩
  · rw [hq2] at hl
    rw [if_pos rfl]
    clear hq hq2
    go_enter Try.func11, Try.ntmps11
    go_wp2_with fail
    refine (hl _).mono ?_
    rintro e w1 ⟨rfl, hb1⟩
    go_wp2_with fail
    go_ret
    exact ⟨rfl, hb1⟩
end Yteccfoiegjhppaa
end Go.Proofs
