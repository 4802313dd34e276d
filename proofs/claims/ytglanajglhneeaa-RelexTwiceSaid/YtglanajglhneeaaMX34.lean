/- The document's own Valid, at a seat with its Next up to 10^15. Conditions: a string of at most 10^12 bytes. -/
import Derived.Test.YtglanajglhneeaaMX33
import Derived.Test.YtglanajglhneeaaMX01
namespace Go.Proofs.Ytglanajglhneeaa
open Go Go.RowKit Go.Lib

def BoolIs (b : Bool) (w : World) (e : Ending) (w' : World) : Prop := e = .returned (.bool b) ∧ Below w.heap.size w w'
set_option maxHeartbeats 400000 in
set_option maxRecDepth 100000 in
theorem refValid_any (s : ByteArray) (w : World) (hs : s.size ≤ 1000000000000) :
    Calls Try.prog 31 #[.string s] w (BoolIs (U.valid s) w) := by
  go_enter Try.func31, Try.ntmps31
  go_wp2_with fail
  go_loopw [3] (fun p wr => ∃ f pos : Nat, p = .int .i64 pos ∧ pos ≤ s.size ∧ Hid (U.vFrom s f pos = U.valid s ∧ s.size ≤ pos + f) ∧ Below w.heap.size w wr) (fun p _ => s.size - (RowKit.intOf p).toNat)
  case atStart => exact ⟨s.size, 0, rfl, by omega, Lib.hid ⟨rfl, by omega⟩, Below.refl _ _⟩
  case round =>
    obtain ⟨f, pos, rfl, hp, HU, hbl⟩ := hrel
    by_cases hlt : pos < s.size
    · have hw1 := U.wd_pos hlt
      have hw2 := U.wd_le hlt
      obtain ⟨f', rfl⟩ : ∃ f', f = f' + 1 := ⟨f - 1, by have := HU.out.2; omega⟩
      cases hbad : U.bad s pos
      · have hc := fun W => refNext_good s pos W hlt (by omega) hbad
        have HS := Lib.hid (U.vFrom_step s f' pos hlt hbad)
        clear hbad
        generalize U.wd s pos = d at *
        generalize U.ch s pos = c at *
        go_wp2_with fail
        refine (hc _).mono ?_
        rintro e w' ⟨rfl, hb⟩
        go_wp2_with fail
        go_roundw
        case rel =>
          refine ⟨f', pos + d, by go_num, by omega, Lib.hid ⟨?_, ?_⟩, hbl.trans (hb.mono hbl.size)⟩
          · rw [← HS.out]; exact HU.out.1
          · have := HU.out.2; omega
        case measure => simp [RowKit.intOf]; omega
      · have hc := fun W => refNext_bad s pos W hlt (by omega) hbad
        have HS := Lib.hid (U.vFrom_bad s f' pos hlt hbad)
        clear hbad
        go_wp2_with fail
        refine (hc _).mono ?_
        rintro e w' ⟨rfl, hb⟩
        go_wp2_with fail
        go_ret
        refine ⟨?_, hbl.trans (hb.mono hbl.size)⟩
        rw [← HU.out.1, HS.out]
        rfl
    · go_wp2_with fail
      go_ret
      refine ⟨?_, hbl⟩
      rw [← HU.out.1, U.vFrom_end s f pos hlt]
      rfl
end Go.Proofs.Ytglanajglhneeaa
