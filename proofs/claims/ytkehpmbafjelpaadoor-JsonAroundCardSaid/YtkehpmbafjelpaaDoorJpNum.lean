/- The program's reader of JSON: runs, digits, a number. Conditions: a string of at most 10^12 bytes. -/
import Derived.Test.YtkehpmbafjelpaaDoorJpRead
import Derived.Test.YtkehpmbafjelpaaDoorStrClone
import Derived.Deep.DeepCutAuto
namespace Go.Proofs.YtkehpmbafjelpaaDoor
open Go Go.RowKit Go.Lib

/-- where the reader stands, off the world -/
def stand (B : Nat) (W : World) : Nat := (RowKit.intOf ((W.cell? ⟨B, 1, none⟩).getD undef)).toNat
theorem stand_eq {s : ByteArray} {p d B : Nat} {W : World} (h : Rd s p d B W) : stand B W = p := by unfold stand; rw [h.c1]; simp [RowKit.intOf]
theorem skip_any (s x : ByteArray) (p d B : Nat) (w : World) (hs : s.size ≤ 1000000000000) (hp : p ≤ s.size) (h : Rd s p d B w) :
    Calls Tryd.prog 91 #[.pointer (some ⟨B, 0, none⟩), .string x] w (Back (.bool (J.sk s x p)) s (if J.sk s x p = true then p + 1 else p) d B w) := by
  cases hb : J.sk s x p
  · exact skip_no s x p d B w hs hp h hb
  · exact skip_yes s x p d B w hs hp h hb

set_option maxRecDepth 100000 in
set_option maxHeartbeats 400000 in
theorem skipAll_any (s x : ByteArray) (p d B : Nat) (w : World) (hs : s.size ≤ 1000000000000) (hp : p ≤ s.size) (h0 : J.am x 0 = false) (h : Rd s p d B w) :
    Calls Tryd.prog 66 #[.pointer (some ⟨B, 0, none⟩), .string x] w (Back (.tuple #[]) s (J.sa s x p) d B w) := by
  go_enter Tryd.func66, Tryd.ntmps66
  go_wp2_with fail
  go_loopw [] (fun wr => ∃ q : Nat, q ≤ s.size ∧ Hid (Rd s q d B wr ∧ w.grownBy wr (some B) ∧ J.sa s x q = J.sa s x p)) (fun wr => s.size - stand B wr)
  case atStart => exact ⟨p, hp, Lib.hid ⟨h, grow_drewN w 0 _, rfl⟩⟩
  case round =>
    obtain ⟨q, hq, HW⟩ := hrel
    cases hb : J.sk s x q
    · have hk := skip_no s x q d B wr hs hq HW.out.1 hb
      have HE := Lib.hid (HW.out.2.2.symm.trans (J.sa_stop hb))
      clear hb
      go_wp2_with fail
      refine hk.mono ?_
      rintro en w1 ⟨rfl, h1, g1⟩
      have HF := Lib.hid (And.intro h1 (grow_trans HW.out.2.1 g1))
      clear h1 g1
      go_wp2_with fail
      go_end0
      rw [HE.out]
      exact ⟨rfl, HF.out.1, HF.out.2⟩
    · have hk := skip_yes s x q d B wr hs hq HW.out.1 hb
      have HE := Lib.hid ((J.sa_step h0 hb).symm.trans HW.out.2.2)
      have hlt := J.sk_lt h0 hb
      clear hb
      go_wp2_with fail
      refine hk.mono ?_
      rintro en w1 ⟨rfl, h1, g1⟩
      have HF := Lib.hid (And.intro h1 (grow_trans HW.out.2.1 g1))
      clear h1 g1
      go_wp2_with fail
      refine ⟨⟨q + 1, hlt, Lib.hid ⟨HF.out.1, HF.out.2, HE.out⟩⟩, ?_⟩
      rw [stand_eq HF.out.1, stand_eq HW.out.1]; omega

theorem digits0 : J.am J.dgs 0 = false := by rw [J.am_dgs]; rfl
theorem blanks0 : J.am J.blk 0 = false := by rw [J.am_blk]; rfl
theorem dg_take {s : ByteArray} {p : Nat} (h : J.sk s J.dgs p = true) : J.sa s J.dgs (p + 1) = J.dg s p ∧ ¬ J.dg s p = p := by
  have h1 := J.sa_step digits0 h
  have h2 := J.sa_dg s p
  have h3 := (J.sa_le digits0 (J.sk_lt digits0 h) : p + 1 ≤ J.sa s J.dgs (p + 1) ∧ _)
  exact ⟨by rw [← h1, h2], by rw [← h2, h1]; omega⟩

set_option maxRecDepth 100000 in
set_option maxHeartbeats 400000 in
theorem some_yes (s : ByteArray) (p d B : Nat) (w : World) (hs : s.size ≤ 1000000000000) (hp : p ≤ s.size) (h : Rd s p d B w) (hb : J.sk s J.dgs p = true) :
    Calls Tryd.prog 122 #[.pointer (some ⟨B, 0, none⟩)] w (Back (.tuple #[]) s (J.dg s p) d B w) := by
  have ht := take_yes s J.dgs p d B w hs hp h hb
  have hk := fun W hW => skipAll_any s J.dgs (p + 1) d B W hs (J.sk_lt digits0 hb) digits0 hW
  rw [(dg_take hb).1] at hk
  clear hb
  generalize J.pk s p = c at *
  go_enter Tryd.func122, Tryd.ntmps122
  go_wp2_with fail
  refine ht.mono ?_
  rintro en w1 ⟨rfl, h1, g1⟩
  go_wp2_with fail
  refine (hk _ h1).mono ?_
  rintro en w2 ⟨rfl, h2, g2⟩
  go_wp2_with fail
  go_end0
  exact ⟨rfl, h2, grow_trans g1 g2⟩

set_option maxRecDepth 100000 in
set_option maxHeartbeats 400000 in
theorem some_no (s : ByteArray) (p d B : Nat) (w : World) (hs : s.size ≤ 1000000000000) (hp : p ≤ s.size) (h : Rd s p d B w) (hb : J.sk s J.dgs p = false) :
    Calls Tryd.prog 122 #[.pointer (some ⟨B, 0, none⟩)] w (Died 30 s p B w) := by
  have ht := take_no s J.dgs p d B w hs hp h hb
  go_enter Tryd.func122, Tryd.ntmps122
  go_wp2_with fail
  refine ht.mono ?_
  rintro en w1 ⟨rfl, h1, g1⟩
  exact ⟨rfl, rfl, h1, g1⟩
end Go.Proofs.YtkehpmbafjelpaaDoor
