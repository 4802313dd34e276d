/- The reader of messages: a head's end, bytes of a head, bytes fed. Conditions: such lengths as memory bears; what a head tells is known. -/
import Derived.Test.YtmaclplhphfkiaaDoorFrHead
namespace Go.Proofs.YtmaclplhphfkiaaDoor
open Go Go.RowKit Go.Lib F

/-- nothing comes back, and the reader holds this -/
def Done (A : Nat → Prop) (R : Nat) (st : St) (out : List Bs) (w : World) (e : Ending) (w' : World) : Prop :=
  e = .returned (.tuple #[]) ∧ Alt A w w' ∧ RdAt w' (Grow A w) R st out
set_option maxRecDepth 100000 in
set_option maxHeartbeats 400000 in
theorem die_any (R E : Nat) (st : St) (out : List Bs) (A : Nat → Prop) (w : World) (hR : RdAt w A R st out) :
    Calls Tryd.prog 65 #[.pointer (some ⟨R, 0, none⟩), .int .i64 (E : Nat)] w (Done A R (.dead E) out w) := by
  obtain ⟨part, bodies, size, hb, hTp, hTb, hsz, hP⟩ := hR
  have H0 := Lib.hid (Whole.start hb hTp hTb hP)
  have hAR := hP.1
  obtain ⟨c0, c1, c2, c3, c4, c5⟩ := hb.cells
  have f5 := hb.free 5
  have f2 := hb.free 2
  have f1 := hb.free 1
  have H1 := Lib.hid ((H0.out.set5 (.int .i64 (E : Nat)) hAR).set2nil hAR)
  have H2 := Lib.hid (H1.out.set1 (fnOf R (.dead E)) hAR)
  clear hb hTp hTb hP c0 c3 c4
  go_enter Tryd.func65, Tryd.ntmps65
  go_wp2_with fail
  go_end0
  exact ⟨rfl, RdAt.of (st := .dead E) (size := size) H2.out trivial⟩
set_option maxRecDepth 100000 in
set_option maxHeartbeats 400000 in
theorem ignore_any (R : Nat) (v : Value) (w : World) : Calls Tryd.prog 96 #[.pointer (some ⟨R, 0, none⟩), v] w (Stay (.slice none 0 0) w) := by
  go_enter Tryd.func96, Tryd.ntmps96
  go_wp2_with fail
  go_ret
  exact ⟨rfl, rfl⟩
/-- what a head's end makes of the reader -/
def endSt (p : Bs) : St := if (bs p).2 = 0 then .body (bs p).1 [] else .dead (bs p).2
set_option maxRecDepth 100000 in
set_option maxHeartbeats 1000000 in
theorem endHead_any (hBS : BsOk) (R : Nat) (p : Bs) (out : List Bs) (A : Nat → Prop) (w : World) (hR : RdAt w A R (.head p) out) (hl : p.length ≤ 1024) (hE : Env A w) :
    Calls Tryd.prog 64 #[.pointer (some ⟨R, 0, none⟩)] w (Done A R (endSt p) out w) := by
  have hbs := hBS p w hl hE.1
  have hbd := bs_bd p
  have hdie := fun W (h : RdAt W (Grow A w) R (.head p) out) => die_any R (bs p).2 (.head p) out (Grow A w) W h
  unfold endSt
  unfold SizeIs at hbs
  generalize (bs p).1 = n at *
  generalize (bs p).2 = E at *
  obtain ⟨part, bodies, size, hb, hTp, hTb, hsz, hP⟩ := hR
  have hcv := conv_part hTp
  have H0 := Lib.hid (Whole.start hb hTp hTb hP)
  have hAR := hP.1
  obtain ⟨c0, c1, c2, c3, c4, c5⟩ := hb.cells
  clear hb hTp hTb hP c0 c1 c3 c4 c5
  by_cases hE0 : E = 0
  · subst hE0
    have t0 : (((0 : Nat) : Int) != 0) = false := rfl
    go_enter Tryd.func64, Tryd.ntmps64
    go_wp2_with fail
    refine hbs.mono ?_
    rintro e w1 ⟨rfl, hB1⟩
    have H1 := Lib.hid (H0.out.below hB1)
    have f3 := H1.out.1.free 3
    have f2 := H1.out.1.free 2
    have f1 := H1.out.1.free 1
    obtain ⟨d0, d1, d2, d3, d4, d5⟩ := H1.out.1.cells
    have H2 := Lib.hid (((H1.out.set2nil hAR).set3 (.int .i64 (n : Nat)) hAR).set1 (fnOf R (.body n [])) hAR)
    clear d0 d4 d5 hB1 c2 hcv hbs
    go_wp2_with fail
    go_end0
    exact ⟨rfl, RdAt.of (st := .body n []) (size := n) H2.out rfl⟩
  · have t0 : (((E : Nat) : Int) != 0) = true := by simp; omega
    go_enter Tryd.func64, Tryd.ntmps64
    go_wp2_with fail
    refine hbs.mono ?_
    rintro e w1 ⟨rfl, hB1⟩
    have H1 := Lib.hid (H0.out.below hB1)
    have hd := hdie w1 ⟨_, _, _, H1.out.1, H1.out.2.1, H1.out.2.2.1, hsz, H1.out.2.2.2.1⟩
    clear c2 hcv hbs hB1 hdie
    go_wp2_with fail
    refine hd.mono ?_
    rintro e w2 ⟨rfl, hA2, hR2⟩
    have HF := Lib.hid (And.intro (H1.out.2.2.2.2.trans hA2) (hR2.imp (B := Grow A w) fun b _ hb => by
      rcases hb with hb | hb
      · exact hb
      · exact .inr (Nat.le_trans H1.out.2.2.2.2.size hb)))
    clear hA2 hR2
    go_wp2_with fail
    go_end0
    exact ⟨rfl, HF.out⟩
end Go.Proofs.YtmaclplhphfkiaaDoor
