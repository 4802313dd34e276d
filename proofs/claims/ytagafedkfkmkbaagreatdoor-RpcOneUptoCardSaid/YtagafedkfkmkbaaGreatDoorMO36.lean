/- Are two calls the same? Conditions: such as Go can hold. -/
import Derived.Test.YtagafedkfkmkbaaGreatDoorMO32
import Derived.Test.YtagafedkfkmkbaaGreatDoorMO33
import Derived.Test.YtagafedkfkmkbaaGreatDoorMO35
namespace Go.Proofs.YtagafedkfkmkbaaGreatDoor
open Go Go.RowKit Go.Lib

def veqR (a b : R5) : Bool := V.veq a.1 a.2.1 a.2.2.1 a.2.2.2.1 b.1 b.2.1 b.2.2.1 b.2.2.2.1
theorem ba_toList_beq (a b : ByteArray) : (a.toList == b.toList) = decide (a = b) := by
  rw [str_beq]
  refine decide_eq_decide.2 ⟨fun h => ?_, fun h => ?_⟩
  · rw [h, Lib.toList_data]
  · rw [h, Lib.toList_data]
structure S6 (w : World) (k1 : Nat) (i1 : Fd) (F1 : ByteArray) (p1 : Fd) (k2 : Nat) (i2 : Fd) (F2 : ByteArray) (p2 : Fd) (A1 A2 : Nat → Prop) (W : World) : Prop where
  below : Below w.heap.size w W
  b0 : ClBlk W w.heap.size k1 i1 F1 p1
  b1 : ClBlk W (w.heap.size + 1) k2 i2 F2 p2
  oi1 : i1.Ok A1 W
  op1 : p1.Ok A1 W
  oi2 : i2.Ok A2 W
  op2 : p2.Ok A2 W
theorem S6.on {w : World} {k1 : Nat} {i1 : Fd} {F1 : ByteArray} {p1 : Fd} {k2 : Nat} {i2 : Fd} {F2 : ByteArray} {p2 : Fd} {A1 A2 : Nat → Prop} {W W' : World} (h : S6 w k1 i1 F1 p1 k2 i2 F2 p2 A1 A2 W) (hB : Below W.heap.size W W') : S6 w k1 i1 F1 p1 k2 i2 F2 p2 A1 A2 W' :=
  ⟨h.below.trans (hB.mono h.below.size), h.b0.same hB, h.b1.same hB, h.oi1.below hB, h.op1.below hB, h.oi2.below hB, h.op2.below hB⟩
set_option maxHeartbeats 2000000 in
set_option maxRecDepth 100000 in
theorem same6_any (k1 : Nat) (i1 : Fd) (F1 : ByteArray) (p1 : Fd) (k2 : Nat) (i2 : Fd) (F2 : ByteArray) (p2 : Fd) (A1 A2 : Nat → Prop) (w : World) (oi1 : i1.Ok A1 w) (op1 : p1.Ok A1 w) (oi2 : i2.Ok A2 w) (op2 : p2.Ok A2 w) :
    Calls Tryz.prog 24 #[.agg #[.int .u8 k1, .int .u8 i1.k, .string i1.x, .slice i1.p i1.n i1.c, .slice i1.q i1.m i1.e, .string F1, .int .u8 p1.k, .string p1.x, .slice p1.p p1.n p1.c, .slice p1.q p1.m p1.e], .agg #[.int .u8 k2, .int .u8 i2.k, .string i2.x, .slice i2.p i2.n i2.c, .slice i2.q i2.m i2.e, .string F2, .int .u8 p2.k, .string p2.x, .slice p2.p p2.n p2.c, .slice p2.q p2.m p2.e]] w (Bools (decide (k1 = k2) && decide (F1 = F2) && veqR i1.r i2.r && veqR p1.r p2.r) w) := by
  have hb := two_below w (.cells #[.int .u8 k1, .int .u8 i1.k, .string i1.x, .slice i1.p i1.n i1.c, .slice i1.q i1.m i1.e, .string F1, .int .u8 p1.k, .string p1.x, .slice p1.p p1.n p1.c, .slice p1.q p1.m p1.e] 39) (.cells #[.int .u8 k2, .int .u8 i2.k, .string i2.x, .slice i2.p i2.n i2.c, .slice i2.q i2.m i2.e, .string F2, .int .u8 p2.k, .string p2.x, .slice p2.p p2.n p2.c, .slice p2.q p2.m p2.e] 39)
  have H0 := Lib.hid (show S6 w k1 i1 F1 p1 k2 i2 F2 p2 A1 A2 ((w.alloc (.cells #[.int .u8 k1, .int .u8 i1.k, .string i1.x, .slice i1.p i1.n i1.c, .slice i1.q i1.m i1.e, .string F1, .int .u8 p1.k, .string p1.x, .slice p1.p p1.n p1.c, .slice p1.q p1.m p1.e] 39)).alloc (.cells #[.int .u8 k2, .int .u8 i2.k, .string i2.x, .slice i2.p i2.n i2.c, .slice i2.q i2.m i2.e, .string F2, .int .u8 p2.k, .string p2.x, .slice p2.p p2.n p2.c, .slice p2.q p2.m p2.e] 39)) from ⟨hb, (two_new _ _ _).1, (two_new _ _ _).2, oi1.below hb, op1.below hb, oi2.below hb, op2.below hb⟩)
  have HI := Lib.hid (fun W (h : S6 w k1 i1 F1 p1 k2 i2 F2 p2 A1 A2 W) => same_any _ i1.k i1.x (.slice i1.p i1.n i1.c) (.slice i1.q i1.m i1.e) i1.l i1.f i2.k i2.x (.slice i2.p i2.n i2.c) (.slice i2.q i2.m i2.e) i2.l i2.f A1 A2 W (Nat.lt_succ_self _) h.oi1.l h.oi1.f h.oi2.l h.oi2.f)
  have HP := Lib.hid (fun W (h : S6 w k1 i1 F1 p1 k2 i2 F2 p2 A1 A2 W) => same_any _ p1.k p1.x (.slice p1.p p1.n p1.c) (.slice p1.q p1.m p1.e) p1.l p1.f p2.k p2.x (.slice p2.p p2.n p2.c) (.slice p2.q p2.m p2.e) p2.l p2.f A1 A2 W (Nat.lt_succ_self _) h.op1.l h.op1.f h.op2.l h.op2.f)
  obtain ⟨ri, hri⟩ : ∃ r, r = V.veq i1.k i1.x i1.l i1.f i2.k i2.x i2.l i2.f := ⟨_, rfl⟩
  obtain ⟨rp, hrp⟩ : ∃ r, r = V.veq p1.k p1.x p1.l p1.f p2.k p2.x p2.l p2.f := ⟨_, rfl⟩
  rw [show veqR i1.r i2.r = ri from hri.symm, show veqR p1.r p2.r = rp from hrp.symm]
  rw [← hri] at HI
  rw [← hrp] at HP
  obtain ⟨rk, hrk⟩ : ∃ r, r = decide (k1 = k2) := ⟨_, rfl⟩
  obtain ⟨rf, hrf⟩ : ∃ r, r = decide (F1 = F2) := ⟨_, rfl⟩
  have tk : ((k1 : Int) == (k2 : Int)) = rk := by rw [hrk, Bool.eq_iff_iff]; simp; exact Int.ofNat_inj
  have tf : (F1.toList == F2.toList) = rf := by rw [hrf, ba_toList_beq]
  rw [← hrk, ← hrf]
  clear oi1 op1 oi2 op2 hb hri hrp hrk hrf
  cases rk
  · go_enter Tryz.func24, Tryz.ntmps24
    go_wp2_with fail
    go_ret
    exact ⟨rfl, H0.out.below⟩
  cases rf
  · go_enter Tryz.func24, Tryz.ntmps24
    go_wp2_with fail
    go_ret
    exact ⟨rfl, H0.out.below⟩
  go_enter Tryz.func24, Tryz.ntmps24
  go_wp2_with fail
  refine (HI.out _ H0.out).mono ?_
  rintro e w1 ⟨rfl, hB⟩
  have H1 := Lib.hid (H0.out.on hB)
  have a6 := H1.out.b0.c 6 _ rfl
  have a7 := H1.out.b0.c 7 _ rfl
  have a8 := H1.out.b0.c 8 _ rfl
  have a9 := H1.out.b0.c 9 _ rfl
  have b6 := H1.out.b1.c 6 _ rfl
  have b7 := H1.out.b1.c 7 _ rfl
  have b8 := H1.out.b1.c 8 _ rfl
  have b9 := H1.out.b1.c 9 _ rfl
  clear hB H0
  cases ri
  · go_wp2_with fail
    go_ret
    exact ⟨rfl, H1.out.below⟩
  · go_wp2_with fail
    refine (HP.out _ H1.out).mono ?_
    rintro e w2 ⟨rfl, hB⟩
    have H2 := Lib.hid (H1.out.on hB)
    clear hB a6 a7 a8 a9 b6 b7 b8 b9
    go_wp2_with fail
    go_ret
    exact ⟨by simp, H2.out.below⟩
end Go.Proofs.YtagafedkfkmkbaaGreatDoor

namespace Go.Proofs.YtagafedkfkmkbaaGreatDoor
open Go Go.RowKit Go.Lib

def gotV (k : Nat) (x : ByteArray) (l f : V.T) : R5 := (k, x, l, f, true)
def jV : R5 := (4, ⟨#[50, 46, 48]⟩, .nil, .nil, true)
def mV (F : ByteArray) : R5 := (4, F, .nil, .nil, true)
def pV (k : Nat) (x : ByteArray) (l f : V.T) : R5 := if k = 0 then r0 else gotV k x l f
theorem six_request (F : ByteArray) (k : Nat) (x : ByteArray) (l f : V.T) (k2 : Nat) (x2 : ByteArray) (l2 f2 : V.T) :
    sixOf 6 (requestT F k x l f k2 x2 l2 f2) = ⟨jV, mV F, pV k2 x2 l2 f2, gotV k x l f, r0, r0⟩ := by
  unfold requestT calledE pV
  by_cases h : k2 = 0
  · rw [if_pos h, if_pos h]; rfl
  · rw [if_neg h, if_neg h]; rfl
theorem six_notice (F : ByteArray) (k2 : Nat) (x2 : ByteArray) (l2 f2 : V.T) :
    sixOf 6 (noticeT F k2 x2 l2 f2) = ⟨jV, mV F, pV k2 x2 l2 f2, r0, r0, r0⟩ := by
  unfold noticeT calledE pV
  by_cases h : k2 = 0
  · rw [if_pos h, if_pos h]; rfl
  · rw [if_neg h, if_neg h]; rfl
theorem six_reply (k : Nat) (x : ByteArray) (l f : V.T) (k2 : Nat) (x2 : ByteArray) (l2 f2 : V.T) :
    sixOf 6 (replyT k x l f k2 x2 l2 f2) = ⟨jV, r0, r0, gotV k x l f, gotV k2 x2 l2 f2, r0⟩ := rfl
theorem six_fail (k : Nat) (x : ByteArray) (l f : V.T) (n : Int) (F : ByteArray) :
    sixOf 6 (failT k x l f n F) = ⟨jV, r0, r0, gotV k x l f, r0, gotV 6 ⟨#[]⟩ .nil (treeOf [codeF n, msgF F])⟩ := rfl
theorem pV_kind (k : Nat) (x : ByteArray) (l f : V.T) : parB (pV k x l f) = decide (k ∈ [5, 6, 0]) := by
  unfold pV parB
  by_cases h : k = 0
  · rw [if_pos h, h]; rfl
  · rw [if_neg h]; rfl
theorem pV_call (k : Nat) (x : ByteArray) (l f : V.T) : (if (pV k x l f).1 = 0 then r0 else pV k x l f) = pV k x l f := by
  unfold pV
  by_cases h : k = 0
  · rw [if_pos h]; rfl
  · rw [if_neg h]
    show (if k = 0 then r0 else gotV k x l f) = _
    rw [if_neg h]
theorem holds_request {F : ByteArray} {k : Nat} {x : ByteArray} {l f : V.T} {k2 : Nat} {x2 : ByteArray} {l2 f2 : V.T} :
    (sixOf 6 (requestT F k x l f k2 x2 l2 f2)).holds = (decide (k2 ∈ [5, 6, 0]) && midV k x l f) := by
  rw [six_request, ← pV_kind k2 x2 l2 f2]
  show (verB jV && methB (mV F) && parB _ && midV k x l f) = _
  rw [show verB jV = true by decide +kernel, show methB (mV F) = true from rfl]
  simp
theorem holds_notice {F : ByteArray} {k2 : Nat} {x2 : ByteArray} {l2 f2 : V.T} : (sixOf 6 (noticeT F k2 x2 l2 f2)).holds = decide (k2 ∈ [5, 6, 0]) := by
  rw [six_notice, ← pV_kind k2 x2 l2 f2]
  show (verB jV && methB (mV F) && parB _) = _
  rw [show verB jV = true by decide +kernel, show methB (mV F) = true from rfl]
  simp
/-- an ID of a reply -/
def nullB (k : Nat) (x : ByteArray) (l f : V.T) : Bool := V.veq k x l f 0 ⟨#[]⟩ .nil .nil
theorem idNB_is (k : Nat) (x : ByteArray) (l f : V.T) : idNB (gotV k x l f) = (midV k x l f || nullB k x l f) := by
  show (true && ((decide (k = 0) && mayV k x l f 0) || midV k x l f)) = _
  rw [Bool.true_and, Bool.or_comm]
  congr 1
  by_cases h : k = 0
  · subst h
    have e1 : mayV 0 x l f 0 = (decide (x.size = 0) && decide (l.len = 0) && decide (f.len = 0)) := rfl
    rw [e1, Bool.eq_iff_iff]
    constructor
    · intro h0
      simp only [Bool.and_eq_true, decide_eq_true_eq] at h0
      obtain ⟨-, ⟨h1, h2⟩, h3⟩ := h0
      have ex : x = ⟨#[]⟩ := by
        apply ByteArray.ext
        exact Array.eq_empty_of_size_eq_zero h1
      rw [V.T.len_nil h2, V.T.len_nil h3, ex]
      exact V.veq_self _ _ _ _
    · intro h1
      obtain ⟨-, rfl, rfl, rfl⟩ := V.of_veq h1
      rfl
  · rw [decide_eq_false h, Bool.false_and]
    unfold nullB V.veq
    rw [decide_eq_false h]
    rfl
theorem holds_reply {k : Nat} {x : ByteArray} {l f : V.T} {k2 : Nat} {x2 : ByteArray} {l2 f2 : V.T} : (sixOf 6 (replyT k x l f k2 x2 l2 f2)).holds = (midV k x l f || nullB k x l f) := by
  rw [six_reply, ← idNB_is]
  show (verB jV && idNB (gotV k x l f) && outB (gotV k2 x2 l2 f2) r0 && fauB r0) = _
  rw [show verB jV = true by decide +kernel, show outB (gotV k2 x2 l2 f2) r0 = true from rfl, show fauB r0 = true from rfl]
  simp
theorem holds_fail {k : Nat} {x : ByteArray} {l f : V.T} {n : Int} {F : ByteArray} : (sixOf 6 (failT k x l f n F)).holds = (midV k x l f || nullB k x l f) := by
  rw [six_fail, ← idNB_is]
  show (verB jV && idNB (gotV k x l f) && outB r0 (gotV 6 _ _ _) && fauB (gotV 6 _ _ _)) = _
  rw [show verB jV = true by decide +kernel]
  simp [outB, fauB, r0, gotV]
theorem veqR_self (a : R5) : veqR a a = true := by
  unfold veqR V.veq
  simp [V.T.eq_self]
end Go.Proofs.YtagafedkfkmkbaaGreatDoor
