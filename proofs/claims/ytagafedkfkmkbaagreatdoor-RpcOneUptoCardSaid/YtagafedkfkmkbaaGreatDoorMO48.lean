/- What is made is read as what it was made of: pieces. Conditions: such as Go can hold. -/
import Derived.Test.YtagafedkfkmkbaaGreatDoorMO36
import Derived.Test.YtagafedkfkmkbaaGreatDoorMO47
import Derived.Test.YtagafedkfkmkbaaGreatDoorMO28
namespace Go.Proofs.YtagafedkfkmkbaaGreatDoor
open Go Go.RowKit Go.Lib

structure BkSt (w : World) (i p : Fd) (W : World) : Prop where
  below : Below w.heap.size w W
  b0 : Blk4 W w.heap.size 25 (.int .u8 i.k) (.string i.x) (.slice i.p i.n i.c) (.slice i.q i.m i.e)
  b1 : Blk4 W (w.heap.size + 1) 25 (.int .u8 p.k) (.string p.x) (.slice p.p p.n p.c) (.slice p.q p.m p.e)
theorem BkSt.on {w : World} {i p : Fd} {W W' : World} (h : BkSt w i p W) (hB : Below W.heap.size W W') : BkSt w i p W' :=
  ⟨h.below.trans (hB.mono h.below.size), h.b0.same (hB.block _ h.b0.lt), h.b1.same (hB.block _ h.b1.lt)⟩
theorem BkSt.lt2 {w : World} {i p : Fd} {W : World} (h : BkSt w i p W) : w.heap.size + 2 ≤ W.heap.size := h.b1.lt
theorem BkSt.past {w : World} {i p : Fd} {W W' : World} (h : BkSt w i p W) {b : Nat} (hb : w.heap.size + 2 ≤ b) (hB : Below b W W') : BkSt w i p W' :=
  ⟨h.below.trans (hB.mono (by omega)), h.b0.same (hB.block _ (by omega)), h.b1.same (hB.block _ (by omega))⟩
/-- a call that was read, in a block, with its error -/
def GotC (ok : Bool) (e : Int) (W : World) (b : Nat) (k : Nat) (i : R5) (F : ByteArray) (p : R5) : Prop :=
  (ok = true → e = 0 ∧ ∃ di dp : Fd, ClBlk W b k di F dp ∧ di.r = i ∧ dp.r = p ∧ di.Ok (fun _ => True) W ∧ dp.Ok (fun _ => True) W) ∧ (ok = false → e = 60)
theorem GotC.on {ok : Bool} {e : Int} {W W' : World} {b k : Nat} {i : R5} {F : ByteArray} {p : R5} (h : GotC ok e W b k i F p) (hB : Below W.heap.size W W') : GotC ok e W' b k i F p :=
  ⟨fun ho => by
    obtain ⟨h1, di, dp, h2, h3, h4, h5, h6⟩ := h.1 ho
    exact ⟨h1, di, dp, h2.same hB, h3, h4, h5.below hB, h6.below hB⟩, h.2⟩
theorem ClBlk.setKI {w : World} {b k : Nat} {i p : Fd} {F : ByteArray} (h : ClBlk w b k i F p) : ClBlk (((((w.setCell ⟨b, 0, none⟩ (.int .u8 2)).setCell ⟨b, 1, none⟩ (.int .u8 0)).setCell ⟨b, 2, none⟩ (.string ⟨#[]⟩)).setCell ⟨b, 3, none⟩ (.slice none 0 0)).setCell ⟨b, 4, none⟩ (.slice none 0 0)) b 2 fd0 F p :=
  heap_setCell_same _ b 4 _ _ _ (heap_setCell_same _ b 3 _ _ _ (heap_setCell_same _ b 2 _ _ _ (heap_setCell_same _ b 1 _ _ _ (heap_setCell_same w b 0 _ _ _ h))))
theorem set5s_below (w : World) (b : Nat) (x0 x1 x2 x3 x4 : Value) : Below b w (((((w.setCell ⟨b, 0, none⟩ x0).setCell ⟨b, 1, none⟩ x1).setCell ⟨b, 2, none⟩ x2).setCell ⟨b, 3, none⟩ x3).setCell ⟨b, 4, none⟩ x4) :=
  (((((Below.refl b w).setCell (Nat.le_refl _) _).setCell (Nat.le_refl _) _).setCell (Nat.le_refl _) _).setCell (Nat.le_refl _) _).setCell (Nat.le_refl _) _
theorem two8_of (W : World) (i p : Fd) : Two8 W.heap.size i.k i.x (.slice i.p i.n i.c) (.slice i.q i.m i.e) p.k p.x (.slice p.p p.n p.c) (.slice p.q p.m p.e) (W.alloc (.cells #[.int .u8 i.k, .string i.x, .slice i.p i.n i.c, .slice i.q i.m i.e, .int .u8 p.k, .string p.x, .slice p.p p.n p.c, .slice p.q p.m p.e] 25)) := by
  have h := heap_alloc_new W (.cells #[.int .u8 i.k, .string i.x, .slice i.p i.n i.c, .slice i.q i.m i.e, .int .u8 p.k, .string p.x, .slice p.p p.n p.c, .slice p.q p.m p.e] 25)
  have c := fun j => cell_of_row _ _ j _ _ (0, 0) h
  exact ⟨by simp, ⟨(c 0).trans rfl, (c 1).trans rfl, (c 2).trans rfl, (c 3).trans rfl⟩, (c 4).trans rfl, (c 5).trans rfl, (c 6).trans rfl, (c 7).trans rfl⟩
theorem fd_gotV {d : Fd} (h : d.b = true) : gotV d.k d.x d.l d.f = d.r := by
  unfold gotV Fd.r; rw [h]
section
variable {i p : Fd} {s : ByteArray} {n : Int} {A A2 : Nat → Prop}
/-- what was made is read -/
theorem rdReq (w : World) (v u : Value) (hx : i.x.size ≤ 140737488355328) (hs : s.size ≤ 100000000000) (hl : HS w (Fre 0 w) 0 v .nil ∨ HS w (fun _ => True) 0 v .nil) (hf : HS w (fun _ => True) 1 u (requestT (U.fixS s) i.k i.x i.l i.f p.k p.x p.l p.f)) (hT : Tabs w) (hE : ErrC w) :
    Calls Tryz.prog 23 #[.agg #[.int .u8 6, .string ⟨#[]⟩, v, u]] w (ReadIs (decide (p.k ∈ [5, 6, 0]) && midV i.k i.x i.l i.f) 1 (gotV i.k i.x i.l i.f) (U.fixS s) (pV p.k p.x p.l p.f) w) := by
  have hl' : HS w (fun _ => True) 0 v .nil := hl.elim (fun h => h.mono (fun _ _ _ => trivial)) id
  have hz := U.fix_size s
  have h := read_any 6 ⟨#[]⟩ v u .nil (requestT (U.fixS s) i.k i.x i.l i.f p.k p.x p.l p.f) (fun _ => True) w hl' hf (by rw [six_request]; exact hx) (by rw [six_request]; show (U.fixS s).size ≤ _; omega) (by rw [six_request]; show (U.fixS (U.fixS s)).size ≤ _; rw [U.fix_fix]; omega) hT hE
  have e1 : (sixOf 6 (requestT (U.fixS s) i.k i.x i.l i.f p.k p.x p.l p.f)).kind = 1 := by rw [six_request]; rfl
  have e2 : (sixOf 6 (requestT (U.fixS s) i.k i.x i.l i.f p.k p.x p.l p.f)).callF = U.fixS s := by
    unfold Six.callF
    rw [e1, if_neg (by decide), six_request]
    exact U.fix_fix s
  have e3 : (sixOf 6 (requestT (U.fixS s) i.k i.x i.l i.f p.k p.x p.l p.f)).callP = pV p.k p.x p.l p.f := by
    unfold Six.callP
    rw [e1, if_neg (by decide), six_request]
    exact pV_call _ _ _ _
  have e4 : (sixOf 6 (requestT (U.fixS s) i.k i.x i.l i.f p.k p.x p.l p.f)).i = gotV i.k i.x i.l i.f := by rw [six_request]
  rw [holds_request, e1, e2, e3, e4] at h
  exact h
theorem rdNot (w : World) (v u : Value) (hs : s.size ≤ 100000000000) (hl : HS w (fun _ => True) 0 v .nil) (hf : HS w (fun _ => True) 1 u (noticeT (U.fixS s) p.k p.x p.l p.f)) (hT : Tabs w) (hE : ErrC w) :
    Calls Tryz.prog 23 #[.agg #[.int .u8 6, .string ⟨#[]⟩, v, u]] w (ReadIs (decide (p.k ∈ [5, 6, 0])) 2 r0 (U.fixS s) (pV p.k p.x p.l p.f) w) := by
  have hz := U.fix_size s
  have h := read_any 6 ⟨#[]⟩ v u .nil (noticeT (U.fixS s) p.k p.x p.l p.f) (fun _ => True) w hl hf (by rw [six_notice]; show (0 : Nat) ≤ _; decide) (by rw [six_notice]; show (U.fixS s).size ≤ _; omega) (by rw [six_notice]; show (U.fixS (U.fixS s)).size ≤ _; rw [U.fix_fix]; omega) hT hE
  have e1 : (sixOf 6 (noticeT (U.fixS s) p.k p.x p.l p.f)).kind = 2 := by rw [six_notice]; rfl
  have e2 : (sixOf 6 (noticeT (U.fixS s) p.k p.x p.l p.f)).callF = U.fixS s := by
    unfold Six.callF
    rw [e1, if_neg (by decide), six_notice]
    exact U.fix_fix s
  have e3 : (sixOf 6 (noticeT (U.fixS s) p.k p.x p.l p.f)).callP = pV p.k p.x p.l p.f := by
    unfold Six.callP
    rw [e1, if_neg (by decide), six_notice]
    exact pV_call _ _ _ _
  have e4 : (sixOf 6 (noticeT (U.fixS s) p.k p.x p.l p.f)).i = r0 := by rw [six_notice]
  rw [holds_notice, e1, e2, e3, e4] at h
  exact h
theorem rdRep (w : World) (v u : Value) (hx : i.x.size ≤ 140737488355328) (hl : HS w (fun _ => True) 0 v .nil) (hf : HS w (fun _ => True) 1 u (replyT i.k i.x i.l i.f p.k p.x p.l p.f)) (hT : Tabs w) (hE : ErrC w) :
    Calls Tryz.prog 23 #[.agg #[.int .u8 6, .string ⟨#[]⟩, v, u]] w (ReadIs (midV i.k i.x i.l i.f || nullB i.k i.x i.l i.f) 3 (gotV i.k i.x i.l i.f) ⟨#[]⟩ r0 w) := by
  have h := read_any 6 ⟨#[]⟩ v u .nil (replyT i.k i.x i.l i.f p.k p.x p.l p.f) (fun _ => True) w hl hf (by rw [six_reply]; exact hx) (by rw [six_reply]; show (0 : Nat) ≤ _; decide) (by rw [six_reply]; show (U.fixS ⟨#[]⟩).size ≤ _; rw [fix_e]; decide) hT hE
  have e1 : (sixOf 6 (replyT i.k i.x i.l i.f p.k p.x p.l p.f)).kind = 3 := by rw [six_reply]; rfl
  have e2 : (sixOf 6 (replyT i.k i.x i.l i.f p.k p.x p.l p.f)).callF = ⟨#[]⟩ := by unfold Six.callF; rw [e1, if_pos rfl]
  have e3 : (sixOf 6 (replyT i.k i.x i.l i.f p.k p.x p.l p.f)).callP = r0 := by unfold Six.callP; rw [e1, if_pos rfl]
  have e4 : (sixOf 6 (replyT i.k i.x i.l i.f p.k p.x p.l p.f)).i = gotV i.k i.x i.l i.f := by rw [six_reply]
  rw [holds_reply, e1, e2, e3, e4] at h
  exact h
theorem rdFail (w : World) (v u : Value) (F : ByteArray) (hx : i.x.size ≤ 140737488355328) (hl : HS w (fun _ => True) 0 v .nil) (hf : HS w (fun _ => True) 1 u (failT i.k i.x i.l i.f n F)) (hT : Tabs w) (hE : ErrC w) :
    Calls Tryz.prog 23 #[.agg #[.int .u8 6, .string ⟨#[]⟩, v, u]] w (ReadIs (midV i.k i.x i.l i.f || nullB i.k i.x i.l i.f) 3 (gotV i.k i.x i.l i.f) ⟨#[]⟩ r0 w) := by
  have h := read_any 6 ⟨#[]⟩ v u .nil (failT i.k i.x i.l i.f n F) (fun _ => True) w hl hf (by rw [six_fail]; exact hx) (by rw [six_fail]; show (0 : Nat) ≤ _; decide) (by rw [six_fail]; show (U.fixS ⟨#[]⟩).size ≤ _; rw [fix_e]; decide) hT hE
  have e1 : (sixOf 6 (failT i.k i.x i.l i.f n F)).kind = 3 := by rw [six_fail]; rfl
  have e2 : (sixOf 6 (failT i.k i.x i.l i.f n F)).callF = ⟨#[]⟩ := by unfold Six.callF; rw [e1, if_pos rfl]
  have e3 : (sixOf 6 (failT i.k i.x i.l i.f n F)).callP = r0 := by unfold Six.callP; rw [e1, if_pos rfl]
  have e4 : (sixOf 6 (failT i.k i.x i.l i.f n F)).i = gotV i.k i.x i.l i.f := by rw [six_fail]
  rw [holds_fail, e1, e2, e3, e4] at h
  exact h
end
end Go.Proofs.YtagafedkfkmkbaaGreatDoor
