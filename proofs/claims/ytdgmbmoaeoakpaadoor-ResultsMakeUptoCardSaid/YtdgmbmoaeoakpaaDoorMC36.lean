/- The document's Full. Conditions: an ID of at most 10^7 bytes, at most 10^6 numbers. -/
import Derived.Test.YtdgmbmoaeoakpaaDoorMC29
import Derived.Test.YtdgmbmoaeoakpaaDoorMC31
import Derived.Test.YtdgmbmoaeoakpaaDoorMC35
import Derived.Test.YtdgmbmoaeoakpaaDoorMC22
import Derived.Test.YtdgmbmoaeoakpaaDoorMC24
namespace Go.Proofs.YtdgmbmoaeoakpaaDoor
open Go Go.RowKit Go.Lib

set_option maxHeartbeats 2000000 in
set_option maxRecDepth 100000 in
theorem refFull_any (id : ByteArray) (v0 : Value) (li : List Int) (w : World) (hid : id.size ≤ 10000000) (h : SrcI w v0 li) (hn : li.length ≤ 1000000) :
    Calls Tryd.prog 25 #[.string id, v0] w (RetV w.heap.size 6 ⟨#[]⟩ .nil (full_anyT id li) w) := by
  have hfz := U.fix_size id
  have hfi : Fit ⟨#[114, 101, 115, 117, 108, 116, 73, 100]⟩ 4 (U.fixS id) := ⟨by decide, by omega, by decide⟩
  have HTx := Lib.hid (fun W => refText4_any id W (by omega))
  have HNs := Lib.hid (fun W (hB : Below w.heap.size w W) => numsR_any v0 li W (h.below hB) hn)
  have HFi := Lib.hid hfi
  have hB0 := (Below.refl w.heap.size w).alloc (Nat.le_refl _) (.cells #[.int .u8 0, .string ⟨#[]⟩, .slice none 0 0, .slice none 0 0] 25)
  have b0 : Blk4 (w.alloc (.cells #[.int .u8 0, .string ⟨#[]⟩, .slice none 0 0, .slice none 0 0] 25)) w.heap.size 25 _ _ _ _ := heap_alloc_new _ _
  have hz0 := World.size_alloc w (.cells #[.int .u8 0, .string ⟨#[]⟩, .slice none 0 0, .slice none 0 0] 25)
  have H0 := Lib.hid (And.intro b0 (And.intro hB0 hz0))
  clear hB0 b0 hz0 h hfz hfi
  go_enter Tryd.func25, Tryd.ntmps25
  go_upto_region 1 with fail
  generalize w.alloc (.cells #[.int .u8 0, .string ⟨#[]⟩, .slice none 0 0, .slice none 0 0] 25) = W0 at *
  go_wp2_with fail
  refine (HTx.out W0).mono ?_
  rintro e w1 ⟨rfl, hB⟩
  have G1 := Lib.hid (show Blk4 w1 w.heap.size 25 (.int .u8 0) (.string ⟨#[]⟩) (.slice none 0 0) (.slice none 0 0) ∧ Below w.heap.size w w1 ∧ w.heap.size + 1 ≤ w1.heap.size from ⟨H0.out.1.same (hB.block _ H0.out.1.lt), H0.out.2.1.trans (hB.mono H0.out.2.1.size), by have := hB.size; have := H0.out.2.2; omega⟩)
  clear hB
  go_wp2_with fail
  refine (with_any (SN w 1) 0 ⟨#[]⟩ .nil .nil ⟨#[114, 101, 115, 117, 108, 116, 73, 100]⟩ 4 (U.fixS id) .nil .nil _ _ w1 (fun j hj => Nat.le_trans G1.out.2.2 hj) (VS.mk (HS.nil _ _ _) (HS.nil _ _ _)) (VS.mk (HS.nil _ _ _) (HS.nil _ _ _)) HFi.out (by decide)).mono ?_
  rintro e w2 ⟨y2, rfl, hv, hB⟩
  have G2 := Lib.hid (show (Blk4 w2 w.heap.size 25 (.int .u8 0) (.string ⟨#[]⟩) (.slice none 0 0) (.slice none 0 0) ∧ Below w.heap.size w w2 ∧ w.heap.size + 1 ≤ w2.heap.size) ∧ VS (SN w 1) 6 ⟨#[]⟩ .nil (appT .nil ⟨#[114, 101, 115, 117, 108, 116, 73, 100]⟩ 4 (U.fixS id) .nil .nil) y2 w2 from ⟨⟨G1.out.1.same (hB.block _ G1.out.1.lt), G1.out.2.1.trans (hB.mono G1.out.2.1.size), Nat.le_trans G1.out.2.2 hB.size⟩, hv⟩)
  clear hB hv
  go_wp2_with fail
  refine (HNs.out w2 G2.out.1.2.1).mono ?_
  rintro e w3 hr
  obtain ⟨y3, rfl, hv, hB⟩ := RetV.s (S := SN w 1) hr (fun j hj => Nat.le_trans G2.out.1.2.2 hj)
  have G3 := Lib.hid (show (Blk4 w3 w.heap.size 25 (.int .u8 0) (.string ⟨#[]⟩) (.slice none 0 0) (.slice none 0 0) ∧ Below w.heap.size w w3 ∧ w.heap.size + 1 ≤ w3.heap.size) ∧ VS (SN w 1) 6 ⟨#[]⟩ .nil (appT .nil ⟨#[114, 101, 115, 117, 108, 116, 73, 100]⟩ 4 (U.fixS id) .nil .nil) y2 w3 ∧ VS (SN w 1) 5 ⟨#[]⟩ (nmT li) .nil y3 w3 from ⟨⟨G2.out.1.1.same (hB.block _ G2.out.1.1.lt), G2.out.1.2.1.trans (hB.mono G2.out.1.2.1.size), Nat.le_trans G2.out.1.2.2 hB.size⟩, G2.out.2.on hB, hv⟩)
  clear hB hv hr
  go_wp2_with fail
  refine (with_any (SN w 1) 6 ⟨#[]⟩ .nil (appT .nil ⟨#[114, 101, 115, 117, 108, 116, 73, 100]⟩ 4 (U.fixS id) .nil .nil) ⟨#[100, 97, 116, 97]⟩ 5 ⟨#[]⟩ (nmT li) .nil _ _ w3 (fun j hj => Nat.le_trans G3.out.1.2.2 hj) G3.out.2.1 G3.out.2.2 ⟨by decide, by decide, by decide⟩ (by show (1 : Nat) ≤ 1000; decide)).mono ?_
  rintro e w4 ⟨y4, rfl, hv, hB⟩
  obtain ⟨p, n, d, q, m, d', rfl, hl, hf⟩ := hv
  have b4 := G3.out.1.1.same (hB.block _ G3.out.1.1.lt)
  have G4 := Lib.hid (And.intro hl (And.intro hf (And.intro b4 (G3.out.1.2.1.trans (hB.mono G3.out.1.2.1.size)))))
  obtain ⟨s0, s1, s2, s3⟩ := b4.box
  have f0 := b4.free 0
  have f1 := b4.free 1
  have f2 := b4.free 2
  have f3 := b4.free 3
  clear hl hf hB b4
  go_wp2_with fail
  obtain ⟨g1, g2, g3⟩ := G4.out.2.2.1.all (.int .u8 6) (.string ⟨#[]⟩) (.slice p n d) (.slice q m d')
  have hw3 := set4_else w4 w.heap.size (.int .u8 6) (.string ⟨#[]⟩) (.slice p n d) (.slice q m d')
  have g3' := g3 w.heap.size (Nat.le_refl _)
  clear s0 s1 s2 s3 f0 f1 f2 f3
  generalize (((w4.setCell ⟨w.heap.size, 0, none⟩ (.int .u8 6)).setCell ⟨w.heap.size, 1, none⟩ (.string ⟨#[]⟩)).setCell ⟨w.heap.size, 2, none⟩ (.slice p n d)).setCell ⟨w.heap.size, 3, none⟩ (.slice q m d') = wz at *
  obtain ⟨x0, x1, x2, x3⟩ := g1.box
  refine bodyPost_ret (v := .agg #[.int .u8 6, .string ⟨#[]⟩, .slice p n d, .slice q m d']) (by simp [results, Tryd.results25, go_sem, x0, x1, x2, x3]) rfl ?_
  have hS : ∀ j, SN w 1 j → w.heap.size ≤ j ∧ j ≠ w.heap.size := fun j hj => by unfold SN at hj; omega
  exact ⟨_, rfl, VF.mk (hs_fre G4.out.1 hS hw3) (hs_fre G4.out.2.1 hS hw3), G4.out.2.2.2.trans g3'⟩
end Go.Proofs.YtdgmbmoaeoakpaaDoor

namespace Go.Proofs.YtdgmbmoaeoakpaaDoor
open Go Go.RowKit Go.Lib

theorem hsnil {w w' : World} {A A' : Nat → Prop} {d : Nat} {v : Value} (h : HS w A d v .nil) : HS w' A' d v .nil := SL.imp h (fun _ _ _ => trivial)
def S0 (w : World) (k : Nat) : Prop := w.heap.size + 1 ≤ k
/-- a value in a box -/
def BoxF (S : Nat → Prop) (b k : Nat) (x : ByteArray) (l f : V.T) (W : World) : Prop := ∃ p n c q m d, Blk4 W b 25 (.int .u8 k) (.string x) (.slice p n c) (.slice q m d) ∧ HS W (FrS S W) 0 (.slice p n c) l ∧ HS W (FrS S W) 1 (.slice q m d) f
theorem BoxF.on {S : Nat → Prop} {b k : Nat} {x : ByteArray} {l f : V.T} {W W' : World} (h : BoxF S b k x l f W) (hB : Below W.heap.size W W') : BoxF S b k x l f W' := by
  obtain ⟨p, n, c, q, m, d, h1, h2, h3⟩ := h
  exact ⟨p, n, c, q, m, d, h1.same (hB.block _ h1.lt), h2.frS hB, h3.frS hB⟩
structure Bx where
  b : Nat
  k : Nat
  x : ByteArray
  l : V.T
  f : V.T
/-- the answer's box, and those of what is put together -/
structure RcG (w : World) (bx : List Bx) (W : World) : Prop where
  below : Below w.heap.size w W
  lt : w.heap.size + 1 ≤ W.heap.size
  b0 : Blk4 W w.heap.size 25 (.int .u8 0) (.string ⟨#[]⟩) (.slice none 0 0) (.slice none 0 0)
  bx : ∀ e ∈ bx, BoxF (S0 w) e.b e.k e.x e.l e.f W
theorem RcG.on {w : World} {bx : List Bx} {W W' : World} (h : RcG w bx W) (hB : Below W.heap.size W W') : RcG w bx W' :=
  ⟨h.below.trans (hB.mono h.below.size), Nat.le_trans h.lt hB.size, h.b0.same (hB.block _ h.b0.lt), fun e he => (h.bx e he).on hB⟩
theorem RcG.more {w : World} {bx : List Bx} {W : World} {k : Nat} {x : ByteArray} {l f : V.T} {p q : Option Addr} {n c m d : Nat} (h : RcG w bx W) (hv : VS (S0 w) k x l f (.agg #[.int .u8 k, .string x, .slice p n c, .slice q m d]) W) :
    RcG w (⟨W.heap.size, k, x, l, f⟩ :: bx) (W.alloc (.cells #[.int .u8 k, .string x, .slice p n c, .slice q m d] 25)) := by
  have hB := (Below.refl W.heap.size W).alloc (Nat.le_refl _) (.cells #[.int .u8 k, .string x, .slice p n c, .slice q m d] 25)
  have h' := h.on hB
  refine ⟨h'.below, h'.lt, h'.b0, fun e he => ?_⟩
  rcases List.mem_cons.1 he with rfl | he
  · obtain ⟨p', n', c', q', m', d', e, h1, h2⟩ := hv
    cases e
    exact ⟨_, _, _, _, _, _, heap_alloc_new _ _, h1.frS hB, h2.frS hB⟩
  · exact h'.bx e he
/-- while a statement that leaves its order open is under way -/
structure RcM (w : World) (bx : List Bx) (M : Nat) (W : World) : Prop where
  below : Below w.heap.size w W
  lt : w.heap.size + 1 ≤ M
  le : M ≤ W.heap.size
  b0 : Blk4 W w.heap.size 25 (.int .u8 0) (.string ⟨#[]⟩) (.slice none 0 0) (.slice none 0 0)
  bx : ∀ e ∈ bx, e.b < M ∧ BoxF (fun k => S0 w k ∧ k < M) e.b e.k e.x e.l e.f W
theorem RcM.on {w : World} {bx : List Bx} {M : Nat} {W W' : World} (h : RcM w bx M W) (hB : Below W.heap.size W W') : RcM w bx M W' :=
  ⟨h.below.trans (hB.mono h.below.size), h.lt, Nat.le_trans h.le hB.size, h.b0.same (hB.block _ h.b0.lt), fun e he => ⟨(h.bx e he).1, (h.bx e he).2.on hB⟩⟩
theorem RcG.m {w : World} {bx : List Bx} {W : World} (h : RcG w bx W) : RcM w bx W.heap.size W :=
  ⟨h.below, h.lt, Nat.le_refl _, h.b0, fun e he => by
    obtain ⟨p, n, c, q, m, d, h1, h2, h3⟩ := h.bx e he
    exact ⟨h1.lt, p, n, c, q, m, d, h1, h2.mono (fun b hb hlt => ⟨⟨hb.1, hlt⟩, hb.2⟩), h3.mono (fun b hb hlt => ⟨⟨hb.1, hlt⟩, hb.2⟩)⟩⟩
/-- the call's own, clear of a box -/
def Sob (w : World) (ob : Option Nat) (k : Nat) : Prop := S0 w k ∧ ob ≠ some k
theorem sob_new {w : World} {bx : List Bx} {M : Nat} {W : World} {ob : Option Nat} (h : RcM w bx M W) (hob : ∀ b, ob = some b → M ≤ b ∧ b < W.heap.size) : ∀ b, W.heap.size ≤ b → Sob w ob b := fun b hb =>
  ⟨by show w.heap.size + 1 ≤ b; have := h.lt; have := h.le; omega, fun e => by have := hob b e; omega⟩
theorem sob_old {w : World} {M : Nat} {W : World} {ob : Option Nat} {d : Nat} {v : Value} {t : V.T} (hob : ∀ b, ob = some b → M ≤ b ∧ b < W.heap.size) (h : HS W (FrS (fun k => S0 w k ∧ k < M) W) d v t) : HS W (FrS (Sob w ob) W) d v t :=
  h.mono (fun b hb _ => ⟨⟨hb.1.1, fun e => by have := hob b e; have := hb.1.2; omega⟩, hb.2⟩)
theorem vs_alloc {w : World} {k : Nat} {x : ByteArray} {l f : V.T} {y : Value} {W : World} (o : Obj) (h : VS (Sob w none) k x l f y W) : VS (Sob w (some W.heap.size)) k x l f y (W.alloc o) :=
  (h.mono (S' := Sob w (some W.heap.size)) (fun b hb hlt => ⟨hb.1, fun e => by cases e; omega⟩)).on ((Below.refl W.heap.size W).alloc (Nat.le_refl _) o)
/-- the box is filled -/
theorem RcM.fill {w : World} {bx : List Bx} {M : Nat} {W : World} {b k : Nat} {x : ByteArray} {l f : V.T} {p q : Option Addr} {n c m d : Nat} (h : RcM w bx M W) (hb : M ≤ b) {k0 x0 v0 u0 : Value} (hk : Blk4 W b 25 k0 x0 v0 u0)
    (hv : VS (Sob w (some b)) k x l f (.agg #[.int .u8 k, .string x, .slice p n c, .slice q m d]) W) :
    RcG w (⟨b, k, x, l, f⟩ :: bx) ((((W.setCell ⟨b, 0, none⟩ (.int .u8 k)).setCell ⟨b, 1, none⟩ (.string x)).setCell ⟨b, 2, none⟩ (.slice p n c)).setCell ⟨b, 3, none⟩ (.slice q m d)) ∧
    BoxF (Sob w (some b)) b k x l f ((((W.setCell ⟨b, 0, none⟩ (.int .u8 k)).setCell ⟨b, 1, none⟩ (.string x)).setCell ⟨b, 2, none⟩ (.slice p n c)).setCell ⟨b, 3, none⟩ (.slice q m d)) := by
  obtain ⟨g1, g2, g3⟩ := hk.all (.int .u8 k) (.string x) (.slice p n c) (.slice q m d)
  have he := set4_else W b (.int .u8 k) (.string x) (.slice p n c) (.slice q m d)
  generalize (((W.setCell ⟨b, 0, none⟩ (.int .u8 k)).setCell ⟨b, 1, none⟩ (.string x)).setCell ⟨b, 2, none⟩ (.slice p n c)).setCell ⟨b, 3, none⟩ (.slice q m d) = W' at *
  have hlt := h.lt
  obtain ⟨p', n', c', q', m', d', e, h1, h2⟩ := hv
  cases e
  have hne : ∀ j, FrS (Sob w (some b)) W j → j ≠ b := fun j hj e => hj.1.2 (by rw [e])
  have hx : BoxF (Sob w (some b)) b k x l f W' := ⟨_, _, _, _, _, _, g1, h1.imp (fun j hj _ => hj.imp hj.1 (he j (hne j hj))) (fun j hj _ => he j (hne j hj)), h2.imp (fun j hj _ => hj.imp hj.1 (he j (hne j hj))) (fun j hj _ => he j (hne j hj))⟩
  refine ⟨⟨h.below.trans (g3 w.heap.size (by omega)), ?_, h.b0.same (he _ (by omega)), fun e he' => ?_⟩, hx⟩
  · have := (g3 w.heap.size (by omega)).size
    have h4 := h.le
    have h5 := g1.lt
    omega
  · rcases List.mem_cons.1 he' with rfl | he'
    · obtain ⟨p, n, c, q, m, d, h1, h2, h3⟩ := hx
      exact ⟨p, n, c, q, m, d, h1, h2.mono (fun j hj _ => ⟨hj.1.1, hj.2⟩), h3.mono (fun j hj _ => ⟨hj.1.1, hj.2⟩)⟩
    · obtain ⟨h0, p, n, c, q, m, d, h1, h2, h3⟩ := h.bx e he'
      exact ⟨p, n, c, q, m, d, h1.same (he _ (by omega)), h2.imp (fun j hj _ => hj.imp hj.1.1 (he j (by have := hj.1.2; omega))) (fun j hj _ => he j (by have := hj.1.2; omega)), h3.imp (fun j hj _ => hj.imp hj.1.1 (he j (by have := hj.1.2; omega))) (fun j hj _ => he j (by have := hj.1.2; omega))⟩
theorem boxF_nil {S S' : Nat → Prop} {b k : Nat} {x : ByteArray} {W : World} (h : BoxF S b k x .nil .nil W) : BoxF S' b k x .nil .nil W := by
  obtain ⟨p, n, c, q, m, d, h1, h2, h3⟩ := h
  exact ⟨p, n, c, q, m, d, h1, hsnil h2, hsnil h3⟩
/-- while the last one is made greater -/
structure RcY (w : World) (b5 : Nat) (l f : V.T) (W : World) : Prop where
  below : Below w.heap.size w W
  lt : w.heap.size + 1 ≤ W.heap.size
  ge : w.heap.size + 1 ≤ b5
  b0 : Blk4 W w.heap.size 25 (.int .u8 0) (.string ⟨#[]⟩) (.slice none 0 0) (.slice none 0 0)
  box : BoxF (Sob w (some b5)) b5 6 ⟨#[]⟩ l f W
theorem RcY.on {w : World} {b5 : Nat} {l f : V.T} {W W' : World} (h : RcY w b5 l f W) (hB : Below W.heap.size W W') : RcY w b5 l f W' :=
  ⟨h.below.trans (hB.mono h.below.size), Nat.le_trans h.lt hB.size, h.ge, h.b0.same (hB.block _ h.b0.lt), h.box.on hB⟩
theorem RcY.new {w : World} {b5 : Nat} {l f : V.T} {W : World} (h : RcY w b5 l f W) : ∀ b, W.heap.size ≤ b → Sob w (some b5) b := fun b hb => by
  obtain ⟨p, n, c, q, m, d, h1, _⟩ := h.box
  exact ⟨by show w.heap.size + 1 ≤ b; have := h.lt; omega, fun e => by cases e; have := h1.lt; omega⟩
theorem RcY.fill {w : World} {b k : Nat} {l0 f0 : V.T} {W : World} {x : ByteArray} {l f : V.T} {p q : Option Addr} {n c m d : Nat} (h : RcY w b l0 f0 W)
    (hv : VS (Sob w (some b)) k x l f (.agg #[.int .u8 k, .string x, .slice p n c, .slice q m d]) W) :
    RcG w [⟨b, k, x, l, f⟩] ((((W.setCell ⟨b, 0, none⟩ (.int .u8 k)).setCell ⟨b, 1, none⟩ (.string x)).setCell ⟨b, 2, none⟩ (.slice p n c)).setCell ⟨b, 3, none⟩ (.slice q m d)) := by
  obtain ⟨_, _, _, _, _, _, hk, -⟩ := h.box
  obtain ⟨g1, g2, g3⟩ := hk.all (.int .u8 k) (.string x) (.slice p n c) (.slice q m d)
  have he := set4_else W b (.int .u8 k) (.string x) (.slice p n c) (.slice q m d)
  generalize (((W.setCell ⟨b, 0, none⟩ (.int .u8 k)).setCell ⟨b, 1, none⟩ (.string x)).setCell ⟨b, 2, none⟩ (.slice p n c)).setCell ⟨b, 3, none⟩ (.slice q m d) = W' at *
  have hlt := h.ge
  obtain ⟨p', n', c', q', m', d', e, h1, h2⟩ := hv
  cases e
  have hne : ∀ j, FrS (Sob w (some b)) W j → j ≠ b := fun j hj e => hj.1.2 (by rw [e])
  refine ⟨h.below.trans (g3 w.heap.size (by omega)), ?_, h.b0.same (he _ (by omega)), fun e he' => ?_⟩
  · have := g1.lt
    omega
  · obtain rfl := List.mem_singleton.1 he'
    exact ⟨_, _, _, _, _, _, g1, h1.imp (fun j hj _ => hj.imp hj.1.1 (he j (hne j hj))) (fun j hj _ => he j (hne j hj)), h2.imp (fun j hj _ => hj.imp hj.1.1 (he j (hne j hj))) (fun j hj _ => he j (hne j hj))⟩
end Go.Proofs.YtdgmbmoaeoakpaaDoor
