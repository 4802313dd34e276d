/- What the server can, the document's answer. Conditions: none. -/
import Derived.Test.YtagafedkfkmkbaaDoorRsTypes
import Derived.Test.YtagafedkfkmkbaaDoorRsWithW
import Derived.Test.YtagafedkfkmkbaaDoorRsTexts
import Derived.Test.YtagafedkfkmkbaaDoorRegMonoA
import Derived.Test.YtagafedkfkmkbaaDoorQtNum
namespace Go.Proofs.YtagafedkfkmkbaaDoor
open Go Go.RowKit Go.Lib

theorem hsnil {w w' : World} {A A' : Nat → Prop} {d : Nat} {v : Value} (h : HS w A d v .nil) : HS w' A' d v .nil := SL.imp h (fun _ _ _ => trivial)
def S0 (w : World) (k : Nat) : Prop := w.heap.size + 1 ≤ k
/-- a value in a box -/
def BoxF (S : Nat → Prop) (b k : Nat) (x : ByteArray) (l f : V.T) (W : World) : Prop := ∃ p n c q m d, Blk4 W b 25 (.int .u8 k) (.string x) (.slice p n c) (.slice q m d) ∧ HS W (FrS S W) 0 (.slice p n c) l ∧ HS W (FrS S W) 1 (.slice q m d) f
theorem BoxF.on {S : Nat → Prop} {b k : Nat} {x : ByteArray} {l f : V.T} {W W' : World} (h : BoxF S b k x l f W) (hB : Below W.heap.size W W') : BoxF S b k x l f W' := by
  obtain ⟨p, n, c, q, m, d, h1, h2, h3⟩ := h
  exact ⟨p, n, c, q, m, d, h1.same (hB.block _ h1.lt), h2.frS hB, h3.frS hB⟩
structure Bx where
  b : Nat
  k : Nat
  x : ByteArray
  l : V.T
  f : V.T
/-- the answer's box, and those of what is put together -/
structure RcG (w : World) (bx : List Bx) (W : World) : Prop where
  below : Below w.heap.size w W
  lt : w.heap.size + 1 ≤ W.heap.size
  b0 : Blk4 W w.heap.size 25 (.int .u8 0) (.string ⟨#[]⟩) (.slice none 0 0) (.slice none 0 0)
  bx : ∀ e ∈ bx, BoxF (S0 w) e.b e.k e.x e.l e.f W
theorem RcG.on {w : World} {bx : List Bx} {W W' : World} (h : RcG w bx W) (hB : Below W.heap.size W W') : RcG w bx W' :=
  ⟨h.below.trans (hB.mono h.below.size), Nat.le_trans h.lt hB.size, h.b0.same (hB.block _ h.b0.lt), fun e he => (h.bx e he).on hB⟩
theorem RcG.more {w : World} {bx : List Bx} {W : World} {k : Nat} {x : ByteArray} {l f : V.T} {p q : Option Addr} {n c m d : Nat} (h : RcG w bx W) (hv : VS (S0 w) k x l f (.agg #[.int .u8 k, .string x, .slice p n c, .slice q m d]) W) :
    RcG w (⟨W.heap.size, k, x, l, f⟩ :: bx) (W.alloc (.cells #[.int .u8 k, .string x, .slice p n c, .slice q m d] 25)) := by
  have hB := (Below.refl W.heap.size W).alloc (Nat.le_refl _) (.cells #[.int .u8 k, .string x, .slice p n c, .slice q m d] 25)
  have h' := h.on hB
  refine ⟨h'.below, h'.lt, h'.b0, fun e he => ?_⟩
  rcases List.mem_cons.1 he with rfl | he
  · obtain ⟨p', n', c', q', m', d', e, h1, h2⟩ := hv
    cases e
    exact ⟨_, _, _, _, _, _, heap_alloc_new _ _, h1.frS hB, h2.frS hB⟩
  · exact h'.bx e he
/-- while a statement that leaves its order open is under way -/
structure RcM (w : World) (bx : List Bx) (M : Nat) (W : World) : Prop where
  below : Below w.heap.size w W
  lt : w.heap.size + 1 ≤ M
  le : M ≤ W.heap.size
  b0 : Blk4 W w.heap.size 25 (.int .u8 0) (.string ⟨#[]⟩) (.slice none 0 0) (.slice none 0 0)
  bx : ∀ e ∈ bx, e.b < M ∧ BoxF (fun k => S0 w k ∧ k < M) e.b e.k e.x e.l e.f W
theorem RcM.on {w : World} {bx : List Bx} {M : Nat} {W W' : World} (h : RcM w bx M W) (hB : Below W.heap.size W W') : RcM w bx M W' :=
  ⟨h.below.trans (hB.mono h.below.size), h.lt, Nat.le_trans h.le hB.size, h.b0.same (hB.block _ h.b0.lt), fun e he => ⟨(h.bx e he).1, (h.bx e he).2.on hB⟩⟩
theorem RcG.m {w : World} {bx : List Bx} {W : World} (h : RcG w bx W) : RcM w bx W.heap.size W :=
  ⟨h.below, h.lt, Nat.le_refl _, h.b0, fun e he => by
    obtain ⟨p, n, c, q, m, d, h1, h2, h3⟩ := h.bx e he
    exact ⟨h1.lt, p, n, c, q, m, d, h1, h2.mono (fun b hb hlt => ⟨⟨hb.1, hlt⟩, hb.2⟩), h3.mono (fun b hb hlt => ⟨⟨hb.1, hlt⟩, hb.2⟩)⟩⟩
/-- the call's own, clear of a box -/
def Sob (w : World) (ob : Option Nat) (k : Nat) : Prop := S0 w k ∧ ob ≠ some k
theorem sob_new {w : World} {bx : List Bx} {M : Nat} {W : World} {ob : Option Nat} (h : RcM w bx M W) (hob : ∀ b, ob = some b → M ≤ b ∧ b < W.heap.size) : ∀ b, W.heap.size ≤ b → Sob w ob b := fun b hb =>
  ⟨by show w.heap.size + 1 ≤ b; have := h.lt; have := h.le; omega, fun e => by have := hob b e; omega⟩
theorem sob_old {w : World} {M : Nat} {W : World} {ob : Option Nat} {d : Nat} {v : Value} {t : V.T} (hob : ∀ b, ob = some b → M ≤ b ∧ b < W.heap.size) (h : HS W (FrS (fun k => S0 w k ∧ k < M) W) d v t) : HS W (FrS (Sob w ob) W) d v t :=
  h.mono (fun b hb _ => ⟨⟨hb.1.1, fun e => by have := hob b e; have := hb.1.2; omega⟩, hb.2⟩)
theorem vs_alloc {w : World} {k : Nat} {x : ByteArray} {l f : V.T} {y : Value} {W : World} (o : Obj) (h : VS (Sob w none) k x l f y W) : VS (Sob w (some W.heap.size)) k x l f y (W.alloc o) :=
  (h.mono (S' := Sob w (some W.heap.size)) (fun b hb hlt => ⟨hb.1, fun e => by cases e; omega⟩)).on ((Below.refl W.heap.size W).alloc (Nat.le_refl _) o)
/-- the box is filled -/
theorem RcM.fill {w : World} {bx : List Bx} {M : Nat} {W : World} {b k : Nat} {x : ByteArray} {l f : V.T} {p q : Option Addr} {n c m d : Nat} (h : RcM w bx M W) (hb : M ≤ b) {k0 x0 v0 u0 : Value} (hk : Blk4 W b 25 k0 x0 v0 u0)
    (hv : VS (Sob w (some b)) k x l f (.agg #[.int .u8 k, .string x, .slice p n c, .slice q m d]) W) :
    RcG w (⟨b, k, x, l, f⟩ :: bx) ((((W.setCell ⟨b, 0, none⟩ (.int .u8 k)).setCell ⟨b, 1, none⟩ (.string x)).setCell ⟨b, 2, none⟩ (.slice p n c)).setCell ⟨b, 3, none⟩ (.slice q m d)) ∧
    BoxF (Sob w (some b)) b k x l f ((((W.setCell ⟨b, 0, none⟩ (.int .u8 k)).setCell ⟨b, 1, none⟩ (.string x)).setCell ⟨b, 2, none⟩ (.slice p n c)).setCell ⟨b, 3, none⟩ (.slice q m d)) := by
  obtain ⟨g1, g2, g3⟩ := hk.all (.int .u8 k) (.string x) (.slice p n c) (.slice q m d)
  have he := set4_else W b (.int .u8 k) (.string x) (.slice p n c) (.slice q m d)
  generalize (((W.setCell ⟨b, 0, none⟩ (.int .u8 k)).setCell ⟨b, 1, none⟩ (.string x)).setCell ⟨b, 2, none⟩ (.slice p n c)).setCell ⟨b, 3, none⟩ (.slice q m d) = W' at *
  have hlt := h.lt
  obtain ⟨p', n', c', q', m', d', e, h1, h2⟩ := hv
  cases e
  have hne : ∀ j, FrS (Sob w (some b)) W j → j ≠ b := fun j hj e => hj.1.2 (by rw [e])
  have hx : BoxF (Sob w (some b)) b k x l f W' := ⟨_, _, _, _, _, _, g1, h1.imp (fun j hj _ => hj.imp hj.1 (he j (hne j hj))) (fun j hj _ => he j (hne j hj)), h2.imp (fun j hj _ => hj.imp hj.1 (he j (hne j hj))) (fun j hj _ => he j (hne j hj))⟩
  refine ⟨⟨h.below.trans (g3 w.heap.size (by omega)), ?_, h.b0.same (he _ (by omega)), fun e he' => ?_⟩, hx⟩
  · have := (g3 w.heap.size (by omega)).size
    have h4 := h.le
    have h5 := g1.lt
    omega
  · rcases List.mem_cons.1 he' with rfl | he'
    · obtain ⟨p, n, c, q, m, d, h1, h2, h3⟩ := hx
      exact ⟨p, n, c, q, m, d, h1, h2.mono (fun j hj _ => ⟨hj.1.1, hj.2⟩), h3.mono (fun j hj _ => ⟨hj.1.1, hj.2⟩)⟩
    · obtain ⟨h0, p, n, c, q, m, d, h1, h2, h3⟩ := h.bx e he'
      exact ⟨p, n, c, q, m, d, h1.same (he _ (by omega)), h2.imp (fun j hj _ => hj.imp hj.1.1 (he j (by have := hj.1.2; omega))) (fun j hj _ => he j (by have := hj.1.2; omega)), h3.imp (fun j hj _ => hj.imp hj.1.1 (he j (by have := hj.1.2; omega))) (fun j hj _ => he j (by have := hj.1.2; omega))⟩
/-- while the last one is made greater -/
structure RcX (w : World) (b5 : Nat) (l f : V.T) (W : World) : Prop where
  below : Below w.heap.size w W
  lt : w.heap.size + 1 ≤ W.heap.size
  ge : w.heap.size + 1 ≤ b5
  b0 : Blk4 W w.heap.size 25 (.int .u8 0) (.string ⟨#[]⟩) (.slice none 0 0) (.slice none 0 0)
  yes : BoxF (Sob w (some b5)) (w.heap.size + 1) 2 ⟨#[]⟩ .nil .nil W
  box : BoxF (Sob w (some b5)) b5 6 ⟨#[]⟩ l f W
theorem RcX.on {w : World} {b5 : Nat} {l f : V.T} {W W' : World} (h : RcX w b5 l f W) (hB : Below W.heap.size W W') : RcX w b5 l f W' :=
  ⟨h.below.trans (hB.mono h.below.size), Nat.le_trans h.lt hB.size, h.ge, h.b0.same (hB.block _ h.b0.lt), h.yes.on hB, h.box.on hB⟩
theorem boxF_nil {S S' : Nat → Prop} {b k : Nat} {x : ByteArray} {W : World} (h : BoxF S b k x .nil .nil W) : BoxF S' b k x .nil .nil W := by
  obtain ⟨p, n, c, q, m, d, h1, h2, h3⟩ := h
  exact ⟨p, n, c, q, m, d, h1, hsnil h2, hsnil h3⟩
theorem RcX.new {w : World} {b5 : Nat} {l f : V.T} {W : World} (h : RcX w b5 l f W) : ∀ b, W.heap.size ≤ b → Sob w (some b5) b := fun b hb => by
  obtain ⟨p, n, c, q, m, d, h1, _⟩ := h.box
  exact ⟨by show w.heap.size + 1 ≤ b; have := h.lt; omega, fun e => by cases e; have := h1.lt; omega⟩
theorem RcX.fill {w : World} {b k : Nat} {l0 f0 : V.T} {W : World} {x : ByteArray} {l f : V.T} {p q : Option Addr} {n c m d : Nat} (h : RcX w b l0 f0 W)
    (hv : VS (Sob w (some b)) k x l f (.agg #[.int .u8 k, .string x, .slice p n c, .slice q m d]) W) :
    RcG w [⟨b, k, x, l, f⟩] ((((W.setCell ⟨b, 0, none⟩ (.int .u8 k)).setCell ⟨b, 1, none⟩ (.string x)).setCell ⟨b, 2, none⟩ (.slice p n c)).setCell ⟨b, 3, none⟩ (.slice q m d)) := by
  obtain ⟨_, _, _, _, _, _, hk, -⟩ := h.box
  obtain ⟨g1, g2, g3⟩ := hk.all (.int .u8 k) (.string x) (.slice p n c) (.slice q m d)
  have he := set4_else W b (.int .u8 k) (.string x) (.slice p n c) (.slice q m d)
  generalize (((W.setCell ⟨b, 0, none⟩ (.int .u8 k)).setCell ⟨b, 1, none⟩ (.string x)).setCell ⟨b, 2, none⟩ (.slice p n c)).setCell ⟨b, 3, none⟩ (.slice q m d) = W' at *
  have hlt := h.ge
  obtain ⟨p', n', c', q', m', d', e, h1, h2⟩ := hv
  cases e
  have hne : ∀ j, FrS (Sob w (some b)) W j → j ≠ b := fun j hj e => hj.1.2 (by rw [e])
  refine ⟨h.below.trans (g3 w.heap.size (by omega)), ?_, h.b0.same (he _ (by omega)), fun e he' => ?_⟩
  · have := g1.lt
    omega
  · obtain rfl := List.mem_singleton.1 he'
    exact ⟨_, _, _, _, _, _, g1, h1.imp (fun j hj _ => hj.imp hj.1.1 (he j (hne j hj))) (fun j hj _ => he j (hne j hj)), h2.imp (fun j hj _ => hj.imp hj.1.1 (he j (hne j hj))) (fun j hj _ => he j (hne j hj))⟩
def tAll3 : V.T := (.cons ⟨#[112, 111, 115, 105, 116, 105, 111, 110, 69, 110, 99, 111, 100, 105, 110, 103]⟩ 4 ⟨#[117, 116, 102, 45, 49, 54]⟩ .nil .nil (.cons ⟨#[116, 101, 120, 116, 68, 111, 99, 117, 109, 101, 110, 116, 83, 121, 110, 99]⟩ 6 ⟨#[]⟩ .nil tSync (.cons ⟨#[115, 101, 109, 97, 110, 116, 105, 99, 84, 111, 107, 101, 110, 115, 80, 114, 111, 118, 105, 100, 101, 114]⟩ 6 ⟨#[]⟩ .nil tTokens .nil)))
def tAll4 : V.T := appT tAll3 ⟨#[102, 111, 108, 100, 105, 110, 103, 82, 97, 110, 103, 101, 80, 114, 111, 118, 105, 100, 101, 114]⟩ 2 ⟨#[]⟩ .nil .nil
def FR6 (w : World) (b5 : Nat) : Nat → Value → World → Prop
  | 0, y, W => VS (Sob w (some b5)) 6 ⟨#[]⟩ .nil tAll3 y W
  | 1, y, W => VS (Sob w (some b5)) 2 ⟨#[]⟩ .nil .nil y W
  | 2, y, W => VS (Sob w (some b5)) 6 ⟨#[]⟩ .nil tAll4 y W
  | 3, y, W => VS (Sob w (some b5)) 2 ⟨#[]⟩ .nil .nil y W
  | 4, y, W => VS (Sob w (some b5)) 6 ⟨#[]⟩ .nil tAll y W
  | _, _, _ => True
theorem FR6.on {w : World} {b5 : Nat} {i : Nat} {y : Value} {W W' : World} (h : FR6 w b5 i y W) (hB : Below W.heap.size W W') : FR6 w b5 i y W' := by
  unfold FR6 at h ⊢
  split at h
  · exact h.on hB
  · exact h.on hB
  · exact h.on hB
  · exact h.on hB
  · exact h.on hB
  · trivial
def FR4 (w : World) (ob : Option Nat) : Nat → Value → World → Prop
  | 0, y, W => VS (Sob w ob) 0 ⟨#[]⟩ .nil .nil y W
  | 1, y, W => VS (Sob w ob) 6 ⟨#[]⟩ .nil tLegend y W
  | 2, y, W => VS (Sob w ob) 6 ⟨#[]⟩ .nil (appT .nil ⟨#[108, 101, 103, 101, 110, 100]⟩ 6 ⟨#[]⟩ .nil tLegend) y W
  | 3, y, W => VS (Sob w ob) 0 ⟨#[]⟩ .nil .nil y W
  | 4, y, W => VS (Sob w ob) 2 ⟨#[]⟩ .nil .nil y W
  | 5, y, W => VS (Sob w ob) 6 ⟨#[]⟩ .nil (appT .nil ⟨#[100, 101, 108, 116, 97]⟩ 2 ⟨#[]⟩ .nil .nil) y W
  | 6, y, W => VS (Sob w ob) 6 ⟨#[]⟩ .nil (appT (appT .nil ⟨#[108, 101, 103, 101, 110, 100]⟩ 6 ⟨#[]⟩ .nil tLegend) ⟨#[102, 117, 108, 108]⟩ 6 ⟨#[]⟩ .nil (appT .nil ⟨#[100, 101, 108, 116, 97]⟩ 2 ⟨#[]⟩ .nil .nil)) y W
  | _, _, _ => True
theorem FR4.on {w : World} {ob : Option Nat} {i : Nat} {y : Value} {W W' : World} (h : FR4 w ob i y W) (hB : Below W.heap.size W W') : FR4 w ob i y W' := by
  unfold FR4 at h ⊢
  split at h
  · exact h.on hB
  · exact h.on hB
  · exact h.on hB
  · exact h.on hB
  · exact h.on hB
  · exact h.on hB
  · exact h.on hB
  · trivial
theorem FR4.al {w : World} {i : Nat} {y : Value} {W : World} (o : Obj) (h : FR4 w none i y W) : FR4 w (some W.heap.size) i y (W.alloc o) := by
  unfold FR4 at h ⊢
  split at h
  · exact vs_alloc o h
  · exact vs_alloc o h
  · exact vs_alloc o h
  · exact vs_alloc o h
  · exact vs_alloc o h
  · exact vs_alloc o h
  · exact vs_alloc o h
  · trivial
def FR5 (w : World) (ob : Option Nat) : Nat → Value → World → Prop
  | 0, y, W => VS (Sob w ob) 0 ⟨#[]⟩ .nil .nil y W
  | 1, y, W => VS (Sob w ob) 4 ⟨#[117, 116, 102, 45, 49, 54]⟩ .nil .nil y W
  | 2, y, W => VS (Sob w ob) 6 ⟨#[]⟩ .nil (appT .nil ⟨#[112, 111, 115, 105, 116, 105, 111, 110, 69, 110, 99, 111, 100, 105, 110, 103]⟩ 4 ⟨#[117, 116, 102, 45, 49, 54]⟩ .nil .nil) y W
  | 3, y, W => VS (Sob w ob) 6 ⟨#[]⟩ .nil tSync y W
  | 4, y, W => VS (Sob w ob) 6 ⟨#[]⟩ .nil (appT (appT .nil ⟨#[112, 111, 115, 105, 116, 105, 111, 110, 69, 110, 99, 111, 100, 105, 110, 103]⟩ 4 ⟨#[117, 116, 102, 45, 49, 54]⟩ .nil .nil) ⟨#[116, 101, 120, 116, 68, 111, 99, 117, 109, 101, 110, 116, 83, 121, 110, 99]⟩ 6 ⟨#[]⟩ .nil tSync) y W
  | 5, y, W => VS (Sob w ob) 6 ⟨#[]⟩ .nil tTokens y W
  | 6, y, W => VS (Sob w ob) 6 ⟨#[]⟩ .nil (appT (appT (appT .nil ⟨#[112, 111, 115, 105, 116, 105, 111, 110, 69, 110, 99, 111, 100, 105, 110, 103]⟩ 4 ⟨#[117, 116, 102, 45, 49, 54]⟩ .nil .nil) ⟨#[116, 101, 120, 116, 68, 111, 99, 117, 109, 101, 110, 116, 83, 121, 110, 99]⟩ 6 ⟨#[]⟩ .nil tSync) ⟨#[115, 101, 109, 97, 110, 116, 105, 99, 84, 111, 107, 101, 110, 115, 80, 114, 111, 118, 105, 100, 101, 114]⟩ 6 ⟨#[]⟩ .nil tTokens) y W
  | _, _, _ => True
theorem FR5.on {w : World} {ob : Option Nat} {i : Nat} {y : Value} {W W' : World} (h : FR5 w ob i y W) (hB : Below W.heap.size W W') : FR5 w ob i y W' := by
  unfold FR5 at h ⊢
  split at h
  · exact h.on hB
  · exact h.on hB
  · exact h.on hB
  · exact h.on hB
  · exact h.on hB
  · exact h.on hB
  · exact h.on hB
  · trivial
theorem FR5.al {w : World} {i : Nat} {y : Value} {W : World} (o : Obj) (h : FR5 w none i y W) : FR5 w (some W.heap.size) i y (W.alloc o) := by
  unfold FR5 at h ⊢
  split at h
  · exact vs_alloc o h
  · exact vs_alloc o h
  · exact vs_alloc o h
  · exact vs_alloc o h
  · exact vs_alloc o h
  · exact vs_alloc o h
  · exact vs_alloc o h
  · trivial
set_option maxHeartbeats 8000000 in
set_option maxRecDepth 100000 in
theorem capR_any (w : World) : Calls Tryd.prog 39 #[] w (RetV w.heap.size 6 ⟨#[]⟩ .nil tCap w) := by
  have HX1 := Lib.hid (fun W => refText4_any ⟨#[117, 116, 102, 45, 49, 54]⟩ W (by decide))
  have HX2 := Lib.hid (fun W => refText4_any ⟨#[103, 108, 111, 115, 115, 97, 116, 111, 114]⟩ W (by decide))
  rw [fix_utf] at HX1
  rw [fix_glo] at HX2
  have HNu := Lib.hid (fun W => refNumber_any 2 (by decide) (by decide) W)
  have HG0 := Lib.hid (show RcG w [⟨w.heap.size + 1, 2, ⟨#[]⟩, .nil, .nil⟩] ((w.alloc (.cells #[.int .u8 0, .string ⟨#[]⟩, .slice none 0 0, .slice none 0 0] 25)).alloc (.cells #[.int .u8 2, .string ⟨#[]⟩, .slice none 0 0, .slice none 0 0] 25)) from by
    have h2 := two_new w (.cells #[.int .u8 0, .string ⟨#[]⟩, .slice none 0 0, .slice none 0 0] 25) (.cells #[.int .u8 2, .string ⟨#[]⟩, .slice none 0 0, .slice none 0 0] 25)
    refine ⟨two_below _ _ _, by rw [two_size]; omega, h2.1, fun e he => ?_⟩
    obtain rfl := List.mem_singleton.1 he
    exact ⟨_, _, _, _, _, _, h2.2, HS.nil _ _ _, HS.nil _ _ _⟩)
  go_enter Tryd.func39, Tryd.ntmps39
  go_upto_region 2 with fail
  generalize (w.alloc (.cells #[.int .u8 0, .string ⟨#[]⟩, .slice none 0 0, .slice none 0 0] 25)).alloc (.cells #[.int .u8 2, .string ⟨#[]⟩, .slice none 0 0, .slice none 0 0] 25) = W2 at *
  go_wp2_with fail
  refine (refTypes_any W2).mono ?_
  rintro e _ ⟨rfl, rfl⟩
  have hB := (Below.refl W2.heap.size W2).alloc (Nat.le_refl _) (.cells #[.string ⟨#[107, 101, 121, 119, 111, 114, 100]⟩, .string ⟨#[99, 111, 109, 109, 101, 110, 116]⟩, .string ⟨#[115, 116, 114, 105, 110, 103]⟩, .string ⟨#[110, 117, 109, 98, 101, 114]⟩, .string ⟨#[111, 112, 101, 114, 97, 116, 111, 114]⟩, .string ⟨#[118, 97, 114, 105, 97, 98, 108, 101]⟩, .string ⟨#[112, 97, 114, 97, 109, 101, 116, 101, 114]⟩, .string ⟨#[102, 117, 110, 99, 116, 105, 111, 110]⟩] 9)
  have hS := strs_lie W2 tyL (row := #[.string ⟨#[107, 101, 121, 119, 111, 114, 100]⟩, .string ⟨#[99, 111, 109, 109, 101, 110, 116]⟩, .string ⟨#[115, 116, 114, 105, 110, 103]⟩, .string ⟨#[110, 117, 109, 98, 101, 114]⟩, .string ⟨#[111, 112, 101, 114, 97, 116, 111, 114]⟩, .string ⟨#[118, 97, 114, 105, 97, 98, 108, 101]⟩, .string ⟨#[112, 97, 114, 97, 109, 101, 116, 101, 114]⟩, .string ⟨#[102, 117, 110, 99, 116, 105, 111, 110]⟩]) rfl
  have hl : W2.heap.size < (W2.alloc (.cells #[.string ⟨#[107, 101, 121, 119, 111, 114, 100]⟩, .string ⟨#[99, 111, 109, 109, 101, 110, 116]⟩, .string ⟨#[115, 116, 114, 105, 110, 103]⟩, .string ⟨#[110, 117, 109, 98, 101, 114]⟩, .string ⟨#[111, 112, 101, 114, 97, 116, 111, 114]⟩, .string ⟨#[118, 97, 114, 105, 97, 98, 108, 101]⟩, .string ⟨#[112, 97, 114, 97, 109, 101, 116, 101, 114]⟩, .string ⟨#[102, 117, 110, 99, 116, 105, 111, 110]⟩] 9)).heap.size := by simp
  have HG1 := Lib.hid (HG0.out.on hB)
  have HS1 := Lib.hid (And.intro hS hl)
  clear hB hS hl
  generalize W2.alloc (.cells #[.string ⟨#[107, 101, 121, 119, 111, 114, 100]⟩, .string ⟨#[99, 111, 109, 109, 101, 110, 116]⟩, .string ⟨#[115, 116, 114, 105, 110, 103]⟩, .string ⟨#[110, 117, 109, 98, 101, 114]⟩, .string ⟨#[111, 112, 101, 114, 97, 116, 111, 114]⟩, .string ⟨#[118, 97, 114, 105, 97, 98, 108, 101]⟩, .string ⟨#[112, 97, 114, 97, 109, 101, 116, 101, 114]⟩, .string ⟨#[102, 117, 110, 99, 116, 105, 111, 110]⟩] 9) = w1 at *
  go_wp2_with fail
  refine (Calls.mono (texts_any _ 8 tyL w1 (by decide) (by decide) HS1.out.2 HS1.out.1 tyL_small) (fun e W1 h => RetV.s (S := (S0 w)) h (fun b hb => Nat.le_trans HG1.out.lt hb))).mono ?_
  rintro e w2 ⟨y, rfl, hv, hB⟩
  have HG2 := Lib.hid (HG1.out.on hB)
  obtain ⟨p2, n2, c2, q2, m2, d2, rfl, hl, hf⟩ := hv
  have HV2_t := Lib.hid (show VS (S0 w) 5 ⟨#[]⟩ (txT tyL) .nil (.agg #[.int .u8 5, .string ⟨#[]⟩, .slice p2 n2 c2, .slice q2 m2 d2]) w2 from VS.mk hl hf)
  clear hl hf hB
  go_wp2_with fail
  refine (with_any (S0 w) 0 ⟨#[]⟩ .nil .nil ⟨#[116, 111, 107, 101, 110, 84, 121, 112, 101, 115]⟩ 5 ⟨#[]⟩ (txT tyL) .nil _ _ w2 (fun b hb => Nat.le_trans HG2.out.lt hb) (VS.mk (HS.nil _ _ _) (HS.nil _ _ _)) HV2_t.out ⟨by decide, by decide, by decide⟩ (by decide)).mono ?_
  rintro e w3 ⟨y, rfl, hv, hB⟩
  have HG3 := Lib.hid (HG2.out.on hB)
  obtain ⟨p3, n3, c3, q3, m3, d3, rfl, hl, hf⟩ := hv
  have HV3_a := Lib.hid (show VS (S0 w) 6 ⟨#[]⟩ .nil (appT .nil ⟨#[116, 111, 107, 101, 110, 84, 121, 112, 101, 115]⟩ 5 ⟨#[]⟩ (txT tyL) .nil) (.agg #[.int .u8 6, .string ⟨#[]⟩, .slice p3 n3 c3, .slice q3 m3 d3]) w3 from VS.mk hl hf)
  clear hl hf hB
  go_wp2_with fail
  refine (refMods_any w3).mono ?_
  rintro e _ ⟨rfl, rfl⟩
  have hB := (Below.refl w3.heap.size w3).alloc (Nat.le_refl _) (.cells #[.string ⟨#[100, 101, 99, 108, 97, 114, 97, 116, 105, 111, 110]⟩, .string ⟨#[117, 110, 114, 101, 115, 111, 108, 118, 101, 100]⟩, .string ⟨#[114, 101, 100, 101, 99, 108, 97, 114, 101, 100]⟩] 9)
  have hS := strs_lie w3 mdL (row := #[.string ⟨#[100, 101, 99, 108, 97, 114, 97, 116, 105, 111, 110]⟩, .string ⟨#[117, 110, 114, 101, 115, 111, 108, 118, 101, 100]⟩, .string ⟨#[114, 101, 100, 101, 99, 108, 97, 114, 101, 100]⟩]) rfl
  have hl : w3.heap.size < (w3.alloc (.cells #[.string ⟨#[100, 101, 99, 108, 97, 114, 97, 116, 105, 111, 110]⟩, .string ⟨#[117, 110, 114, 101, 115, 111, 108, 118, 101, 100]⟩, .string ⟨#[114, 101, 100, 101, 99, 108, 97, 114, 101, 100]⟩] 9)).heap.size := by simp
  have HG4 := Lib.hid (HG3.out.on hB)
  have HV4_a := Lib.hid (HV3_a.out.on hB)
  have HS4 := Lib.hid (And.intro hS hl)
  clear hB hS hl
  generalize w3.alloc (.cells #[.string ⟨#[100, 101, 99, 108, 97, 114, 97, 116, 105, 111, 110]⟩, .string ⟨#[117, 110, 114, 101, 115, 111, 108, 118, 101, 100]⟩, .string ⟨#[114, 101, 100, 101, 99, 108, 97, 114, 101, 100]⟩] 9) = w4 at *
  go_wp2_with fail
  refine (Calls.mono (texts_any _ 3 mdL w4 (by decide) (by decide) HS4.out.2 HS4.out.1 mdL_small) (fun e W1 h => RetV.s (S := (S0 w)) h (fun b hb => Nat.le_trans HG4.out.lt hb))).mono ?_
  rintro e w5 ⟨y, rfl, hv, hB⟩
  have HG5 := Lib.hid (HG4.out.on hB)
  have HV5_a := Lib.hid (HV4_a.out.on hB)
  obtain ⟨p5, n5, c5, q5, m5, d5, rfl, hl, hf⟩ := hv
  have HV5_t := Lib.hid (show VS (S0 w) 5 ⟨#[]⟩ (txT mdL) .nil (.agg #[.int .u8 5, .string ⟨#[]⟩, .slice p5 n5 c5, .slice q5 m5 d5]) w5 from VS.mk hl hf)
  clear hl hf hB
  go_wp2_with fail
  refine (with_any (S0 w) 6 ⟨#[]⟩ .nil (appT .nil ⟨#[116, 111, 107, 101, 110, 84, 121, 112, 101, 115]⟩ 5 ⟨#[]⟩ (txT tyL) .nil) ⟨#[116, 111, 107, 101, 110, 77, 111, 100, 105, 102, 105, 101, 114, 115]⟩ 5 ⟨#[]⟩ (txT mdL) .nil _ _ w5 (fun b hb => Nat.le_trans HG5.out.lt hb) HV5_a.out HV5_t.out ⟨by decide, by decide, by decide⟩ (by decide)).mono ?_
  rintro e w6 ⟨y, rfl, hv, hB⟩
  have HG6 := Lib.hid (HG5.out.on hB)
  obtain ⟨p6, n6, c6, q6, m6, d6, rfl, hl, hf⟩ := hv
  have HV6_a := Lib.hid (show VS (S0 w) 6 ⟨#[]⟩ .nil tLegend (.agg #[.int .u8 6, .string ⟨#[]⟩, .slice p6 n6 c6, .slice q6 m6 d6]) w6 from VS.mk hl hf)
  clear hl hf hB
  have HGXb2 := Lib.hid (HG6.out.more HV6_a.out)
  have HIb2 := Lib.hid HG6.out.lt
  go_upto_region 3 with fail
  generalize w6.alloc (.cells #[.int .u8 6, .string ⟨#[]⟩, .slice p6 n6 c6, .slice q6 m6 d6] 25) = W3 at *
  generalize w6.heap.size = b2 at *
  obtain ⟨py, ny, cy, qy, my, dy, hby, hyl, hyf⟩ := HGXb2.out.bx _ (.tail _ (.head _))
  have HY3 := Lib.hid (show VS (S0 w) 2 ⟨#[]⟩ .nil .nil (.agg #[.int .u8 2, .string ⟨#[]⟩, .slice py ny cy, .slice qy my dy]) W3 from VS.mk hyl hyf)
  obtain ⟨s0, s1, s2, s3⟩ := hby.box
  clear hby hyl hyf
  dsimp only at s0 s1 s2 s3
  go_wp2_with fail
  refine (with_any (S0 w) 0 ⟨#[]⟩ .nil .nil ⟨#[111, 112, 101, 110, 67, 108, 111, 115, 101]⟩ 2 ⟨#[]⟩ .nil .nil _ _ W3 (fun b hb => Nat.le_trans HGXb2.out.lt hb) (VS.mk (HS.nil _ _ _) (HS.nil _ _ _)) HY3.out ⟨by decide, by decide, by decide⟩ (by decide)).mono ?_
  clear s0 s1 s2 s3
  rintro e w7 ⟨y, rfl, hv, hB⟩
  have HG7 := Lib.hid (HGXb2.out.on hB)
  obtain ⟨p7, n7, c7, q7, m7, d7, rfl, hl, hf⟩ := hv
  have HV7_s := Lib.hid (show VS (S0 w) 6 ⟨#[]⟩ .nil (appT .nil ⟨#[111, 112, 101, 110, 67, 108, 111, 115, 101]⟩ 2 ⟨#[]⟩ .nil .nil) (.agg #[.int .u8 6, .string ⟨#[]⟩, .slice p7 n7 c7, .slice q7 m7 d7]) w7 from VS.mk hl hf)
  clear hl hf hB
  go_wp2_with fail
  refine (Calls.mono (HNu.out w7) (fun e W1 h => (num_ret (N := w.heap.size + 1) h).s (S := (S0 w)) (fun b hb => hb))).mono ?_
  rintro e w8 ⟨y, rfl, hv, hB⟩
  have HG8 := Lib.hid (HG7.out.on hB)
  have HV8_s := Lib.hid (HV7_s.out.on hB)
  obtain ⟨p8, n8, c8, q8, m8, d8, rfl, hl, hf⟩ := hv
  have HV8_n := Lib.hid (show VS (S0 w) 3 ⟨(Lib.itoa 2).toArray⟩ .nil .nil (.agg #[.int .u8 3, .string ⟨(Lib.itoa 2).toArray⟩, .slice p8 n8 c8, .slice q8 m8 d8]) w8 from VS.mk hl hf)
  clear hl hf hB
  go_wp2_with fail
  refine (with_any (S0 w) 6 ⟨#[]⟩ .nil (appT .nil ⟨#[111, 112, 101, 110, 67, 108, 111, 115, 101]⟩ 2 ⟨#[]⟩ .nil .nil) ⟨#[99, 104, 97, 110, 103, 101]⟩ 3 ⟨(Lib.itoa 2).toArray⟩ .nil .nil _ _ w8 (fun b hb => Nat.le_trans HG8.out.lt hb) HV8_s.out HV8_n.out (num_fit 2 (by decide) (by decide)) (by decide)).mono ?_
  rintro e w9 ⟨y, rfl, hv, hB⟩
  have HG9 := Lib.hid (HG8.out.on hB)
  obtain ⟨p9, n9, c9, q9, m9, d9, rfl, hl, hf⟩ := hv
  have HV9_s := Lib.hid (show VS (S0 w) 6 ⟨#[]⟩ .nil tSync (.agg #[.int .u8 6, .string ⟨#[]⟩, .slice p9 n9 c9, .slice q9 m9 d9]) w9 from VS.mk hl hf)
  clear hl hf hB
  have HGXb3 := Lib.hid (HG9.out.more HV9_s.out)
  have HIb3 := Lib.hid HG9.out.lt
  go_upto_region 4 with fail
  generalize w9.alloc (.cells #[.int .u8 6, .string ⟨#[]⟩, .slice p9 n9 c9, .slice q9 m9 d9] 25) = W4 at *
  generalize w9.heap.size = b3 at *
  have HG4 := Lib.hid (show RcG w [⟨b3, 6, ⟨#[]⟩, .nil, tSync⟩, ⟨b2, 6, ⟨#[]⟩, .nil, tLegend⟩, ⟨w.heap.size + 1, 2, ⟨#[]⟩, .nil, .nil⟩] W4 from HGXb3.out)
  have HM4 := Lib.hid (HG4.out.m.on (Below.refl W4.heap.size W4).drew)
  refine wp_region_stepsA 7 8 W4.heap.size (.cells #[.int .u8 0, .string ⟨#[]⟩, .slice none 0 0, .slice none 0 0] 25) [some 19, some 20, some 21, some 22, some 23, some 24, some 25, some 4, none] _ _ (G := RcM w _ W4.heap.size) (F := FR4 w) (by kernel_rfl) rfl (by decide +kernel) rfl (by decide +kernel) (by decide +kernel) (by decide) (by decide) (by decide) (by decide +kernel) (fun W h => h.le) (fun W W' h hB => h.on hB) (fun ob i y W W' h hB => h.on hB) (fun i y W _ h => h.al _) ?_ ?_ ?_ HM4.out
  · intro o ho a W hg K' hK
    obtain rfl := Option.some.inj ho
    clear hg
    go_simp
    exact hK.out
  · intro i o ho hz hx ob a W hg hob hd hold K' hK
    have HG := Lib.hid hg
    have hlt : i < 9 := (Array.getElem?_eq_some_iff.1 ho).1
    clear hg
    obtain rfl | rfl | rfl | rfl | rfl | rfl | rfl | rfl | rfl : i = 0 ∨ i = 1 ∨ i = 2 ∨ i = 3 ∨ i = 4 ∨ i = 5 ∨ i = 6 ∨ i = 7 ∨ i = 8 := by omega
    · obtain rfl := Option.some.inj ho
      clear hd hold
      go_simp
      exact hK.out _ _ (VS.mk (HS.nil _ _ _) (HS.nil _ _ _)) (Below.refl _ _)
    · obtain rfl := Option.some.inj ho
      have o2 : a.tmps[2]? = _ := (hold 2 rfl).trans rfl
      clear hd hold
      obtain ⟨-, p, n, c, q, m, d, hby, hl, hf⟩ := HG.out.bx _ (.tail _ (.head _))
      obtain ⟨s0, s1, s2, s3⟩ := hby.box
      have HV := Lib.hid (And.intro (sob_old hob hl) (sob_old hob hf))
      dsimp only at s0 s1 s2 s3
      clear hby hl hf
      go_simp
      exact hK.out _ _ (VS.mk HV.out.1 HV.out.2) (Below.refl _ _)
    · obtain rfl := Option.some.inj ho
      obtain ⟨y0, e0, h0⟩ := hd 0 19 rfl (by decide +kernel) (by decide) (by decide)
      have h0 : VS (Sob w ob) 0 ⟨#[]⟩ .nil .nil y0 W := h0
      obtain ⟨y1, e1, h1⟩ := hd 1 20 rfl (by decide +kernel) (by decide) (by decide)
      have h1 : VS (Sob w ob) 6 ⟨#[]⟩ .nil tLegend y1 W := h1
      have hcall := with_any (Sob w ob) 0 ⟨#[]⟩ .nil .nil ⟨#[108, 101, 103, 101, 110, 100]⟩ 6 ⟨#[]⟩ .nil tLegend y0 y1 W (sob_new HG.out hob) h0 h1 ⟨by decide, by decide, by decide⟩ (by decide)
      have HC := Lib.hid hcall
      clear hd hold hcall h0 h1
      go_simp
      go_at_call 62
      (with_reducible refine HC.out.mono ?_)
      rintro e W1 ⟨y, rfl, hv, hB⟩
      exact hK.out _ _ hv hB
    · obtain rfl := Option.some.inj ho
      clear hd hold
      go_simp
      exact hK.out _ _ (VS.mk (HS.nil _ _ _) (HS.nil _ _ _)) (Below.refl _ _)
    · obtain rfl := Option.some.inj ho
      have o1 : a.tmps[1]? = _ := (hold 1 rfl).trans rfl
      clear hd hold
      obtain ⟨-, p, n, c, q, m, d, hby, hl, hf⟩ := HG.out.bx _ (.tail _ (.tail _ (.head _)))
      obtain ⟨s0, s1, s2, s3⟩ := hby.box
      have HV := Lib.hid (And.intro (sob_old hob hl) (sob_old hob hf))
      dsimp only at s0 s1 s2 s3
      clear hby hl hf
      go_simp
      exact hK.out _ _ (VS.mk HV.out.1 HV.out.2) (Below.refl _ _)
    · obtain rfl := Option.some.inj ho
      obtain ⟨y3, e3, h3⟩ := hd 3 22 rfl (by decide +kernel) (by decide) (by decide)
      have h3 : VS (Sob w ob) 0 ⟨#[]⟩ .nil .nil y3 W := h3
      obtain ⟨y4, e4, h4⟩ := hd 4 23 rfl (by decide +kernel) (by decide) (by decide)
      have h4 : VS (Sob w ob) 2 ⟨#[]⟩ .nil .nil y4 W := h4
      have hcall := with_any (Sob w ob) 0 ⟨#[]⟩ .nil .nil ⟨#[100, 101, 108, 116, 97]⟩ 2 ⟨#[]⟩ .nil .nil y3 y4 W (sob_new HG.out hob) h3 h4 ⟨by decide, by decide, by decide⟩ (by decide)
      have HC := Lib.hid hcall
      clear hd hold hcall h3 h4
      go_simp
      go_at_call 62
      (with_reducible refine HC.out.mono ?_)
      rintro e W1 ⟨y, rfl, hv, hB⟩
      exact hK.out _ _ hv hB
    · obtain rfl := Option.some.inj ho
      obtain ⟨y2, e2, h2⟩ := hd 2 21 rfl (by decide +kernel) (by decide) (by decide)
      have h2 : VS (Sob w ob) 6 ⟨#[]⟩ .nil (appT .nil ⟨#[108, 101, 103, 101, 110, 100]⟩ 6 ⟨#[]⟩ .nil tLegend) y2 W := h2
      obtain ⟨y5, e5, h5⟩ := hd 5 24 rfl (by decide +kernel) (by decide) (by decide)
      have h5 : VS (Sob w ob) 6 ⟨#[]⟩ .nil (appT .nil ⟨#[100, 101, 108, 116, 97]⟩ 2 ⟨#[]⟩ .nil .nil) y5 W := h5
      have hcall := with_any (Sob w ob) 6 ⟨#[]⟩ .nil (appT .nil ⟨#[108, 101, 103, 101, 110, 100]⟩ 6 ⟨#[]⟩ .nil tLegend) ⟨#[102, 117, 108, 108]⟩ 6 ⟨#[]⟩ .nil (appT .nil ⟨#[100, 101, 108, 116, 97]⟩ 2 ⟨#[]⟩ .nil .nil) y2 y5 W (sob_new HG.out hob) h2 h5 ⟨by decide, by decide, by decide⟩ (by decide)
      have HC := Lib.hid hcall
      clear hd hold hcall h2 h5
      go_simp
      go_at_call 62
      (with_reducible refine HC.out.mono ?_)
      rintro e W1 ⟨y, rfl, hv, hB⟩
      exact hK.out _ _ hv hB
    · exact absurd rfl hx
    · exact absurd rfl hz
  intro b rr W hg hMb hbk hrx hf
  obtain ⟨p, n, c, q, m, d, elast, hl, hf'⟩ : VS (Sob w (some b)) 6 ⟨#[]⟩ .nil (appT (appT .nil ⟨#[108, 101, 103, 101, 110, 100]⟩ 6 ⟨#[]⟩ .nil tLegend) ⟨#[102, 117, 108, 108]⟩ 6 ⟨#[]⟩ .nil (appT .nil ⟨#[100, 101, 108, 116, 97]⟩ 2 ⟨#[]⟩ .nil .nil)) (rr 6) W := hf 6 (by decide) (by decide) (by decide)
  have hbk : Blk4 W b 25 (.int .u8 0) (.string ⟨#[]⟩) (.slice none 0 0) (.slice none 0 0) := hbk
  have hv : VS (Sob w (some b)) 6 ⟨#[]⟩ .nil tTokens (.agg #[.int .u8 6, .string ⟨#[]⟩, .slice p n c, .slice q m d]) W := VS.mk hl hf'
  have HFI := Lib.hid (And.intro (hg.fill hMb hbk hv) hMb)
  obtain ⟨s0, s1, s2, s3⟩ := hbk.box
  have f0 := hbk.free 0
  have f1 := hbk.free 1
  have f2 := hbk.free 2
  have f3 := hbk.free 3
  clear hg hbk hl hf hf' hv hMb
  simp only [putL, Act.put, List.setIfInBounds_toArray, List.set_cons_zero, List.set_cons_succ, elast, hrx]
  clear elast hrx
  refine wpAnyL_op 8 (by kernel_rfl) rfl (fun K hK => ?_)
  go_simp
  refine hK.out _ _ (fun _ => trivial) ?_
  clear hK K
  refine wpAnyL_end (by kernel_rfl) ?_
  clear s0 s1 s2 s3 f0 f1 f2 f3
  generalize (((W.setCell ⟨b, 0, none⟩ (.int .u8 6)).setCell ⟨b, 1, none⟩ (.string ⟨#[]⟩)).setCell ⟨b, 2, none⟩ (.slice p n c)).setCell ⟨b, 3, none⟩ (.slice q m d) = W5 at *
  generalize b = b4 at *
  have HG5 := Lib.hid (show RcG w [⟨b4, 6, ⟨#[]⟩, .nil, tTokens⟩, ⟨b3, 6, ⟨#[]⟩, .nil, tSync⟩, ⟨b2, 6, ⟨#[]⟩, .nil, tLegend⟩, ⟨w.heap.size + 1, 2, ⟨#[]⟩, .nil, .nil⟩] W5 from HFI.out.1.1)
  clear HFI
  go_upto_region 5 with fail
  have HM5 := Lib.hid (HG5.out.m.on (Below.refl W5.heap.size W5).drew)
  refine wp_region_stepsA 7 8 W5.heap.size (.cells #[.int .u8 0, .string ⟨#[]⟩, .slice none 0 0, .slice none 0 0] 25) [some 26, some 27, some 28, some 29, some 30, some 31, some 32, some 5, none] _ _ (G := RcM w _ W5.heap.size) (F := FR5 w) (by kernel_rfl) rfl (by decide +kernel) rfl (by decide +kernel) (by decide +kernel) (by decide) (by decide) (by decide) (by decide +kernel) (fun W h => h.le) (fun W W' h hB => h.on hB) (fun ob i y W W' h hB => h.on hB) (fun i y W _ h => h.al _) ?_ ?_ ?_ HM5.out
  · intro o ho a W hg K' hK
    obtain rfl := Option.some.inj ho
    clear hg
    go_simp
    exact hK.out
  · intro i o ho hz hx ob a W hg hob hd hold K' hK
    have HG := Lib.hid hg
    have hlt : i < 9 := (Array.getElem?_eq_some_iff.1 ho).1
    clear hg
    obtain rfl | rfl | rfl | rfl | rfl | rfl | rfl | rfl | rfl : i = 0 ∨ i = 1 ∨ i = 2 ∨ i = 3 ∨ i = 4 ∨ i = 5 ∨ i = 6 ∨ i = 7 ∨ i = 8 := by omega
    · obtain rfl := Option.some.inj ho
      clear hd hold
      go_simp
      exact hK.out _ _ (VS.mk (HS.nil _ _ _) (HS.nil _ _ _)) (Below.refl _ _)
    · obtain rfl := Option.some.inj ho
      clear hd hold
      go_simp
      go_at_call 51
      (with_reducible refine (HX1.out _).mono ?_)
      rintro e W1 ⟨rfl, hB⟩
      exact hK.out _ _ (VS.mk (HS.nil _ _ _) (HS.nil _ _ _)) hB
    · obtain rfl := Option.some.inj ho
      obtain ⟨y0, e0, h0⟩ := hd 0 26 rfl (by decide +kernel) (by decide) (by decide)
      have h0 : VS (Sob w ob) 0 ⟨#[]⟩ .nil .nil y0 W := h0
      obtain ⟨y1, e1, h1⟩ := hd 1 27 rfl (by decide +kernel) (by decide) (by decide)
      have h1 : VS (Sob w ob) 4 ⟨#[117, 116, 102, 45, 49, 54]⟩ .nil .nil y1 W := h1
      have hcall := with_any (Sob w ob) 0 ⟨#[]⟩ .nil .nil ⟨#[112, 111, 115, 105, 116, 105, 111, 110, 69, 110, 99, 111, 100, 105, 110, 103]⟩ 4 ⟨#[117, 116, 102, 45, 49, 54]⟩ .nil .nil y0 y1 W (sob_new HG.out hob) h0 h1 ⟨by decide, by decide, by decide⟩ (by decide)
      have HC := Lib.hid hcall
      clear hd hold hcall h0 h1
      go_simp
      go_at_call 62
      (with_reducible refine HC.out.mono ?_)
      rintro e W1 ⟨y, rfl, hv, hB⟩
      exact hK.out _ _ hv hB
    · obtain rfl := Option.some.inj ho
      have o3 : a.tmps[3]? = _ := (hold 3 rfl).trans rfl
      clear hd hold
      obtain ⟨-, p, n, c, q, m, d, hby, hl, hf⟩ := HG.out.bx _ (.tail _ (.head _))
      obtain ⟨s0, s1, s2, s3⟩ := hby.box
      have HV := Lib.hid (And.intro (sob_old hob hl) (sob_old hob hf))
      dsimp only at s0 s1 s2 s3
      clear hby hl hf
      go_simp
      exact hK.out _ _ (VS.mk HV.out.1 HV.out.2) (Below.refl _ _)
    · obtain rfl := Option.some.inj ho
      obtain ⟨y2, e2, h2⟩ := hd 2 28 rfl (by decide +kernel) (by decide) (by decide)
      have h2 : VS (Sob w ob) 6 ⟨#[]⟩ .nil (appT .nil ⟨#[112, 111, 115, 105, 116, 105, 111, 110, 69, 110, 99, 111, 100, 105, 110, 103]⟩ 4 ⟨#[117, 116, 102, 45, 49, 54]⟩ .nil .nil) y2 W := h2
      obtain ⟨y3, e3, h3⟩ := hd 3 29 rfl (by decide +kernel) (by decide) (by decide)
      have h3 : VS (Sob w ob) 6 ⟨#[]⟩ .nil tSync y3 W := h3
      have hcall := with_any (Sob w ob) 6 ⟨#[]⟩ .nil (appT .nil ⟨#[112, 111, 115, 105, 116, 105, 111, 110, 69, 110, 99, 111, 100, 105, 110, 103]⟩ 4 ⟨#[117, 116, 102, 45, 49, 54]⟩ .nil .nil) ⟨#[116, 101, 120, 116, 68, 111, 99, 117, 109, 101, 110, 116, 83, 121, 110, 99]⟩ 6 ⟨#[]⟩ .nil tSync y2 y3 W (sob_new HG.out hob) h2 h3 ⟨by decide, by decide, by decide⟩ (by decide)
      have HC := Lib.hid hcall
      clear hd hold hcall h2 h3
      go_simp
      go_at_call 62
      (with_reducible refine HC.out.mono ?_)
      rintro e W1 ⟨y, rfl, hv, hB⟩
      exact hK.out _ _ hv hB
    · obtain rfl := Option.some.inj ho
      have o4 : a.tmps[4]? = _ := (hold 4 rfl).trans rfl
      clear hd hold
      obtain ⟨-, p, n, c, q, m, d, hby, hl, hf⟩ := HG.out.bx _ (.head _)
      obtain ⟨s0, s1, s2, s3⟩ := hby.box
      have HV := Lib.hid (And.intro (sob_old hob hl) (sob_old hob hf))
      dsimp only at s0 s1 s2 s3
      clear hby hl hf
      go_simp
      exact hK.out _ _ (VS.mk HV.out.1 HV.out.2) (Below.refl _ _)
    · obtain rfl := Option.some.inj ho
      obtain ⟨y4, e4, h4⟩ := hd 4 30 rfl (by decide +kernel) (by decide) (by decide)
      have h4 : VS (Sob w ob) 6 ⟨#[]⟩ .nil (appT (appT .nil ⟨#[112, 111, 115, 105, 116, 105, 111, 110, 69, 110, 99, 111, 100, 105, 110, 103]⟩ 4 ⟨#[117, 116, 102, 45, 49, 54]⟩ .nil .nil) ⟨#[116, 101, 120, 116, 68, 111, 99, 117, 109, 101, 110, 116, 83, 121, 110, 99]⟩ 6 ⟨#[]⟩ .nil tSync) y4 W := h4
      obtain ⟨y5, e5, h5⟩ := hd 5 31 rfl (by decide +kernel) (by decide) (by decide)
      have h5 : VS (Sob w ob) 6 ⟨#[]⟩ .nil tTokens y5 W := h5
      have hcall := with_any (Sob w ob) 6 ⟨#[]⟩ .nil (appT (appT .nil ⟨#[112, 111, 115, 105, 116, 105, 111, 110, 69, 110, 99, 111, 100, 105, 110, 103]⟩ 4 ⟨#[117, 116, 102, 45, 49, 54]⟩ .nil .nil) ⟨#[116, 101, 120, 116, 68, 111, 99, 117, 109, 101, 110, 116, 83, 121, 110, 99]⟩ 6 ⟨#[]⟩ .nil tSync) ⟨#[115, 101, 109, 97, 110, 116, 105, 99, 84, 111, 107, 101, 110, 115, 80, 114, 111, 118, 105, 100, 101, 114]⟩ 6 ⟨#[]⟩ .nil tTokens y4 y5 W (sob_new HG.out hob) h4 h5 ⟨by decide, by decide, by decide⟩ (by decide)
      have HC := Lib.hid hcall
      clear hd hold hcall h4 h5
      go_simp
      go_at_call 62
      (with_reducible refine HC.out.mono ?_)
      rintro e W1 ⟨y, rfl, hv, hB⟩
      exact hK.out _ _ hv hB
    · exact absurd rfl hx
    · exact absurd rfl hz
  intro b rr W hg hMb hbk hrx hf
  obtain ⟨p, n, c, q, m, d, elast, hl, hf'⟩ : VS (Sob w (some b)) 6 ⟨#[]⟩ .nil (appT (appT (appT .nil ⟨#[112, 111, 115, 105, 116, 105, 111, 110, 69, 110, 99, 111, 100, 105, 110, 103]⟩ 4 ⟨#[117, 116, 102, 45, 49, 54]⟩ .nil .nil) ⟨#[116, 101, 120, 116, 68, 111, 99, 117, 109, 101, 110, 116, 83, 121, 110, 99]⟩ 6 ⟨#[]⟩ .nil tSync) ⟨#[115, 101, 109, 97, 110, 116, 105, 99, 84, 111, 107, 101, 110, 115, 80, 114, 111, 118, 105, 100, 101, 114]⟩ 6 ⟨#[]⟩ .nil tTokens) (rr 6) W := hf 6 (by decide) (by decide) (by decide)
  have hbk : Blk4 W b 25 (.int .u8 0) (.string ⟨#[]⟩) (.slice none 0 0) (.slice none 0 0) := hbk
  have hv : VS (Sob w (some b)) 6 ⟨#[]⟩ .nil tAll3 (.agg #[.int .u8 6, .string ⟨#[]⟩, .slice p n c, .slice q m d]) W := VS.mk hl hf'
  have HFI := Lib.hid (And.intro (hg.fill hMb hbk hv) hMb)
  obtain ⟨s0, s1, s2, s3⟩ := hbk.box
  have f0 := hbk.free 0
  have f1 := hbk.free 1
  have f2 := hbk.free 2
  have f3 := hbk.free 3
  clear hg hbk hl hf hf' hv hMb
  simp only [putL, Act.put, List.setIfInBounds_toArray, List.set_cons_zero, List.set_cons_succ, elast, hrx]
  clear elast hrx
  refine wpAnyL_op 8 (by kernel_rfl) rfl (fun K hK => ?_)
  go_simp
  refine hK.out _ _ (fun _ => trivial) ?_
  clear hK K
  refine wpAnyL_end (by kernel_rfl) ?_
  clear s0 s1 s2 s3 f0 f1 f2 f3
  generalize (((W.setCell ⟨b, 0, none⟩ (.int .u8 6)).setCell ⟨b, 1, none⟩ (.string ⟨#[]⟩)).setCell ⟨b, 2, none⟩ (.slice p n c)).setCell ⟨b, 3, none⟩ (.slice q m d) = W6 at *
  generalize b = b5 at *
  have HG6 := Lib.hid (show RcX w b5 .nil tAll3 W6 from
    ⟨HFI.out.1.1.below, HFI.out.1.1.lt, Nat.le_trans HG5.out.lt HFI.out.2, HFI.out.1.1.b0, boxF_nil (HFI.out.1.1.bx _ (.tail _ (.tail _ (.tail _ (.tail _ (.head _)))))), HFI.out.1.2⟩)
  clear HFI HG5
  go_upto_region 6 with fail
  have HX6 := Lib.hid (HG6.out.on (Below.refl W6.heap.size W6).drew)
  refine wp_region_stepsP [some 33, some 34, some 35, some 36, some 37, none] _ _ (G := RcX w b5 .nil tAll3) (F := FR6 w b5) (z := 5) (by kernel_rfl) rfl (by decide +kernel) rfl (by decide +kernel) (by decide +kernel) rfl (fun W W' h hB => h.on hB) (fun i y W W' h hB => h.on hB) ?_ ?_ HX6.out
  · intro i o ho hz a W hg hd hold K' hK
    have HG := Lib.hid hg
    have hlt : i < 6 := (Array.getElem?_eq_some_iff.1 ho).1
    clear hg
    obtain rfl | rfl | rfl | rfl | rfl | rfl : i = 0 ∨ i = 1 ∨ i = 2 ∨ i = 3 ∨ i = 4 ∨ i = 5 := by omega
    · obtain rfl := Option.some.inj ho
      have o5 : a.tmps[5]? = _ := (hold 5 rfl).trans rfl
      clear hd hold
      obtain ⟨p, n, c, q, m, d, hby, hl, hf⟩ := HG.out.box
      obtain ⟨s0, s1, s2, s3⟩ := hby.box
      have HV := Lib.hid (And.intro hl hf)
      clear hby hl hf
      go_simp
      exact hK.out _ _ (VS.mk HV.out.1 HV.out.2) (Below.refl _ _)
    · obtain rfl := Option.some.inj ho
      have o1 : a.tmps[1]? = _ := (hold 1 rfl).trans rfl
      clear hd hold
      obtain ⟨p, n, c, q, m, d, hby, hl, hf⟩ := HG.out.yes
      obtain ⟨s0, s1, s2, s3⟩ := hby.box
      have HV := Lib.hid (And.intro hl hf)
      clear hby hl hf
      go_simp
      exact hK.out _ _ (VS.mk HV.out.1 HV.out.2) (Below.refl _ _)
    · obtain rfl := Option.some.inj ho
      obtain ⟨y0, e0, h0⟩ := hd 0 33 rfl (by decide +kernel) (by decide)
      have h0 : VS (Sob w (some b5)) 6 ⟨#[]⟩ .nil tAll3 y0 W := h0
      obtain ⟨y1, e1, h1⟩ := hd 1 34 rfl (by decide +kernel) (by decide)
      have h1 : VS (Sob w (some b5)) 2 ⟨#[]⟩ .nil .nil y1 W := h1
      have hcall := with_any (Sob w (some b5)) 6 ⟨#[]⟩ .nil tAll3 ⟨#[102, 111, 108, 100, 105, 110, 103, 82, 97, 110, 103, 101, 80, 114, 111, 118, 105, 100, 101, 114]⟩ 2 ⟨#[]⟩ .nil .nil y0 y1 W HG.out.new h0 h1 ⟨by decide, by decide, by decide⟩ (by decide)
      have HC := Lib.hid hcall
      clear hd hold hcall h0 h1
      go_simp
      go_at_call 62
      (with_reducible refine HC.out.mono ?_)
      rintro e W1 ⟨y, rfl, hv, hB⟩
      exact hK.out _ _ hv hB
    · obtain rfl := Option.some.inj ho
      have o1 : a.tmps[1]? = _ := (hold 1 rfl).trans rfl
      clear hd hold
      obtain ⟨p, n, c, q, m, d, hby, hl, hf⟩ := HG.out.yes
      obtain ⟨s0, s1, s2, s3⟩ := hby.box
      have HV := Lib.hid (And.intro hl hf)
      clear hby hl hf
      go_simp
      exact hK.out _ _ (VS.mk HV.out.1 HV.out.2) (Below.refl _ _)
    · obtain rfl := Option.some.inj ho
      obtain ⟨y2, e2, h2⟩ := hd 2 35 rfl (by decide +kernel) (by decide)
      have h2 : VS (Sob w (some b5)) 6 ⟨#[]⟩ .nil tAll4 y2 W := h2
      obtain ⟨y3, e3, h3⟩ := hd 3 36 rfl (by decide +kernel) (by decide)
      have h3 : VS (Sob w (some b5)) 2 ⟨#[]⟩ .nil .nil y3 W := h3
      have hcall := with_any (Sob w (some b5)) 6 ⟨#[]⟩ .nil tAll4 ⟨#[115, 101, 108, 101, 99, 116, 105, 111, 110, 82, 97, 110, 103, 101, 80, 114, 111, 118, 105, 100, 101, 114]⟩ 2 ⟨#[]⟩ .nil .nil y2 y3 W HG.out.new h2 h3 ⟨by decide, by decide, by decide⟩ (by decide)
      have HC := Lib.hid hcall
      clear hd hold hcall h2 h3
      go_simp
      go_at_call 62
      (with_reducible refine HC.out.mono ?_)
      rintro e W1 ⟨y, rfl, hv, hB⟩
      exact hK.out _ _ hv hB
    · exact absurd rfl hz
  intro a W hg hf hold hput K' hK
  obtain ⟨y37, o37, hv37⟩ := hf 4 37 rfl (by decide) (by decide)
  obtain ⟨p, n, c, q, m, d, rfl, hl, hf'⟩ : VS (Sob w (some b5)) 6 ⟨#[]⟩ .nil tAll y37 W := hv37
  obtain ⟨_, _, _, _, _, _, hbk, -⟩ := hg.box
  obtain ⟨s0, s1, s2, s3⟩ := hbk.box
  have f0 := hbk.free 0
  have f1 := hbk.free 1
  have f2 := hbk.free 2
  have f3 := hbk.free 3
  have HFI := Lib.hid (hg.fill (VS.mk (k := 6) (x := ⟨#[]⟩) hl hf'))
  have o5 : a.tmps[5]? = some (Value.pointer (some ⟨b5, 0, none⟩)) := (hold 5 rfl).trans rfl
  clear hg hl hf hf' hbk hold
  go_simp
  refine hK.out _ _ ?_
  obtain ⟨rr, ha⟩ := hput.out
  clear hput o5 o37
  subst ha
  simp only [putL, Act.put, List.setIfInBounds_toArray, List.set_cons_zero, List.set_cons_succ]
  clear hK K' s0 s1 s2 s3 f0 f1 f2 f3
  generalize (((W.setCell ⟨b5, 0, none⟩ (.int .u8 6)).setCell ⟨b5, 1, none⟩ (.string ⟨#[]⟩)).setCell ⟨b5, 2, none⟩ (.slice p n c)).setCell ⟨b5, 3, none⟩ (.slice q m d) = W7 at *
  have HG7 := Lib.hid HFI.out
  clear HFI
  obtain ⟨pa, na, ca, qa, ma, da, hba, hla, hfa⟩ := HG7.out.bx _ (.head _)
  have HY7 := Lib.hid (show VS (S0 w) 6 ⟨#[]⟩ .nil tAll (.agg #[.int .u8 6, .string ⟨#[]⟩, .slice pa na ca, .slice qa ma da]) W7 from VS.mk hla hfa)
  obtain ⟨s0, s1, s2, s3⟩ := hba.box
  clear hba hla hfa
  dsimp only at s0 s1 s2 s3
  go_wp2_with fail
  refine (with_any (S0 w) 0 ⟨#[]⟩ .nil .nil ⟨#[99, 97, 112, 97, 98, 105, 108, 105, 116, 105, 101, 115]⟩ 6 ⟨#[]⟩ .nil tAll _ _ W7 (fun b hb => Nat.le_trans HG7.out.lt hb) (VS.mk (HS.nil _ _ _) (HS.nil _ _ _)) HY7.out ⟨by decide, by decide, by decide⟩ (by decide)).mono ?_
  clear s0 s1 s2 s3
  rintro e w10 ⟨y, rfl, hv, hB⟩
  have HG10 := Lib.hid (HG7.out.on hB)
  obtain ⟨p10, n10, c10, q10, m10, d10, rfl, hl, hf⟩ := hv
  have HV10_a := Lib.hid (show VS (S0 w) 6 ⟨#[]⟩ .nil (appT .nil ⟨#[99, 97, 112, 97, 98, 105, 108, 105, 116, 105, 101, 115]⟩ 6 ⟨#[]⟩ .nil tAll) (.agg #[.int .u8 6, .string ⟨#[]⟩, .slice p10 n10 c10, .slice q10 m10 d10]) w10 from VS.mk hl hf)
  clear hl hf hB
  go_wp2_with fail
  refine (Calls.mono (HX2.out w10) (fun e W1 h => (text_ret (N := w.heap.size + 1) h).s (S := (S0 w)) (fun b hb => hb))).mono ?_
  rintro e w11 ⟨y, rfl, hv, hB⟩
  have HG11 := Lib.hid (HG10.out.on hB)
  have HV11_a := Lib.hid (HV10_a.out.on hB)
  obtain ⟨p11, n11, c11, q11, m11, d11, rfl, hl, hf⟩ := hv
  have HV11_g := Lib.hid (show VS (S0 w) 4 ⟨#[103, 108, 111, 115, 115, 97, 116, 111, 114]⟩ .nil .nil (.agg #[.int .u8 4, .string ⟨#[103, 108, 111, 115, 115, 97, 116, 111, 114]⟩, .slice p11 n11 c11, .slice q11 m11 d11]) w11 from VS.mk hl hf)
  clear hl hf hB
  go_wp2_with fail
  refine (with_any (S0 w) 0 ⟨#[]⟩ .nil .nil ⟨#[110, 97, 109, 101]⟩ 4 ⟨#[103, 108, 111, 115, 115, 97, 116, 111, 114]⟩ .nil .nil _ _ w11 (fun b hb => Nat.le_trans HG11.out.lt hb) (VS.mk (HS.nil _ _ _) (HS.nil _ _ _)) HV11_g.out ⟨by decide, by decide, by decide⟩ (by decide)).mono ?_
  rintro e w12 ⟨y, rfl, hv, hB⟩
  have HG12 := Lib.hid (HG11.out.on hB)
  have HV12_a := Lib.hid (HV11_a.out.on hB)
  obtain ⟨p12, n12, c12, q12, m12, d12, rfl, hl, hf⟩ := hv
  have HV12_i := Lib.hid (show VS (S0 w) 6 ⟨#[]⟩ .nil tInfo (.agg #[.int .u8 6, .string ⟨#[]⟩, .slice p12 n12 c12, .slice q12 m12 d12]) w12 from VS.mk hl hf)
  clear hl hf hB
  go_wp2_with fail
  refine (with_any (S0 w) 6 ⟨#[]⟩ .nil (appT .nil ⟨#[99, 97, 112, 97, 98, 105, 108, 105, 116, 105, 101, 115]⟩ 6 ⟨#[]⟩ .nil tAll) ⟨#[115, 101, 114, 118, 101, 114, 73, 110, 102, 111]⟩ 6 ⟨#[]⟩ .nil tInfo _ _ w12 (fun b hb => Nat.le_trans HG12.out.lt hb) HV12_a.out HV12_i.out ⟨by decide, by decide, by decide⟩ (by decide)).mono ?_
  rintro e w13 ⟨y, rfl, hv, hB⟩
  have HG13 := Lib.hid (HG12.out.on hB)
  obtain ⟨p13, n13, c13, q13, m13, d13, rfl, hl, hf⟩ := hv
  have HV13_z := Lib.hid (show VS (S0 w) 6 ⟨#[]⟩ .nil tCap (.agg #[.int .u8 6, .string ⟨#[]⟩, .slice p13 n13 c13, .slice q13 m13 d13]) w13 from VS.mk hl hf)
  clear hl hf hB
  have hb0 := HG13.out.b0
  have HZ := Lib.hid (And.intro HV13_z.out hb0)
  obtain ⟨s0, s1, s2, s3⟩ := hb0.box
  have f0 := hb0.free 0
  have f1 := hb0.free 1
  have f2 := hb0.free 2
  have f3 := hb0.free 3
  clear hb0
  go_wp2_with fail
  obtain ⟨g1, g2, g3⟩ := HZ.out.2.all (.int .u8 6) (.string ⟨#[]⟩) (.slice p13 n13 c13) (.slice q13 m13 d13)
  have hw3 := set4_else w13 w.heap.size (.int .u8 6) (.string ⟨#[]⟩) (.slice p13 n13 c13) (.slice q13 m13 d13)
  have g3' := g3 w.heap.size (Nat.le_refl _)
  clear s0 s1 s2 s3 f0 f1 f2 f3
  generalize (((w13.setCell ⟨w.heap.size, 0, none⟩ (.int .u8 6)).setCell ⟨w.heap.size, 1, none⟩ (.string ⟨#[]⟩)).setCell ⟨w.heap.size, 2, none⟩ (.slice p13 n13 c13)).setCell ⟨w.heap.size, 3, none⟩ (.slice q13 m13 d13) = wz at *
  obtain ⟨x0, x1, x2, x3⟩ := g1.box
  refine bodyPost_ret (v := .agg #[.int .u8 6, .string ⟨#[]⟩, .slice p13 n13 c13, .slice q13 m13 d13]) (by simp [results, Tryd.results39, go_sem, x0, x1, x2, x3]) rfl ?_
  obtain ⟨p', n', c', q', m', d', e, h1, h2⟩ := HZ.out.1
  cases e
  have hj : ∀ {j}, FrS (S0 w) w13 j → j ≠ w.heap.size := fun {j} hj => by have : w.heap.size + 1 ≤ j := hj.1; omega
  have hfr : ∀ j, FrS (S0 w) w13 j → j < w13.heap.size → Fre w.heap.size wz j := fun j h _ => ⟨by have : w.heap.size + 1 ≤ j := h.1; omega, (h.imp (S' := S0 w) h.1 (hw3 j (hj h))).2⟩
  exact ⟨_, rfl, VF.mk (h1.imp hfr (fun j h _ => hw3 j (hj h))) (h2.imp hfr (fun j h _ => hw3 j (hj h))), HG13.out.below.trans g3'⟩
end Go.Proofs.YtagafedkfkmkbaaDoor
