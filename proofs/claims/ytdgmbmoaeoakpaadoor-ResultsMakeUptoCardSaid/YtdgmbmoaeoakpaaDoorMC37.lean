/- A row of values that grows, each with trees of its own; a list that is put together, the document's way. Conditions: none. -/
import Derived.Test.YtdgmbmoaeoakpaaDoorMC29
import Derived.Test.YtdgmbmoaeoakpaaDoorMC36
import Derived.Test.YtdgmbmoaeoakpaaDoorMC31
import Derived.Deep.AppendLies
namespace Go.Proofs.YtdgmbmoaeoakpaaDoor
open Go Go.RowKit Go.Lib

def vcells : List Fe → List Value
  | [] => []
  | e :: r => .int .u8 e.k :: .string e.x :: e.v :: e.u :: vcells r
theorem vcells_len (l : List Fe) : (vcells l).length = l.length * 4 := by
  induction l with
  | nil => rfl
  | cons s r ih => simp [vcells, ih]; omega
theorem vcells_app (a b : List Fe) : vcells (a ++ b) = vcells a ++ vcells b := by
  induction a with
  | nil => rfl
  | cons s r ih => simp [vcells, ih]
theorem vals_hr {w : World} {A : Nat → Prop} {b : Nat} (hA : A b) : ∀ (es : List Fe) (o : Nat), (∀ e ∈ es, e.Ok w A ∧ e.nm = ⟨#[]⟩) → (∀ j u, (vcells es)[j]? = some u → w.cell? ⟨b, o + j, none⟩ = some u) → HR w A 0 b o (treeOf es)
  | [], _, _, _ => trivial
  | e :: r, o, hz, h => by
    obtain ⟨⟨h1, h2, h3⟩, h4⟩ := hz e (List.mem_cons_self ..)
    refine ⟨hA, fun _ => h4, (fun e => by cases e), h 0 _ rfl, h 1 _ rfl, ⟨_, h 2 _ rfl, h1⟩, ⟨_, h 3 _ rfl, h2⟩, h3, ?_⟩
    exact vals_hr hA r (o + 4) (fun s hs => hz s (List.mem_cons_of_mem _ hs)) (fun j u hu => by
      have := h (j + 4) u hu
      rw [show o + (j + 4) = o + 4 + j by omega] at this
      exact this)
theorem vals_hs {w : World} {base : Nat} {v : Value} {es : List Fe} (h : w.ownsRow base 25 4 v es.length (vcells es)) (hz : ∀ e ∈ es, e.Ok w (Fre base w) ∧ e.nm = ⟨#[]⟩) (hn : es.length ≤ 1000000) : HS w (Fre base w) 0 v (treeOf es) := by
  rcases h.2 with ⟨e, h3⟩ | ⟨g, cap, cur, e, h3, h4, h5, h6, h7, h8⟩
  · obtain rfl : es = [] := by
      cases es with
      | nil => rfl
      | cons x r => cases h3
    rw [e]
    exact HS.nil _ _ _
  · subst e
    refine .inr (.inr ⟨g, 0, cap, by rw [treeOf_len], by rw [treeOf_len]; exact h5, ⟨h6, by rw [treeOf_len]; omega⟩, vals_hr ⟨h3, fun j => h.frozenAt j⟩ es 0 hz (fun j u hu => ?_)⟩)
    have hj := (List.getElem?_eq_some_iff.1 hu).1
    rw [vcells_len] at hj
    rw [Nat.zero_add, h.cellAt j hj]
    exact hu
/-- the call's own, clear of the row -/
def Av (w : World) (v : Value) (k : Nat) : Prop := w.heap.size + 2 ≤ k ∧ some k ≠ v.ownBlock
/-- the answer's box, the list's box, and its row so far -/
structure LoG (w : World) (v : Value) (es : List Fe) (W : World) : Prop where
  below : Below w.heap.size w W
  lt : w.heap.size + 2 ≤ W.heap.size
  b0 : Blk4 W w.heap.size 25 (.int .u8 0) (.string ⟨#[]⟩) (.slice none 0 0) (.slice none 0 0)
  b1 : Blk4 W (w.heap.size + 1) 25 (.int .u8 5) (.string ⟨#[]⟩) v (.slice none 0 0)
  own : W.ownsRow (w.heap.size + 2) 25 4 v es.length (vcells es)
  ok : ∀ e ∈ es, e.Ok W (FrS (Av w v) W) ∧ e.nm = ⟨#[]⟩
theorem Fe.Ok.frS {S : Nat → Prop} {e : Fe} {W W' : World} (h : e.Ok W (FrS S W)) (hB : Below W.heap.size W W') : e.Ok W' (FrS S W') := ⟨h.1.frS hB, h.2.1.frS hB, h.2.2⟩
theorem LoG.on {w : World} {v : Value} {es : List Fe} {W W' : World} (h : LoG w v es W) (hB : Below W.heap.size W W') : LoG w v es W' :=
  ⟨h.below.trans (hB.mono h.below.size), Nat.le_trans h.lt hB.size, h.b0.same (hB.block _ h.b0.lt), h.b1.same (hB.block _ h.b1.lt), ownsRow_below h.own hB, fun e he => ⟨(h.ok e he).1.frS hB, (h.ok e he).2⟩⟩
theorem LoG.new {w : World} {v : Value} {es : List Fe} {W : World} (h : LoG w v es W) : ∀ b, W.heap.size ≤ b → Av w v b := fun b hb =>
  ⟨Nat.le_trans h.lt hb, fun e => by have := (h.own.lt b e.symm).2; omega⟩
/-- the value that is appended, in a block of its own -/
def NewV (S : Nat → Prop) (k : Nat) (x : ByteArray) (l f : V.T) (y : Value) (W : World) : Prop := ∃ b' p n c q m d, y = .slice (some ⟨b', 0, none⟩) 1 1 ∧ (∀ j z, ([.int .u8 k, .string x, .slice p n c, .slice q m d] : List Value)[j]? = some z → W.cell? ((⟨b', 0, none⟩ : Addr).add j) = some z) ∧ HS W (FrS S W) 0 (.slice p n c) l ∧ HS W (FrS S W) 1 (.slice q m d) f
theorem NewV.on {S : Nat → Prop} {k : Nat} {x : ByteArray} {l f : V.T} {y : Value} {W W' : World} (h : NewV S k x l f y W) (hB : Below W.heap.size W W') : NewV S k x l f y W' := by
  obtain ⟨b', p, n, c, q, m, d, h1, h2, h3, h4⟩ := h
  exact ⟨b', p, n, c, q, m, d, h1, fun j z hz => bcellv hB (h2 j z hz), h3.frS hB, h4.frS hB⟩
theorem newV_of {S : Nat → Prop} {k : Nat} {x : ByteArray} {l f : V.T} {p q : Option Addr} {n c m d : Nat} {W : World} (h1 : HS W (FrS S W) 0 (.slice p n c) l) (h2 : HS W (FrS S W) 1 (.slice q m d) f) :
    NewV S k x l f (.slice (some ⟨W.heap.size, 0, none⟩) 1 1) (W.alloc (.cells #[.int .u8 k, .string x, .slice p n c, .slice q m d] 25)) := by
  have hB := (Below.refl W.heap.size W).alloc (Nat.le_refl _) (.cells #[.int .u8 k, .string x, .slice p n c, .slice q m d] 25)
  refine ⟨_, p, n, c, q, m, d, rfl, fun j z hz => ?_, h1.frS hB, h2.frS hB⟩
  have hadd : (⟨W.heap.size, 0, none⟩ : Addr).add j = ⟨W.heap.size, j, none⟩ := by unfold Addr.add; split <;> simp_all
  rw [hadd, cell_of_row _ _ j _ _ (0, 0) (heap_alloc_new _ _)]
  simpa using hz
/-- behind an append and the store -/
theorem LoG.step {w : World} {v : Value} {es : List Fe} {W w3 : World} {g cap : Nat} {e : Fe} (h : LoG w v es W) (own3 : w3.ownsRow (w.heap.size + 2) 25 4 (.slice (some ⟨g, 0, none⟩) (es.length + 1) cap) (es.length + 1) (vcells es ++ vcells [e])) (hg3 : W.grownBy w3 v.ownBlock) (hor : v.ownBlock = some g ∨ g = W.heap.size)
    (he : e.Ok W (FrS (Av w v) W)) (hnm : e.nm = ⟨#[]⟩) : LoG w (.slice (some ⟨g, 0, none⟩) (es.length + 1) cap) (es ++ [e]) (w3.setCell ⟨w.heap.size + 1, 2, none⟩ (.slice (some ⟨g, 0, none⟩) (es.length + 1) cap)) := by
  have hB3 : Below (w.heap.size + 2) W w3 := (Below.refl (w.heap.size + 2) W).grown hg3 h.lt (fun k hk => (h.own.lt k hk).1)
  have b0 := h.b0.same (hB3.block _ (by omega))
  have b1 := h.b1.same (hB3.block _ (by omega))
  have hg : w.heap.size + 2 ≤ g := (own3.lt g rfl).1
  have hx : ∀ b, FrS (Av w v) W b → b < W.heap.size → (w3.setCell ⟨w.heap.size + 1, 2, none⟩ (.slice (some ⟨g, 0, none⟩) (es.length + 1) cap)).heap[b]? = W.heap[b]? := fun b hb hlt =>
    (Below.heap_setCell _ _ _ b (by have := hb.1.1; show b ≠ w.heap.size + 1; omega)).trans (hg3.block b hlt hb.1.2)
  refine ⟨(h.below.trans (hB3.mono (by omega))).setCell (by show w.heap.size ≤ w.heap.size + 1; omega) _, by simpa using Nat.le_trans h.lt hB3.size, b0.else (by omega), b1.set2 _, ?_, fun e' he' => ?_⟩
  · rw [List.length_append, vcells_app]
    exact own_else own3 (by show some g ≠ some (w.heap.size + 1); intro e; cases e; omega)
  · have h1 : e'.Ok W (FrS (Av w v) W) ∧ e'.nm = ⟨#[]⟩ := by
      rcases List.mem_append.1 he' with h2 | h2
      · exact h.ok e' h2
      · obtain rfl := List.mem_singleton.1 h2
        exact ⟨he, hnm⟩
    exact ⟨h1.1.imp (fun b hb hlt => hb.imp ⟨hb.1.1, fun e => by
      have e1 : b = g := by
        have : some b = some g := e
        injection this
      rcases hor with h3 | h3
      · exact hb.1.2 (by rw [h3, e1])
      · omega⟩ (hx b hb hlt)) (fun b hb hlt => hx b hb hlt), h1.2⟩
theorem LoG.start (w : World) : LoG w (.slice none 0 0) [] ((w.alloc (.cells #[.int .u8 0, .string ⟨#[]⟩, .slice none 0 0, .slice none 0 0] 25)).alloc (.cells #[.int .u8 5, .string ⟨#[]⟩, .slice none 0 0, .slice none 0 0] 25)) := by
  have h2n := two_new w (.cells #[.int .u8 0, .string ⟨#[]⟩, .slice none 0 0, .slice none 0 0] 25) (.cells #[.int .u8 5, .string ⟨#[]⟩, .slice none 0 0, .slice none 0 0] 25)
  exact ⟨two_below _ _ _, by rw [two_size]; omega, h2n.1, h2n.2, World.ownsRow_nil _ _ _ _, fun e he => by cases he⟩
/-- the row, when it is whole -/
theorem LoG.whole {w : World} {v : Value} {es : List Fe} {W : World} (h : LoG w v es W) (hn : es.length ≤ 1000000) : HS W (Fre (w.heap.size + 2) W) 0 v (treeOf es) :=
  vals_hs h.own (fun e he => ⟨(h.ok e he).1.imp (fun b hb _ => ⟨hb.1.1, hb.2⟩) (fun _ _ _ => rfl), (h.ok e he).2⟩) hn
end Go.Proofs.YtdgmbmoaeoakpaaDoor

namespace Go.Proofs.YtdgmbmoaeoakpaaDoor
open Go Go.RowKit Go.Lib

/-- the call's own, clear of the row and of a box -/
def Avo (w : World) (v : Value) (ob : Option Nat) (k : Nat) : Prop := Av w v k ∧ ob ≠ some k
theorem vs_allocB {w : World} {v : Value} {k : Nat} {x : ByteArray} {l f : V.T} {y : Value} {W : World} (o : Obj) (h : VS (Avo w v none) k x l f y W) : VS (Avo w v (some W.heap.size)) k x l f y (W.alloc o) :=
  (h.mono (S' := Avo w v (some W.heap.size)) (fun b hb hlt => ⟨hb.1, fun e => by cases e; omega⟩)).on ((Below.refl W.heap.size W).alloc (Nat.le_refl _) o)
/-- while a box is made -/
structure LoM (w : World) (v : Value) (es : List Fe) (M : Nat) (W : World) : Prop where
  lo : LoG w v es W
  two : w.heap.size + 2 ≤ M
  le : M ≤ W.heap.size
  row : ∀ g, v.ownBlock = some g → g < M
  old : ∀ e ∈ es, e.Ok W (FrS (fun k => Av w v k ∧ k < M) W)
theorem LoM.on {w : World} {v : Value} {es : List Fe} {M : Nat} {W W' : World} (h : LoM w v es M W) (hB : Below W.heap.size W W') : LoM w v es M W' :=
  ⟨h.lo.on hB, h.two, Nat.le_trans h.le hB.size, h.row, fun e he => (h.old e he).frS hB⟩
theorem LoG.m {w : World} {v : Value} {es : List Fe} {W : World} (h : LoG w v es W) : LoM w v es W.heap.size W :=
  ⟨h, h.lt, Nat.le_refl _, fun g hg => (h.own.lt g hg).2, fun e he => (h.ok e he).1.mono (fun b hb hlt => ⟨⟨hb.1, hlt⟩, hb.2⟩)⟩
theorem LoM.new {w : World} {v : Value} {es : List Fe} {M : Nat} {W : World} {ob : Option Nat} (h : LoM w v es M W) (hob : ∀ b, ob = some b → M ≤ b ∧ b < W.heap.size) : ∀ b, W.heap.size ≤ b → Avo w v ob b := fun b hb =>
  ⟨h.lo.new b hb, fun e => by have := hob b e; omega⟩
/-- the box holds a value -/
structure LoX (w : World) (v : Value) (es : List Fe) (bx : Nat) (T : V.T) (W : World) : Prop where
  lo : LoG w v es W
  ge : w.heap.size + 2 ≤ bx
  ne : some bx ≠ v.ownBlock
  ap : ∀ e ∈ es, e.Ok W (FrS (Avo w v (some bx)) W)
  box : BoxF (Avo w v (some bx)) bx 6 ⟨#[]⟩ .nil T W
theorem LoX.on {w : World} {v : Value} {es : List Fe} {bx : Nat} {T : V.T} {W W' : World} (h : LoX w v es bx T W) (hB : Below W.heap.size W W') : LoX w v es bx T W' :=
  ⟨h.lo.on hB, h.ge, h.ne, fun e he => (h.ap e he).frS hB, h.box.on hB⟩
theorem LoX.lt {w : World} {v : Value} {es : List Fe} {bx : Nat} {T : V.T} {W : World} (h : LoX w v es bx T W) : bx < W.heap.size := by
  obtain ⟨p, n, c, q, m, d, h1, _⟩ := h.box
  exact h1.lt
theorem LoX.new {w : World} {v : Value} {es : List Fe} {bx : Nat} {T : V.T} {W : World} (h : LoX w v es bx T W) : ∀ b, W.heap.size ≤ b → Avo w v (some bx) b := fun b hb =>
  ⟨h.lo.new b hb, fun e => by cases e; have := h.lt; omega⟩
/-- a value is stored into a box that all else is clear of -/
theorem lo_fill {w : World} {v : Value} {es : List Fe} {W : World} {b : Nat} {x : ByteArray} {T : V.T} {p q : Option Addr} {n c m d : Nat} (h : LoG w v es W) (hge : w.heap.size + 2 ≤ b) (hne : some b ≠ v.ownBlock) (hap : ∀ e ∈ es, e.Ok W (FrS (Avo w v (some b)) W))
    {k0 x0 v0 u0 : Value} (hk : Blk4 W b 25 k0 x0 v0 u0) (hv : VS (Avo w v (some b)) 6 ⟨#[]⟩ .nil T (.agg #[.int .u8 6, .string ⟨#[]⟩, .slice p n c, .slice q m d]) W) :
    LoX w v es b T ((((W.setCell ⟨b, 0, none⟩ (.int .u8 6)).setCell ⟨b, 1, none⟩ (.string ⟨#[]⟩)).setCell ⟨b, 2, none⟩ (.slice p n c)).setCell ⟨b, 3, none⟩ (.slice q m d)) := by
  have hown : ((((W.setCell ⟨b, 0, none⟩ (.int .u8 6)).setCell ⟨b, 1, none⟩ (.string ⟨#[]⟩)).setCell ⟨b, 2, none⟩ (.slice p n c)).setCell ⟨b, 3, none⟩ (.slice q m d)).ownsRow (w.heap.size + 2) 25 4 v es.length (vcells es) :=
    own_else (own_else (own_else (own_else h.own (Ne.symm hne)) (Ne.symm hne)) (Ne.symm hne)) (Ne.symm hne)
  obtain ⟨g1, g2, g3⟩ := hk.all (.int .u8 6) (.string ⟨#[]⟩) (.slice p n c) (.slice q m d)
  have he := set4_else W b (.int .u8 6) (.string ⟨#[]⟩) (.slice p n c) (.slice q m d)
  generalize (((W.setCell ⟨b, 0, none⟩ (.int .u8 6)).setCell ⟨b, 1, none⟩ (.string ⟨#[]⟩)).setCell ⟨b, 2, none⟩ (.slice p n c)).setCell ⟨b, 3, none⟩ (.slice q m d) = W' at *
  obtain ⟨p', n', c', q', m', d', e, h1, h2⟩ := hv
  cases e
  have hnb : ∀ j, FrS (Avo w v (some b)) W j → j ≠ b := fun j hj e => hj.1.2 (by rw [e])
  have hb0 := h.lt
  have hlt := hk.lt
  refine ⟨⟨h.below.trans (g3 w.heap.size (by omega)), by omega, h.b0.same (he _ (by omega)), h.b1.same (he _ (by omega)), hown, fun e he' => ⟨(hap e he').imp (fun j hj _ => hj.imp hj.1.1 (he j (hnb j hj))) (fun j hj _ => he j (hnb j hj)), (h.ok e he').2⟩⟩, hge, hne, fun e he' => (hap e he').imp (fun j hj _ => hj.imp hj.1 (he j (hnb j hj))) (fun j hj _ => he j (hnb j hj)), ?_⟩
  exact ⟨_, _, _, _, _, _, g1, h1.imp (fun j hj _ => hj.imp hj.1 (he j (hnb j hj))) (fun j hj _ => he j (hnb j hj)), h2.imp (fun j hj _ => hj.imp hj.1 (he j (hnb j hj))) (fun j hj _ => he j (hnb j hj))⟩
theorem LoM.fill {w : World} {v : Value} {es : List Fe} {M : Nat} {W : World} {b : Nat} {T : V.T} {p q : Option Addr} {n c m d : Nat} (h : LoM w v es M W) (hb : M ≤ b)
    {k0 x0 v0 u0 : Value} (hk : Blk4 W b 25 k0 x0 v0 u0) (hv : VS (Avo w v (some b)) 6 ⟨#[]⟩ .nil T (.agg #[.int .u8 6, .string ⟨#[]⟩, .slice p n c, .slice q m d]) W) :
    LoX w v es b T ((((W.setCell ⟨b, 0, none⟩ (.int .u8 6)).setCell ⟨b, 1, none⟩ (.string ⟨#[]⟩)).setCell ⟨b, 2, none⟩ (.slice p n c)).setCell ⟨b, 3, none⟩ (.slice q m d)) :=
  lo_fill (x := ⟨#[]⟩) h.lo (Nat.le_trans h.two hb) (fun e => by have := h.row b e.symm; omega) (fun e he => (h.old e he).mono (fun j hj _ => ⟨⟨hj.1.1, fun e => by cases e; have := hj.1.2; omega⟩, hj.2⟩)) hk hv
theorem LoX.fill {w : World} {v : Value} {es : List Fe} {b : Nat} {T0 T : V.T} {W : World} {p q : Option Addr} {n c m d : Nat} (h : LoX w v es b T0 W) (hv : VS (Avo w v (some b)) 6 ⟨#[]⟩ .nil T (.agg #[.int .u8 6, .string ⟨#[]⟩, .slice p n c, .slice q m d]) W) :
    LoX w v es b T ((((W.setCell ⟨b, 0, none⟩ (.int .u8 6)).setCell ⟨b, 1, none⟩ (.string ⟨#[]⟩)).setCell ⟨b, 2, none⟩ (.slice p n c)).setCell ⟨b, 3, none⟩ (.slice q m d)) := by
  obtain ⟨_, _, _, _, _, _, hk, -⟩ := h.box
  exact lo_fill (x := ⟨#[]⟩) h.lo h.ge h.ne h.ap hk hv
end Go.Proofs.YtdgmbmoaeoakpaaDoor
