/- A slice of fields, cell by cell, and the value's tree of them. Conditions: none. -/
import Derived.Test.YtagafedkfkmkbaaDoorJvRow
namespace Go.Proofs.YtagafedkfkmkbaaDoor
open Go Go.RowKit Go.Lib

/-- a field: its name, its value as it lies, the value's trees -/
structure Fe where
  nm : ByteArray
  k : Nat
  x : ByteArray
  v : Value
  u : Value
  l : V.T
  f : V.T
def Fe.cells (e : Fe) : List Value := [.string e.nm, .int .u8 e.k, .string e.x, e.v, e.u]
def cellsOf : List Fe → List Value
  | [] => []
  | e :: r => .string e.nm :: .int .u8 e.k :: .string e.x :: e.v :: e.u :: cellsOf r
def treeOf : List Fe → V.T
  | [] => .nil
  | e :: r => .cons e.nm e.k e.x e.l e.f (treeOf r)
def Fe.Ok (w : World) (A : Nat → Prop) (e : Fe) : Prop := HS w A 0 e.v e.l ∧ HS w A 1 e.u e.f ∧ Fit e.nm e.k e.x
theorem cellsOf_append (a b : List Fe) : cellsOf (a ++ b) = cellsOf a ++ cellsOf b := by
  induction a with
  | nil => rfl
  | cons e r ih => simp [cellsOf, ih]
theorem cellsOf_len (a : List Fe) : (cellsOf a).length = a.length * 5 := by
  induction a with
  | nil => rfl
  | cons e r ih => simp [cellsOf, ih]; omega
theorem treeOf_len (a : List Fe) : (treeOf a).len = a.length := by
  induction a with
  | nil => rfl
  | cons e r ih => show (treeOf r).len + 1 = _; rw [ih]; rfl
theorem Fe.Ok.below {w w' : World} {A : Nat → Prop} {e : Fe} (h : e.Ok w A) (hB : Below w.heap.size w w') : e.Ok w' A := ⟨h.1.below hB, h.2.1.below hB, h.2.2⟩
theorem Fe.Ok.mono {w : World} {A A' : Nat → Prop} {e : Fe} (h : e.Ok w A) (hA : ∀ b, A b → b < w.heap.size → A' b) : e.Ok w A' := ⟨h.1.mono hA, h.2.1.mono hA, h.2.2⟩
theorem Fe.Ok.imp {w w' : World} {A A' : Nat → Prop} {e : Fe} (h : e.Ok w A) (hA : ∀ b, A b → b < w.heap.size → A' b) (hk : ∀ b, A b → b < w.heap.size → w'.heap[b]? = w.heap[b]?) : e.Ok w' A' := ⟨h.1.imp hA hk, h.2.1.imp hA hk, h.2.2⟩
theorem one_slice {p : Option Addr} {n c : Nat} : (Value.slice p n c).oneCell' = true := rfl
theorem cellsOf_one {w : World} {A : Nat → Prop} : ∀ (es : List Fe), (∀ e ∈ es, e.Ok w A) → ∀ u ∈ cellsOf es, u.oneCell' = true
  | [], _, _, h => by cases h
  | e :: r, ho, u, h => by
    obtain ⟨h1, h2, _⟩ := ho e (List.mem_cons_self ..)
    obtain ⟨p, c, e1, _⟩ := h1.len
    obtain ⟨q, d, e2, _⟩ := h2.len
    simp only [cellsOf, List.mem_cons] at h
    rcases h with rfl | rfl | rfl | h | h | h
    · rfl
    · rfl
    · rfl
    · rw [h, e1]; rfl
    · rw [h, e2]; rfl
    · exact cellsOf_one r (fun e he => ho e (List.mem_cons_of_mem _ he)) u h
/-- the cells stand in block b from cell o on -/
theorem row_of {w : World} {A : Nat → Prop} {b : Nat} (hA : A b) : ∀ (es : List Fe) (o : Nat), (∀ e ∈ es, e.Ok w A) → (∀ j u, (cellsOf es)[j]? = some u → w.cell? ⟨b, o + j, none⟩ = some u) → HR w A 1 b o (treeOf es)
  | [], _, _, _ => trivial
  | e :: r, o, ho, h => by
    obtain ⟨h1, h2, h3⟩ := ho e (List.mem_cons_self ..)
    refine ⟨hA, (fun e => by cases e), fun _ => h 0 _ rfl, h 1 _ rfl, h 2 _ rfl, ⟨_, h 3 _ rfl, h1⟩, ⟨_, h 4 _ rfl, h2⟩, h3, ?_⟩
    exact row_of hA r (o + 5) (fun e he => ho e (List.mem_cons_of_mem _ he)) (fun j u hu => by
      have := h (j + 5) u hu
      rw [show o + (j + 5) = o + 5 + j by omega] at this
      exact this)
/-- a slice of fields as it lies -/
def Lies (w : World) (v : Value) (es : List Fe) : Prop := ∃ b c, v = .slice (some ⟨b, 0, none⟩) es.length c ∧ es.length ≤ c ∧ c ≤ maxLen ∧ b < w.heap.size ∧ ∀ j u, (cellsOf es)[j]? = some u → w.cell? ⟨b, j, none⟩ = some u
theorem Lies.below {w w' : World} {v : Value} {es : List Fe} (h : Lies w v es) (hB : Below w.heap.size w w') : Lies w' v es := by
  obtain ⟨b, c, h1, h2, h3, h4, h5⟩ := h
  exact ⟨b, c, h1, h2, h3, Nat.lt_of_lt_of_le h4 hB.size, fun j u hu => (World.cell?_of_block (w := w) (w' := w') (a := ⟨b, j, none⟩) (hB.block b h4)).trans (h5 j u hu)⟩
theorem Lies.hs {w : World} {A : Nat → Prop} {v : Value} {es : List Fe} (h : Lies w v es) (ho : ∀ e ∈ es, e.Ok w A) (hA : ∀ b, v.ownBlock = some b → A b) (hn : es.length ≤ 2000000000000) : HS w A 1 v (treeOf es) := by
  obtain ⟨b, c, rfl, h2, h3, h4, h5⟩ := h
  refine .inr (.inr ⟨b, 0, c, ?_, ?_, ⟨h3, ?_⟩, row_of (hA b rfl) es 0 ho (fun j u hu => by rw [Nat.zero_add]; exact h5 j u hu)⟩)
  · rw [treeOf_len]
  · rw [treeOf_len]; exact h2
  · rw [treeOf_len]; exact hn
theorem Lies.news {w : World} {es : List Fe} {b n c : Nat} (h : Lies w (.slice (some ⟨b, 0, none⟩) n c) es) : ∀ j u, (cellsOf es)[j]? = some u → w.cell? ((⟨b, 0, none⟩ : Addr).add j) = some u := by
  obtain ⟨b', c', e, _, _, _, h5⟩ := h
  cases e
  intro j u hu
  have hadd : (⟨b, 0, none⟩ : Addr).add j = ⟨b, j, none⟩ := by unfold Addr.add; split <;> simp_all
  rw [hadd]
  exact h5 j u hu
/-- a block just made -/
theorem lies_new {w : World} {cs : Array Value} {es : List Fe} {t : TypeId} {n : Nat} (h : cs.toList = cellsOf es) (hn : n = es.length) (hm : n ≤ maxLen) : Lies (w.alloc (.cells cs t)) (.slice (some ⟨w.heap.size, 0, none⟩) n n) es := by
  subst hn
  refine ⟨_, _, rfl, Nat.le_refl _, hm, by simp, fun j u hu => ?_⟩
  rw [cell_of_row _ _ j cs t (0, 0) (heap_alloc_new _ _)]
  rw [← h] at hu
  simpa using hu
theorem owns_new {w : World} {cs : Array Value} {es : List Fe} {t : TypeId} {n : Nat} (h : cs.toList = cellsOf es) (hn : n = es.length) (hm : n ≤ maxLen) (base : Nat) (hb : base ≤ w.heap.size) : (w.alloc (.cells cs t)).ownsRow base t 5 (.slice (some ⟨w.heap.size, 0, none⟩) n n) n (cellsOf es) := by
  subst hn
  have hz : cs.size = es.length * 5 := by rw [← Array.length_toList, h, cellsOf_len]
  refine ⟨cellsOf_len _, .inr ⟨_, _, cs, rfl, hb, heap_alloc_new _ _, Nat.le_refl _, hm, hz, ?_⟩⟩
  rw [← h, ← hz, ← Array.length_toList, List.take_length]
theorem lies_owned {w : World} {base : Nat} {t : TypeId} {g n c : Nat} {es : List Fe} (hn : n = es.length) (h : w.ownsRow base t 5 (.slice (some ⟨g, 0, none⟩) n c) n (cellsOf es)) : Lies w (.slice (some ⟨g, 0, none⟩) n c) es := by
  subst hn
  rcases h.2 with ⟨e, _⟩ | ⟨g', c', cur, e, hb, hg, h1, h2, h3, h4⟩
  · cases e
  · cases e
    refine ⟨_, _, rfl, h1, h2, (Array.getElem?_eq_some_iff.1 hg).1, fun j u hu => ?_⟩
    rw [cell_of_row _ _ j cur t (0, 0) hg]
    rw [← h4] at hu
    have hj := (List.getElem?_eq_some_iff.1 hu).1
    rw [List.getElem?_take_of_lt (by rw [List.length_take] at hj; omega)] at hu
    simpa using hu
end Go.Proofs.YtagafedkfkmkbaaDoor
