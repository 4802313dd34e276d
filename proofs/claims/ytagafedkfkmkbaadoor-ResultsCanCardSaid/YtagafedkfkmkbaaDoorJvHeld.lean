/- How a value of JSON lies in memory: its elements cell by cell, behind whatever slices. Conditions: none. -/
import Derived.Test.YtagafedkfkmkbaaDoorJvMath
import Derived.Below
import Derived.Lib.Hide
import Derived.Laws.AppendOwn
import Derived.Lib.Strings
namespace Go.Proofs.YtagafedkfkmkbaaDoor
open Go Go.RowKit

/-- a slice of n elements; its first one stands where P says -/
def SL (n : Nat) (v : Value) (P : Nat → Nat → Prop) : Prop :=
  (v = .slice none 0 0 ∧ n = 0) ∨ (n = 0 ∧ ∃ a c, v = .slice (some a) 0 c ∧ c ≤ maxLen) ∨ ∃ b o c, v = .slice (some ⟨b, o, none⟩) n c ∧ n ≤ c ∧ (c ≤ maxLen ∧ n ≤ 2000000000000) ∧ P b o
/-- a kind is a byte; strings are such as Go can hold -/
def Fit (nm : ByteArray) (k : Nat) (x : ByteArray) : Prop := k < 256 ∧ x.size ≤ 140737488355328 ∧ nm.size ≤ 140737488355328
theorem Fit.text {nm : ByteArray} {k : Nat} {x : ByteArray} (h : Fit nm k x) : x.size ≤ 140737488355328 := h.2.1
theorem Fit.name {nm : ByteArray} {k : Nat} {x : ByteArray} (h : Fit nm k x) : nm.size ≤ 140737488355328 := h.2.2
/-- a row of elements lies in block b from cell o on: of values (d is 0) or fields (d is 1); all blocks of it are A's -/
def HR (w : World) (A : Nat → Prop) : Nat → Nat → Nat → V.T → Prop
  | _, _, _, .nil => True
  | d, b, o, .cons nm k x l f tl => A b ∧ (d = 0 → nm = ⟨#[]⟩) ∧ (d = 1 → w.cell? ⟨b, o, none⟩ = some (.string nm)) ∧
      w.cell? ⟨b, o + d, none⟩ = some (.int .u8 k) ∧ w.cell? ⟨b, o + d + 1, none⟩ = some (.string x) ∧
      (∃ v, w.cell? ⟨b, o + d + 2, none⟩ = some v ∧ SL l.len v (fun b' o' => HR w A 0 b' o' l)) ∧
      (∃ v, w.cell? ⟨b, o + d + 3, none⟩ = some v ∧ SL f.len v (fun b' o' => HR w A 1 b' o' f)) ∧ Fit nm k x ∧
      HR w A d b (o + (4 + d)) tl
/-- a slice of values, or of fields -/
def HS (w : World) (A : Nat → Prop) (d : Nat) (v : Value) (t : V.T) : Prop := SL t.len v (fun b o => HR w A d b o t)

theorem SL.imp {n : Nat} {v : Value} {P Q : Nat → Nat → Prop} (h : SL n v P) (hi : ∀ b o, P b o → Q b o) : SL n v Q := by
  rcases h with h | h | ⟨b, o, c, h1, h2, h3, h4⟩
  · exact .inl h
  · exact .inr (.inl h)
  · exact .inr (.inr ⟨b, o, c, h1, h2, h3, hi b o h4⟩)
theorem HR.imp {w w' : World} {A A' : Nat → Prop} (hA : ∀ b, A b → b < w.heap.size → A' b) (hk : ∀ b, A b → b < w.heap.size → w'.heap[b]? = w.heap[b]?) :
    ∀ (t : V.T) (d b o : Nat), HR w A d b o t → HR w' A' d b o t
  | .nil, _, _, _, _ => trivial
  | .cons nm k x l f tl, d, b, o, h => by
    obtain ⟨h1, h2, h3, h4, h5, ⟨v, h6, h7⟩, ⟨u, h8, h9⟩, h10, h11⟩ := h
    have hb := World.block_lt_of_cell? w _ h4
    have hc : ∀ j v, w.cell? ⟨b, j, none⟩ = some v → w'.cell? ⟨b, j, none⟩ = some v := fun j v h => (World.cell?_of_block (w := w) (w' := w') (a := ⟨b, j, none⟩) (hk b h1 hb)).trans h
    exact ⟨hA b h1 hb, h2, fun e => hc _ _ (h3 e), hc _ _ h4, hc _ _ h5, ⟨v, hc _ _ h6, h7.imp fun b' o' => HR.imp hA hk l 0 b' o'⟩, ⟨u, hc _ _ h8, h9.imp fun b' o' => HR.imp hA hk f 1 b' o'⟩, h10, HR.imp hA hk tl d b _ h11⟩
theorem HS.imp {w w' : World} {A A' : Nat → Prop} {d : Nat} {v : Value} {t : V.T} (hA : ∀ b, A b → b < w.heap.size → A' b) (hk : ∀ b, A b → b < w.heap.size → w'.heap[b]? = w.heap[b]?) (h : HS w A d v t) : HS w' A' d v t :=
  SL.imp h fun b o => HR.imp hA hk t d b o
theorem HS.mono {w : World} {A A' : Nat → Prop} {d : Nat} {v : Value} {t : V.T} (h : HS w A d v t) (hA : ∀ b, A b → b < w.heap.size → A' b) : HS w A' d v t := h.imp hA fun _ _ _ => rfl
theorem HS.below {w w' : World} {A : Nat → Prop} {d : Nat} {v : Value} {t : V.T} (h : HS w A d v t) (hB : Below w.heap.size w w') : HS w' A d v t := h.imp (fun _ a _ => a) fun b _ hb => hB.block b hb
theorem HS.alloc {w : World} {A : Nat → Prop} {d : Nat} {v : Value} {t : V.T} (h : HS w A d v t) (o : Obj) : HS (w.alloc o) A d v t := h.below ((Below.refl _ _).alloc (Nat.le_refl _) o)
theorem HS.grown {w w' : World} {A : Nat → Prop} {d : Nat} {v : Value} {t : V.T} {row : Option Nat} (h : HS w A d v t) (hg : w.grownBy w' row) (hr : ∀ b, A b → some b ≠ row) : HS w' A d v t := h.imp (fun _ a _ => a) fun b a hb => hg.block b hb (hr b a)
theorem HR.drop {w : World} {A : Nat → Prop} : ∀ (i : Nat) (t : V.T) (d b o : Nat), HR w A d b o t → HR w A d b (o + i * (4 + d)) (t.drop i)
  | 0, t, d, b, o, h => by rw [V.T.drop_zero, Nat.zero_mul]; exact h
  | _ + 1, .nil, _, _, _, _ => trivial
  | i + 1, .cons _ _ _ _ _ tl, d, b, o, h => by
    have h2 := HR.drop i tl d b _ h.2.2.2.2.2.2.2.2
    rw [show o + (i + 1) * (4 + d) = o + (4 + d) + i * (4 + d) by rw [Nat.succ_mul]; omega]
    exact h2
/-- a slice of some elements lies at an address -/
theorem HS.at {w : World} {A : Nat → Prop} {d i : Nat} {v : Value} {t : V.T} (h : HS w A d v t) (hi : i < t.len) : ∃ b o c, v = .slice (some ⟨b, o, none⟩) t.len c ∧ t.len ≤ c ∧ (c ≤ maxLen ∧ t.len ≤ 2000000000000) ∧ HR w A d b o t := by
  rcases h with h | h | h
  · omega
  · omega
  · exact h
/-- the length of a slice, as the walk reads it -/
theorem HS.len {w : World} {A : Nat → Prop} {d : Nat} {v : Value} {t : V.T} (h : HS w A d v t) : ∃ p c, v = .slice p t.len c ∧ t.len ≤ 2000000000000 ∧ t.len ≤ c ∧ c ≤ 9223372036854775807 := by
  rcases h with ⟨h1, h2⟩ | ⟨h2, a, c, h1, h3⟩ | ⟨b, o, c, h1, h2, h3, _⟩
  · exact ⟨none, 0, by rw [h1, h2], by omega, by omega, Nat.zero_le _⟩
  · exact ⟨some a, c, by rw [h1, h2], by omega, by omega, h3⟩
  · exact ⟨_, c, h1, h3.2, h2, h3.1⟩
/-- nil, or a slice that is not -/
theorem HS.shape {w : World} {A : Nat → Prop} {d : Nat} {v : Value} {t : V.T} (h : HS w A d v t) : (v = .slice none 0 0 ∧ t.len = 0) ∨ ∃ a c, v = .slice (some a) t.len c ∧ t.len ≤ c ∧ c ≤ 9223372036854775807 ∧ t.len ≤ 2000000000000 := by
  rcases h with h | ⟨h2, a, c, h1, h3⟩ | ⟨b, o, c, h1, h2, h3, _⟩
  · exact .inl h
  · exact .inr ⟨a, c, by rw [h1, h2], by omega, h3, by omega⟩
  · exact .inr ⟨_, c, h1, h2, h3⟩
/-- two new blocks -/
theorem two_new (w : World) (x y : Obj) : ((w.alloc x).alloc y).heap[w.heap.size]? = some x ∧ ((w.alloc x).alloc y).heap[w.heap.size + 1]? = some y :=
  ⟨(Below.heap_alloc _ _ _ (by simp)).trans (heap_alloc_new _ _), by have := heap_alloc_new (w.alloc x) y; rw [World.size_alloc] at this; exact this⟩
theorem two_below (w : World) (x y : Obj) : Below w.heap.size w ((w.alloc x).alloc y) := ((Below.refl w.heap.size w).alloc (Nat.le_refl _) x).alloc (by simp) y
theorem two_size (w : World) (x y : Obj) : ((w.alloc x).alloc y).heap.size = w.heap.size + 2 := by simp
/-- a value's box -/
def Box4 (w : World) (b : Nat) (k x v u : Value) : Prop := w.cell? ⟨b, 0, none⟩ = some k ∧ w.cell? ⟨b, 1, none⟩ = some x ∧ w.cell? ⟨b, 2, none⟩ = some v ∧ w.cell? ⟨b, 3, none⟩ = some u
theorem Box4.mk' {w : World} {b : Nat} {k x v u : Value} {t : TypeId} (h : w.heap[b]? = some (.cells #[k, x, v, u] t (0, 0))) : Box4 w b k x v u :=
  ⟨(cell_of_row w b 0 _ t (0, 0) h).trans rfl, (cell_of_row w b 1 _ t (0, 0) h).trans rfl, (cell_of_row w b 2 _ t (0, 0) h).trans rfl, (cell_of_row w b 3 _ t (0, 0) h).trans rfl⟩
theorem Box4.below {w w' : World} {b B : Nat} {k x v u : Value} (h : Box4 w b k x v u) (hB : Below B w w') (hb : b < B) : Box4 w' b k x v u :=
  ⟨(hB.cell (p := ⟨b, 0, none⟩) hb).trans h.1, (hB.cell (p := ⟨b, 1, none⟩) hb).trans h.2.1, (hB.cell (p := ⟨b, 2, none⟩) hb).trans h.2.2.1, (hB.cell (p := ⟨b, 3, none⟩) hb).trans h.2.2.2⟩
theorem HS.nil (w : World) (A : Nat → Prop) (d : Nat) : HS w A d (.slice none 0 0) .nil := .inl ⟨rfl, rfl⟩
end Go.Proofs.YtagafedkfkmkbaaDoor
