/- Values of JSON as plain trees: a row of elements, each with a name, a kind, a string, a row of its own and a row of fields. Conditions: none. -/
import GoSem.Core.Sem
import Derived.Below
import Derived.Lib.Hide
import Derived.Laws.AppendOwn
import Derived.Lib.Strings
namespace Go.Proofs.YtbdpghmpdghnbaaDoor.V
open Go

inductive T where
  | nil
  | cons (nm : ByteArray) (k : Nat) (x : ByteArray) (l f tl : T)
namespace T
def len : T → Nat
  | nil => 0
  | cons _ _ _ _ _ tl => tl.len + 1
def size : T → Nat
  | nil => 0
  | cons _ _ _ l f tl => l.size + f.size + tl.size + 1
/-- how deep: a row of nothing 0 -/
def deep : T → Nat
  | nil => 0
  | cons _ _ _ l f tl => max (max l.deep f.deep + 1) tl.deep
def drop : T → Nat → T
  | t, 0 => t
  | nil, _ + 1 => nil
  | cons _ _ _ _ _ tl, i + 1 => tl.drop i
theorem drop_zero (t : T) : t.drop 0 = t := by cases t <;> rfl
theorem drop_step {t : T} {i : Nat} {nm : ByteArray} {k : Nat} {x : ByteArray} {l f tl : T} (h : t.drop i = cons nm k x l f tl) : t.drop (i + 1) = tl := by
  induction i generalizing t with
  | zero => rw [drop_zero] at h; subst h; exact drop_zero tl
  | succ i ih =>
    cases t with
    | nil => cases h
    | cons _ _ _ _ _ tl' => exact ih (t := tl') h
theorem drop_some {t : T} {i : Nat} (h : i < t.len) : ∃ nm k x l f tl, t.drop i = cons nm k x l f tl := by
  induction i generalizing t with
  | zero =>
    cases t with
    | nil => cases h
    | cons nm k x l f tl => exact ⟨nm, k, x, l, f, tl, rfl⟩
  | succ i ih =>
    cases t with
    | nil => cases h
    | cons _ _ _ _ _ tl' => exact ih (t := tl') (Nat.lt_of_succ_lt_succ h)
theorem drop_len (t : T) : t.drop t.len = nil := by
  induction t with
  | nil => rfl
  | cons _ _ _ _ _ tl _ _ ih => exact ih
theorem drop_size {t : T} {i : Nat} {nm : ByteArray} {k : Nat} {x : ByteArray} {l f tl : T} (h : t.drop i = cons nm k x l f tl) : l.size + f.size + tl.size < t.size := by
  induction i generalizing t with
  | zero => rw [drop_zero] at h; subst h; show _ < _ + 1; omega
  | succ i ih =>
    cases t with
    | nil => cases h
    | cons nm' k' x' l' f' tl' =>
      have := ih (t := tl') h
      show _ < l'.size + f'.size + tl'.size + 1
      omega
theorem drop_deep {t : T} {i : Nat} {nm : ByteArray} {k : Nat} {x : ByteArray} {l f tl : T} (h : t.drop i = cons nm k x l f tl) : max l.deep f.deep + 1 ≤ t.deep := by
  induction i generalizing t with
  | zero => rw [drop_zero] at h; subst h; show _ ≤ max (max l.deep f.deep + 1) tl.deep; omega
  | succ i ih =>
    cases t with
    | nil => cases h
    | cons nm' k' x' l' f' tl' =>
      have := ih (t := tl') h
      show _ ≤ max (max l'.deep f'.deep + 1) tl'.deep
      omega
theorem len_size (t : T) : t.len ≤ t.size := by
  induction t with
  | nil => exact Nat.le_refl _
  | cons _ _ _ l f tl _ _ ih => show tl.len + 1 ≤ l.size + f.size + tl.size + 1; omega
theorem len_nil {t : T} (h : t.len = 0) : t = nil := by
  cases t with
  | nil => rfl
  | cons => cases h
/-- are two rows the same? -/
def eq : T → T → Bool
  | nil, nil => true
  | cons nm k x l f tl, cons nm' k' x' l' f' tl' => decide (nm = nm') && (decide (k = k') && decide (x = x') && eq l l' && eq f f') && eq tl tl'
  | _, _ => false
theorem eq_len {a b : T} (h : a.eq b = true) : a.len = b.len := by
  induction a generalizing b with
  | nil =>
    cases b with
    | nil => rfl
    | cons => cases h
  | cons _ _ _ _ _ tl _ _ ih =>
    cases b with
    | nil => cases h
    | cons _ _ _ _ _ tl' =>
      have h2 := (Bool.and_eq_true_iff.1 h).2
      exact congrArg (· + 1) (ih h2)
theorem eq_self (a : T) : a.eq a = true := by
  induction a with
  | nil => rfl
  | cons nm k x l f tl h1 h2 h3 => simp [eq, h1, h2, h3]
theorem of_eq {a b : T} (h : a.eq b = true) : a = b := by
  induction a generalizing b with
  | nil =>
    cases b with
    | nil => rfl
    | cons => cases h
  | cons nm k x l f tl h1 h2 h3 =>
    cases b with
    | nil => cases h
    | cons nm' k' x' l' f' tl' =>
      simp only [eq, Bool.and_eq_true, decide_eq_true_eq] at h
      obtain ⟨⟨e1, ⟨⟨e2, e3⟩, e4⟩, e5⟩, e6⟩ := h
      rw [e1, e2, e3, h1 e4, h2 e5, h3 e6]
end T
/-- the first field of a name -/
def T.find : T → ByteArray → Option (Nat × ByteArray × T × T)
  | .nil, _ => none
  | .cons nm k x l f tl, n => if nm = n then some (k, x, l, f) else tl.find n
theorem T.find_here {t : T} {i : Nat} {nm : ByteArray} {k : Nat} {x : ByteArray} {l f tl : T} (h : t.drop i = .cons nm k x l f tl) : (t.drop i).find nm = some (k, x, l, f) := by
  rw [h]; unfold find; rw [if_pos rfl]
theorem T.find_on {t : T} {i : Nat} {nm : ByteArray} {k : Nat} {x : ByteArray} {l f tl : T} {n : ByteArray} (h : t.drop i = .cons nm k x l f tl) (hn : ¬ nm = n) : (t.drop (i + 1)).find n = (t.drop i).find n := by
  rw [T.drop_step h, h]; conv => rhs; unfold find
  rw [if_neg hn]
/-- what is got: the value, and is it there? -/
def got (k : Nat) (f : T) (n : ByteArray) : Option (Nat × ByteArray × T × T) := if k = 6 then f.find n else none
def res : Option (Nat × ByteArray × T × T) → Nat × ByteArray × T × T × Bool
  | some (k, x, l, f) => (k, x, l, f, true)
  | none => (0, ⟨#[]⟩, .nil, .nil, false)
/-- are two values the same? -/
def veq (k : Nat) (x : ByteArray) (l f : T) (k' : Nat) (x' : ByteArray) (l' f' : T) : Bool := decide (k = k') && decide (x = x') && l.eq l' && f.eq f'
theorem veq_self (k : Nat) (x : ByteArray) (l f : T) : veq k x l f k x l f = true := by simp [veq, T.eq_self]
theorem of_veq {k : Nat} {x : ByteArray} {l f : T} {k' : Nat} {x' : ByteArray} {l' f' : T} (h : veq k x l f k' x' l' f' = true) : k = k' ∧ x = x' ∧ l = l' ∧ f = f' := by
  simp only [veq, Bool.and_eq_true, decide_eq_true_eq] at h
  exact ⟨h.1.1.1, h.1.1.2, T.of_eq h.1.2, T.of_eq h.2⟩
theorem eq_no {a b : T} {i : Nat} {nm : ByteArray} {k : Nat} {x : ByteArray} {l f tl : T} {nm' : ByteArray} {k' : Nat} {x' : ByteArray} {l' f' tl' : T} (h1 : a.drop i = .cons nm k x l f tl) (h2 : b.drop i = .cons nm' k' x' l' f' tl')
    (h : veq k x l f k' x' l' f' = false) : (a.drop i).eq (b.drop i) = false := by
  rw [h1, h2]
  show (decide (nm = nm') && veq k x l f k' x' l' f' && tl.eq tl') = false
  rw [h, Bool.and_false, Bool.false_and]
theorem eq_name {a b : T} {i : Nat} {nm : ByteArray} {k : Nat} {x : ByteArray} {l f tl : T} {nm' : ByteArray} {k' : Nat} {x' : ByteArray} {l' f' tl' : T} (h1 : a.drop i = .cons nm k x l f tl) (h2 : b.drop i = .cons nm' k' x' l' f' tl')
    (h : ¬ nm = nm') : (a.drop i).eq (b.drop i) = false := by
  rw [h1, h2]
  show (decide (nm = nm') && veq k x l f k' x' l' f' && tl.eq tl') = false
  rw [decide_eq_false h, Bool.false_and, Bool.false_and]
theorem eq_next {a b : T} {i : Nat} {nm : ByteArray} {k : Nat} {x : ByteArray} {l f tl : T} {nm' : ByteArray} {k' : Nat} {x' : ByteArray} {l' f' tl' : T} (h1 : a.drop i = .cons nm k x l f tl) (h2 : b.drop i = .cons nm' k' x' l' f' tl')
    (h : veq k x l f k' x' l' f' = true) (hn : nm = nm') : (a.drop (i + 1)).eq (b.drop (i + 1)) = (a.drop i).eq (b.drop i) := by
  rw [T.drop_step h1, T.drop_step h2, h1, h2]
  show _ = (decide (nm = nm') && veq k x l f k' x' l' f' && tl.eq tl')
  rw [h, decide_eq_true hn, Bool.true_and, Bool.true_and]
end Go.Proofs.YtbdpghmpdghnbaaDoor.V

namespace Go.Proofs.YtbdpghmpdghnbaaDoor
open Go Go.RowKit

/-- a slice of n elements; its first one stands where P says -/
def SL (n : Nat) (v : Value) (P : Nat → Nat → Prop) : Prop :=
  (v = .slice none 0 0 ∧ n = 0) ∨ (n = 0 ∧ ∃ a c, v = .slice (some a) 0 c ∧ c ≤ maxLen) ∨ ∃ b o c, v = .slice (some ⟨b, o, none⟩) n c ∧ n ≤ c ∧ (c ≤ maxLen ∧ n ≤ 2000000000000) ∧ P b o
/-- a kind is a byte; strings are such as Go can hold -/
def Fit (nm : ByteArray) (k : Nat) (x : ByteArray) : Prop := k < 256 ∧ x.size ≤ 140737488355328 ∧ nm.size ≤ 140737488355328
theorem Fit.text {nm : ByteArray} {k : Nat} {x : ByteArray} (h : Fit nm k x) : x.size ≤ 140737488355328 := h.2.1
theorem Fit.name {nm : ByteArray} {k : Nat} {x : ByteArray} (h : Fit nm k x) : nm.size ≤ 140737488355328 := h.2.2
/-- a row of elements lies in block b from cell o on: of values (d is 0) or fields (d is 1); all blocks of it are A's -/
def HR (w : World) (A : Nat → Prop) : Nat → Nat → Nat → V.T → Prop
  | _, _, _, .nil => True
  | d, b, o, .cons nm k x l f tl => A b ∧ (d = 0 → nm = ⟨#[]⟩) ∧ (d = 1 → w.cell? ⟨b, o, none⟩ = some (.string nm)) ∧
      w.cell? ⟨b, o + d, none⟩ = some (.int .u8 k) ∧ w.cell? ⟨b, o + d + 1, none⟩ = some (.string x) ∧
      (∃ v, w.cell? ⟨b, o + d + 2, none⟩ = some v ∧ SL l.len v (fun b' o' => HR w A 0 b' o' l)) ∧
      (∃ v, w.cell? ⟨b, o + d + 3, none⟩ = some v ∧ SL f.len v (fun b' o' => HR w A 1 b' o' f)) ∧ Fit nm k x ∧
      HR w A d b (o + (4 + d)) tl
/-- a slice of values, or of fields -/
def HS (w : World) (A : Nat → Prop) (d : Nat) (v : Value) (t : V.T) : Prop := SL t.len v (fun b o => HR w A d b o t)

theorem SL.imp {n : Nat} {v : Value} {P Q : Nat → Nat → Prop} (h : SL n v P) (hi : ∀ b o, P b o → Q b o) : SL n v Q := by
  rcases h with h | h | ⟨b, o, c, h1, h2, h3, h4⟩
  · exact .inl h
  · exact .inr (.inl h)
  · exact .inr (.inr ⟨b, o, c, h1, h2, h3, hi b o h4⟩)
theorem HR.imp {w w' : World} {A A' : Nat → Prop} (hA : ∀ b, A b → b < w.heap.size → A' b) (hk : ∀ b, A b → b < w.heap.size → w'.heap[b]? = w.heap[b]?) :
    ∀ (t : V.T) (d b o : Nat), HR w A d b o t → HR w' A' d b o t
  | .nil, _, _, _, _ => trivial
  | .cons nm k x l f tl, d, b, o, h => by
    obtain ⟨h1, h2, h3, h4, h5, ⟨v, h6, h7⟩, ⟨u, h8, h9⟩, h10, h11⟩ := h
    have hb := World.block_lt_of_cell? w _ h4
    have hc : ∀ j v, w.cell? ⟨b, j, none⟩ = some v → w'.cell? ⟨b, j, none⟩ = some v := fun j v h => (World.cell?_of_block (w := w) (w' := w') (a := ⟨b, j, none⟩) (hk b h1 hb)).trans h
    exact ⟨hA b h1 hb, h2, fun e => hc _ _ (h3 e), hc _ _ h4, hc _ _ h5, ⟨v, hc _ _ h6, h7.imp fun b' o' => HR.imp hA hk l 0 b' o'⟩, ⟨u, hc _ _ h8, h9.imp fun b' o' => HR.imp hA hk f 1 b' o'⟩, h10, HR.imp hA hk tl d b _ h11⟩
theorem HS.imp {w w' : World} {A A' : Nat → Prop} {d : Nat} {v : Value} {t : V.T} (hA : ∀ b, A b → b < w.heap.size → A' b) (hk : ∀ b, A b → b < w.heap.size → w'.heap[b]? = w.heap[b]?) (h : HS w A d v t) : HS w' A' d v t :=
  SL.imp h fun b o => HR.imp hA hk t d b o
theorem HS.mono {w : World} {A A' : Nat → Prop} {d : Nat} {v : Value} {t : V.T} (h : HS w A d v t) (hA : ∀ b, A b → b < w.heap.size → A' b) : HS w A' d v t := h.imp hA fun _ _ _ => rfl
theorem HS.below {w w' : World} {A : Nat → Prop} {d : Nat} {v : Value} {t : V.T} (h : HS w A d v t) (hB : Below w.heap.size w w') : HS w' A d v t := h.imp (fun _ a _ => a) fun b _ hb => hB.block b hb
theorem HS.alloc {w : World} {A : Nat → Prop} {d : Nat} {v : Value} {t : V.T} (h : HS w A d v t) (o : Obj) : HS (w.alloc o) A d v t := h.below ((Below.refl _ _).alloc (Nat.le_refl _) o)
theorem HS.grown {w w' : World} {A : Nat → Prop} {d : Nat} {v : Value} {t : V.T} {row : Option Nat} (h : HS w A d v t) (hg : w.grownBy w' row) (hr : ∀ b, A b → some b ≠ row) : HS w' A d v t := h.imp (fun _ a _ => a) fun b a hb => hg.block b hb (hr b a)
theorem HR.drop {w : World} {A : Nat → Prop} : ∀ (i : Nat) (t : V.T) (d b o : Nat), HR w A d b o t → HR w A d b (o + i * (4 + d)) (t.drop i)
  | 0, t, d, b, o, h => by rw [V.T.drop_zero, Nat.zero_mul]; exact h
  | _ + 1, .nil, _, _, _, _ => trivial
  | i + 1, .cons _ _ _ _ _ tl, d, b, o, h => by
    have h2 := HR.drop i tl d b _ h.2.2.2.2.2.2.2.2
    rw [show o + (i + 1) * (4 + d) = o + (4 + d) + i * (4 + d) by rw [Nat.succ_mul]; omega]
    exact h2
/-- a slice of some elements lies at an address -/
theorem HS.at {w : World} {A : Nat → Prop} {d i : Nat} {v : Value} {t : V.T} (h : HS w A d v t) (hi : i < t.len) : ∃ b o c, v = .slice (some ⟨b, o, none⟩) t.len c ∧ t.len ≤ c ∧ (c ≤ maxLen ∧ t.len ≤ 2000000000000) ∧ HR w A d b o t := by
  rcases h with h | h | h
  · omega
  · omega
  · exact h
/-- the length of a slice, as the walk reads it -/
theorem HS.len {w : World} {A : Nat → Prop} {d : Nat} {v : Value} {t : V.T} (h : HS w A d v t) : ∃ p c, v = .slice p t.len c ∧ t.len ≤ 2000000000000 ∧ t.len ≤ c ∧ c ≤ 9223372036854775807 := by
  rcases h with ⟨h1, h2⟩ | ⟨h2, a, c, h1, h3⟩ | ⟨b, o, c, h1, h2, h3, _⟩
  · exact ⟨none, 0, by rw [h1, h2], by omega, by omega, Nat.zero_le _⟩
  · exact ⟨some a, c, by rw [h1, h2], by omega, by omega, h3⟩
  · exact ⟨_, c, h1, h3.2, h2, h3.1⟩
/-- nil, or a slice that is not -/
theorem HS.shape {w : World} {A : Nat → Prop} {d : Nat} {v : Value} {t : V.T} (h : HS w A d v t) : (v = .slice none 0 0 ∧ t.len = 0) ∨ ∃ a c, v = .slice (some a) t.len c ∧ t.len ≤ c ∧ c ≤ 9223372036854775807 ∧ t.len ≤ 2000000000000 := by
  rcases h with h | ⟨h2, a, c, h1, h3⟩ | ⟨b, o, c, h1, h2, h3, _⟩
  · exact .inl h
  · exact .inr ⟨a, c, by rw [h1, h2], by omega, h3, by omega⟩
  · exact .inr ⟨_, c, h1, h2, h3⟩
/-- two new blocks -/
theorem two_new (w : World) (x y : Obj) : ((w.alloc x).alloc y).heap[w.heap.size]? = some x ∧ ((w.alloc x).alloc y).heap[w.heap.size + 1]? = some y :=
  ⟨(Below.heap_alloc _ _ _ (by simp)).trans (heap_alloc_new _ _), by have := heap_alloc_new (w.alloc x) y; rw [World.size_alloc] at this; exact this⟩
theorem two_below (w : World) (x y : Obj) : Below w.heap.size w ((w.alloc x).alloc y) := ((Below.refl w.heap.size w).alloc (Nat.le_refl _) x).alloc (by simp) y
theorem two_size (w : World) (x y : Obj) : ((w.alloc x).alloc y).heap.size = w.heap.size + 2 := by simp
/-- a value's box -/
def Box4 (w : World) (b : Nat) (k x v u : Value) : Prop := w.cell? ⟨b, 0, none⟩ = some k ∧ w.cell? ⟨b, 1, none⟩ = some x ∧ w.cell? ⟨b, 2, none⟩ = some v ∧ w.cell? ⟨b, 3, none⟩ = some u
theorem Box4.mk' {w : World} {b : Nat} {k x v u : Value} {t : TypeId} (h : w.heap[b]? = some (.cells #[k, x, v, u] t (0, 0))) : Box4 w b k x v u :=
  ⟨(cell_of_row w b 0 _ t (0, 0) h).trans rfl, (cell_of_row w b 1 _ t (0, 0) h).trans rfl, (cell_of_row w b 2 _ t (0, 0) h).trans rfl, (cell_of_row w b 3 _ t (0, 0) h).trans rfl⟩
theorem Box4.below {w w' : World} {b B : Nat} {k x v u : Value} (h : Box4 w b k x v u) (hB : Below B w w') (hb : b < B) : Box4 w' b k x v u :=
  ⟨(hB.cell (p := ⟨b, 0, none⟩) hb).trans h.1, (hB.cell (p := ⟨b, 1, none⟩) hb).trans h.2.1, (hB.cell (p := ⟨b, 2, none⟩) hb).trans h.2.2.1, (hB.cell (p := ⟨b, 3, none⟩) hb).trans h.2.2.2⟩
theorem HS.nil (w : World) (A : Nat → Prop) (d : Nat) : HS w A d (.slice none 0 0) .nil := .inl ⟨rfl, rfl⟩
end Go.Proofs.YtbdpghmpdghnbaaDoor
