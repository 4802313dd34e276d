/- Values of JSON as plain trees: a row of elements, each with a name, a kind, a string, a row of its own and a row of fields. Conditions: none. -/
import GoSem.Core.Sem
namespace Go.Proofs.YtagafedkfkmkbaaDoor.V
open Go

inductive T where
  | nil
  | cons (nm : ByteArray) (k : Nat) (x : ByteArray) (l f tl : T)
namespace T
def len : T → Nat
  | nil => 0
  | cons _ _ _ _ _ tl => tl.len + 1
def size : T → Nat
  | nil => 0
  | cons _ _ _ l f tl => l.size + f.size + tl.size + 1
/-- how deep: a row of nothing 0 -/
def deep : T → Nat
  | nil => 0
  | cons _ _ _ l f tl => max (max l.deep f.deep + 1) tl.deep
def drop : T → Nat → T
  | t, 0 => t
  | nil, _ + 1 => nil
  | cons _ _ _ _ _ tl, i + 1 => tl.drop i
theorem drop_zero (t : T) : t.drop 0 = t := by cases t <;> rfl
theorem drop_step {t : T} {i : Nat} {nm : ByteArray} {k : Nat} {x : ByteArray} {l f tl : T} (h : t.drop i = cons nm k x l f tl) : t.drop (i + 1) = tl := by
  induction i generalizing t with
  | zero => rw [drop_zero] at h; subst h; exact drop_zero tl
  | succ i ih =>
    cases t with
    | nil => cases h
    | cons _ _ _ _ _ tl' => exact ih (t := tl') h
theorem drop_some {t : T} {i : Nat} (h : i < t.len) : ∃ nm k x l f tl, t.drop i = cons nm k x l f tl := by
  induction i generalizing t with
  | zero =>
    cases t with
    | nil => cases h
    | cons nm k x l f tl => exact ⟨nm, k, x, l, f, tl, rfl⟩
  | succ i ih =>
    cases t with
    | nil => cases h
    | cons _ _ _ _ _ tl' => exact ih (t := tl') (Nat.lt_of_succ_lt_succ h)
theorem drop_len (t : T) : t.drop t.len = nil := by
  induction t with
  | nil => rfl
  | cons _ _ _ _ _ tl _ _ ih => exact ih
theorem drop_size {t : T} {i : Nat} {nm : ByteArray} {k : Nat} {x : ByteArray} {l f tl : T} (h : t.drop i = cons nm k x l f tl) : l.size + f.size + tl.size < t.size := by
  induction i generalizing t with
  | zero => rw [drop_zero] at h; subst h; show _ < _ + 1; omega
  | succ i ih =>
    cases t with
    | nil => cases h
    | cons nm' k' x' l' f' tl' =>
      have := ih (t := tl') h
      show _ < l'.size + f'.size + tl'.size + 1
      omega
theorem drop_deep {t : T} {i : Nat} {nm : ByteArray} {k : Nat} {x : ByteArray} {l f tl : T} (h : t.drop i = cons nm k x l f tl) : max l.deep f.deep + 1 ≤ t.deep := by
  induction i generalizing t with
  | zero => rw [drop_zero] at h; subst h; show _ ≤ max (max l.deep f.deep + 1) tl.deep; omega
  | succ i ih =>
    cases t with
    | nil => cases h
    | cons nm' k' x' l' f' tl' =>
      have := ih (t := tl') h
      show _ ≤ max (max l'.deep f'.deep + 1) tl'.deep
      omega
theorem len_size (t : T) : t.len ≤ t.size := by
  induction t with
  | nil => exact Nat.le_refl _
  | cons _ _ _ l f tl _ _ ih => show tl.len + 1 ≤ l.size + f.size + tl.size + 1; omega
theorem len_nil {t : T} (h : t.len = 0) : t = nil := by
  cases t with
  | nil => rfl
  | cons => cases h
/-- are two rows the same? -/
def eq : T → T → Bool
  | nil, nil => true
  | cons nm k x l f tl, cons nm' k' x' l' f' tl' => decide (nm = nm') && (decide (k = k') && decide (x = x') && eq l l' && eq f f') && eq tl tl'
  | _, _ => false
theorem eq_len {a b : T} (h : a.eq b = true) : a.len = b.len := by
  induction a generalizing b with
  | nil =>
    cases b with
    | nil => rfl
    | cons => cases h
  | cons _ _ _ _ _ tl _ _ ih =>
    cases b with
    | nil => cases h
    | cons _ _ _ _ _ tl' =>
      have h2 := (Bool.and_eq_true_iff.1 h).2
      exact congrArg (· + 1) (ih h2)
theorem eq_self (a : T) : a.eq a = true := by
  induction a with
  | nil => rfl
  | cons nm k x l f tl h1 h2 h3 => simp [eq, h1, h2, h3]
theorem of_eq {a b : T} (h : a.eq b = true) : a = b := by
  induction a generalizing b with
  | nil =>
    cases b with
    | nil => rfl
    | cons => cases h
  | cons nm k x l f tl h1 h2 h3 =>
    cases b with
    | nil => cases h
    | cons nm' k' x' l' f' tl' =>
      simp only [eq, Bool.and_eq_true, decide_eq_true_eq] at h
      obtain ⟨⟨e1, ⟨⟨e2, e3⟩, e4⟩, e5⟩, e6⟩ := h
      rw [e1, e2, e3, h1 e4, h2 e5, h3 e6]
end T
/-- the first field of a name -/
def T.find : T → ByteArray → Option (Nat × ByteArray × T × T)
  | .nil, _ => none
  | .cons nm k x l f tl, n => if nm = n then some (k, x, l, f) else tl.find n
theorem T.find_here {t : T} {i : Nat} {nm : ByteArray} {k : Nat} {x : ByteArray} {l f tl : T} (h : t.drop i = .cons nm k x l f tl) : (t.drop i).find nm = some (k, x, l, f) := by
  rw [h]; unfold find; rw [if_pos rfl]
theorem T.find_on {t : T} {i : Nat} {nm : ByteArray} {k : Nat} {x : ByteArray} {l f tl : T} {n : ByteArray} (h : t.drop i = .cons nm k x l f tl) (hn : ¬ nm = n) : (t.drop (i + 1)).find n = (t.drop i).find n := by
  rw [T.drop_step h, h]; conv => rhs; unfold find
  rw [if_neg hn]
/-- what is got: the value, and is it there? -/
def got (k : Nat) (f : T) (n : ByteArray) : Option (Nat × ByteArray × T × T) := if k = 6 then f.find n else none
def res : Option (Nat × ByteArray × T × T) → Nat × ByteArray × T × T × Bool
  | some (k, x, l, f) => (k, x, l, f, true)
  | none => (0, ⟨#[]⟩, .nil, .nil, false)
/-- are two values the same? -/
def veq (k : Nat) (x : ByteArray) (l f : T) (k' : Nat) (x' : ByteArray) (l' f' : T) : Bool := decide (k = k') && decide (x = x') && l.eq l' && f.eq f'
theorem veq_self (k : Nat) (x : ByteArray) (l f : T) : veq k x l f k x l f = true := by simp [veq, T.eq_self]
theorem of_veq {k : Nat} {x : ByteArray} {l f : T} {k' : Nat} {x' : ByteArray} {l' f' : T} (h : veq k x l f k' x' l' f' = true) : k = k' ∧ x = x' ∧ l = l' ∧ f = f' := by
  simp only [veq, Bool.and_eq_true, decide_eq_true_eq] at h
  exact ⟨h.1.1.1, h.1.1.2, T.of_eq h.1.2, T.of_eq h.2⟩
theorem eq_no {a b : T} {i : Nat} {nm : ByteArray} {k : Nat} {x : ByteArray} {l f tl : T} {nm' : ByteArray} {k' : Nat} {x' : ByteArray} {l' f' tl' : T} (h1 : a.drop i = .cons nm k x l f tl) (h2 : b.drop i = .cons nm' k' x' l' f' tl')
    (h : veq k x l f k' x' l' f' = false) : (a.drop i).eq (b.drop i) = false := by
  rw [h1, h2]
  show (decide (nm = nm') && veq k x l f k' x' l' f' && tl.eq tl') = false
  rw [h, Bool.and_false, Bool.false_and]
theorem eq_name {a b : T} {i : Nat} {nm : ByteArray} {k : Nat} {x : ByteArray} {l f tl : T} {nm' : ByteArray} {k' : Nat} {x' : ByteArray} {l' f' tl' : T} (h1 : a.drop i = .cons nm k x l f tl) (h2 : b.drop i = .cons nm' k' x' l' f' tl')
    (h : ¬ nm = nm') : (a.drop i).eq (b.drop i) = false := by
  rw [h1, h2]
  show (decide (nm = nm') && veq k x l f k' x' l' f' && tl.eq tl') = false
  rw [decide_eq_false h, Bool.false_and, Bool.false_and]
theorem eq_next {a b : T} {i : Nat} {nm : ByteArray} {k : Nat} {x : ByteArray} {l f tl : T} {nm' : ByteArray} {k' : Nat} {x' : ByteArray} {l' f' tl' : T} (h1 : a.drop i = .cons nm k x l f tl) (h2 : b.drop i = .cons nm' k' x' l' f' tl')
    (h : veq k x l f k' x' l' f' = true) (hn : nm = nm') : (a.drop (i + 1)).eq (b.drop (i + 1)) = (a.drop i).eq (b.drop i) := by
  rw [T.drop_step h1, T.drop_step h2, h1, h2]
  show _ = (decide (nm = nm') && veq k x l f k' x' l' f' && tl.eq tl')
  rw [h, decide_eq_true hn, Bool.true_and, Bool.true_and]
end Go.Proofs.YtagafedkfkmkbaaDoor.V
