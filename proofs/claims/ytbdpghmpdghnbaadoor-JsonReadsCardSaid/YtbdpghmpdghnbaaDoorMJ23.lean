/- The program's reader of JSON: the fields so far, and the map of their places. Conditions: none. -/
import Derived.Test.YtbdpghmpdghnbaaDoorMJ22
import Derived.Maps.OwnSet
import Derived.Maps.Views
namespace Go.Proofs.YtbdpghmpdghnbaaDoor
open Go Go.RowKit Go.Lib

namespace V
/-- at which place a name stands first -/
def T.idx : T → ByteArray → Option Nat
  | .nil, _ => none
  | .cons a _ _ _ _ tl, n => if a = n then some 0 else (tl.idx n).map (· + 1)
theorem T.idx_lt {t : T} {n : ByteArray} {i : Nat} (h : t.idx n = some i) : i < t.len := by
  induction t generalizing i with
  | nil => cases h
  | cons a k x l f tl _ _ ih =>
    unfold idx at h
    split at h
    · cases h; exact Nat.succ_pos _
    · obtain ⟨j, hj, rfl⟩ := Option.map_eq_some_iff.1 h
      exact Nat.succ_lt_succ (ih hj)
theorem T.put_new {t : T} {n : ByteArray} (h : t.idx n = none) (k : Nat) (x : ByteArray) (l f : T) : t.put n k x l f = t.snoc n k x l f := by
  induction t with
  | nil => rfl
  | cons a k' x' l' f' tl _ _ ih =>
    unfold idx at h
    split at h
    · cases h
    · rename_i hn
      unfold put snoc
      rw [if_neg hn, ih (by simpa using h)]
theorem T.idx_snoc (t : T) (a n : ByteArray) (k : Nat) (x : ByteArray) (l f : T) : (t.snoc a k x l f).idx n = match t.idx n with | some i => some i | none => if a = n then some t.len else none := by
  induction t with
  | nil => show (if a = n then some 0 else Option.map _ none) = _; rfl
  | cons b k' x' l' f' tl _ _ ih =>
    show (if b = n then some 0 else Option.map (· + 1) ((tl.snoc a k x l f).idx n)) = match (if b = n then some 0 else Option.map (· + 1) (tl.idx n)) with | some i => some i | none => if a = n then some (tl.len + 1) else none
    rw [ih]
    by_cases hb : b = n
    · simp [hb]
    · rw [if_neg hb, if_neg hb]
      cases tl.idx n with
      | some i => rfl
      | none =>
        simp only [Option.map_none]
        by_cases ha : a = n
        · simp [ha]
        · simp [ha]
theorem T.idx_put {t : T} {n : ByteArray} {i : Nat} (h : t.idx n = some i) (m : ByteArray) (k : Nat) (x : ByteArray) (l f : T) : (t.put n k x l f).idx m = t.idx m := by
  induction t generalizing i with
  | nil => cases h
  | cons a k' x' l' f' tl _ _ ih =>
    unfold put
    split
    · rfl
    · rename_i hn
      unfold idx at h
      rw [if_neg hn] at h
      obtain ⟨j, hj, rfl⟩ := Option.map_eq_some_iff.1 h
      show (if a = m then _ else _) = (if a = m then _ else _)
      rw [ih hj]
theorem T.put_len_old {t : T} {n : ByteArray} {i : Nat} (h : t.idx n = some i) (k : Nat) (x : ByteArray) (l f : T) : (t.put n k x l f).len = t.len := by
  induction t generalizing i with
  | nil => cases h
  | cons a k' x' l' f' tl _ _ ih =>
    unfold put
    split
    · rfl
    · rename_i hn
      unfold idx at h
      rw [if_neg hn] at h
      obtain ⟨j, hj, rfl⟩ := Option.map_eq_some_iff.1 h
      exact congrArg (· + 1) (ih hj)
/-- at the place itself, and elsewhere -/
theorem T.put_at {t : T} {n : ByteArray} {i : Nat} (h : t.idx n = some i) (k : Nat) (x : ByteArray) (l f : T) : ∃ tl, (t.put n k x l f).drop i = .cons n k x l f tl := by
  induction t generalizing i with
  | nil => cases h
  | cons a k' x' l' f' tl _ _ ih =>
    unfold idx at h
    unfold put
    split at h
    · rename_i hn
      cases h
      rw [if_pos hn, ← hn]
      exact ⟨tl, rfl⟩
    · rename_i hn
      rw [if_neg hn]
      obtain ⟨j, hj, rfl⟩ := Option.map_eq_some_iff.1 h
      exact ih hj
theorem T.put_else {t : T} {n : ByteArray} {i j : Nat} (h : t.idx n = some i) (hj : j ≠ i) {nm : ByteArray} {kk : Nat} {xx : ByteArray} {ll ff tl : T} (hd : t.drop j = .cons nm kk xx ll ff tl) (k : Nat) (x : ByteArray) (l f : T) :
    ∃ tl', (t.put n k x l f).drop j = .cons nm kk xx ll ff tl' := by
  induction t generalizing i j with
  | nil => cases h
  | cons a k' x' l' f' tl0 _ _ ih =>
    unfold idx at h
    unfold put
    split at h
    · rename_i hn
      cases h
      rw [if_pos hn]
      cases j with
      | zero => exact absurd rfl hj
      | succ j => exact ⟨tl, hd⟩
    · rename_i hn
      rw [if_neg hn]
      obtain ⟨i', hi', rfl⟩ := Option.map_eq_some_iff.1 h
      cases j with
      | zero =>
        rw [drop_zero] at hd
        cases hd
        exact ⟨_, rfl⟩
      | succ j => exact ih hi' (fun e => hj (by rw [e])) hd
theorem T.idx_name {t : T} {n : ByteArray} {i : Nat} (h : t.idx n = some i) : ∃ k x l f tl, t.drop i = .cons n k x l f tl := by
  induction t generalizing i with
  | nil => cases h
  | cons a k x l f tl _ _ ih =>
    unfold idx at h
    split at h
    · rename_i hn
      cases h
      rw [← hn]
      exact ⟨k, x, l, f, tl, rfl⟩
    · obtain ⟨j, hj, rfl⟩ := Option.map_eq_some_iff.1 h
      exact ih hj
end V

/-- what a name reads as, as a key -/
def kl (n : ByteArray) : Lit := .string n.data.toList
theorem kl_inj {a b : ByteArray} (h : kl a = kl b) : a = b := by
  unfold kl at h
  have := Lit.string.inj h
  exact ByteArray.ext (Array.toList_inj.1 this)
/-- the map reads as the fields' places -/
def MapIs (D : DataW Nat) (t : V.T) : Prop := Maps.IsMap D ∧ ∀ n : ByteArray, match t.idx n with
  | some i => Maps.has D (kl n) = true ∧ ∀ z, D.atKey (kl n) z = .lit (.int .i64 i)
  | none => Maps.has D (kl n) = false
theorem MapIs.nil : MapIs (.map []) .nil := ⟨⟨_, rfl⟩, fun n => rfl⟩
theorem MapIs.old {D : DataW Nat} {t : V.T} {n : ByteArray} {i : Nat} (h : MapIs D t) (hi : t.idx n = some i) (k : Nat) (x : ByteArray) (l f : V.T) : MapIs D (t.put n k x l f) := by
  refine ⟨h.1, fun m => ?_⟩
  rw [V.T.idx_put hi]
  exact h.2 m
theorem MapIs.new {D : DataW Nat} {t : V.T} {n : ByteArray} (h : MapIs D t) (hn : t.idx n = none) (hD : Maps.IsMap (D.put (kl n) (.lit (.int .i64 t.len)))) (hk : WideAt.IsKeyLit (kl n)) (k : Nat) (x : ByteArray) (l f : V.T) :
    MapIs (D.put (kl n) (.lit (.int .i64 t.len))) (t.put n k x l f) := by
  refine ⟨hD, fun m => ?_⟩
  rw [V.T.put_new hn, V.T.idx_snoc]
  have hm := h.2 m
  by_cases e : n = m
  · subst e
    rw [hn, if_pos rfl]
    exact ⟨Maps.has_put_same h.1 hk _, fun z => Maps.atKey_put_same h.1 hk _ z⟩
  · have hne : kl m ≠ kl n := fun e2 => e (kl_inj e2).symm
    cases hi : t.idx m with
    | some i =>
      rw [hi] at hm
      exact ⟨by rw [Maps.has_put_other hne]; exact hm.1, fun z => by rw [Maps.atKey_put_other hne]; exact hm.2 z⟩
    | none =>
      rw [hi] at hm
      show match (if n = m then some t.len else none) with | some i => _ | none => _
      rw [if_neg e]
      show Maps.has _ _ = false
      rw [Maps.has_put_other hne]; exact hm
end Go.Proofs.YtbdpghmpdghnbaaDoor
