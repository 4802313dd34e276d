/- The framing of messages, in plain functions: a head's end, its lines, the number that it tells; the reader, byte by byte. Conditions: none. -/
import Derived.Test.YtmaclplhphfkiaaDoorProg
import Derived.Lib.Fold
import Derived.Lib.IndexMore
namespace Go.Proofs.YtmaclplhphfkiaaDoor.F

abbrev Bs := List UInt8

/-- has a head that had not ended before its last byte ended with it? -/
def ended (p : Bs) : Bool := [13, 10, 13, 10].isSuffixOf p || p == [13, 10]
/-- the parts between 0D 0A -/
def splF : Nat → Bs → List Bs
  | 0, l => [l]
  | f + 1, l => if Lib.index l [13, 10] < 0 then [l] else l.take (Lib.index l [13, 10]).toNat :: splF f (l.drop ((Lib.index l [13, 10]).toNat + 2))
def spl (l : Bs) : List Bs := splF l.length l
/-- without the last four bytes, if these are 0D 0A 0D 0A -/
def bare (p : Bs) : Bs := if [13, 10, 13, 10].isSuffixOf p then p.take (p.length - 4) else p
def nm (l : Bs) : Bs := (Lib.cut l [58]).1
def vl (l : Bs) : Bs := (Lib.cut l [58]).2.1
/-- is a line well-formed? -/
def okName (n : Bs) : Bool := !n.isEmpty && n.all fun c => decide (33 ≤ c.toNat) && decide (c.toNat ≤ 126)
def okVal (v : Bs) : Bool := v.all fun c => decide (c ≠ 13) && decide (c ≠ 10)
def okLine (l : Bs) : Bool := (Lib.cut l [58]).2.2 && (okName (nm l) && okVal (vl l))
def trim (v : Bs) : Bs := (v.reverse.dropWhile ([32, 9].contains ·)).reverse.dropWhile ([32, 9].contains ·)
def isLen (n : Bs) : Bool := Lib.equalFold n [67, 111, 110, 116, 101, 110, 116, 45, 76, 101, 110, 103, 116, 104]
def isNum (v : Bs) : Bool := !v.isEmpty && v.all fun c => decide (48 ≤ c.toNat) && decide (c.toNat ≤ 57)
def num (v : Bs) : Nat := v.foldl (fun n c => min (10 * n + (c.toNat - 48)) 262145) 0
/-- the values of a head's lines that tell its length -/
def sizes (ls : List Bs) : List Bs := (ls.filter fun l => isLen (nm l)).map fun l => trim (vl l)
/-- what is told by some values -/
def told : List Bs → Nat × Nat
  | [v] => if isNum v then (if num v > 262144 then (0, 51) else (num v, 0)) else (0, 50)
  | _ => (0, 50)
/-- the number that a head tells, or what the reader dies of -/
def bs (p : Bs) : Nat × Nat := if (spl (bare p)).all okLine then told (sizes (spl (bare p))) else (0, 50)

/-- what a reader is at: a head, a body of so many bytes, nothing more -/
inductive St where
  | head (p : Bs)
  | body (n : Nat) (p : Bs)
  | dead (e : Nat)
deriving Repr, DecidableEq

/-- a reader's state, and all messages so far -/
abbrev Rs := St × List Bs
def stp (x : Rs) (c : UInt8) : Rs :=
  match x.1 with
  | .head p =>
    if ended (p ++ [c]) then
      (if (bs (p ++ [c])).2 = 0 then (if (bs (p ++ [c])).1 = 0 then (.head [], x.2 ++ [[]]) else (.body (bs (p ++ [c])).1 [], x.2)) else (.dead (bs (p ++ [c])).2, x.2))
    else if (p ++ [c]).length = 1024 then (.dead 50, x.2) else (.head (p ++ [c]), x.2)
  | .body n p => if (p ++ [c]).length = n then (.head [], x.2 ++ [p ++ [c]]) else (.body n (p ++ [c]), x.2)
  | .dead _ => x
def run (x : Rs) (l : Bs) : Rs := l.foldl stp x
def St.err : St → Nat
  | .dead e => e
  | _ => 0
def St.part : St → Bs
  | .head p => p
  | .body _ p => p
  | .dead _ => []
/-- a state that may be -/
def St.ok : St → Prop
  | .head p => p.length < 1024
  | .body n p => p.length < n ∧ n ≤ 262144
  | .dead e => e = 50 ∨ e = 51

theorem run_append (x : Rs) (a b : Bs) : run x (a ++ b) = run (run x a) b := List.foldl_append
theorem run_nil (x : Rs) : run x [] = x := rfl
theorem run_cons (x : Rs) (c : UInt8) (l : Bs) : run x (c :: l) = run (stp x c) l := rfl
theorem run_dead (e : Nat) (o : List Bs) (l : Bs) : run (.dead e, o) l = (.dead e, o) := by
  induction l with
  | nil => rfl
  | cons c l ih => rw [run_cons]; exact ih
theorem told_bd (vs : List Bs) : ((told vs).2 = 0 ∧ (told vs).1 ≤ 262144) ∨ ((told vs).1 = 0 ∧ ((told vs).2 = 50 ∨ (told vs).2 = 51)) := by
  unfold told
  split
  · split
    · split
      · exact .inr ⟨rfl, .inr rfl⟩
      · exact .inl ⟨rfl, by dsimp only; omega⟩
    · exact .inr ⟨rfl, .inl rfl⟩
  · exact .inr ⟨rfl, .inl rfl⟩
theorem bs_bd (p : Bs) : ((bs p).2 = 0 ∧ (bs p).1 ≤ 262144) ∨ ((bs p).1 = 0 ∧ ((bs p).2 = 50 ∨ (bs p).2 = 51)) := by
  unfold bs
  split
  · exact told_bd _
  · exact .inr ⟨rfl, .inl rfl⟩
theorem stp_ok (x : Rs) (c : UInt8) (h : x.1.ok) : (stp x c).1.ok := by
  obtain ⟨st, o⟩ := x
  have hb := bs_bd
  cases st with
  | head p =>
    have hb := hb (p ++ [c])
    unfold stp
    dsimp only
    split
    · split
      · split
        · show ([] : Bs).length < 1024; decide
        · refine ⟨?_, ?_⟩
          · simp only [List.length_nil]; omega
          · omega
      · show _ = 50 ∨ _ = 51; omega
    · split
      · exact .inl rfl
      · show (p ++ [c]).length < 1024
        have : p.length < 1024 := h
        simp only [List.length_append, List.length_singleton] at *
        omega
  | body n p =>
    unfold stp
    dsimp only
    split
    · show ([] : Bs).length < 1024; decide
    · rename_i hn
      refine ⟨?_, h.2⟩
      have : p.length < n := h.1
      simp only [List.length_append, List.length_singleton] at *
      omega
  | dead e => exact h
theorem run_ok (x : Rs) (l : Bs) (h : x.1.ok) : (run x l).1.ok := by
  induction l generalizing x with
  | nil => exact h
  | cons c l ih => exact ih _ (stp_ok x c h)
/-- messages that were there stay, ahead of the new ones -/
theorem stp_out (st : St) (o : List Bs) (c : UInt8) : stp (st, o) c = ((stp (st, []) c).1, o ++ (stp (st, []) c).2) := by
  cases st with
  | head p =>
    unfold stp
    dsimp only
    split
    · split
      · split <;> simp
      · simp
    · split <;> simp
  | body n p =>
    unfold stp
    dsimp only
    split <;> simp
  | dead e => simp [stp]
theorem run_out (st : St) (o : List Bs) (l : Bs) : run (st, o) l = ((run (st, []) l).1, o ++ (run (st, []) l).2) := by
  induction l generalizing st o with
  | nil => simp [run_nil]
  | cons c l ih =>
    rw [run_cons, run_cons, stp_out, ih, show stp (st, []) c = ((stp (st, []) c).1, (stp (st, []) c).2) from rfl, ih (stp (st, []) c).1 (stp (st, []) c).2]
    simp
end Go.Proofs.YtmaclplhphfkiaaDoor.F
