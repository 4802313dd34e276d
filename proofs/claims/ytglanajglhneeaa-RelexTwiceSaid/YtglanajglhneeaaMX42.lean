/- Edits, and the stretches around them: pure. Conditions: none. -/
import Derived.Test.YtglanajglhneeaaProg
import Derived.WalkKit
import Derived.WalkSpells
import Derived.WalkLawsBesides
import Derived.WalkSmall
import Derived.Lib.Hide
import Derived.BigQuiet
import Derived.Deep.QuietTactic
import Derived.Deep.RegionHeld3
import Derived.Deep.CutBlock
import Derived.Deep.DeepCutAuto
import Derived.Deep.WholeRow
import Derived.Laws.CopyOwn
namespace Go.Proofs.Ytglanajglhneeaa
open Go Go.RowKit Go.Lib

/-- an edit -/
structure EdE where
  f : Int
  k : Int
  s : ByteArray
namespace Ed
def I6 (i : Int) : Prop := -9223372036854775808 ≤ i ∧ i ≤ 9223372036854775807
def Ok (e : EdE) : Prop := I6 e.f ∧ I6 e.k ∧ e.s.size ≤ 281474976710656
def okB (e : EdE) : Bool := decide (0 ≤ e.f) && (decide (e.f ≤ e.k) && decide (e.k ≤ 1099511627776))
theorem okB_iff {e : EdE} : okB e = true ↔ 0 ≤ e.f ∧ e.f ≤ e.k ∧ e.k ≤ 1099511627776 := by
  unfold okB; rw [Bool.and_eq_true_iff, Bool.and_eq_true_iff, decide_eq_true_iff, decide_eq_true_iff, decide_eq_true_iff]
def wr (x : Int) : Int := wrap64 x
theorem wr_is (x : Int) : wr x = (x + 9223372036854775808) % 18446744073709551616 - 9223372036854775808 := by
  unfold wr wrap64
  omega
theorem wr_id {x : Int} (h1 : -9223372036854775808 ≤ x) (h2 : x ≤ 9223372036854775807) : wr x = x := by rw [wr_is]; omega
theorem wr_in (x : Int) : I6 (wr x) := by rw [wr_is]; unfold I6; omega
/-- the stretches: where both begin, where the first one ends, where the last one ends -/
structure Sp where
  a : Int
  b : Int
  c : Int
def one (e : EdE) : Sp := ⟨e.f, e.k, e.f + (e.s.size : Int)⟩
def stp (p : Sp) (e : EdE) : Sp := ⟨min p.a e.f, wr (wr (p.b + max p.c e.k) - p.c), wr (wr (max p.c e.k + (e.s.size : Int)) - (e.k - e.f))⟩
def run : List EdE → Sp
  | [] => ⟨0, 0, 0⟩
  | e :: r => r.foldl stp (one e)
theorem run_one (e : EdE) : run [e] = one e := rfl
theorem run_more (l : List EdE) (e : EdE) (h : l ≠ []) : run (l ++ [e]) = stp (run l) e := by
  cases l with
  | nil => exact absurd rfl h
  | cons x r => simp [run, List.foldl_append]
theorem run_take {l : List EdE} {i : Nat} {e : EdE} (h : l[i]? = some e) : run (l.take (i + 1)) = if i = 0 then one e else stp (run (l.take i)) e := by
  obtain ⟨hi, he⟩ := List.getElem?_eq_some_iff.1 h
  rw [List.take_succ_eq_append_getElem hi, he]
  by_cases h0 : i = 0
  · subst h0; rw [if_pos rfl]; rfl
  · rw [if_neg h0]
    exact run_more _ _ (by
      intro hn
      have := congrArg List.length hn
      rw [List.length_take, List.length_nil] at this
      omega)
def InS (p : Sp) : Prop := I6 p.a ∧ I6 p.b ∧ I6 p.c
theorem stp_in {p : Sp} {e : EdE} (hp : InS p) (he : Ok e) : InS (stp p e) := by
  refine ⟨?_, wr_in _, wr_in _⟩
  obtain ⟨⟨a1, a2⟩, _⟩ := hp
  obtain ⟨⟨b1, b2⟩, _⟩ := he
  unfold stp I6
  dsimp only
  omega
theorem one_in {e : EdE} (he : Ok e) (hb : okB e = true) : InS (one e) := by
  obtain ⟨h1, h2, h3⟩ := okB_iff.1 hb
  obtain ⟨_, _, h4⟩ := he
  unfold one InS I6
  dsimp only
  omega
theorem runsIn9 (l : List EdE) (ho : ∀ e ∈ l, Ok e) (hb : ∀ e ∈ l, okB e = true) : ∀ i, i ≤ l.length → InS (run (l.take i))
  | 0, _ => by simp [run, InS, I6]
  | i + 1, h => by
    obtain ⟨e, he⟩ : ∃ e, l[i]? = some e := ⟨_, List.getElem?_eq_getElem (by omega)⟩
    have hm := List.mem_of_getElem? he
    rw [run_take he]
    by_cases h0 : i = 0
    · rw [if_pos h0]; exact one_in (ho e hm) (hb e hm)
    · rw [if_neg h0]; exact stp_in (runsIn9 l ho hb i (by omega)) (ho e hm)
/-- what Around answers -/
def err (l : List EdE) : Int := if l.all okB = true then (if 65536 < l.length then 4 else 0) else 2
def ans (l : List EdE) : Sp := if err l = 0 then run l else ⟨0, 0, 0⟩
theorem err_bad {l : List EdE} {i : Nat} {e : EdE} (h : l[i]? = some e) (hb : okB e = false) : err l = 2 := by
  unfold err
  rw [if_neg (by
    intro ha
    have := List.all_eq_true.1 ha e (List.mem_of_getElem? h)
    rw [hb] at this; cases this)]
theorem err_all {l : List EdE} (h : ∀ (j : Nat) (e : EdE), l[j]? = some e → okB e = true) : err l = if 65536 < l.length then 4 else 0 := by
  unfold err
  rw [if_pos (List.all_eq_true.2 fun e he => by
    obtain ⟨j, hj, rfl⟩ := List.getElem_of_mem he
    exact h j _ (List.getElem?_eq_getElem hj))]
/-- the program's own way to the next stretches -/
theorem widen_is {p : Sp} {e : EdE} (hp : InS p) (he : Ok e) (hb : okB e = true) : wr (max p.c e.k + wr ((e.s.size : Int) - wr (e.k - e.f))) = (stp p e).c := by
  obtain ⟨h1, h2, h3⟩ := okB_iff.1 hb
  obtain ⟨_, _, h4⟩ := he
  obtain ⟨_, _, h5, h6⟩ := hp
  unfold stp
  dsimp only
  rw [wr_id (x := e.k - e.f) (by omega) (by omega), wr_id (x := (e.s.size : Int) - (e.k - e.f)) (by omega) (by omega)]
  rw [wr_is, wr_is, wr_is]
  omega
/-- its first step -/
theorem widen_one {e : EdE} (he : Ok e) (hb : okB e = true) : min e.f e.f = e.f ∧ wr (wr (e.k + max e.k e.k) - e.k) = e.k ∧ wr (max e.k e.k + wr ((e.s.size : Int) - wr (e.k - e.f))) = e.f + (e.s.size : Int) := by
  obtain ⟨h1, h2, h3⟩ := okB_iff.1 hb
  obtain ⟨_, _, h4⟩ := he
  refine ⟨by omega, ?_, ?_⟩
  · rw [Int.max_self, wr_id (x := e.k + e.k) (by omega) (by omega), wr_id (by omega) (by omega)]; omega
  · rw [Int.max_self, wr_id (x := e.k - e.f) (by omega) (by omega), wr_id (x := (e.s.size : Int) - (e.k - e.f)) (by omega) (by omega), wr_id (by omega) (by omega)]; omega
end Ed
end Go.Proofs.Ytglanajglhneeaa

namespace Go.Proofs.Ytglanajglhneeaa
open Go Go.RowKit Go.Lib

/-- an edit, by value -/
def EdE.v (e : EdE) : Value := .agg #[.int .i64 e.f, .int .i64 e.k, .string e.s]
theorem below_al {w0 w : World} (h : Below w0.heap.size w0 w) (o : Obj) : Below w0.heap.size w0 (w.alloc o) := h.alloc h.size o
theorem two_newE (w : World) (a b : Obj) : ((w.alloc a).alloc b).heap[w.heap.size]? = some a ∧ ((w.alloc a).alloc b).heap[w.heap.size + 1]? = some b ∧ ((w.alloc a).alloc b).heap.size = w.heap.size + 1 + 1 := by
  have h : ((w.alloc a).alloc b).heap = (w.heap.push a).push b := rfl
  rw [h]
  refine ⟨?_, ?_, by simp⟩ <;> simp only [Array.getElem?_push, Array.size_push] <;> (repeat (first | rw [if_pos rfl] | rw [if_pos trivial] | rw [if_neg (by omega)]))
def EdBool (b : Bool) (w : World) (e : Ending) (w' : World) : Prop := e = .returned (.bool b) ∧ Below w.heap.size w w'
set_option maxHeartbeats 4000000 in
set_option maxRecDepth 100000 in
theorem proper_any (e : EdE) (w : World) : Calls Try.prog 41 #[.agg #[.int .i64 e.f, .int .i64 e.k, .string e.s]] w (EdBool (Ed.okB e) w) := by
  have hBb := (Below.refl w.heap.size w).alloc (Nat.le_refl _) (.cells #[.int .i64 e.f, .int .i64 e.k, .string e.s] 48)
  have HB := Lib.hid hBb
  clear hBb
  unfold Ed.okB
  by_cases h1 : 0 ≤ e.f
  · rw [decide_eq_true h1, Bool.true_and]
    by_cases h2 : e.f ≤ e.k
    · rw [decide_eq_true h2, Bool.true_and]
      by_cases h3 : e.k ≤ 1099511627776
      · rw [decide_eq_true h3]
        go_enter Try.func41, Try.ntmps41
        go_wp2_with fail
        go_ret
        exact ⟨rfl, HB.out⟩
      · rw [decide_eq_false h3]
        go_enter Try.func41, Try.ntmps41
        go_wp2_with fail
        go_ret
        exact ⟨rfl, HB.out⟩
    · rw [decide_eq_false h2, Bool.false_and]
      go_enter Try.func41, Try.ntmps41
      go_wp2_with fail
      go_ret
      exact ⟨rfl, HB.out⟩
  · rw [decide_eq_false h1, Bool.false_and]
    go_enter Try.func41, Try.ntmps41
    go_wp2_with fail
    go_ret
    exact ⟨rfl, HB.out⟩
end Go.Proofs.Ytglanajglhneeaa
