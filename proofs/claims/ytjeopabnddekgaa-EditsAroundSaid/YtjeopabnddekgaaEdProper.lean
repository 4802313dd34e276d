/- Is an edit right? The next stretches. Conditions: none. -/
import Derived.Test.YtjeopabnddekgaaEdMath
import Derived.BigQuiet
import Derived.Deep.QuietTactic
import Derived.Deep.RegionHeld3
import Derived.Deep.CutBlock
import Derived.Deep.DeepCutAuto
import Derived.Deep.WholeRow
import Derived.Laws.CopyOwn
namespace Go.Proofs.Ytjeopabnddekgaa
open Go Go.RowKit Go.Lib

/-- an edit, by value -/
def EdE.v (e : EdE) : Value := .agg #[.int .i64 e.f, .int .i64 e.k, .string e.s]
theorem below_al {w0 w : World} (h : Below w0.heap.size w0 w) (o : Obj) : Below w0.heap.size w0 (w.alloc o) := h.alloc h.size o
def EdBool (b : Bool) (w : World) (e : Ending) (w' : World) : Prop := e = .returned (.bool b) ∧ Below w.heap.size w w'
set_option maxHeartbeats 4000000 in
set_option maxRecDepth 100000 in
theorem proper_any (e : EdE) (w : World) : Calls Try.prog 7 #[.agg #[.int .i64 e.f, .int .i64 e.k, .string e.s]] w (EdBool (Ed.okB e) w) := by
  have hBb := (Below.refl w.heap.size w).alloc (Nat.le_refl _) (.cells #[.int .i64 e.f, .int .i64 e.k, .string e.s] 33)
  have HB := Lib.hid hBb
  clear hBb
  unfold Ed.okB
  by_cases h1 : 0 ≤ e.f
  · rw [decide_eq_true h1, Bool.true_and]
    by_cases h2 : e.f ≤ e.k
    · rw [decide_eq_true h2, Bool.true_and]
      by_cases h3 : e.k ≤ 1099511627776
      · rw [decide_eq_true h3]
        go_enter Try.func7, Try.ntmps7
        go_wp2_with fail
        go_ret
        exact ⟨rfl, HB.out⟩
      · rw [decide_eq_false h3]
        go_enter Try.func7, Try.ntmps7
        go_wp2_with fail
        go_ret
        exact ⟨rfl, HB.out⟩
    · rw [decide_eq_false h2, Bool.false_and]
      go_enter Try.func7, Try.ntmps7
      go_wp2_with fail
      go_ret
      exact ⟨rfl, HB.out⟩
  · rw [decide_eq_false h1, Bool.false_and]
    go_enter Try.func7, Try.ntmps7
    go_wp2_with fail
    go_ret
    exact ⟨rfl, HB.out⟩
end Go.Proofs.Ytjeopabnddekgaa
