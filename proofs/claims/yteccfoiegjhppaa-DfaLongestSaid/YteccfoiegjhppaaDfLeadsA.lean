/- The scanner's steps, the program's own: where a state leads, state by state. Conditions: a state, a class of the table. -/
import Derived.Test.YteccfoiegjhppaaDfStep
namespace Go.Proofs.Yteccfoiegjhppaa
open Go Go.RowKit Go.Lib

theorem all24 {P : Nat → Prop} (h : ∀ c : Fin 24, P c.1) {c : Nat} (hc : c < 24) : P c := h ⟨c, hc⟩
end Go.Proofs.Yteccfoiegjhppaa
