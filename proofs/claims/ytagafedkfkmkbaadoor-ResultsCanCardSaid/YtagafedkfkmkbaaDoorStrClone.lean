/- strings.Clone: the same string. Conditions: strings of at most 2^47 bytes. -/
import Derived.Test.YtagafedkfkmkbaaDoorJvSame
import Derived.Test.YtagafedkfkmkbaaDoorJvRow
import Derived.Test.YtagafedkfkmkbaaDoorJvLays
import Derived.Shelf.Strconv.Clone
namespace Go.Proofs.YtagafedkfkmkbaaDoor
open Go Go.RowKit Go.Lib

def StrB (x : ByteArray) (w : World) (en : Ending) (w' : World) : Prop := en = .returned (.string x) ∧ Below w.heap.size w w'
set_option maxRecDepth 100000 in
set_option maxHeartbeats 1000000 in
theorem strClone_any (x : ByteArray) (w : World) (hx : x.size ≤ 140737488355328) :
    Calls Tryd.prog 85 #[.string x] w (StrB x w) := by
  have h := fun W => Any.stringslite_Clone Tryd.laysClone x W (by omega)
  go_enter Tryd.func85, Tryd.ntmps85
  go_wp2_with fail
  refine (h _).mono ?_
  rintro en w' ⟨rfl, hB⟩
  go_wp2_with fail
  go_ret
  exact ⟨rfl, hB⟩
end Go.Proofs.YtagafedkfkmkbaaDoor
