/- strings.Clone: the same string. Conditions: strings of at most 2^47 bytes. -/
import Derived.Test.YtbdpghmpdghnbaaDoorMJ05
import Derived.Test.YtbdpghmpdghnbaaDoorMJ06
import Derived.Test.YtbdpghmpdghnbaaDoorMJ03
import Derived.Shelf.Strconv.Clone
namespace Go.Proofs.YtbdpghmpdghnbaaDoor
open Go Go.RowKit Go.Lib

def StrB (x : ByteArray) (w : World) (en : Ending) (w' : World) : Prop := en = .returned (.string x) ∧ Below w.heap.size w w'
set_option maxRecDepth 100000 in
set_option maxHeartbeats 1000000 in
theorem strClone_any (x : ByteArray) (w : World) (hx : x.size ≤ 140737488355328) :
    Calls Tryd.prog 43 #[.string x] w (StrB x w) := by
  have h := fun W => Any.stringslite_Clone Tryd.laysClone x W (by omega)
  go_enter Tryd.func43, Tryd.ntmps43
  go_wp2_with fail
  refine (h _).mono ?_
  rintro en w' ⟨rfl, hB⟩
  go_wp2_with fail
  go_ret
  exact ⟨rfl, hB⟩
end Go.Proofs.YtbdpghmpdghnbaaDoor
