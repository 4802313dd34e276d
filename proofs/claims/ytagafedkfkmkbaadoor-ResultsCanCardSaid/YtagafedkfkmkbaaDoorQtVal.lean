/- The program's Valid. Conditions: a string of at most 10^12 bytes; the library's two tables as its text lays them. -/
import Derived.Test.YtagafedkfkmkbaaDoorQtBase
import Derived.Shelf.Unicode.ValidAny
namespace Go.Proofs
open Go Go.RowKit Go.Shelf Go.Lib

namespace YtagafedkfkmkbaaDoor
theorem validString_any (s : ByteArray) (w : World) (hs : s.size ≤ 1000000000000) (hT : Tabs w) :
    Calls Tryd.prog 131 #[.string s] w (BoolIs (U.valid s) w) := by
  have := Any.utf8_ValidString Tryd.laysValid s w (by omega) hT
  rw [U.validD_eq] at this
  exact this
set_option maxHeartbeats 400000 in
set_option maxRecDepth 100000 in
theorem utfValid_any (s : ByteArray) (w : World) (hs : s.size ≤ 1000000000000) (hT : Tabs w) :
    Calls Tryd.prog 104 #[.string s] w (BoolIs (U.valid s) w) := by
  have hc := validString_any s w hs hT
  generalize U.valid s = v at *
  go_enter Tryd.func104, Tryd.ntmps104
  go_wp2_with fail
  refine hc.mono ?_
  rintro e w' ⟨rfl, hb⟩
  go_wp2_with fail
  go_ret
  exact ⟨rfl, hb⟩
end YtagafedkfkmkbaaDoor
end Go.Proofs
