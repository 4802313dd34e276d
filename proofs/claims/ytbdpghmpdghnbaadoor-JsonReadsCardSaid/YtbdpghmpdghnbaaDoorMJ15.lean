/- The program's Next and Valid, and the document's own Valid: what each answers, by the scan. Conditions: a string of at most 10^12 bytes; the library's two tables as its text lays them. -/
import Derived.Test.YtbdpghmpdghnbaaDoorMJ13
import Derived.Test.YtbdpghmpdghnbaaDoorMJ12
import Derived.Test.YtbdpghmpdghnbaaDoorMJ14
import Derived.Shelf.Unicode.DecodeAny
namespace Go.Proofs
open Go Go.RowKit Go.Shelf Go.Lib

namespace YtbdpghmpdghnbaaDoor
def Tabs (w : World) : Prop := Lib.Utf8Tabs (Tryd.laysDecode_ren.g 3) (Tryd.laysDecode_ren.g 4) w

def BoolIs (b : Bool) (w : World) (e : Ending) (w' : World) : Prop := e = .returned (.bool b) ∧ Below w.heap.size w w'
def PairIs (a b : Nat) (w : World) (e : Ending) (w' : World) : Prop := e = .returned (.tuple #[.int .i32 a, .int .i64 b]) ∧ Below w.heap.size w w'
theorem decode_any (s : ByteArray) (i : Nat) (w : World) (hi : i < s.size) (hT : Tabs w) :
    Calls Tryd.prog 51 #[.string (s.extract i s.size)] w (PairIs (U.ch s i) (U.wd s i) w) := by
  have := Any.utf8_DecodeRuneInString Tryd.laysDecode (s.extract i s.size) w hT
  have e : Lib.decodeGo (s.extract i s.size) = (U.ch s i, U.wd s i) := by
    unfold Lib.decodeGo
    rw [if_neg (by rw [Lib.ext_size]; omega), U.ext_decode]
    rfl
  rw [e] at this
  exact this
end YtbdpghmpdghnbaaDoor
end Go.Proofs
