/- Bytes as rows; a rune appended. Conditions: a string of at most 10^12 bytes; the library's two tables as its text lays them. -/
import Derived.Test.YtagafedkfkmkbaaDoorUtfTellN
import Derived.Test.YtagafedkfkmkbaaDoorUtfRefN
import Derived.Test.YtagafedkfkmkbaaDoorUtfLaysV
import Derived.Test.YtagafedkfkmkbaaDoorUtfMathF
import Derived.Laws.IdiomStrings
import Derived.Lib.BufferRead
import Derived.Shelf.Utf8.AppendRunePlain
import Derived.Lib.OthersKept
import Derived.WalkSmall
namespace Go.Proofs
open Go Go.RowKit Go.Shelf Go.Lib

namespace YtagafedkfkmkbaaDoor
theorem own8_below {w w' : World} {B : Nat} {e : TypeId} {v : Value} {n k : Nat} {xs : List Value} (h : w.ownsRow B e k v n xs) (hb : Below w.heap.size w w') : w'.ownsRow B e k v n xs :=
  h.kept (row := none) ⟨hb.os, hb.tape, hb.output, hb.size, fun j hj _ => hb.block j hj⟩ (by cases hv : v.ownBlock <;> simp)
theorem infoByte : (Tryd.prog.info? 5).map (fun i => (i.zero, i.size, i.bytes)) = some (some (.int .u8 0), 1, 1) := by kernel_rfl
theorem conv_own {w : World} {B : Nat} {v : Value} {l : List UInt8} (h : w.ownsRow B 5 1 v l.length (U.cellsOf l)) : (convert 109 9 v).run Tryd.prog w = .ok (.string ⟨l.toArray⟩) w := by
  have h' := h
  rcases h'.2 with ⟨rfl, h0⟩ | ⟨g, cap, cur, rfl, _, _, _, _, _, _⟩
  · obtain rfl := List.eq_nil_of_length_eq_zero h0
    exact run_convert_nil_bytes w 109 9 5 0 Tryd.underlying109 Tryd.underlying5 Tryd.underlying9
  · refine run_convert_bytes_back w 109 9 5 ⟨g, 0, none⟩ cap l Tryd.underlying109 Tryd.underlying5 Tryd.underlying9 (fun j hj => ?_)
    have := h.cells (g := g) rfl j (.int .u8 (l[j].toNat : Int)) (by unfold U.cellsOf; rw [List.getElem?_map, List.getElem?_eq_getElem hj]; rfl)
    exact this
def StrIs (x : ByteArray) (w : World) (e : Ending) (w' : World) : Prop := e = .returned (.string x) ∧ Below w.heap.size w w'

theorem iter_grown {w w' : World} {o : Obj} {row : Option Nat} {k : Nat} {s : ByteArray} {pos : Nat} (hk : w.heap[k]? = some (.stringIter s pos)) (hg : (w.alloc o).grownBy w' row) (hne : some k ≠ row) : w'.heap[k]? = some (.stringIter s pos) := by
  have hlt : k < w.heap.size := (Array.getElem?_eq_some_iff.1 hk).1
  rw [hg.block k (by simp; omega) hne, Below.heap_alloc w o k hlt]
  exact hk
theorem append_any (B : Nat) (v : Value) (l : List UInt8) (s : ByteArray) (p : Nat) (hp : p < s.size) (w : World) (hown : w.ownsRow B 5 1 v l.length (U.cellsOf l)) (hlen : l.length + 4 ≤ 140737488355328) (hBw : B ≤ w.heap.size) :
    Calls Tryd.prog 105 #[v, .int .i32 (U.ch s p)] w fun e w' => ∃ v', e = .returned v' ∧ w'.ownsRow B 5 1 v' (l ++ U.piece s p).length (U.cellsOf (l ++ U.piece s p)) ∧ ∃ o, (w.alloc o).grownBy w' v.ownBlock := by
  have hf := U.facts s p hp
  have := Any.utf8_AppendRune_plain Tryd.laysAppend infoByte B v l.length (U.cellsOf l) (U.ch s p : Nat) (by omega) (by omega) w hown hlen hBw
  rw [U.runeCells_piece s p hp, U.cellsOf_length, U.cellsOf_append, ← List.length_append] at this
  exact this

end YtagafedkfkmkbaaDoor
end Go.Proofs
