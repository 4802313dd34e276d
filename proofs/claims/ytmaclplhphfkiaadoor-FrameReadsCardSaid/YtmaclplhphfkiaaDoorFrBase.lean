/- The reader of messages: its block of cells, and what it answers where it is nobody's. Conditions: none. -/
import Derived.Test.YtmaclplhphfkiaaDoorFrMath
import Derived.Shelf.Small.Strs
import Derived.WalkKit
import Derived.WalkSpells
import Derived.WalkLawsBesides
import Derived.WalkSmall
import Derived.Lib.Hide
import Derived.ProofKit
import Derived.Deep.QuietTactic
import Derived.BigQuiet
import Derived.Laws.AppendOwn
import Derived.Laws.EntriesVeiled
import Derived.LaidEqlPtr
import Derived.Outline
namespace Go.Proofs.YtmaclplhphfkiaaDoor
open Go Go.RowKit Go.Lib

/-- the reader's block -/
def Rb (w : World) (R : Nat) (self fn part size bodies dead : Value) : Prop := w.heap[R]? = some (.cells #[self, fn, part, size, bodies, dead] 54 (0, 0))
section
variable {w w' : World} {R : Nat} {self fn part size bodies dead : Value}
theorem Rb.lt (h : Rb w R self fn part size bodies dead) : R < w.heap.size := (Array.getElem?_eq_some_iff.1 h).1
theorem Rb.same (h : Rb w R self fn part size bodies dead) (hk : w'.heap[R]? = w.heap[R]?) : Rb w' R self fn part size bodies dead := hk.trans h
theorem Rb.below (h : Rb w R self fn part size bodies dead) (hB : Below w.heap.size w w') : Rb w' R self fn part size bodies dead := h.same (hB.block _ h.lt)
theorem Rb.alloc (h : Rb w R self fn part size bodies dead) (o : Obj) : Rb (w.alloc o) R self fn part size bodies dead := h.below ((Below.refl _ _).alloc (Nat.le_refl _) o)
theorem Rb.drewN (h : Rb w R self fn part size bodies dead) (q : Nat) : Rb (w.drewN q) R self fn part size bodies dead := h
theorem Rb.cells (h : Rb w R self fn part size bodies dead) : w.cell? ⟨R, 0, none⟩ = some self ∧ w.cell? ⟨R, 1, none⟩ = some fn ∧ w.cell? ⟨R, 2, none⟩ = some part ∧ w.cell? ⟨R, 3, none⟩ = some size ∧ w.cell? ⟨R, 4, none⟩ = some bodies ∧ w.cell? ⟨R, 5, none⟩ = some dead := by
  refine ⟨?_, ?_, ?_, ?_, ?_, ?_⟩ <;> simp [World.cell?, show w.heap[R]? = _ from h]
theorem Rb.free (h : Rb w R self fn part size bodies dead) (o : Nat) : w.frozen? ⟨R, o, none⟩ = false := by simp [World.frozen?, show w.heap[R]? = _ from h]
theorem Rb.set0 (h : Rb w R self fn part size bodies dead) (x : Value) : Rb (w.setCell ⟨R, 0, none⟩ x) R x fn part size bodies dead := by
  obtain ⟨hlt, hk⟩ := Array.getElem?_eq_some_iff.1 h
  show (w.heap.modify R _)[R]? = _
  rw [Array.getElem?_eq_getElem (by rw [Array.size_modify]; exact hlt), Array.getElem_modify_self, hk]
  rfl
theorem Rb.set1 (h : Rb w R self fn part size bodies dead) (x : Value) : Rb (w.setCell ⟨R, 1, none⟩ x) R self x part size bodies dead := by
  obtain ⟨hlt, hk⟩ := Array.getElem?_eq_some_iff.1 h
  show (w.heap.modify R _)[R]? = _
  rw [Array.getElem?_eq_getElem (by rw [Array.size_modify]; exact hlt), Array.getElem_modify_self, hk]
  rfl
theorem Rb.set2 (h : Rb w R self fn part size bodies dead) (x : Value) : Rb (w.setCell ⟨R, 2, none⟩ x) R self fn x size bodies dead := by
  obtain ⟨hlt, hk⟩ := Array.getElem?_eq_some_iff.1 h
  show (w.heap.modify R _)[R]? = _
  rw [Array.getElem?_eq_getElem (by rw [Array.size_modify]; exact hlt), Array.getElem_modify_self, hk]
  rfl
theorem Rb.set3 (h : Rb w R self fn part size bodies dead) (x : Value) : Rb (w.setCell ⟨R, 3, none⟩ x) R self fn part x bodies dead := by
  obtain ⟨hlt, hk⟩ := Array.getElem?_eq_some_iff.1 h
  show (w.heap.modify R _)[R]? = _
  rw [Array.getElem?_eq_getElem (by rw [Array.size_modify]; exact hlt), Array.getElem_modify_self, hk]
  rfl
theorem Rb.set4 (h : Rb w R self fn part size bodies dead) (x : Value) : Rb (w.setCell ⟨R, 4, none⟩ x) R self fn part size x dead := by
  obtain ⟨hlt, hk⟩ := Array.getElem?_eq_some_iff.1 h
  show (w.heap.modify R _)[R]? = _
  rw [Array.getElem?_eq_getElem (by rw [Array.size_modify]; exact hlt), Array.getElem_modify_self, hk]
  rfl
theorem Rb.set5 (h : Rb w R self fn part size bodies dead) (x : Value) : Rb (w.setCell ⟨R, 5, none⟩ x) R self fn part size bodies x := by
  obtain ⟨hlt, hk⟩ := Array.getElem?_eq_some_iff.1 h
  show (w.heap.modify R _)[R]? = _
  rw [Array.getElem?_eq_getElem (by rw [Array.size_modify]; exact hlt), Array.getElem_modify_self, hk]
  rfl
end

/-- a call that leaves all as it was -/
def Stay (v : Value) (w : World) (e : Ending) (w' : World) : Prop := e = .returned v ∧ w = w'
/-- a pointer to no reader that New made -/
def Nobody (w : World) (p : Option Addr) : Prop := p = none ∨ ∃ R fn part size bodies dead, p = some ⟨R, 0, none⟩ ∧ Rb w R (.pointer none) fn part size bodies dead
theorem Nobody.below {w w' : World} {p : Option Addr} (h : Nobody w p) (hB : Below w.heap.size w w') : Nobody w' p := by
  rcases h with h | ⟨R, fn, part, size, bodies, dead, h, hb⟩
  · exact .inl h
  · exact .inr ⟨R, fn, part, size, bodies, dead, h, hb.below hB⟩

theorem info_reader : ∃ j, Tryd.prog.info? 54 = some j := by
  have h : (Tryd.prog.info? 54).isSome = true := by kernel_rfl
  exact Option.isSome_iff_exists.1 h
theorem eq_self (R : Nat) (w : World) : (binOp .eql 41 (.pointer (some ⟨R, 0, none⟩)) (.pointer (some ⟨R, 0, none⟩))).run Tryd.prog w = .ok (.bool true) w := by
  obtain ⟨j, hj⟩ := info_reader
  exact run_eql_ptr_same w _ Tryd.underlying41 hj
theorem eq_nil (R : Nat) (w : World) : (binOp .eql 41 (.pointer none) (.pointer (some ⟨R, 0, none⟩))).run Tryd.prog w = .ok (.bool false) w := by
  have h : ∀ d : Nat, (Op.equalIn (d + 1) 41 (.pointer none) (.pointer (some ⟨R, 0, none⟩))).run Tryd.prog w = .ok false w := fun d => by
    simp [Op.equalIn, run_underlying Tryd.underlying41]
  simp only [binOp]
  simp [Op.equal, Op.maxDepth, h 9999]

set_option maxRecDepth 100000 in
set_option maxHeartbeats 400000 in
theorem isMade_no (p : Option Addr) (w : World) (h : Nobody w p) : Calls Tryd.prog 43 #[.pointer p] w (Stay (.bool false) w) := by
  rcases h with rfl | ⟨R, fn, part, size, bodies, dead, rfl, h⟩
  · go_enter Tryd.func43, Tryd.ntmps43
    go_wp2_with fail
    go_ret
    exact ⟨rfl, rfl⟩
  · obtain ⟨c0, -, -, -, -, -⟩ := h.cells
    clear h
    have he := eq_nil R
    go_enter Tryd.func43, Tryd.ntmps43
    go_wp2_with fail
    go_ret
    exact ⟨rfl, rfl⟩
set_option maxRecDepth 100000 in
set_option maxHeartbeats 400000 in
theorem isMade_yes (R : Nat) (fn part size bodies dead : Value) (w : World) (h : Rb w R (.pointer (some ⟨R, 0, none⟩)) fn part size bodies dead) :
    Calls Tryd.prog 43 #[.pointer (some ⟨R, 0, none⟩)] w (Stay (.bool true) w) := by
  obtain ⟨c0, -, -, -, -, -⟩ := h.cells
  clear h
  have he := eq_self R
  go_enter Tryd.func43, Tryd.ntmps43
  go_wp2_with fail
  go_ret
  exact ⟨rfl, rfl⟩
set_option maxRecDepth 100000 in
set_option maxHeartbeats 400000 in
theorem dead_no (p : Option Addr) (w : World) (h : Nobody w p) : Calls Tryd.prog 20 #[.pointer p] w (Stay (.int .i64 1) w) := by
  have hm := isMade_no p w h
  go_enter Tryd.func20, Tryd.ntmps20
  go_wp2_with fail
  refine hm.mono ?_
  rintro e w' ⟨rfl, rfl⟩
  go_wp2_with fail
  go_ret
  exact ⟨rfl, rfl⟩
set_option maxRecDepth 100000 in
set_option maxHeartbeats 400000 in
theorem dead_yes (R : Nat) (fn part size bodies dead : Value) (w : World) (h : Rb w R (.pointer (some ⟨R, 0, none⟩)) fn part size bodies dead) :
    Calls Tryd.prog 20 #[.pointer (some ⟨R, 0, none⟩)] w (Stay dead w) := by
  have hm := isMade_yes R fn part size bodies dead w h
  obtain ⟨-, -, -, -, -, c5⟩ := h.cells
  clear h
  go_enter Tryd.func20, Tryd.ntmps20
  go_wp2_with fail
  refine hm.mono ?_
  rintro e w' ⟨rfl, rfl⟩
  go_wp2_with fail
  go_ret
  exact ⟨rfl, rfl⟩
set_option maxRecDepth 100000 in
set_option maxHeartbeats 400000 in
theorem feed_no (p : Option Addr) (b : Value) (w : World) (h : Nobody w p) : Calls Tryd.prog 21 #[.pointer p, b] w (Stay (.int .i64 1) w) := by
  have hm := isMade_no p w h
  go_enter Tryd.func21, Tryd.ntmps21
  go_wp2_with fail
  refine hm.mono ?_
  rintro e w' ⟨rfl, rfl⟩
  go_wp2_with fail
  go_ret
  exact ⟨rfl, rfl⟩
set_option maxRecDepth 100000 in
set_option maxHeartbeats 400000 in
theorem next_no (p : Option Addr) (w : World) (h : Nobody w p) : Calls Tryd.prog 23 #[.pointer p] w (Stay (.tuple #[.string ⟨#[]⟩, .bool false]) w) := by
  have hm := isMade_no p w h
  go_enter Tryd.func23, Tryd.ntmps23
  go_wp2_with fail
  refine hm.mono ?_
  rintro e w' ⟨rfl, rfl⟩
  go_wp2_with fail
  go_ret2
  exact ⟨rfl, rfl⟩
end Go.Proofs.YtmaclplhphfkiaaDoor
