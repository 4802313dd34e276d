/- The program's Fix and the document's own: each answers the string with U+FFFD for each invalid byte. Conditions: a string of at most 10^12 bytes; the library's two tables as its text lays them. -/
import Derived.Test.YtkehpmbafjelpaaDoorUtfTellN
import Derived.Test.YtkehpmbafjelpaaDoorUtfRefN
import Derived.Test.YtkehpmbafjelpaaDoorUtfLaysV
import Derived.Test.YtkehpmbafjelpaaDoorUtfMathF
import Derived.Laws.IdiomStrings
import Derived.Lib.BufferRead
import Derived.Shelf.Utf8.AppendRunePlain
import Derived.Lib.OthersKept
import Derived.WalkSmall
namespace Go.Proofs
open Go Go.RowKit Go.Shelf Go.Lib

namespace YtkehpmbafjelpaaDoor
theorem own8_below {w w' : World} {B : Nat} {e : TypeId} {v : Value} {n k : Nat} {xs : List Value} (h : w.ownsRow B e k v n xs) (hb : Below w.heap.size w w') : w'.ownsRow B e k v n xs :=
  h.kept (row := none) ⟨hb.os, hb.tape, hb.output, hb.size, fun j hj _ => hb.block j hj⟩ (by cases hv : v.ownBlock <;> simp)
theorem infoByte : (Tryd.prog.info? 5).map (fun i => (i.zero, i.size, i.bytes)) = some (some (.int .u8 0), 1, 1) := by kernel_rfl
theorem conv_own {w : World} {B : Nat} {v : Value} {l : List UInt8} (h : w.ownsRow B 5 1 v l.length (U.cellsOf l)) : (convert 51 9 v).run Tryd.prog w = .ok (.string ⟨l.toArray⟩) w := by
  have h' := h
  rcases h'.2 with ⟨rfl, h0⟩ | ⟨g, cap, cur, rfl, _, _, _, _, _, _⟩
  · obtain rfl := List.eq_nil_of_length_eq_zero h0
    exact run_convert_nil_bytes w 51 9 5 0 Tryd.underlying51 Tryd.underlying5 Tryd.underlying9
  · refine run_convert_bytes_back w 51 9 5 ⟨g, 0, none⟩ cap l Tryd.underlying51 Tryd.underlying5 Tryd.underlying9 (fun j hj => ?_)
    have := h.cells (g := g) rfl j (.int .u8 (l[j].toNat : Int)) (by unfold U.cellsOf; rw [List.getElem?_map, List.getElem?_eq_getElem hj]; rfl)
    exact this
def StrIs (x : ByteArray) (w : World) (e : Ending) (w' : World) : Prop := e = .returned (.string x) ∧ Below w.heap.size w w'

set_option maxHeartbeats 1000000 in
set_option maxRecDepth 100000 in
theorem refFix_any (s : ByteArray) (w : World) (hs : s.size ≤ 1000000000000) :
    Calls Tryd.prog 30 #[.string s] w (StrIs (U.fixS s) w) := by
  obtain ⟨i0, hi, hz0, hz1, hz2⟩ := info_parts infoByte
  go_enter Tryd.func30, Tryd.ntmps30
  go_wp2_with fail
  go_loopw [3, 4] (fun v p wr => ∃ (f pos : Nat) (l : List UInt8), p = .int .i64 pos ∧ pos ≤ s.size ∧ l.length ≤ 3 * pos ∧ wr.ownsRow w.heap.size 5 1 v l.length (U.cellsOf l) ∧ Hid (l ++ U.fixFrom s f pos = U.fixL s ∧ s.size ≤ pos + f) ∧ Below w.heap.size w wr) (fun _ p _ => s.size - (RowKit.intOf p).toNat)
  case atStart => exact ⟨s.size, 0, [], rfl, by omega, by simp, World.ownsRow_nil _ _ _ _, Lib.hid ⟨rfl, by omega⟩, Below.refl _ _⟩
  case round =>
    obtain ⟨f, pos, l, rfl, hp, hl, hown, HU, hbl⟩ := hrel
    by_cases hlt : pos < s.size
    · have hw1 := U.wd_pos hlt
      have hw2 := U.wd_le hlt
      obtain ⟨f', rfl⟩ : ∃ f', f = f' + 1 := ⟨f - 1, by have := HU.out.2; omega⟩
      have HS := Lib.hid (U.fixFrom_step s f' pos hlt)
      have hpl := (U.piece_le hlt).1
      cases hbad : U.bad s pos
      · have hc := fun W => refNext_good s pos W hlt hs hbad
        have HC := Lib.hid (U.strCells_ext s pos (U.wd s pos) hw2)
        have HP := Lib.hid (U.piece_good hbad)
        clear hbad
        have hz : (s.extract pos (pos + U.wd s pos)).size = U.wd s pos := by rw [ByteArray.size_extract]; omega
        generalize hd : U.wd s pos = d at *
        have HD := Lib.hid hd
        have HZ := Lib.hid hz
        clear hd hz
        generalize U.ch s pos = c at *
        go_wp2_with fail
        refine (hc _).mono ?_
        rintro e w1 ⟨rfl, hb⟩
        have hown1 := own8_below hown hb
        have hbl1 := hbl.trans (hb.mono hbl.size)
        clear hown hb hbl hc
        go_wp2_with (at_builtin; refine wpList_append_own_string _ rfl _ _ 51 9 rfl w.heap.size 5 i0 Tryd.underlying51 Tryd.underlying9 hi hz0 hz1 hz2 _ l.length (U.cellsOf l) rfl hown1 _ rfl ?c3 ?c4 hbl1.size ?_)
        case c3 => rw [HZ.out]; unfold maxLen; omega
        case c4 => rw [HZ.out]; omega
        intro v' w2 hown2 hgrow _
        go_wp2_with fail
        go_roundw
        case rel =>
          refine ⟨f', pos + d, l ++ U.piece s pos, by go_num, by omega, by rw [List.length_append]; omega, ?_, Lib.hid ⟨?_, ?_⟩, hbl1.grown hgrow hbl1.size (fun k hk => (hown1.lt k hk).1)⟩
          · have h1 : (U.piece s pos).length = d := by rw [HP.out]; unfold U.stretch; rw [List.length_map, List.length_range]
            rw [List.length_append, h1, ← U.cellsOf_append, HP.out, ← HC.out]
            exact hown2
          · rw [List.append_assoc, ← HS.out]; exact HU.out.1
          · have := HU.out.2; omega
        case measure => simp [RowKit.intOf]; omega
      · have hc := fun W => refNext_bad s pos W hlt hs hbad
        have HP := Lib.hid (U.piece_bad hbad)
        have HW := Lib.hid (U.bad_wd hbad)
        clear hbad
        go_wp2_with fail
        refine (hc _).mono ?_
        rintro e w1 ⟨rfl, hb⟩
        have hown1 := own8_below hown hb
        have hbl1 := hbl.trans (hb.mono hbl.size)
        clear hown hb hbl hc
        go_wp2_with (at_builtin; refine wpList_append_own _ rfl _ _ 51 rfl w.heap.size 5 i0 (.int .u8 0) 1 1 Tryd.underlying51 hi hz0 hz1 hz2 rfl (by decide) _ l.length (U.cellsOf l) rfl (hown1.alloc _) ⟨w1.heap.size, 0, none⟩ 3 3 [.int .u8 239, .int .u8 191, .int .u8 189] rfl rfl ?c1 ?c2 ?c3 ?c4 ?c5 ?_)
        case c1 =>
          intro j u hj
          match j, hj with
          | 0, hj => simp at hj; subst hj; simp [Addr.add]
          | 1, hj => simp at hj; subst hj; simp [Addr.add]
          | 2, hj => simp at hj; subst hj; simp [Addr.add]
          | (j + 3), hj => simp at hj
        case c2 => intro u hu; simp at hu; rcases hu with rfl | rfl | rfl <;> rfl
        case c3 => unfold maxLen; omega
        case c4 => omega
        case c5 => have := hbl1.size; simp; omega
        intro v' w2 hown2 hgrow _
        go_wp2_with fail
        go_roundw
        case rel =>
          refine ⟨f', pos + 1, l ++ U.piece s pos, by go_num, by omega, by rw [List.length_append, HP.out]; simp; omega, ?_, Lib.hid ⟨?_, ?_⟩, (hbl1.alloc hbl1.size _).grown hgrow (hbl1.alloc hbl1.size _).size (fun k hk => (hown1.lt k hk).1)⟩
          · rw [List.length_append, ← U.cellsOf_append, HP.out]
            exact hown2
          · rw [List.append_assoc, ← HW.out, ← HS.out]; exact HU.out.1
          · have := HU.out.2; omega
        case measure => simp [RowKit.intOf]; omega
    · have hconv := conv_own hown
      have HE := Lib.hid (U.fixFrom_end s f pos hlt)
      clear hown
      go_wp2_with fail
      go_ret
      refine ⟨?_, hbl⟩
      have := HU.out.1
      rw [HE.out, List.append_nil] at this
      unfold U.fixS
      rw [← this]
      rfl

theorem iter_grown {w w' : World} {o : Obj} {row : Option Nat} {k : Nat} {s : ByteArray} {pos : Nat} (hk : w.heap[k]? = some (.stringIter s pos)) (hg : (w.alloc o).grownBy w' row) (hne : some k ≠ row) : w'.heap[k]? = some (.stringIter s pos) := by
  have hlt : k < w.heap.size := (Array.getElem?_eq_some_iff.1 hk).1
  rw [hg.block k (by simp; omega) hne, Below.heap_alloc w o k hlt]
  exact hk
theorem append_any (B : Nat) (v : Value) (l : List UInt8) (s : ByteArray) (p : Nat) (hp : p < s.size) (w : World) (hown : w.ownsRow B 5 1 v l.length (U.cellsOf l)) (hlen : l.length + 4 ≤ 140737488355328) (hBw : B ≤ w.heap.size) :
    Calls Tryd.prog 59 #[v, .int .i32 (U.ch s p)] w fun e w' => ∃ v', e = .returned v' ∧ w'.ownsRow B 5 1 v' (l ++ U.piece s p).length (U.cellsOf (l ++ U.piece s p)) ∧ ∃ o, (w.alloc o).grownBy w' v.ownBlock := by
  have hf := U.facts s p hp
  have := Any.utf8_AppendRune_plain Tryd.laysAppend infoByte B v l.length (U.cellsOf l) (U.ch s p : Nat) (by omega) (by omega) w hown hlen hBw
  rw [U.runeCells_piece s p hp, U.cellsOf_length, U.cellsOf_append, ← List.length_append] at this
  exact this

end YtkehpmbafjelpaaDoor
end Go.Proofs
