/- The arguments of the law, opened: a text's bound, a place by value. Conditions: none. -/
import Derived.Test.YtjeopabnddekgaaDoorMP06
import Derived.Test.YtjeopabnddekgaaDoorME54
namespace Go.Proofs.YtjeopabnddekgaaDoor
open Go Go.ChangeShapes Go.WideShapes Go.ChangeAt Go.RowKit Go.Joins

theorem str9_le {H : Type} {x : ByteArray} (h : OReach ((DataW.lit (H := H) (.string x.data.toList)).weights Tryd.prog 9)) : x.size ≤ 281474976710656 := by
  have := h x.data.toList.length (by unfold DataW.weights; exact List.mem_singleton_self _)
  rw [Array.length_toList] at this
  exact Nat.le_trans this (by decide)
theorem cellsPosP : Tryd.prog.cellsOf 38 = 2 := by kernel_rfl
theorem twoP {α : Type} {l : List α} (h : l.length = 2) : ∃ a b, l = [a, b] := by
  match l, h with
  | [a, b], _ => exact ⟨a, b, rfl⟩
section
variable {H : Type} {enc : TypeId × Value → H} {W : World} {base : Nat} {v : Value} {d : DataW H} {p : List MemPlace} {spare : Nat → Bool}
theorem posP_is {fuel : Nat} {cs : List Value} {x : DataW H × List MemPlace} (h : DataW.trod enc Tryd.prog W 0 spare true fuel 38 cs = some x) : ∃ a b : Int, cs = [.int .i64 a, .int .i64 b] ∧ I64 a ∧ I64 b := by
  obtain ⟨xs, n, rfl, rfl, hl, hxl, hp⟩ := DataW.trod_struct Tryd.underlying38 h
  rw [cellsPosP] at hl
  obtain ⟨c0, c1, rfl⟩ := twoP hl
  have hxl : xs.length = 2 := hxl
  obtain ⟨x0, x1, rfl⟩ := twoP hxl
  have h0 := hp 0 _ rfl
  have h1 := hp 1 _ rfl
  change DataW.trod enc Tryd.prog W 0 spare true n 3 (List.take (Tryd.prog.cellsOf 3) (List.drop 0 [c0, c1])) = some x0 at h0
  change DataW.trod enc Tryd.prog W 0 spare true n 3 (List.take (Tryd.prog.cellsOf 3) (List.drop 1 [c0, c1])) = some x1 at h1
  rw [cellsIntE] at h0 h1
  obtain ⟨a, e0, ha⟩ := intE_is h0
  obtain ⟨b, e1, hb⟩ := intE_is h1
  simp at e0 e1
  subst e0 e1
  exact ⟨a, b, rfl, ha, hb⟩
set_option maxRecDepth 100000 in
theorem openPosP (hval : Value.okWide Tryd.prog W .any base 38 v) (h : DataW.Trod enc Tryd.prog W 0 (fun _ => true) true 38 v d p) : ∃ a b : Int, v = .agg #[.int .i64 a, .int .i64 b] ∧ I64 a ∧ I64 b := by
  obtain ⟨cs, rfl, hsz⟩ := okWide_struct Tryd.underlying38 hval
  obtain ⟨fuel, hf⟩ := h
  obtain ⟨a, b, e, ha, hb⟩ := posP_is hf
  refine ⟨a, b, ?_, ha, hb⟩
  have e' : cs.toList = [.int .i64 a, .int .i64 b] := by simpa [Value.cells] using e
  congr 1
  exact Array.ext' e'
end
end Go.Proofs.YtjeopabnddekgaaDoor
