/- The arguments of the law, opened: a text's bound, a splice by value. Conditions: none. -/
import Derived.Test.YtdigkgoaldgodaaDoorMD47
namespace Go.Proofs.YtdigkgoaldgodaaDoor
open Go Go.ChangeShapes Go.WideShapes Go.ChangeAt Go.RowKit Go.Joins

theorem str9_le {H : Type} {x : ByteArray} (h : OReach ((DataW.lit (H := H) (.string x.data.toList)).weights Tryd.prog 9)) : x.size ≤ 281474976710656 := by
  have := h x.data.toList.length (by unfold DataW.weights; exact List.mem_singleton_self _)
  rw [Array.length_toList] at this
  exact Nat.le_trans this (by decide)
set_option maxRecDepth 100000 in
theorem openOp {H : Type} {enc : TypeId × Value → H} {W : World} {base : Nat} {v : Value} {d : DataW H} {p : List MemPlace} (hval : Value.okWide Tryd.prog W .any base 34 v)
    (h : DataW.Trod enc Tryd.prog W 0 (fun _ => true) true 34 v d p) (hr : OReach (d.weights Tryd.prog 34)) : ∃ e : OpE, v = .agg #[.int .i64 e.f, .int .i64 e.k, .string e.s] ∧ OpOk e := by
  have h0 := h
  obtain ⟨a, b, c, y0, y1, y2, n, rfl, _, _, t0, t1, t2⟩ := open_agg3 Tryd.underlying34 (by kernel_rfl) cellsOp hval h
  obtain ⟨z0, e0, _, _⟩ := DataW.trod_int Tryd.underlying3 t0
  obtain ⟨z1, e1, _, _⟩ := DataW.trod_int Tryd.underlying3 t1
  obtain ⟨x, e2, _, _⟩ := DataW.trod_string Tryd.underlying9 t2
  obtain rfl := List.head_eq_of_cons_eq e0
  obtain rfl := List.head_eq_of_cons_eq e1
  obtain rfl := List.head_eq_of_cons_eq e2
  obtain ⟨fuel, hf⟩ := h0
  obtain ⟨e, e4, he⟩ := op_is hf hr
  simp [Value.cells] at e4
  obtain ⟨rfl, rfl, rfl⟩ := e4
  exact ⟨e, rfl, he⟩
end Go.Proofs.YtdigkgoaldgodaaDoor
