/- An argument that is a value of JSON is opened: how it lies in memory. Conditions: none. -/
import Derived.Test.YtepjomdjkoaofaaDoorMM39
import Derived.Carry
import Derived.Lib.SmallJoins
namespace Go.Proofs.YtepjomdjkoaofaaDoor
open Go Go.ChangeShapes Go.WideShapes Go.ChangeAt Go.RowKit Go.Joins

set_option maxRecDepth 100000 in
theorem value_arg {H : Type} {enc : TypeId × Value → H} {W : World} {base : Nat} {v : Value} {d : DataW H} {p : List MemPlace} (hval : Value.okWide Tryd.prog W .any base 25 v)
    (h : DataW.Trod enc Tryd.prog W 0 (fun _ => true) true 25 v d p) (hr : Reach (d.weights Tryd.prog 25)) :
    ∃ (k : Nat) (x : ByteArray) (y z : Value) (l f : V.T), v = .agg #[.int .u8 k, .string x, y, z] ∧ k < 256 ∧ x.size ≤ 140737488355328 ∧ HS W (fun _ => True) 0 y l ∧ HS W (fun _ => True) 1 z f := by
  have h0 := h
  obtain ⟨a, b, c, e, y0, y1, y2, y3, n, rfl, _, _, t0, t1, t2, t3⟩ := open_agg4 Tryd.underlying25 (by kernel_rfl) cellsValue hval h
  obtain ⟨z, e0, _, _⟩ := DataW.trod_int Tryd.underlying5 t0
  obtain ⟨x, e1, _, _⟩ := DataW.trod_string Tryd.underlying9 t1
  have e2 : ∃ p n m, c = .slice p n m := by
    rcases DataW.trod_slice Tryd.underlying22 t2 with ⟨h, _⟩ | ⟨_, _, _, _, _, _, _, h, _⟩
    · exact ⟨_, _, _, List.head_eq_of_cons_eq h⟩
    · exact ⟨_, _, _, List.head_eq_of_cons_eq h⟩
  have e3 : ∃ p n m, e = .slice p n m := by
    rcases DataW.trod_slice Tryd.underlying23 t3 with ⟨h, _⟩ | ⟨_, _, _, _, _, _, _, h, _⟩
    · exact ⟨_, _, _, List.head_eq_of_cons_eq h⟩
    · exact ⟨_, _, _, List.head_eq_of_cons_eq h⟩
  obtain ⟨q1, n1, m1, rfl⟩ := e2
  obtain ⟨q2, n2, m2, rfl⟩ := e3
  obtain rfl := List.head_eq_of_cons_eq e0
  obtain rfl := List.head_eq_of_cons_eq e1
  obtain ⟨fuel, hf⟩ := h0
  obtain ⟨k, x', v, u, l, f, e4, hk, hx, hl, hfl⟩ := (value_open (enc := enc) (W := W) (spare := fun _ => true) fuel).1 _ _ hf hr
  simp [Value.cells] at e4
  obtain ⟨rfl, rfl, rfl, rfl⟩ := e4
  exact ⟨k, x, _, _, l, f, rfl, hk, hx, hl, hfl⟩
end Go.Proofs.YtepjomdjkoaofaaDoor
