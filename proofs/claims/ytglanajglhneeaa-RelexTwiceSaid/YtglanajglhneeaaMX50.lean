/- An argument that is an edit, opened. Conditions: none. -/
import Derived.Test.YtglanajglhneeaaMX41
import Derived.ProofKit
import Derived.OpenShut
import Derived.DataReads
import Derived.SizedLaws
import Derived.Carry
import Derived.Lib.SmallJoins
namespace Go.Proofs.Ytglanajglhneeaa
open Go Go.ChangeShapes Go.WideShapes Go.ChangeAt Go.RowKit Go.Joins

def I64 (x : Int) : Prop := -9223372036854775808 ≤ x ∧ x ≤ 9223372036854775807
/-- an edit of the law's -/
structure OpE where
  f : Int
  k : Int
  s : ByteArray
def OpOk (e : OpE) : Prop := I64 e.f ∧ I64 e.k ∧ e.s.size ≤ 281474976710656
def OReach (ns : List Nat) : Prop := ∀ n ∈ ns, n ≤ reachBytes
theorem cellsInt9 : Try.prog.cellsOf 3 = 1 := by kernel_rfl
theorem cellsString9 : Try.prog.cellsOf 9 = 1 := by kernel_rfl
theorem cellsOp : Try.prog.cellsOf 30 = 3 := by kernel_rfl
theorem bytesOp : Try.prog.bytesOf 30 = 32 := by kernel_rfl
section
variable {H : Type} {enc : TypeId × Value → H} {W : World} {base : Nat} {v : Value} {d : DataW H} {p : List MemPlace} {spare : Nat → Bool}
theorem int9_is {fuel : Nat} {cs : List Value} {x : DataW H × List MemPlace} (h : DataW.trod enc Try.prog W 0 spare true fuel 3 cs = some x) : ∃ n : Int, cs = [.int .i64 n] ∧ I64 n := by
  obtain ⟨k, rfl, _, hwf⟩ := DataW.trod_int Try.underlying3 h
  exact ⟨k, rfl, bounds_i64 hwf⟩
theorem string9_is {fuel : Nat} {cs : List Value} {x : DataW H × List MemPlace} (h : DataW.trod enc Try.prog W 0 spare true fuel 9 cs = some x) (w1 : OReach (x.1.weights Try.prog 9)) : ∃ s : ByteArray, cs = [.string s] ∧ s.size ≤ 281474976710656 := by
  obtain ⟨s, rfl, rfl, hs⟩ := DataW.trod_string Try.underlying9 h
  refine ⟨s, rfl, ?_⟩
  have := w1 s.data.toList.length (by unfold DataW.weights; exact List.mem_singleton_self _)
  rw [Array.length_toList] at this
  exact Nat.le_trans this (by decide)
theorem weights9_mem {P : Program} {e : TypeId} : ∀ {ds : List (DataW H)} {i : Nat} {d : DataW H}, ds[i]? = some d → ∀ n ∈ d.weights P e, n ∈ DataW.weightsAll P e ds
  | [], _, _, h => by simp at h
  | d' :: r, 0, d, h => by
    simp at h; subst h
    intro n hn
    unfold DataW.weightsAll
    exact List.mem_append_left _ hn
  | d' :: r, i + 1, d, h => by
    intro n hn
    unfold DataW.weightsAll
    exact List.mem_append_right _ (weights9_mem (by simpa using h) n hn)
theorem part9_reach {t : TypeId} {fs : Array Field} {xs : List (DataW H × List MemPlace)} (ht : Try.prog.underlying t = some (.struct fs)) (hw : OReach ((DataW.agg (xs.map (·.1))).weights Try.prog t)) {j : Nat} {f : Field} {x : DataW H × List MemPlace} (hf : fs[j]? = some f) (hx : xs[j]? = some x) : OReach (x.1.weights Try.prog f.type) := fun n hn => by
  refine hw n ?_
  unfold DataW.weights
  rw [ht]
  exact DataW.weights_mem_each (j := j) (t := f.type) (d := x.1) (by simp [hf]) (by simp [hx]) n hn
theorem three9 {α : Type} {l : List α} (h : l.length = 3) : ∃ a b c, l = [a, b, c] := by
  match l, h with
  | [a, b, c], _ => exact ⟨a, b, c, rfl⟩
theorem op_is {fuel : Nat} {cs : List Value} {x : DataW H × List MemPlace} (h : DataW.trod enc Try.prog W 0 spare true fuel 30 cs = some x) (hw : OReach (x.1.weights Try.prog 30)) : ∃ e : OpE, cs = [.int .i64 e.f, .int .i64 e.k, .string e.s] ∧ OpOk e := by
  obtain ⟨xs, n, rfl, rfl, hl, hxl, hp⟩ := DataW.trod_struct Try.underlying30 h
  rw [cellsOp] at hl
  obtain ⟨c0, c1, c2, rfl⟩ := three9 hl
  have hxl : xs.length = 3 := hxl
  obtain ⟨x0, x1, x2, rfl⟩ := three9 hxl
  have h0 := hp 0 _ rfl
  have h1 := hp 1 _ rfl
  have h2 := hp 2 _ rfl
  have w2 := part9_reach Try.underlying30 hw (j := 2) (x := x2) rfl rfl
  change DataW.trod enc Try.prog W 0 spare true n 3 (List.take (Try.prog.cellsOf 3) (List.drop 0 [c0, c1, c2])) = some x0 at h0
  change DataW.trod enc Try.prog W 0 spare true n 3 (List.take (Try.prog.cellsOf 3) (List.drop 1 [c0, c1, c2])) = some x1 at h1
  change DataW.trod enc Try.prog W 0 spare true n 9 (List.take (Try.prog.cellsOf 9) (List.drop 2 [c0, c1, c2])) = some x2 at h2
  change OReach (x2.1.weights Try.prog 9) at w2
  rw [cellsInt9] at h0 h1
  rw [cellsString9] at h2
  obtain ⟨a, e0, ha⟩ := int9_is h0
  obtain ⟨b, e1, hb⟩ := int9_is h1
  obtain ⟨c, e2, hc⟩ := string9_is h2 w2
  simp at e0 e1 e2
  subst e0 e1 e2
  exact ⟨⟨a, b, c⟩, rfl, ha, hb, hc⟩
end
set_option maxRecDepth 100000 in
theorem openOp {H : Type} {enc : TypeId × Value → H} {W : World} {base : Nat} {v : Value} {d : DataW H} {p : List MemPlace} (hval : Value.okWide Try.prog W .any base 30 v)
    (h : DataW.Trod enc Try.prog W 0 (fun _ => true) true 30 v d p) (hr : OReach (d.weights Try.prog 30)) : ∃ e : OpE, v = .agg #[.int .i64 e.f, .int .i64 e.k, .string e.s] ∧ OpOk e := by
  have h0 := h
  obtain ⟨a, b, c, y0, y1, y2, n, rfl, _, _, t0, t1, t2⟩ := open_agg3 Try.underlying30 (by kernel_rfl) cellsOp hval h
  obtain ⟨z0, e0, _, _⟩ := DataW.trod_int Try.underlying3 t0
  obtain ⟨z1, e1, _, _⟩ := DataW.trod_int Try.underlying3 t1
  obtain ⟨x, e2, _, _⟩ := DataW.trod_string Try.underlying9 t2
  obtain rfl := List.head_eq_of_cons_eq e0
  obtain rfl := List.head_eq_of_cons_eq e1
  obtain rfl := List.head_eq_of_cons_eq e2
  obtain ⟨fuel, hf⟩ := h0
  obtain ⟨e, e4, he⟩ := op_is hf hr
  simp [Value.cells] at e4
  obtain ⟨rfl, rfl, rfl⟩ := e4
  exact ⟨e, rfl, he⟩
end Go.Proofs.Ytglanajglhneeaa
