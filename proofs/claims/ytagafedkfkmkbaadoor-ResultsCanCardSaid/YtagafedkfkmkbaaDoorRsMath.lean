/- An object's parts, names and values by turns, as they lie in a slice of interface values. Conditions: none. -/
import Derived.Test.YtagafedkfkmkbaaDoorRpMath
import Derived.Test.YtagafedkfkmkbaaDoorQtNumP
namespace Go.Proofs.YtagafedkfkmkbaaDoor
open Go Go.RowKit Go.Lib

/-- a number as a field -/
def numE (nm : ByteArray) (n : Int) : Fe := ⟨nm, 3, ⟨(Lib.itoa n).toArray⟩, .slice none 0 0, .slice none 0 0, .nil, .nil⟩
/-- a part: what the interface holds behind the name, and the field that it becomes -/
structure Pt where
  t : TypeId
  v : Value
  e : Fe
def Pt.Ok (w : World) (A : Nat → Prop) (p : Pt) : Prop :=
  (∃ n : Int, (-9223372036854775808 ≤ n ∧ n ≤ 9223372036854775807) ∧ p = ⟨3, .int .i64 n, numE p.e.nm n⟩ ∧ p.e.nm.size ≤ 1000) ∨
  (p.t = 25 ∧ p.v = .agg #[.int .u8 p.e.k, .string p.e.x, p.e.v, p.e.u] ∧ p.e.Ok w A)
def ifs : List Pt → List Value
  | [] => []
  | p :: r => .iface 9 (.string p.e.nm) :: .iface p.t p.v :: ifs r
def fes (ps : List Pt) : List Fe := ps.map (·.e)
theorem ifs_len (ps : List Pt) : (ifs ps).length = 2 * ps.length := by
  induction ps with
  | nil => rfl
  | cons p r ih => simp [ifs, ih]; omega
theorem ifs_at : ∀ (ps : List Pt) (j : Nat) (p : Pt), ps[j]? = some p → (ifs ps)[2 * j]? = some (.iface 9 (.string p.e.nm)) ∧ (ifs ps)[2 * j + 1]? = some (.iface p.t p.v)
  | [], _, _, h => by simp at h
  | q :: r, 0, p, h => by
    simp at h; subst h
    exact ⟨rfl, rfl⟩
  | q :: r, j + 1, p, h => by
    have := ifs_at r j p (by simpa using h)
    rw [show 2 * (j + 1) = 2 * j + 1 + 1 by omega]
    exact this
theorem num_fit {nm : ByteArray} (n : Int) (h : nm.size ≤ 140737488355328) (hn : -9223372036854775808 ≤ n ∧ n ≤ 9223372036854775807) : Fit nm 3 ⟨(Lib.itoa n).toArray⟩ :=
  ⟨by decide, by have := Lib.itoa_length_le n hn.1 hn.2; show (Lib.itoa n).toArray.size ≤ _; simp; omega, h⟩
theorem numE_ok {nm : ByteArray} (n : Int) (w : World) (A : Nat → Prop) (h : nm.size ≤ 140737488355328) (hn : -9223372036854775808 ≤ n ∧ n ≤ 9223372036854775807) : (numE nm n).Ok w A :=
  ⟨HS.nil _ _ _, HS.nil _ _ _, num_fit n h hn⟩
theorem Pt.Ok.fe {w : World} {A : Nat → Prop} {p : Pt} (h : p.Ok w A) : p.e.Ok w A := by
  rcases h with ⟨n, hn, e, hz⟩ | ⟨_, _, h⟩
  · rw [e]
    exact numE_ok n w A (by omega) hn
  · exact h
theorem Pt.Ok.imp {w w' : World} {A A' : Nat → Prop} {p : Pt} (h : p.Ok w A) (hA : ∀ b, A b → b < w.heap.size → A' b) (hk : ∀ b, A b → b < w.heap.size → w'.heap[b]? = w.heap[b]?) : p.Ok w' A' := by
  rcases h with h | ⟨h1, h2, h3⟩
  · exact .inl h
  · exact .inr ⟨h1, h2, h3.imp hA hk⟩
theorem Pt.Ok.below {w w' : World} {A : Nat → Prop} {p : Pt} (h : p.Ok w A) (hB : Below w.heap.size w w') : p.Ok w' A := h.imp (fun _ a _ => a) fun b _ hb => hB.block b hb
theorem pow_below {w w' : World} (h : PowTab w) (hb : Below w.heap.size w w') : PowTab w' := Lib.tabBelow_of_tabIs h w' hb
end Go.Proofs.YtagafedkfkmkbaaDoor
