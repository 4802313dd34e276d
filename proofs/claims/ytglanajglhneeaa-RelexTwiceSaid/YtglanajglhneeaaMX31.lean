/- Lists of tokens as they lie. Conditions: none. -/
import Derived.Test.YtglanajglhneeaaMX09
import Derived.Laws.Tables
namespace Go.Proofs
open Go Go.RowKit Go.Lib
namespace Ytglanajglhneeaa
/-- a token, whatever its numbers -/
structure TkI where
  k : Nat
  w : Int
  l : Int
def I6 (x : Int) : Prop := -9223372036854775808 ≤ x ∧ x ≤ 9223372036854775807
def TkI.Ok (t : TkI) : Prop := t.k < 256 ∧ I6 t.w ∧ I6 t.l
/-- a slice of tokens as it lies -/
def RdT (W : World) (v : Value) (ts : List TkI) : Prop := ∃ z cap, v = .slice z ts.length cap ∧ ts.length ≤ cap ∧ cap ≤ 9223372036854775807 ∧ ts.length ≤ 1000000000000000 ∧ (∀ t ∈ ts, t.Ok) ∧ ∀ (j : Nat) (t : TkI), ts[j]? = some t → ∃ b o, z = some ⟨b, o, none⟩ ∧ b < W.heap.size ∧ W.cell? ⟨b, o + j * 3, none⟩ = some (.int .u8 (t.k : Int)) ∧ W.cell? ⟨b, o + j * 3 + 1, none⟩ = some (.int .i64 t.w) ∧ W.cell? ⟨b, o + j * 3 + 2, none⟩ = some (.int .i64 t.l)
theorem RdT.below {W W' : World} {v : Value} {ts : List TkI} (h : RdT W v ts) (hB : Below W.heap.size W W') : RdT W' v ts := by
  obtain ⟨z, cap, hv, h1, h2, h3, h4, h5⟩ := h
  refine ⟨z, cap, hv, h1, h2, h3, h4, fun j t hj => ?_⟩
  obtain ⟨b, o, hz, hb, c0, c1, c2⟩ := h5 j t hj
  exact ⟨b, o, hz, Nat.lt_of_lt_of_le hb hB.size, (hB.cell (p := ⟨b, _, none⟩) hb).trans c0, (hB.cell (p := ⟨b, _, none⟩) hb).trans c1, (hB.cell (p := ⟨b, _, none⟩) hb).trans c2⟩
end Ytglanajglhneeaa
end Go.Proofs
