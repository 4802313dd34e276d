/- A value of JSON as it lies in memory made since the call began, and what makes one. Conditions: none. -/
import Derived.Test.YtdgmbmoaeoakpaaDoorMC14
import Derived.Test.YtdgmbmoaeoakpaaDoorMC16
import Derived.Test.YtdgmbmoaeoakpaaDoorMC19
namespace Go.Proofs.YtdgmbmoaeoakpaaDoor
open Go Go.RowKit Go.Lib

theorem HS.freB {w w' : World} {N d : Nat} {v : Value} {t : V.T} (h : HS w (Fre N w) d v t) (hB : Below w.heap.size w w') : HS w' (Fre N w') d v t :=
  h.imp (fun b hb hlt => hb.imp hb.1 (hB.block b hlt)) (fun b _ hlt => hB.block b hlt)
/-- a value in blocks from N on -/
def VF (N k : Nat) (x : ByteArray) (l f : V.T) (y : Value) (W : World) : Prop := ∃ p n c q m d, y = .agg #[.int .u8 k, .string x, .slice p n c, .slice q m d] ∧ HS W (Fre N W) 0 (.slice p n c) l ∧ HS W (Fre N W) 1 (.slice q m d) f
theorem VF.on {N k : Nat} {x : ByteArray} {l f : V.T} {y : Value} {W W' : World} (h : VF N k x l f y W) (hB : Below W.heap.size W W') : VF N k x l f y W' := by
  obtain ⟨p, n, c, q, m, d, e, h1, h2⟩ := h
  exact ⟨p, n, c, q, m, d, e, h1.freB hB, h2.freB hB⟩
theorem VF.mk {N k : Nat} {x : ByteArray} {l f : V.T} {v u : Value} {W : World} (hl : HS W (Fre N W) 0 v l) (hf : HS W (Fre N W) 1 u f) : VF N k x l f (.agg #[.int .u8 k, .string x, v, u]) W := by
  obtain ⟨p, c, rfl, -⟩ := hl.len
  obtain ⟨q, d, rfl, -⟩ := hf.len
  exact ⟨_, _, _, _, _, _, rfl, hl, hf⟩
/-- such a value is handed back -/
def RetV (N k : Nat) (x : ByteArray) (l f : V.T) (w : World) (e : Ending) (w' : World) : Prop := ∃ y, e = .returned y ∧ VF N k x l f y w' ∧ Below w.heap.size w w'
theorem text_ret {N : Nat} {x : ByteArray} {w w' : World} {e : Ending} (h : TextIs x w e w') : RetV N 4 x .nil .nil w e w' := ⟨_, h.1, VF.mk (HS.nil _ _ _) (HS.nil _ _ _), h.2⟩
theorem num_ret {N : Nat} {x : List UInt8} {w w' : World} {e : Ending} (h : NumIs x w e w') : RetV N 3 ⟨x.toArray⟩ .nil .nil w e w' := ⟨_, h.1, VF.mk (HS.nil _ _ _) (HS.nil _ _ _), h.2⟩
theorem list_ret {N : Nat} {t : V.T} {w w' : World} {e : Ending} (hN : N ≤ w.heap.size) (h : ListR t w e w') : RetV N 5 ⟨#[]⟩ t .nil w e w' := by
  obtain ⟨v, e, h1, h2⟩ := h
  exact ⟨_, e, VF.mk (h1.mono fun b hb _ => ⟨Nat.le_trans hN hb.1, hb.2⟩) (HS.nil _ _ _), h2⟩
/-- parts, as they lie behind a slice -/
def PsF (N m : Nat) (T : V.T) (y : Value) (W : World) : Prop := ∃ b ps, y = .slice (some ⟨b, 0, none⟩) (2 * m) (2 * m) ∧ IfsLie W b ps ∧ b < W.heap.size ∧ (∀ p ∈ ps, p.Ok W (Fre N W)) ∧ treeOf (fes ps) = T ∧ ps.length = m
theorem Pt.Ok.freB {N : Nat} {p : Pt} {w w' : World} (h : p.Ok w (Fre N w)) (hB : Below w.heap.size w w') : p.Ok w' (Fre N w') := h.imp (fun b hb hlt => hb.imp hb.1 (hB.block b hlt)) (fun b _ hlt => hB.block b hlt)
theorem PsF.on {N m : Nat} {T : V.T} {y : Value} {W W' : World} (h : PsF N m T y W) (hB : Below W.heap.size W W') : PsF N m T y W' := by
  obtain ⟨b, ps, h1, h2, h3, h4, h5, h6⟩ := h
  exact ⟨b, ps, h1, h2.below h3 hB, Nat.lt_of_lt_of_le h3 hB.size, fun p hp => (h4 p hp).freB hB, h5, h6⟩
theorem obj_ret {N m : Nat} {T : V.T} {y : Value} {w : World} (hN : N ≤ w.heap.size) (hm : m ≤ 100) (h : PsF N m T y w) (hP : PowTab w) : Calls Tryd.prog 53 #[y] w (RetV N 6 ⟨#[]⟩ .nil T w) := by
  obtain ⟨b, ps, rfl, h2, h3, h4, rfl, rfl⟩ := h
  refine (objectR_any b (2 * ps.length) (2 * ps.length) ps (fun k => Fre N w k ∧ k < w.heap.size) w rfl ⟨Nat.le_refl _, by omega⟩ hm h3 h2 (fun p hp => (h4 p hp).imp (fun b hb hlt => ⟨hb, hlt⟩) (fun _ _ _ => rfl)) (fun k hk => hk.2) hP).mono ?_
  rintro e w' ⟨u, he, hu, hB⟩
  refine ⟨_, he, VF.mk (HS.nil _ _ _) (hu.mono fun b hb _ => ?_), hB⟩
  rcases hb with ⟨h, hlt⟩ | h
  · exact h.imp h.1 (hB.block b hlt)
  · exact ⟨Nat.le_trans hN h.1, h.2⟩
/-- a part that is a value -/
def vPt (nm : ByteArray) (k : Nat) (x : ByteArray) (v u : Value) (l f : V.T) : Pt := ⟨25, .agg #[.int .u8 k, .string x, v, u], ⟨nm, k, x, v, u, l, f⟩⟩
def nPt (nm : ByteArray) (n : Int) : Pt := ⟨3, .int .i64 n, numE nm n⟩
theorem vPt_ok {N : Nat} {nm : ByteArray} {k : Nat} {x : ByteArray} {v u : Value} {l f : V.T} {W : World} (h0 : Fit nm k x) (hl : HS W (Fre N W) 0 v l) (hf : HS W (Fre N W) 1 u f) : (vPt nm k x v u l f).Ok W (Fre N W) := .inr ⟨rfl, rfl, hl, hf, h0⟩
theorem nPt_ok {N : Nat} {nm : ByteArray} {n : Int} {W : World} (hn : -9223372036854775808 ≤ n ∧ n ≤ 9223372036854775807) (h : nm.size ≤ 1000) : (nPt nm n).Ok W (Fre N W) := .inl ⟨n, hn, rfl, h⟩
/-- a slice of parts that has just been made -/
theorem psf_new {N m : Nat} {T : V.T} {W : World} {cs : Array Value} {t : TypeId} (ps : List Pt) (hcs : cs.toList = ifs ps) (hT : treeOf (fes ps) = T) (hm : ps.length = m) (ho : ∀ p ∈ ps, p.Ok W (Fre N W)) : PsF N m T (.slice (some ⟨W.heap.size, 0, none⟩) (2 * m) (2 * m)) (W.alloc (.cells cs t)) := by
  have hB := (Below.refl W.heap.size W).alloc (Nat.le_refl _) (.cells cs t)
  refine ⟨W.heap.size, ps, rfl, fun j u hu => ?_, by simp, fun p hp => (ho p hp).freB hB, hT, hm⟩
  rw [cell_of_row _ _ j cs t (0, 0) (heap_alloc_new _ _)]
  rw [← hcs] at hu
  simpa using hu
end Go.Proofs.YtdgmbmoaeoakpaaDoor
