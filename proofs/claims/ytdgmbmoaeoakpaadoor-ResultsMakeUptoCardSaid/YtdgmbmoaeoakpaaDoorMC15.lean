/- An object is made of names and values by turns. Conditions: at most 100 parts; names of at most 1000 bytes; the library's table of powers. -/
import Derived.Test.YtdgmbmoaeoakpaaDoorMC13
import Derived.Test.YtdgmbmoaeoakpaaDoorMC02
import Derived.Laws.MakeOwn
import Derived.Deep.AppendLies
namespace Go.Proofs.YtdgmbmoaeoakpaaDoor
open Go Go.RowKit Go.Lib

/-- a field that has its name alone -/
def zeroE (nm : ByteArray) : Fe := ⟨nm, 0, ⟨#[]⟩, .slice none 0 0, .slice none 0 0, .nil, .nil⟩
theorem zeroE_ok {nm : ByteArray} (w : World) (A : Nat → Prop) (h : nm.size ≤ 140737488355328) : (zeroE nm).Ok w A := ⟨HS.nil _ _ _, HS.nil _ _ _, by show (0 : Nat) < 256; decide, Nat.zero_le _, h⟩
/-- parts as they lie -/
def IfsLie (w : World) (b : Nat) (ps : List Pt) : Prop := ∀ j u, (ifs ps)[j]? = some u → w.cell? ⟨b, j, none⟩ = some u
theorem IfsLie.below {w w' : World} {b : Nat} {ps : List Pt} (h : IfsLie w b ps) (hb : b < w.heap.size) (hB : Below w.heap.size w w') : IfsLie w' b ps := fun j u hu => (hB.cell (p := ⟨b, j, none⟩) hb).trans (h j u hu)
theorem set_app (A L : List Value) (k : Nat) (v : Value) : (A ++ L).set (A.length + k) v = A ++ L.set k v := by
  rw [List.set_append_right _ _ (Nat.le_add_right ..), Nat.add_sub_cancel_left]
theorem set_last4 (A : List Value) (n a b c d a' b' c' d' : Value) : ((((A ++ [n, a, b, c, d]).set (A.length + 1) a').set (A.length + 1 + 1) b').set (A.length + 1 + 2) c').set (A.length + 1 + 3) d' = A ++ [n, a', b', c', d'] := by
  rw [set_app, show A.length + 1 + 1 = A.length + 2 from rfl, set_app, show A.length + 1 + 2 = A.length + 3 from rfl, set_app, show A.length + 1 + 3 = A.length + 4 from rfl, set_app]
  rfl
/-- the box of the answer, the parts, and the fields so far -/
structure ObSt (w : World) (B b : Nat) (ps : List Pt) (fs : List Fe) (v : Value) (A : Nat → Prop) (W : World) : Prop where
  below : Below w.heap.size w W
  box : Blk4 W B 25 (.int .u8 0) (.string ⟨#[]⟩) (.slice none 0 0) (.slice none 0 0)
  lt : B < w.heap.size
  own : W.ownsRow w.heap.size 43 5 v fs.length (cellsOf fs)
  ok : ∀ e ∈ fs, e.Ok W A
  parts : ∀ p ∈ ps, p.Ok W A
  lie : IfsLie W b ps
  lb : b < w.heap.size
  aw : ∀ k, A k → k < w.heap.size
def ObjR (t : V.T) (A : Nat → Prop) (w : World) (e : Ending) (w' : World) : Prop :=
  ∃ u, e = .returned (.agg #[.int .u8 6, .string ⟨#[]⟩, .slice none 0 0, u]) ∧ HS w' (fun b => A b ∨ Fre w.heap.size w' b) 1 u t ∧ Below w.heap.size w w'
theorem ObSt.on {w : World} {B b : Nat} {ps : List Pt} {fs : List Fe} {v : Value} {A : Nat → Prop} {W W' : World} (h : ObSt w B b ps fs v A W) (hB : Below W.heap.size W W') : ObSt w B b ps fs v A W' :=
  ⟨h.below.trans (hB.mono h.below.size), h.box.same (hB.block _ h.box.lt), h.lt, ownsRow_below h.own hB, fun e he => (h.ok e he).below hB, fun p hp => (h.parts p hp).below hB, h.lie.below (Nat.lt_of_lt_of_le h.lb h.below.size) hB, h.lb, h.aw⟩
/-- behind an append -/
theorem ObSt.grow {w : World} {B b : Nat} {ps : List Pt} {fs : List Fe} {v v' : Value} {A : Nat → Prop} {W W' : World} (h : ObSt w B b ps fs v A W) (e : Fe) (he : ∀ w A, e.Ok w A) (hg : W.grownBy W' v.ownBlock) (ho : W'.ownsRow w.heap.size 43 5 v' (fs.length + 1) (cellsOf fs ++ cellsOf [e])) : ObSt w B b ps (fs ++ [e]) v' A W' := by
  have hlt := h.own.lt
  have hne : ∀ k, k < w.heap.size → some k ≠ v.ownBlock := fun k hk e => by have := hlt k e.symm; omega
  refine ⟨h.below.grown hg h.below.size (fun k hk => (hlt k hk).1), h.box.same (hg.block _ h.box.lt (hne _ h.lt)), h.lt, ?_, fun e' he' => ?_, fun p hp => (h.parts p hp).imp (fun _ a _ => a) (fun k hk hkl => hg.block k hkl (hne k (h.aw k hk))), fun j u hu => ?_, h.lb, h.aw⟩
  · rw [List.length_append, cellsOf_append]; exact ho
  · rcases List.mem_append.1 he' with h1 | h1
    · exact (h.ok e' h1).imp (fun _ a _ => a) (fun k hk hkl => hg.block k hkl (hne k (h.aw k hk)))
    · obtain rfl := List.mem_singleton.1 h1
      exact he _ _
  · exact (World.cell?_of_block (w := W) (w' := W') (a := ⟨b, j, none⟩) (hg.block b (Nat.lt_of_lt_of_le h.lb h.below.size) (hne b h.lb))).trans (h.lie j u hu)
/-- the last field's value is stored -/
theorem ObSt.store {w : World} {B b g cap : Nat} {ps : List Pt} {fs : List Fe} {nm : ByteArray} {A : Nat → Prop} {W : World} (h : ObSt w B b ps (fs ++ [zeroE nm]) (.slice (some ⟨g, 0, none⟩) (fs.length + 1) cap) A W) (e : Fe) (hnm : e.nm = nm) (he : e.Ok W A) :
    ObSt w B b ps (fs ++ [e]) (.slice (some ⟨g, 0, none⟩) (fs.length + 1) cap) A ((((W.setCell ⟨g, fs.length * 5 + 1, none⟩ (.int .u8 e.k)).setCell ⟨g, fs.length * 5 + 1 + 1, none⟩ (.string e.x)).setCell ⟨g, fs.length * 5 + 1 + 2, none⟩ e.v).setCell ⟨g, fs.length * 5 + 1 + 3, none⟩ e.u) := by
  have hown : W.ownsRow w.heap.size 43 5 (.slice (some ⟨g, 0, none⟩) (fs.length + 1) cap) (fs.length + 1) (cellsOf fs ++ [.string nm, .int .u8 0, .string ⟨#[]⟩, .slice none 0 0, .slice none 0 0]) := by
    have := h.own
    rw [List.length_append, cellsOf_append] at this
    exact this
  obtain ⟨o1, g1⟩ := hown.stored (fs.length * 5 + 1) (.int .u8 e.k)
  obtain ⟨o2, g2⟩ := o1.stored (fs.length * 5 + 1 + 1) (.string e.x)
  obtain ⟨o3, g3⟩ := o2.stored (fs.length * 5 + 1 + 2) e.v
  obtain ⟨o4, g4⟩ := o3.stored (fs.length * 5 + 1 + 3) e.u
  have hs := set_last4 (cellsOf fs) (.string nm) (.int .u8 0) (.string ⟨#[]⟩) (.slice none 0 0) (.slice none 0 0) (.int .u8 e.k) (.string e.x) e.v e.u
  rw [cellsOf_len] at hs
  rw [hs] at o4
  have hg : w.heap.size ≤ g := (hown.lt g rfl).1
  have he' : ∀ k, k < w.heap.size → ((((W.setCell ⟨g, fs.length * 5 + 1, none⟩ (.int .u8 e.k)).setCell ⟨g, fs.length * 5 + 1 + 1, none⟩ (.string e.x)).setCell ⟨g, fs.length * 5 + 1 + 2, none⟩ e.v).setCell ⟨g, fs.length * 5 + 1 + 3, none⟩ e.u).heap[k]? = W.heap[k]? := fun k hk =>
    (Below.heap_setCell _ _ _ k (by show k ≠ g; omega)).trans ((Below.heap_setCell _ _ _ k (by show k ≠ g; omega)).trans ((Below.heap_setCell _ _ _ k (by show k ≠ g; omega)).trans (Below.heap_setCell _ _ _ k (by show k ≠ g; omega))))
  refine ⟨(((h.below.setCell hg _).setCell hg _).setCell hg _).setCell hg _, h.box.same (he' _ h.lt), h.lt, ?_, fun e' h' => ?_, fun p hp => (h.parts p hp).imp (fun _ a _ => a) (fun k hk _ => he' k (h.aw k hk)), fun j u hu => ?_, h.lb, h.aw⟩
  · rw [List.length_append, cellsOf_append]
    rw [← hnm] at o4
    exact o4
  · rcases List.mem_append.1 h' with h1 | h1
    · exact (h.ok e' (List.mem_append_left _ h1)).imp (fun _ a _ => a) (fun k hk _ => he' k (h.aw k hk))
    · obtain rfl := List.mem_singleton.1 h1
      exact he.imp (fun _ a _ => a) (fun k hk _ => he' k (h.aw k hk))
  · exact (World.cell?_of_block (w := W) (a := ⟨b, j, none⟩) (he' b h.lb)).trans (h.lie j u hu)
theorem fes_take {ps : List Pt} {j : Nat} {p : Pt} (h : ps[j]? = some p) : (fes ps).take (j + 1) = (fes ps).take j ++ [p.e] := by
  have hj : j < ps.length := (List.getElem?_eq_some_iff.1 h).1
  unfold fes
  rw [List.take_succ_eq_append_getElem (by simpa using hj)]
  have : ps[j] = p := by
    rw [List.getElem?_eq_getElem hj] at h
    exact Option.some.inj h
  simp [this]
theorem fes_len {ps : List Pt} {j : Nat} (h : j ≤ ps.length) : ((fes ps).take j).length = j := by
  unfold fes; simp; omega
end Go.Proofs.YtdgmbmoaeoakpaaDoor
