/- How a rope's tree lies in memory; its counts and its depth. Conditions: none. -/
import Derived.Test.YtjeopabnddekgaaDoorProg
import Derived.Test.YtjeopabnddekgaaDoorME04
import Derived.WalkKit
import Derived.WalkSpells
import Derived.WalkLawsBesides
import Derived.WalkSmall
import Derived.Lib.Hide
import Derived.Lib.Builder
import Derived.Deep.WholeRow
import Derived.Laws.CopyOwn
namespace Go.Proofs.YtjeopabnddekgaaDoor
open Go Go.RowKit Go.Lib

def LeafAt (w : World) (b : Nat) (s : ByteArray) : Prop := w.heap[b]? = some (.cells #[.int .i64 ((R.cn s).b : Nat), .int .i64 ((R.cn s).u : Nat), .int .i64 ((R.cn s).k : Nat), .bool (R.cn s).f, .bool (R.cn s).e, .string s] 121 (0, 0))
def InnerAt (w : World) (b : Nat) (c : R.Cn) (d : Nat) (vl vr : Value) : Prop := w.heap[b]? = some (.cells #[.int .i64 (c.b : Nat), .int .i64 (c.u : Nat), .int .i64 (c.k : Nat), .bool c.f, .bool c.e, .int .i64 (d : Nat), vl, vr] 139 (0, 0))
/-- a tree as it lies, in blocks below N -/
def NT (w : World) (N : Nat) : Value → R.T → Prop
  | v, .none => v = .nilIface
  | v, .leaf s => ∃ b, b < N ∧ v = .iface 118 (.pointer (some ⟨b, 0, none⟩)) ∧ LeafAt w b s
  | v, .inner d l r => ∃ b vl vr, b < N ∧ v = .iface 137 (.pointer (some ⟨b, 0, none⟩)) ∧ InnerAt w b (R.cn (l.tx ++ r.tx)) d vl vr ∧ NT w N vl l ∧ NT w N vr r
theorem NT.on {w w' : World} {N M : Nat} (hB : Below M w w') (hNM : N ≤ M) : ∀ {t : R.T} {v : Value}, NT w N v t → NT w' N v t
  | .none, _, h => h
  | .leaf _, _, ⟨b, hb, hv, h⟩ => ⟨b, hb, hv, (hB.block b (by omega)).trans h⟩
  | .inner _ _ _, _, ⟨b, vl, vr, hb, hv, h, hl, hr⟩ => ⟨b, vl, vr, hb, hv, (hB.block b (by omega)).trans h, NT.on hB hNM hl, NT.on hB hNM hr⟩
theorem NT.up {w : World} {N M : Nat} (hNM : N ≤ M) : ∀ {t : R.T} {v : Value}, NT w N v t → NT w M v t
  | .none, _, h => h
  | .leaf _, _, ⟨b, hb, hv, h⟩ => ⟨b, by omega, hv, h⟩
  | .inner _ _ _, _, ⟨b, vl, vr, hb, hv, h, hl, hr⟩ => ⟨b, vl, vr, by omega, hv, h, NT.up hNM hl, NT.up hNM hr⟩
theorem NT.all {w : World} {N : Nat} : ∀ {t : R.T} {v : Value}, NT w N v t → NT w w.heap.size v t
  | .none, _, h => h
  | .leaf _, _, ⟨b, hb, hv, h⟩ => ⟨b, (Array.getElem?_eq_some_iff.1 h).1, hv, h⟩
  | .inner _ _ _, _, ⟨b, vl, vr, hb, hv, h, hl, hr⟩ => ⟨b, vl, vr, (Array.getElem?_eq_some_iff.1 h).1, hv, h, NT.all hl, NT.all hr⟩
theorem NT.below {w w' : World} {t : R.T} {v : Value} (h : NT w w.heap.size v t) (hB : Below w.heap.size w w') : NT w' w'.heap.size v t := (NT.on hB (Nat.le_refl _) h).all

def CnIs (c : R.Cn) (w : World) (e : Ending) (w' : World) : Prop := e = .returned ((.agg #[Value.int .i64 (((c).b : Nat) : Int), Value.int .i64 (((c).u : Nat) : Int), Value.int .i64 (((c).k : Nat) : Int), Value.bool (c).f, Value.bool (c).e])) ∧ Below w.heap.size w w'
def NatIs (n : Nat) (w : World) (e : Ending) (w' : World) : Prop := e = .returned (.int .i64 (n : Nat)) ∧ Below w.heap.size w w'

/-- five cells that hold counts -/
def CnAt (w : World) (b : Nat) (c : R.Cn) : Prop := w.cell? ⟨b, 0, none⟩ = some (.int .i64 (c.b : Nat)) ∧ w.cell? ⟨b, 1, none⟩ = some (.int .i64 (c.u : Nat)) ∧ w.cell? ⟨b, 2, none⟩ = some (.int .i64 (c.k : Nat)) ∧ w.cell? ⟨b, 3, none⟩ = some (.bool c.f) ∧ w.cell? ⟨b, 4, none⟩ = some (.bool c.e)
theorem LeafAt.cnAt {w : World} {b : Nat} {s : ByteArray} (h : LeafAt w b s) : CnAt w b (R.cn s) := by
  refine ⟨?_, ?_, ?_, ?_, ?_⟩ <;> (rw [Lib.cell_of_heap h]; rfl)
theorem InnerAt.cnAt {w : World} {b : Nat} {c : R.Cn} {d : Nat} {vl vr : Value} (h : InnerAt w b c d vl vr) : CnAt w b c := by
  refine ⟨?_, ?_, ?_, ?_, ?_⟩ <;> (rw [Lib.cell_of_heap h]; rfl)
theorem LeafAt.text {w : World} {b : Nat} {s : ByteArray} (h : LeafAt w b s) : w.cell? ⟨b, 5, none⟩ = some (.string s) := by rw [Lib.cell_of_heap h]; rfl
theorem InnerAt.rest {w : World} {b : Nat} {c : R.Cn} {d : Nat} {vl vr : Value} (h : InnerAt w b c d vl vr) : w.cell? ⟨b, 5, none⟩ = some (.int .i64 (d : Nat)) ∧ w.cell? ⟨b, 6, none⟩ = some vl ∧ w.cell? ⟨b, 7, none⟩ = some vr := by
  refine ⟨?_, ?_, ?_⟩ <;> (rw [Lib.cell_of_heap h]; rfl)
set_option maxRecDepth 100000 in
theorem meth_leaf (n b : Nat) (c : R.Cn) (w : World) (h : CnAt w b c) : (method (n + 1) 118 (.pointer (some ⟨b, 0, none⟩)) "glossator/rope.whole").run Tryd.prog w = .ok (123, (.agg #[Value.int .i64 (((c).b : Nat) : Int), Value.int .i64 (((c).u : Nat) : Int), Value.int .i64 (((c).k : Nat) : Int), Value.bool (c).f, Value.bool (c).e])) w := by
  obtain ⟨c0, c1, c2, c3, c4⟩ := h
  have ht : (typeInfo 118).run Tryd.prog w = .ok Tryd.t118 w := by kernel_rfl
  have hm : Array.find? (fun x => x.name == "glossator/rope.whole") Tryd.t118.methods = some { name := "glossator/rope.whole", sig := 140, path := #[{ struct := 121, index := 0, deref := true }], func := some (123, false) } := by kernel_rfl
  simp [method, go_sem, ht, hm, follow, receiverAt, Place.get, fieldPlace, asAddr, c0, c1, c2, c3, c4]
set_option maxRecDepth 100000 in
theorem meth_inner (n b : Nat) (c : R.Cn) (w : World) (h : CnAt w b c) : (method (n + 1) 137 (.pointer (some ⟨b, 0, none⟩)) "glossator/rope.whole").run Tryd.prog w = .ok (123, (.agg #[Value.int .i64 (((c).b : Nat) : Int), Value.int .i64 (((c).u : Nat) : Int), Value.int .i64 (((c).k : Nat) : Int), Value.bool (c).f, Value.bool (c).e])) w := by
  obtain ⟨c0, c1, c2, c3, c4⟩ := h
  have ht : (typeInfo 137).run Tryd.prog w = .ok Tryd.t137 w := by kernel_rfl
  have hm : Array.find? (fun x => x.name == "glossator/rope.whole") Tryd.t137.methods = some { name := "glossator/rope.whole", sig := 140, path := #[{ struct := 139, index := 0, deref := true }], func := some (123, false) } := by kernel_rfl
  simp [method, go_sem, ht, hm, follow, receiverAt, Place.get, fieldPlace, asAddr, c0, c1, c2, c3, c4]
/-- a call of whole at a tree that isn't none -/
theorem NT.meth {w : World} {N : Nat} {v : Value} {t : R.T} (h : NT w N v t) (ht : t ≠ .none) : ∃ T x, v = .iface T x ∧ ∀ n W, Below N w W → (method (n + 1) T x "glossator/rope.whole").run Tryd.prog W = .ok (123, (.agg #[Value.int .i64 (((R.cn t.tx).b : Nat) : Int), Value.int .i64 (((R.cn t.tx).u : Nat) : Int), Value.int .i64 (((R.cn t.tx).k : Nat) : Int), Value.bool (R.cn t.tx).f, Value.bool (R.cn t.tx).e])) W := by
  cases t with
  | none => exact absurd rfl ht
  | leaf s =>
    obtain ⟨b, hb, rfl, h⟩ := h
    exact ⟨_, _, rfl, fun n W hB => meth_leaf n b _ W (LeafAt.cnAt ((hB.block b hb).trans h))⟩
  | inner d l r =>
    obtain ⟨b, vl, vr, hb, rfl, h, -, -⟩ := h
    exact ⟨_, _, rfl, fun n W hB => meth_inner n b _ W (InnerAt.cnAt ((hB.block b hb).trans h))⟩
/-! ### The counts -/
theorem info_counts : (Tryd.prog.info? 96).map (·.size) = some 5 := by kernel_rfl
def CnRow (w : World) (b : Nat) (c : R.Cn) : Prop := w.heap[b]? = some (.cells #[Value.int .i64 (((c).b : Nat) : Int), Value.int .i64 (((c).u : Nat) : Int), Value.int .i64 (((c).k : Nat) : Int), Value.bool (c).f, Value.bool (c).e] 96 (0, 0))
theorem CnRow.cnAt {w : World} {b : Nat} {c : R.Cn} (h : CnRow w b c) : CnAt w b c := by
  refine ⟨?_, ?_, ?_, ?_, ?_⟩ <;> (rw [Lib.cell_of_heap h]; rfl)
theorem CnRow.new (w : World) (c : R.Cn) : CnRow (w.alloc (.cells #[Value.int .i64 (((c).b : Nat) : Int), Value.int .i64 (((c).u : Nat) : Int), Value.int .i64 (((c).k : Nat) : Int), Value.bool (c).f, Value.bool (c).e] 96)) w.heap.size c := heap_alloc_new w _
theorem CnRow.new2 (w : World) (o : Obj) (c : R.Cn) : CnRow ((w.alloc o).alloc (.cells #[Value.int .i64 (((c).b : Nat) : Int), Value.int .i64 (((c).u : Nat) : Int), Value.int .i64 (((c).k : Nat) : Int), Value.bool (c).f, Value.bool (c).e] 96)) (w.heap.size + 1) c := by
  have := heap_alloc_new (w.alloc o) (.cells #[Value.int .i64 (((c).b : Nat) : Int), Value.int .i64 (((c).u : Nat) : Int), Value.int .i64 (((c).k : Nat) : Int), Value.bool (c).f, Value.bool (c).e] 96)
  rw [World.size_alloc] at this
  exact this
theorem CnRow.drew {w : World} {b : Nat} {c : R.Cn} (h : CnRow w b c) : CnRow w.drew b c := h
theorem one_counts (c : R.Cn) : (#[Value.int .i64 (((c).b : Nat) : Int), Value.int .i64 (((c).u : Nat) : Int), Value.int .i64 (((c).k : Nat) : Int), Value.bool (c).f, Value.bool (c).e].all (·.oneCell')) = true := by
  simp [Value.oneCell']
theorem CnRow.set {w : World} {b : Nat} {c : R.Cn} (h : CnRow w b c) (c' : R.Cn) : CnRow (w.setRow b #[Value.int .i64 (((c').b : Nat) : Int), Value.int .i64 (((c').u : Nat) : Int), Value.int .i64 (((c').k : Nat) : Int), Value.bool (c').f, Value.bool (c').e]) b c' := by
  unfold CnRow at *
  simp [World.setRow, Array.getElem?_modify, h]
/-- a result that is counts in a box -/
theorem cn_ret {fn : Func} {p : Tmp} (h : fn.results = #[.cell p 96]) {Q : Ending → World → Prop} (a : Act) (w : World) (g : Nat) (c : R.Cn) (hp : a.tmps.getD p undef = .pointer (some ⟨g, 0, none⟩)) (hd : a.defers = []) (hg : CnRow w g c) (hQ : Q (.returned ((.agg #[Value.int .i64 (((c).b : Nat) : Int), Value.int .i64 (((c).u : Nat) : Int), Value.int .i64 (((c).k : Nat) : Int), Value.bool (c).f, Value.bool (c).e]))) w) : bodyPost Tryd.prog fn Q .ret a w :=
  bodyPost_ret (results_cell_row h a.tmps w g 96 _ (0, 0) _ hp hg Tryd.underlying96 rfl info_counts) hd hQ
/-- .. and a string beside it -/
theorem cn_ret2 {fn : Func} {p q : Tmp} (h : fn.results = #[.cell p 96, .tmp q]) {Q : Ending → World → Prop} (a : Act) (w : World) (g : Nat) (c : R.Cn) (x : Value) (hp : a.tmps.getD p undef = .pointer (some ⟨g, 0, none⟩)) (hq : a.tmps.getD q undef = x) (hd : a.defers = []) (hg : CnRow w g c) (hQ : Q (.returned (.tuple #[(.agg #[Value.int .i64 (((c).b : Nat) : Int), Value.int .i64 (((c).u : Nat) : Int), Value.int .i64 (((c).k : Nat) : Int), Value.bool (c).f, Value.bool (c).e]), x])) w) : bodyPost Tryd.prog fn Q .ret a w := by
  have hp' : a.tmps[p]?.getD undef = .pointer (some ⟨g, 0, none⟩) := by simpa using hp
  have hq' : a.tmps[q]?.getD undef = x := by simpa using hq
  refine bodyPost_ret (v := .tuple #[(.agg #[Value.int .i64 (((c).b : Nat) : Int), Value.int .i64 (((c).u : Nat) : Int), Value.int .i64 (((c).k : Nat) : Int), Value.bool (c).f, Value.bool (c).e]), x]) ?_ hd hQ
  simp [results, h, hp', hq', asAddr, run_loadVar_row w g _ _ _ (0, 0) _ hg Tryd.underlying96 rfl info_counts]
set_option maxHeartbeats 1000000 in
set_option maxRecDepth 100000 in
theorem whole_any (c : R.Cn) (w : World) :
    Calls Tryd.prog 123 #[(.agg #[Value.int .i64 (((c).b : Nat) : Int), Value.int .i64 (((c).u : Nat) : Int), Value.int .i64 (((c).k : Nat) : Int), Value.bool (c).f, Value.bool (c).e])] w (CnIs c w) := by
  go_enter Tryd.func123, Tryd.ntmps123
  go_wp2_with fail
  exact cn_ret (by rfl) _ _ (w.heap.size + 1) c (by rfl) rfl (CnRow.new2 w _ c) ⟨rfl, ((Below.refl _ w).alloc (Nat.le_refl _) _).alloc (by simp) _⟩
def Meth (w : World) (N : Nat) (T : TypeId) (x : Value) (c : R.Cn) : Prop := ∀ n W, Below N w W → (method (n + 1) T x "glossator/rope.whole").run Tryd.prog W = .ok (123, (.agg #[Value.int .i64 (((c).b : Nat) : Int), Value.int .i64 (((c).u : Nat) : Int), Value.int .i64 (((c).k : Nat) : Int), Value.bool (c).f, Value.bool (c).e])) W
set_option maxHeartbeats 1000000 in
set_option maxRecDepth 100000 in
theorem total_any (v : Value) (t : R.T) (w : World) (h : NT w w.heap.size v t) :
    Calls Tryd.prog 61 #[v] w (CnIs (R.cn t.tx) w) := by
  by_cases ht : t = .none
  · subst ht
    obtain rfl : v = .nilIface := h
    go_enter Tryd.func61, Tryd.ntmps61
    go_wp2_with fail
    exact cn_ret (by rfl) _ _ w.heap.size (R.cn R.T.none.tx) (by rfl) rfl (by rw [R.cn_none _ rfl]; exact CnRow.new w R.Cn.none) ⟨rfl, (Below.refl _ w).alloc (Nat.le_refl _) _⟩
  · obtain ⟨T, x, rfl, hm⟩ := h.meth ht
    have HM := Lib.hid hm
    clear hm h
    generalize R.cn t.tx = c at *
    go_enter Tryd.func61, Tryd.ntmps61
    have hB := (Below.refl w.heap.size w).alloc (Nat.le_refl _) (.cells #[.int .i64 0, .int .i64 0, .int .i64 0, .bool false, .bool false] 96)
    have h1 : (method 274 T x "glossator/rope.whole").run Tryd.prog _ = _ := HM.out 273 _ hB
    go_wp2_with (refine (whole_any _ _).mono ?_)
    rintro e w1 ⟨rfl, hB1⟩
    have hr : CnRow w1 w.heap.size R.Cn.none := (hB1.block w.heap.size (by rw [World.size_alloc]; omega)).trans (CnRow.new w R.Cn.none)
    have hB2 := below_setRow (w0 := w) (B := w.heap.size) (hB.trans (hB1.mono hB.size)) (g := w.heap.size) (Nat.le_refl _)
    go_wp2_with (refine wpList_store_row rfl 96 _ _ rfl (w.heap.size) #[Value.int .i64 (((c).b : Nat) : Int), Value.int .i64 (((c).u : Nat) : Int), Value.int .i64 (((c).k : Nat) : Int), Value.bool (c).f, Value.bool (c).e] (by rfl) (by rfl) 96 _ hr info_counts rfl (one_counts _) ?_)
    exact cn_ret (by rfl) _ _ w.heap.size c (by rfl) rfl (hr.set c) ⟨rfl, hB2 _⟩
/-! ### What a node is -/
theorem ta_nil_leaf (W : World) : (Instr.typeAssert .nilIface 81 118 true).run Tryd.prog W = .ok (.tuple #[.pointer none, .bool false]) W := by kernel_rfl
theorem ta_leaf_leaf (W : World) (x : Value) : (Instr.typeAssert (.iface 118 x) 81 118 true).run Tryd.prog W = .ok (.tuple #[x, .bool true]) W := by kernel_rfl
theorem ta_leaf_inner (W : World) (x : Value) : (Instr.typeAssert (.iface 118 x) 81 137 true).run Tryd.prog W = .ok (.tuple #[.pointer none, .bool false]) W := by kernel_rfl
theorem ta_nil_inner (W : World) : (Instr.typeAssert .nilIface 81 137 true).run Tryd.prog W = .ok (.tuple #[.pointer none, .bool false]) W := by kernel_rfl
theorem ta_inner_inner (W : World) (x : Value) : (Instr.typeAssert (.iface 137 x) 81 137 true).run Tryd.prog W = .ok (.tuple #[x, .bool true]) W := by kernel_rfl
theorem ta_inner_leaf (W : World) (x : Value) : (Instr.typeAssert (.iface 137 x) 81 118 true).run Tryd.prog W = .ok (.tuple #[.pointer none, .bool false]) W := by kernel_rfl
set_option maxHeartbeats 1000000 in
set_option maxRecDepth 100000 in
theorem depth_any (v : Value) (t : R.T) (w : World) (h : NT w w.heap.size v t) :
    Calls Tryd.prog 77 #[v] w (NatIs t.dep w) := by
  cases t with
  | none =>
    obtain rfl : v = .nilIface := h
    have t1 := ta_nil_leaf
    have t2 := ta_nil_inner
    go_enter Tryd.func77, Tryd.ntmps77
    go_wp2_with fail
    go_ret
    exact ⟨rfl, Below.refl _ _⟩
  | leaf s =>
    obtain ⟨b, hb, rfl, h⟩ := h
    have t1 := fun W => ta_leaf_leaf W (.pointer (some ⟨b, 0, none⟩))
    go_enter Tryd.func77, Tryd.ntmps77
    go_wp2_with fail
    go_ret
    exact ⟨rfl, Below.refl _ _⟩
  | inner d l r =>
    obtain ⟨b, vl, vr, hb, rfl, h, -, -⟩ := h
    have c5 := h.rest.1
    have t1 := fun W => ta_inner_leaf W (.pointer (some ⟨b, 0, none⟩))
    have t2 := fun W => ta_inner_inner W (.pointer (some ⟨b, 0, none⟩))
    go_enter Tryd.func77, Tryd.ntmps77
    go_wp2_with fail
    go_ret
    exact ⟨rfl, Below.refl _ _⟩
end Go.Proofs.YtjeopabnddekgaaDoor
