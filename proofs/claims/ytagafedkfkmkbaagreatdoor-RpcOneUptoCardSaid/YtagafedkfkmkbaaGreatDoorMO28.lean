/- A message's field is found. Conditions: such as Go can hold. -/
import Derived.Test.YtagafedkfkmkbaaGreatDoorMO27
import Derived.Deep.WholeRow
import Derived.Laws.CopyOwn
import Derived.Test.YtagafedkfkmkbaaGreatDoorMO10
import Derived.Test.YtagafedkfkmkbaaGreatDoorMO25
import Derived.Shelf.Strings.FieldsFuncAny
import Derived.Test.YtagafedkfkmkbaaGreatDoorMO05
import Derived.Test.YtagafedkfkmkbaaGreatDoorProg
import Derived.Shelf.Lays
import Derived.Shelf.LaysM
import Derived.KernelRfl
namespace Go.Proofs.YtagafedkfkmkbaaGreatDoor
open Go Go.RowKit Go.Lib

theorem row_set {w : World} {g : Nat} {cur c : Array Value} {t : TypeId} (h : w.heap[g]? = some (.cells cur t (0, 0))) : (w.setRow g c).heap[g]? = some (.cells c t (0, 0)) := by
  simp [World.setRow, Array.getElem?_modify, h]
theorem info_found : (Tryz.prog.info? 126).map (·.size) = some 5 := by kernel_rfl
theorem one_found (k : Int) (x : ByteArray) (p : Option Addr) (n c : Nat) (q : Option Addr) (m e : Nat) (b : Bool) : (#[Value.int .u8 k, .string x, .slice p n c, .slice q m e, .bool b].all (·.oneCell')) = true := by
  simp [Value.oneCell']
/-- what is found: the field, in memory -/
def FoundIs (r : R5) (w : World) (e : Ending) (w' : World) : Prop := ∃ d : Fd, e = .returned (.agg #[.int .u8 d.k, .string d.x, .slice d.p d.n d.c, .slice d.q d.m d.e, .bool d.b]) ∧ d.r = r ∧ d.Ok (fun b => w.heap.size ≤ b) w' ∧ Below w.heap.size w w'
set_option maxHeartbeats 1000000 in
set_option maxRecDepth 100000 in
theorem find_any (k : Nat) (x nm : ByteArray) (v u : Value) (l f : V.T) (A : Nat → Prop) (w : World) (hl : HS w A 0 v l) (hf : HS w A 1 u f) :
    Calls Tryz.prog 147 #[.agg #[.int .u8 k, .string x, v, u], .string nm] w (FoundIs (V.res (V.got k f nm)) w) := by
  have hB := two_below w (.cells #[.int .u8 k, .string x, v, u] 25) (.cells #[.int .u8 0, .string ⟨#[]⟩, .slice none 0 0, .slice none 0 0, .bool false] 126)
  have hz := two_size w (.cells #[.int .u8 k, .string x, v, u] 25) (.cells #[.int .u8 0, .string ⟨#[]⟩, .slice none 0 0, .slice none 0 0, .bool false] 126)
  have hn := two_new w (.cells #[.int .u8 k, .string x, v, u] 25) (.cells #[.int .u8 0, .string ⟨#[]⟩, .slice none 0 0, .slice none 0 0, .bool false] 126)
  have HG := Lib.hid (fun W (h : Below w.heap.size w W) => get_any k x nm v u l f A W (hl.below h) (hf.below h))
  obtain ⟨p, c, rfl, -⟩ := hl.len
  obtain ⟨q, d, rfl, -⟩ := hf.len
  have b0 : Blk4 _ w.heap.size 25 _ _ _ _ := hn.1
  obtain ⟨x0, x1, x2, x3⟩ := b0.box
  have H0 := Lib.hid (And.intro hB (And.intro hn.2 hz))
  clear hl hf hn hB hz b0
  generalize V.got k f nm = o at *
  go_enter Tryz.func147, Tryz.ntmps147
  go_wp2_with fail
  generalize (w.alloc (.cells #[.int .u8 k, .string x, .slice p l.len c, .slice q f.len d] 25)).alloc (.cells #[.int .u8 0, .string ⟨#[]⟩, .slice none 0 0, .slice none 0 0, .bool false] 126) = W0 at *
  refine (HG.out _ H0.out.1).mono ?_
  rintro e w1 ⟨v1, u1, rfl, hl1, hf1, -, -, hB1⟩
  obtain ⟨p1, c1, rfl, -⟩ := hl1.len
  obtain ⟨q1, d1, rfl, -⟩ := hf1.len
  have hf1' := H0.out.2.1
  have hw2 := hB1.block _ (Array.getElem?_eq_some_iff.1 hf1').1
  rw [hf1'] at hw2
  have hBa := (Below.refl w1.heap.size w1).alloc (Nat.le_refl _) (.cells #[.int .u8 (V.res o).1, .string (V.res o).2.1, .slice p1 (V.res o).2.2.1.len c1, .slice q1 (V.res o).2.2.2.1.len d1] 25)
  have hw3 := (hBa.block _ (Array.getElem?_eq_some_iff.1 hw2).1).trans hw2
  have hsz : w.heap.size ≤ w1.heap.size := Nat.le_trans H0.out.1.size hB1.size
  go_wp2_with (refine wpList_store_row rfl 126 _ _ rfl (w.heap.size + 1) #[.int .u8 (V.res o).1, .string (V.res o).2.1, .slice p1 (V.res o).2.2.1.len c1, .slice q1 (V.res o).2.2.2.1.len d1, .bool (V.res o).2.2.2.2] (by rfl) (by rfl) 126 _ hw3 info_found rfl (one_found _ _ _ _ _ _ _ _ _) ?_)
  have hrow := row_set (c := #[.int .u8 (V.res o).1, .string (V.res o).2.1, .slice p1 (V.res o).2.2.1.len c1, .slice q1 (V.res o).2.2.2.1.len d1, .bool (V.res o).2.2.2.2]) hw3
  have hB2 := below_setRow (w0 := w) (B := w.heap.size) (H0.out.1.trans ((hB1.mono H0.out.1.size).trans (hBa.mono hsz))) (g := w.heap.size + 1) (by omega)
  have keep : ∀ b, Fre W0.heap.size w1 b → b < w1.heap.size → ((w1.alloc (.cells #[.int .u8 (V.res o).1, .string (V.res o).2.1, .slice p1 (V.res o).2.2.1.len c1, .slice q1 (V.res o).2.2.2.1.len d1] 25)).setRow (w.heap.size + 1) #[.int .u8 (V.res o).1, .string (V.res o).2.1, .slice p1 (V.res o).2.2.1.len c1, .slice q1 (V.res o).2.2.2.1.len d1, .bool (V.res o).2.2.2.2]).heap[b]? = w1.heap[b]? := fun b hb hlt => by
    have h1 := hb.1
    rw [H0.out.2.2] at h1
    rw [setRow_other _ _ _ _ (by omega)]
    exact hBa.block b hlt
  have hl2 := hl1.imp (A' := fun b => w.heap.size ≤ b) (fun b hb _ => Nat.le_trans H0.out.1.size hb.1) keep
  have hf2 := hf1.imp (A' := fun b => w.heap.size ≤ b) (fun b hb _ => Nat.le_trans H0.out.1.size hb.1) keep
  exact bodyPost_ret (results_cell_row Tryz.results147 _ _ (w.heap.size + 1) 126 _ (0, 0) _ (by rfl) hrow Tryz.underlying126 rfl info_found) rfl
    ⟨⟨(V.res o).1, (V.res o).2.1, p1, (V.res o).2.2.1.len, c1, q1, (V.res o).2.2.2.1.len, d1, (V.res o).2.2.2.2, (V.res o).2.2.1, (V.res o).2.2.2.1⟩, rfl, rfl, ⟨hl2, hf2⟩, hB2 _⟩
end Go.Proofs.YtagafedkfkmkbaaGreatDoor

namespace Go.Proofs.YtagafedkfkmkbaaGreatDoor
open Go Go.RowKit Go.Lib

theorem info_message : (Tryz.prog.info? 128).map (·.size) = some 30 := by kernel_rfl
theorem one_message (M : Ms) : ((#[.int .u8 M.j.k, .string M.j.x, .slice M.j.p M.j.n M.j.c, .slice M.j.q M.j.m M.j.e, .bool M.j.b, .int .u8 M.m.k, .string M.m.x, .slice M.m.p M.m.n M.m.c, .slice M.m.q M.m.m M.m.e, .bool M.m.b, .int .u8 M.p.k, .string M.p.x, .slice M.p.p M.p.n M.p.c, .slice M.p.q M.p.m M.p.e, .bool M.p.b, .int .u8 M.i.k, .string M.i.x, .slice M.i.p M.i.n M.i.c, .slice M.i.q M.i.m M.i.e, .bool M.i.b, .int .u8 M.r.k, .string M.r.x, .slice M.r.p M.r.n M.r.c, .slice M.r.q M.r.m M.r.e, .bool M.r.b, .int .u8 M.o.k, .string M.o.x, .slice M.o.p M.o.n M.o.c, .slice M.o.q M.o.m M.o.e, .bool M.o.b] : Array Value).all (·.oneCell')) = true := by
  simp [Value.oneCell']
/-- a message in a block -/
def MsBlk (w : World) (b : Nat) (M : Ms) : Prop := w.heap[b]? = some (.cells #[.int .u8 M.j.k, .string M.j.x, .slice M.j.p M.j.n M.j.c, .slice M.j.q M.j.m M.j.e, .bool M.j.b, .int .u8 M.m.k, .string M.m.x, .slice M.m.p M.m.n M.m.c, .slice M.m.q M.m.m M.m.e, .bool M.m.b, .int .u8 M.p.k, .string M.p.x, .slice M.p.p M.p.n M.p.c, .slice M.p.q M.p.m M.p.e, .bool M.p.b, .int .u8 M.i.k, .string M.i.x, .slice M.i.p M.i.n M.i.c, .slice M.i.q M.i.m M.i.e, .bool M.i.b, .int .u8 M.r.k, .string M.r.x, .slice M.r.p M.r.n M.r.c, .slice M.r.q M.r.m M.r.e, .bool M.r.b, .int .u8 M.o.k, .string M.o.x, .slice M.o.p M.o.n M.o.c, .slice M.o.q M.o.m M.o.e, .bool M.o.b] 128 (0, 0))
theorem MsBlk.lt {w : World} {b : Nat} {M : Ms} (h : MsBlk w b M) : b < w.heap.size := (Array.getElem?_eq_some_iff.1 h).1
theorem MsBlk.same {w w' : World} {b : Nat} {M : Ms} (h : MsBlk w b M) (hB : Below w.heap.size w w') : MsBlk w' b M := (hB.block b h.lt).trans h
theorem MsBlk.c {w : World} {b : Nat} {M : Ms} (h : MsBlk w b M) (j : Nat) (v : Value) (hv : (#[.int .u8 M.j.k, .string M.j.x, .slice M.j.p M.j.n M.j.c, .slice M.j.q M.j.m M.j.e, .bool M.j.b, .int .u8 M.m.k, .string M.m.x, .slice M.m.p M.m.n M.m.c, .slice M.m.q M.m.m M.m.e, .bool M.m.b, .int .u8 M.p.k, .string M.p.x, .slice M.p.p M.p.n M.p.c, .slice M.p.q M.p.m M.p.e, .bool M.p.b, .int .u8 M.i.k, .string M.i.x, .slice M.i.p M.i.n M.i.c, .slice M.i.q M.i.m M.i.e, .bool M.i.b, .int .u8 M.r.k, .string M.r.x, .slice M.r.p M.r.n M.r.c, .slice M.r.q M.r.m M.r.e, .bool M.r.b, .int .u8 M.o.k, .string M.o.x, .slice M.o.p M.o.n M.o.c, .slice M.o.q M.o.m M.o.e, .bool M.o.b] : Array Value)[j]? = some v) : w.cell? ⟨b, j, none⟩ = some v := (cell_of_row w b j _ _ (0, 0) h).trans hv
/-- the message is handed back -/
def MsgOf (s : Six) (w : World) (e : Ending) (w' : World) : Prop := ∃ M : Ms, e = .returned (.agg #[.int .u8 M.j.k, .string M.j.x, .slice M.j.p M.j.n M.j.c, .slice M.j.q M.j.m M.j.e, .bool M.j.b, .int .u8 M.m.k, .string M.m.x, .slice M.m.p M.m.n M.m.c, .slice M.m.q M.m.m M.m.e, .bool M.m.b, .int .u8 M.p.k, .string M.p.x, .slice M.p.p M.p.n M.p.c, .slice M.p.q M.p.m M.p.e, .bool M.p.b, .int .u8 M.i.k, .string M.i.x, .slice M.i.p M.i.n M.i.c, .slice M.i.q M.i.m M.i.e, .bool M.i.b, .int .u8 M.r.k, .string M.r.x, .slice M.r.p M.r.n M.r.c, .slice M.r.q M.r.m M.r.e, .bool M.r.b, .int .u8 M.o.k, .string M.o.x, .slice M.o.p M.o.n M.o.c, .slice M.o.q M.o.m M.o.e, .bool M.o.b]) ∧ M.six = s ∧ M.Ok (fun b => w.heap.size + 2 ≤ b) w' ∧ Below w.heap.size w w'
structure MoSt (w : World) (k : Nat) (x : ByteArray) (v u : Value) (W : World) : Prop where
  below : Below w.heap.size w W
  b0 : Blk4 W w.heap.size 25 (.int .u8 k) (.string x) v u
  b1 : W.heap[w.heap.size + 1]? = some (.cells #[.int .u8 0, .string ⟨#[]⟩, .slice none 0 0, .slice none 0 0, .bool false, .int .u8 0, .string ⟨#[]⟩, .slice none 0 0, .slice none 0 0, .bool false, .int .u8 0, .string ⟨#[]⟩, .slice none 0 0, .slice none 0 0, .bool false, .int .u8 0, .string ⟨#[]⟩, .slice none 0 0, .slice none 0 0, .bool false, .int .u8 0, .string ⟨#[]⟩, .slice none 0 0, .slice none 0 0, .bool false, .int .u8 0, .string ⟨#[]⟩, .slice none 0 0, .slice none 0 0, .bool false] 128 (0, 0))
theorem MoSt.on {w : World} {k : Nat} {x : ByteArray} {v u : Value} {W W' : World} (h : MoSt w k x v u W) (hB : Below W.heap.size W W') : MoSt w k x v u W' :=
  ⟨h.below.trans (hB.mono h.below.size), h.b0.same (hB.block _ h.b0.lt), (hB.block _ (Array.getElem?_eq_some_iff.1 h.b1).1).trans h.b1⟩
theorem MoSt.lt2 {w : World} {k : Nat} {x : ByteArray} {v u : Value} {W : World} (h : MoSt w k x v u W) : w.heap.size + 2 ≤ W.heap.size := (Array.getElem?_eq_some_iff.1 h.b1).1
set_option maxHeartbeats 2000000 in
set_option maxRecDepth 100000 in
theorem messageOf_any (k : Nat) (x : ByteArray) (v u : Value) (l f : V.T) (A : Nat → Prop) (w : World) (hl : HS w A 0 v l) (hf : HS w A 1 u f) :
    Calls Tryz.prog 81 #[.agg #[.int .u8 k, .string x, v, u]] w (MsgOf (sixOf k f) w) := by
  have HF := Lib.hid (fun nm W (h : Below w.heap.size w W) => find_any k x nm v u l f A W (hl.below h) (hf.below h))
  have H0 := Lib.hid (show MoSt w k x v u ((w.alloc (.cells #[.int .u8 k, .string x, v, u] 25)).alloc (.cells #[.int .u8 0, .string ⟨#[]⟩, .slice none 0 0, .slice none 0 0, .bool false, .int .u8 0, .string ⟨#[]⟩, .slice none 0 0, .slice none 0 0, .bool false, .int .u8 0, .string ⟨#[]⟩, .slice none 0 0, .slice none 0 0, .bool false, .int .u8 0, .string ⟨#[]⟩, .slice none 0 0, .slice none 0 0, .bool false, .int .u8 0, .string ⟨#[]⟩, .slice none 0 0, .slice none 0 0, .bool false, .int .u8 0, .string ⟨#[]⟩, .slice none 0 0, .slice none 0 0, .bool false] 128)) from ⟨two_below _ _ _, (two_new _ _ _).1, (two_new _ _ _).2⟩)
  obtain ⟨p, c, rfl, -⟩ := hl.len
  obtain ⟨q, d, rfl, -⟩ := hf.len
  clear hl hf
  unfold sixOf
  go_enter Tryz.func81, Tryz.ntmps81
  go_wp2_with fail
  generalize (w.alloc (.cells #[.int .u8 k, .string x, .slice p l.len c, .slice q f.len d] 25)).alloc (.cells #[.int .u8 0, .string ⟨#[]⟩, .slice none 0 0, .slice none 0 0, .bool false, .int .u8 0, .string ⟨#[]⟩, .slice none 0 0, .slice none 0 0, .bool false, .int .u8 0, .string ⟨#[]⟩, .slice none 0 0, .slice none 0 0, .bool false, .int .u8 0, .string ⟨#[]⟩, .slice none 0 0, .slice none 0 0, .bool false, .int .u8 0, .string ⟨#[]⟩, .slice none 0 0, .slice none 0 0, .bool false, .int .u8 0, .string ⟨#[]⟩, .slice none 0 0, .slice none 0 0, .bool false] 128) = W0 at *
  have HD := Lib.hid (H0.out.on (Below.refl W0.heap.size W0).drew)
  have HS0 := Lib.hid HD.out.b0.box
  refine wp_region_late (S := fun X => Box4 X w.heap.size (.int .u8 k) (.string x) (.slice p l.len c) (.slice q f.len d)) (zs := [12, 13]) (by kernel_rfl) ?_
  refine wpAnyL_take (v := ?_) 0 rfl (by kernel_rfl) (by kernel_rfl) (by kernel_rfl) (fun _ _ _ h => h) (by kernel_rfl) (by kernel_rfl) HS0.out (by rfl) (fun X hX => ?_) ?_
  rotate_left
  · obtain ⟨s0, s1, s2, s3⟩ := hX
    go_simp
    try with_reducible rfl
  try simp only [Act.put, List.setIfInBounds_toArray, List.set_cons_zero, List.set_cons_succ]
  refine wpAnyL_take (v := ?_) 2 rfl (by kernel_rfl) (by kernel_rfl) (by kernel_rfl) (fun _ _ _ h => h) (by kernel_rfl) (by kernel_rfl) HS0.out (by rfl) (fun X hX => ?_) ?_
  rotate_left
  · obtain ⟨s0, s1, s2, s3⟩ := hX
    go_simp
    try with_reducible rfl
  try simp only [Act.put, List.setIfInBounds_toArray, List.set_cons_zero, List.set_cons_succ]
  refine wpAnyL_take (v := ?_) 4 rfl (by kernel_rfl) (by kernel_rfl) (by kernel_rfl) (fun _ _ _ h => h) (by kernel_rfl) (by kernel_rfl) HS0.out (by rfl) (fun X hX => ?_) ?_
  rotate_left
  · obtain ⟨s0, s1, s2, s3⟩ := hX
    go_simp
    try with_reducible rfl
  try simp only [Act.put, List.setIfInBounds_toArray, List.set_cons_zero, List.set_cons_succ]
  refine wpAnyL_take (v := ?_) 6 rfl (by kernel_rfl) (by kernel_rfl) (by kernel_rfl) (fun _ _ _ h => h) (by kernel_rfl) (by kernel_rfl) HS0.out (by rfl) (fun X hX => ?_) ?_
  rotate_left
  · obtain ⟨s0, s1, s2, s3⟩ := hX
    go_simp
    try with_reducible rfl
  try simp only [Act.put, List.setIfInBounds_toArray, List.set_cons_zero, List.set_cons_succ]
  refine wpAnyL_take (v := ?_) 8 rfl (by kernel_rfl) (by kernel_rfl) (by kernel_rfl) (fun _ _ _ h => h) (by kernel_rfl) (by kernel_rfl) HS0.out (by rfl) (fun X hX => ?_) ?_
  rotate_left
  · obtain ⟨s0, s1, s2, s3⟩ := hX
    go_simp
    try with_reducible rfl
  try simp only [Act.put, List.setIfInBounds_toArray, List.set_cons_zero, List.set_cons_succ]
  refine wpAnyL_take (v := ?_) 10 rfl (by kernel_rfl) (by kernel_rfl) (by kernel_rfl) (fun _ _ _ h => h) (by kernel_rfl) (by kernel_rfl) HS0.out (by rfl) (fun X hX => ?_) ?_
  rotate_left
  · obtain ⟨s0, s1, s2, s3⟩ := hX
    go_simp
    try with_reducible rfl
  try simp only [Act.put, List.setIfInBounds_toArray, List.set_cons_zero, List.set_cons_succ]
  have G0 := HD
  refine wpAnyL_op 1 (by kernel_rfl) rfl (fun K hK => ?_)
  go_simp
  go_at_call 147
  (with_reducible refine (HF.out ⟨#[106, 115, 111, 110, 114, 112, 99]⟩ _ G0.out.below).mono ?_)
  rintro e W1 ⟨d1, rfl, hr1, ok1, hB⟩
  have ok1 := ok1.imp (A' := fun b => w.heap.size + 2 ≤ b) (fun b hb _ => Nat.le_trans G0.out.lt2 hb) (fun _ _ _ => rfl)
  have G1 := Lib.hid (G0.out.on hB)
  refine hK.out _ _ (fun _ => G1.out.b0.box) ?_
  try simp only [Act.put, List.setIfInBounds_toArray, List.set_cons_zero, List.set_cons_succ]
  clear hK K hB G0
  refine wpAnyL_op 3 (by kernel_rfl) rfl (fun K hK => ?_)
  go_simp
  go_at_call 147
  (with_reducible refine (HF.out ⟨#[109, 101, 116, 104, 111, 100]⟩ _ G1.out.below).mono ?_)
  rintro e W2 ⟨d2, rfl, hr2, ok2, hB⟩
  have ok2 := ok2.imp (A' := fun b => w.heap.size + 2 ≤ b) (fun b hb _ => Nat.le_trans G1.out.lt2 hb) (fun _ _ _ => rfl)
  have G2 := Lib.hid (G1.out.on hB)
  have ok1 := ok1.below hB
  refine hK.out _ _ (fun _ => G2.out.b0.box) ?_
  try simp only [Act.put, List.setIfInBounds_toArray, List.set_cons_zero, List.set_cons_succ]
  clear hK K hB G1
  refine wpAnyL_op 5 (by kernel_rfl) rfl (fun K hK => ?_)
  go_simp
  go_at_call 147
  (with_reducible refine (HF.out ⟨#[112, 97, 114, 97, 109, 115]⟩ _ G2.out.below).mono ?_)
  rintro e W3 ⟨d3, rfl, hr3, ok3, hB⟩
  have ok3 := ok3.imp (A' := fun b => w.heap.size + 2 ≤ b) (fun b hb _ => Nat.le_trans G2.out.lt2 hb) (fun _ _ _ => rfl)
  have G3 := Lib.hid (G2.out.on hB)
  have ok1 := ok1.below hB
  have ok2 := ok2.below hB
  refine hK.out _ _ (fun _ => G3.out.b0.box) ?_
  try simp only [Act.put, List.setIfInBounds_toArray, List.set_cons_zero, List.set_cons_succ]
  clear hK K hB G2
  refine wpAnyL_op 7 (by kernel_rfl) rfl (fun K hK => ?_)
  go_simp
  go_at_call 147
  (with_reducible refine (HF.out ⟨#[105, 100]⟩ _ G3.out.below).mono ?_)
  rintro e W4 ⟨d4, rfl, hr4, ok4, hB⟩
  have ok4 := ok4.imp (A' := fun b => w.heap.size + 2 ≤ b) (fun b hb _ => Nat.le_trans G3.out.lt2 hb) (fun _ _ _ => rfl)
  have G4 := Lib.hid (G3.out.on hB)
  have ok1 := ok1.below hB
  have ok2 := ok2.below hB
  have ok3 := ok3.below hB
  refine hK.out _ _ (fun _ => G4.out.b0.box) ?_
  try simp only [Act.put, List.setIfInBounds_toArray, List.set_cons_zero, List.set_cons_succ]
  clear hK K hB G3
  refine wpAnyL_op 9 (by kernel_rfl) rfl (fun K hK => ?_)
  go_simp
  go_at_call 147
  (with_reducible refine (HF.out ⟨#[114, 101, 115, 117, 108, 116]⟩ _ G4.out.below).mono ?_)
  rintro e W5 ⟨d5, rfl, hr5, ok5, hB⟩
  have ok5 := ok5.imp (A' := fun b => w.heap.size + 2 ≤ b) (fun b hb _ => Nat.le_trans G4.out.lt2 hb) (fun _ _ _ => rfl)
  have G5 := Lib.hid (G4.out.on hB)
  have ok1 := ok1.below hB
  have ok2 := ok2.below hB
  have ok3 := ok3.below hB
  have ok4 := ok4.below hB
  refine hK.out _ _ (fun _ => G5.out.b0.box) ?_
  try simp only [Act.put, List.setIfInBounds_toArray, List.set_cons_zero, List.set_cons_succ]
  clear hK K hB G4
  refine wpAnyL_op 11 (by kernel_rfl) rfl (fun K hK => ?_)
  go_simp
  go_at_call 147
  (with_reducible refine (HF.out ⟨#[101, 114, 114, 111, 114]⟩ _ G5.out.below).mono ?_)
  rintro e W6 ⟨d6, rfl, hr6, ok6, hB⟩
  have ok6 := ok6.imp (A' := fun b => w.heap.size + 2 ≤ b) (fun b hb _ => Nat.le_trans G5.out.lt2 hb) (fun _ _ _ => rfl)
  have G6 := Lib.hid (G5.out.on hB)
  have ok1 := ok1.below hB
  have ok2 := ok2.below hB
  have ok3 := ok3.below hB
  have ok4 := ok4.below hB
  have ok5 := ok5.below hB
  refine hK.out _ _ (fun _ => G6.out.b0.box) ?_
  try simp only [Act.put, List.setIfInBounds_toArray, List.set_cons_zero, List.set_cons_succ]
  clear hK K hB G5
  have hb1 := G6.out.b1
  refine wpAnyL_op 12 (by kernel_rfl) rfl (fun K hK => ?_)
  go_simp
  refine hK.out _ _ (fun e => absurd e (by decide)) ?_
  try simp only [Act.put, List.setIfInBounds_toArray, List.set_cons_zero, List.set_cons_succ]
  clear hK K
  have hb2 : W6.heap[w.heap.size + 1]? = _ := hb1
  refine wpAnyL_op 13 (by kernel_rfl) rfl (fun K hK => ?_)
  rw [if_pos (by rfl)]
  refine wp_store_row 128 _ _ rfl (w.heap.size + 1) #[.int .u8 d1.k, .string d1.x, .slice d1.p d1.n d1.c, .slice d1.q d1.m d1.e, .bool d1.b, .int .u8 d2.k, .string d2.x, .slice d2.p d2.n d2.c, .slice d2.q d2.m d2.e, .bool d2.b, .int .u8 d3.k, .string d3.x, .slice d3.p d3.n d3.c, .slice d3.q d3.m d3.e, .bool d3.b, .int .u8 d4.k, .string d4.x, .slice d4.p d4.n d4.c, .slice d4.q d4.m d4.e, .bool d4.b, .int .u8 d5.k, .string d5.x, .slice d5.p d5.n d5.c, .slice d5.q d5.m d5.e, .bool d5.b, .int .u8 d6.k, .string d6.x, .slice d6.p d6.n d6.c, .slice d6.q d6.m d6.e, .bool d6.b] (by rfl) (by rfl) 128 _ hb2 info_message rfl (one_message ⟨d1, d2, d3, d4, d5, d6⟩) ?_
  have hrow := row_set (c := #[.int .u8 d1.k, .string d1.x, .slice d1.p d1.n d1.c, .slice d1.q d1.m d1.e, .bool d1.b, .int .u8 d2.k, .string d2.x, .slice d2.p d2.n d2.c, .slice d2.q d2.m d2.e, .bool d2.b, .int .u8 d3.k, .string d3.x, .slice d3.p d3.n d3.c, .slice d3.q d3.m d3.e, .bool d3.b, .int .u8 d4.k, .string d4.x, .slice d4.p d4.n d4.c, .slice d4.q d4.m d4.e, .bool d4.b, .int .u8 d5.k, .string d5.x, .slice d5.p d5.n d5.c, .slice d5.q d5.m d5.e, .bool d5.b, .int .u8 d6.k, .string d6.x, .slice d6.p d6.n d6.c, .slice d6.q d6.m d6.e, .bool d6.b]) hb2
  have hB2 := below_setRow (w0 := w) (B := w.heap.size) G6.out.below (g := w.heap.size + 1) (by omega) #[.int .u8 d1.k, .string d1.x, .slice d1.p d1.n d1.c, .slice d1.q d1.m d1.e, .bool d1.b, .int .u8 d2.k, .string d2.x, .slice d2.p d2.n d2.c, .slice d2.q d2.m d2.e, .bool d2.b, .int .u8 d3.k, .string d3.x, .slice d3.p d3.n d3.c, .slice d3.q d3.m d3.e, .bool d3.b, .int .u8 d4.k, .string d4.x, .slice d4.p d4.n d4.c, .slice d4.q d4.m d4.e, .bool d4.b, .int .u8 d5.k, .string d5.x, .slice d5.p d5.n d5.c, .slice d5.q d5.m d5.e, .bool d5.b, .int .u8 d6.k, .string d6.x, .slice d6.p d6.n d6.c, .slice d6.q d6.m d6.e, .bool d6.b]
  refine hK.out _ _ (fun e => absurd e (by decide)) ?_
  clear hK K
  try simp only [Act.put, List.setIfInBounds_toArray, List.set_cons_zero, List.set_cons_succ]
  refine wpAnyL_end (by kernel_rfl) ?_
  go_wp2_with fail
  have hg : ¬ w.heap.size + 2 ≤ w.heap.size + 1 := by omega
  exact bodyPost_ret (results_cell_row Tryz.results81 _ _ (w.heap.size + 1) 128 _ (0, 0) _ (by rfl) hrow Tryz.underlying128 rfl info_message) rfl
    ⟨⟨d1, d2, d3, d4, d5, d6⟩, rfl, (by unfold nmJ nmM nmP nmI nmR nmE; rw [← hr1, ← hr2, ← hr3, ← hr4, ← hr5, ← hr6]; rfl), ⟨ok1.set hg _, ok2.set hg _, ok3.set hg _, ok4.set hg _, ok5.set hg _, ok6.set hg _⟩, hB2⟩
end Go.Proofs.YtagafedkfkmkbaaGreatDoor

namespace Go.Proofs
open Go Go.RowKit Go.Shelf Go.Lib

namespace YtagafedkfkmkbaaGreatDoor
set_option maxHeartbeats 400000 in
set_option maxRecDepth 100000 in
theorem utfFix_valid (s : ByteArray) (w : World) (hs : s.size ≤ 1000000000000) (hT : Tabs w) (h : U.valid s = true) :
    Calls Tryz.prog 48 #[.string s] w (StrIs (U.fixS s) w) := by
  have hc := utfValid_any s w hs hT
  rw [U.fixS_valid s h]
  rw [h] at hc
  clear h
  go_enter Tryz.func48, Tryz.ntmps48
  go_wp2_with fail
  refine hc.mono ?_
  rintro e w' ⟨rfl, hb⟩
  go_wp2_with fail
  go_ret
  exact ⟨rfl, hb⟩

set_option maxHeartbeats 1000000 in
set_option maxRecDepth 100000 in
theorem utfFix_broken (s : ByteArray) (w : World) (hs : s.size ≤ 1000000000000) (hT : Tabs w) (h : U.valid s = false) :
    Calls Tryz.prog 48 #[.string s] w (StrIs (U.fixS s) w) := by
  have hc := utfValid_any s w hs hT
  rw [h] at hc
  clear h
  obtain ⟨i0, hi, hz0, hz1, hz2⟩ := info_parts infoByte
  go_enter Tryz.func48, Tryz.ntmps48
  go_wp2_with fail
  refine hc.mono ?_
  rintro e w1 ⟨rfl, hb⟩
  go_wp2_with (refine wpList_make_own _ rfl _ _ 110 rfl w.heap.size 5 i0 (.int .u8 0) 1 Tryz.underlying110 hi hz0 hz1 .i64 .i64 _ s.size rfl rfl rfl ?c1 ?c2 hb.size ?_)
  case c1 => rw [hz2]; omega
  case c2 => unfold maxLen; omega
  intro w2 hown2 hgrow2
  have hb2 := hb.grown hgrow2 hb.size (fun k hk => by cases hk)
  clear hb hgrow2 hc
  go_wp2_with fail
  go_loopw [3] (fun v wr => ∃ (f pos : Nat) (l : List UInt8), Hid (wr.heap[w2.heap.size]? = some (.stringIter s pos)) ∧ pos ≤ s.size ∧ l.length ≤ 3 * pos ∧ wr.ownsRow w.heap.size 5 1 v l.length (U.cellsOf l) ∧ Hid (l ++ U.fixFrom s f pos = U.fixL s ∧ s.size ≤ pos + f) ∧ Below w.heap.size w wr) (fun _ wr => s.size - wr.iterPos w2.heap.size)
  case atStart => exact ⟨s.size, 0, [], Lib.hid (World.iter_heap _ _ _), by omega, by simp, hown2.alloc _, Lib.hid ⟨rfl, by omega⟩, hb2.alloc hb2.size _⟩
  case round =>
    obtain ⟨f, pos, l, HI, hp, hl, hown, HU, hbl⟩ := hrel
    have HM := Lib.hid (iterPos_of HI.out)
    by_cases hlt : pos < s.size
    · have hw1 := U.wd_pos hlt
      have hw2 := U.wd_le hlt
      obtain ⟨f', rfl⟩ : ∃ f', f = f' + 1 := ⟨f - 1, by have := HU.out.2; omega⟩
      have HS := Lib.hid (U.fixFrom_step s f' pos hlt)
      have hpl := (U.piece_le hlt).1
      have hnx : ∀ ty, (Instr.next (.pointer (some ⟨w2.heap.size, 0, none⟩)) true ty).run Tryz.prog wr = .ok (.tuple #[.bool true, .int .i64 pos, .int .i32 (U.ch s pos)]) (wr.iterAt w2.heap.size s (pos + U.wd s pos)) := fun ty => Lib.run_next_any_at wr _ s pos ty HI.out hlt
      have hI1 := Lib.hid (Lib.iterAt_heap wr _ s pos (pos + U.wd s pos) HI.out)
      have hown1 := own_iterAt hown HI.out (pos + U.wd s pos)
      have hbl1 := Lib.below_iterAt hbl hb2.size s (pos + U.wd s pos)
      have hc := append_any w.heap.size u3 l s pos hlt _ hown1 (by omega) hbl1.size
      generalize U.wd s pos = d at *
      generalize U.ch s pos = c at *
      clear hown hbl
      go_wp2_with fail
      refine hc.mono ?_
      rintro e w3 ⟨v', rfl, hown3, o, hgrow⟩
      have hI3 := Lib.hid (iter_grown hI1.out hgrow (own_ne_iter hown1 hI1.out))
      have hb3 := (hbl1.alloc hbl1.size o).grown hgrow (hbl1.alloc hbl1.size o).size (fun k hk => (hown1.lt k hk).1)
      have HM3 := Lib.hid (iterPos_of hI3.out)
      clear hbl1 hown1 hgrow hc
      go_wp2_with fail
      go_roundw
      case rel =>
        refine ⟨f', pos + d, l ++ U.piece s pos, hI3, by omega, by rw [List.length_append]; omega, hown3, Lib.hid ⟨?_, ?_⟩, hb3⟩
        · rw [List.append_assoc, ← HS.out]; exact HU.out.1
        · have := HU.out.2; omega
      case measure =>
        rw [HM3.out, HM.out]
        omega
    · have hnx : ∀ ty, (Instr.next (.pointer (some ⟨w2.heap.size, 0, none⟩)) true ty).run Tryz.prog wr = _ := fun ty => Lib.run_next_end_at wr _ s pos ty HI.out hlt
      have hconv := conv_own hown
      have HE := Lib.hid (U.fixFrom_end s f pos hlt)
      clear hown
      go_wp2_with fail
      go_ret
      refine ⟨?_, hbl⟩
      have := HU.out.1
      rw [HE.out, List.append_nil] at this
      unfold U.fixS
      rw [← this]
      rfl
theorem utfFix_any (s : ByteArray) (w : World) (hs : s.size ≤ 1000000000000) (hT : Tabs w) :
    Calls Tryz.prog 48 #[.string s] w (StrIs (U.fixS s) w) := by
  cases h : U.valid s
  · exact utfFix_broken s w hs hT h
  · exact utfFix_valid s w hs hT h
end YtagafedkfkmkbaaGreatDoor
end Go.Proofs

namespace Go.Proofs
open Go Go.RowKit Go.Shelf Go.Lib

namespace YtagafedkfkmkbaaGreatDoor
def TextIs (x : ByteArray) (w : World) (e : Ending) (w' : World) : Prop := e = .returned (.agg #[.int .u8 4, .string x, .slice none 0 0, .slice none 0 0]) ∧ Below w.heap.size w w'
set_option maxHeartbeats 1000000 in
set_option maxRecDepth 100000 in
theorem text4_any (s : ByteArray) (w : World) (hs : s.size ≤ 1000000000000) (hz : (U.fixS s).size ≤ 140737488355328) (hT : Tabs w) :
    Calls Tryz.prog 121 #[.string s] w (TextIs (U.fixS s) w) := by
  have hfix := fun W (hW : Tabs W) => utfFix_any s W hs hW
  have hclone := fun W => strClone_any (U.fixS s) W hz
  generalize U.fixS s = F at *
  have HT := Lib.hid hT
  clear hT
  have hB0 := (Below.refl w.heap.size w).alloc (Nat.le_refl _) (.cells #[.int .u8 0, .string ⟨#[]⟩, .slice none 0 0, .slice none 0 0] 25)
  have b0 : Blk4 (w.alloc (.cells #[.int .u8 0, .string ⟨#[]⟩, .slice none 0 0, .slice none 0 0] 25)) w.heap.size 25 _ _ _ _ := heap_alloc_new _ _
  go_enter Tryz.func121, Tryz.ntmps121
  go_wp2_with fail
  refine (hfix _ (tabs_below HT.out hB0)).mono ?_
  rintro e w1 ⟨rfl, hB1⟩
  have b1 := b0.same (hB1.block _ b0.lt)
  have hB2 := hB0.trans (hB1.mono hB0.size)
  clear b0 hB0 hB1 hfix
  go_wp2_with fail
  refine (hclone _).mono ?_
  rintro e w3 ⟨rfl, hB3⟩
  have b3 := b1.same (hB3.block _ b1.lt)
  have hB4 := hB2.trans (hB3.mono hB2.size)
  obtain ⟨x0, x1, x2, x3⟩ := b3.box
  have f0 := b3.free 0
  have f1 := b3.free 1
  have f2 := b3.free 2
  have f3 := b3.free 3
  have HB := Lib.hid (And.intro b3 hB4)
  clear b1 b3 hB2 hB3 hB4 hclone
  go_wp2_with fail
  obtain ⟨g1, g2, g3⟩ := HB.out.1.all (.int .u8 4) (.string F) (.slice none 0 0) (.slice none 0 0)
  have hfin := HB.out.2.trans (g3 w.heap.size (Nat.le_refl _))
  clear x0 x1 x2 x3 f0 f1 f2 f3
  generalize (((w3.setCell ⟨w.heap.size, 0, none⟩ (.int .u8 4)).setCell ⟨w.heap.size, 1, none⟩ (.string F)).setCell ⟨w.heap.size, 2, none⟩ (.slice none 0 0)).setCell ⟨w.heap.size, 3, none⟩ (.slice none 0 0) = W' at *
  obtain ⟨x0, x1, x2, x3⟩ := g1.box
  refine bodyPost_ret (v := .agg #[.int .u8 4, .string F, .slice none 0 0, .slice none 0 0]) (by simp [results, Tryz.results121, go_sem, x0, x1, x2, x3]) rfl ?_
  exact ⟨rfl, hfin⟩
end YtagafedkfkmkbaaGreatDoor
end Go.Proofs

namespace Go.Proofs
open Go.Shelf

def Tryz.laysItoa_ren : Go.Shelf.Ren := ⟨fun | 129 => 266 | 171 => 146 | 243 => 213 | 246 => 237 | 283 => 250 | 284 => 251 | 285 => 252 | 286 => 253 | 317 => 265 | 318 => 267 | 319 => 268 | 320 => 269 | 337 => 280 | 338 => 281 | n => n, fun | 37 => 110 | 46 => 216 | 51 => 235 | 53 => 257 | 171 => 296 | 173 => 299 | 212 => 311 | 213 => 312 | 232 => 325 | 233 => 326 | n => n, fun | 17 => 4 | 18 => 6 | 19 => 7 | n => n⟩
theorem Tryz.laysItoa : LaysM.n171 Tryz.prog Tryz.laysItoa_ren := {
  mixed := by kernel_rfl,
  f129 := Tryz.func266.trans (congrArg some (by kernel_rfl)),
  f171 := Tryz.func146.trans (congrArg some (by kernel_rfl)),
  f243 := Tryz.func213.trans (congrArg some (by kernel_rfl)),
  f246 := Tryz.func237.trans (congrArg some (by kernel_rfl)),
  f283 := Tryz.func250.trans (congrArg some (by kernel_rfl)),
  f284 := Tryz.func251.trans (congrArg some (by kernel_rfl)),
  f285 := Tryz.func252.trans (congrArg some (by kernel_rfl)),
  f286 := Tryz.func253.trans (congrArg some (by kernel_rfl)),
  f317 := Tryz.func265.trans (congrArg some (by kernel_rfl)),
  f318 := Tryz.func267.trans (congrArg some (by kernel_rfl)),
  f319 := Tryz.func268.trans (congrArg some (by kernel_rfl)),
  f320 := Tryz.func269.trans (congrArg some (by kernel_rfl)),
  f337 := Tryz.func280.trans (congrArg some (by kernel_rfl)),
  f338 := Tryz.func281.trans (congrArg some (by kernel_rfl)),
  t0 := Tryz.underlying0,
  a0 := Tryz.isAgg0,
  z0 := Tryz.sizeOf0,
  v0 := Tryz.zeroValue0,
  t2 := Tryz.underlying2,
  a2 := Tryz.isAgg2,
  z2 := Tryz.sizeOf2,
  v2 := Tryz.zeroValue2,
  t3 := Tryz.underlying3,
  a3 := Tryz.isAgg3,
  z3 := Tryz.sizeOf3,
  v3 := Tryz.zeroValue3,
  t4 := Tryz.underlying4,
  a4 := Tryz.isAgg4,
  z4 := Tryz.sizeOf4,
  v4 := Tryz.zeroValue4,
  t5 := Tryz.underlying5,
  a5 := Tryz.isAgg5,
  z5 := Tryz.sizeOf5,
  v5 := Tryz.zeroValue5,
  t9 := Tryz.underlying9,
  a9 := Tryz.isAgg9,
  z9 := Tryz.sizeOf9,
  v9 := Tryz.zeroValue9,
  t20 := Tryz.underlying20,
  a20 := Tryz.isAgg20,
  z20 := Tryz.sizeOf20,
  v20 := Tryz.zeroValue20,
  t37 := Tryz.underlying110,
  a37 := Tryz.isAgg110,
  z37 := Tryz.sizeOf110,
  v37 := Tryz.zeroValue110,
  t46 := Tryz.underlying216,
  a46 := Tryz.isAgg216,
  z46 := Tryz.sizeOf216,
  v46 := Tryz.zeroValue216,
  t51 := Tryz.underlying235,
  a51 := Tryz.isAgg235,
  z51 := Tryz.sizeOf235,
  v51 := Tryz.zeroValue235,
  t53 := Tryz.underlying257,
  a53 := Tryz.isAgg257,
  z53 := Tryz.sizeOf257,
  v53 := Tryz.zeroValue257,
  t171 := Tryz.underlying296,
  a171 := Tryz.isAgg296,
  z171 := Tryz.sizeOf296,
  v171 := Tryz.zeroValue296,
  t173 := Tryz.underlying299,
  a173 := Tryz.isAgg299,
  z173 := Tryz.sizeOf299,
  v173 := Tryz.zeroValue299,
  t212 := Tryz.underlying311,
  a212 := Tryz.isAgg311,
  z212 := Tryz.sizeOf311,
  v212 := Tryz.zeroValue311,
  t213 := Tryz.underlying312,
  a213 := Tryz.isAgg312,
  z213 := Tryz.sizeOf312,
  t232 := Tryz.underlying325,
  a232 := Tryz.isAgg325,
  z232 := Tryz.sizeOf325,
  v232 := Tryz.zeroValue325,
  t233 := Tryz.underlying326,
  a233 := Tryz.isAgg326,
  z233 := Tryz.sizeOf326,
  v233 := Tryz.zeroValue326,
  g17 := by kernel_rfl,
  g18 := by kernel_rfl,
  g19 := by kernel_rfl,
  i0 := by kernel_rfl,
  i2 := by kernel_rfl,
  i3 := by kernel_rfl,
  i4 := by kernel_rfl,
  i5 := by kernel_rfl,
  i9 := by kernel_rfl,
  i20 := by kernel_rfl,
  i37 := by kernel_rfl,
  i46 := by kernel_rfl,
  i51 := by kernel_rfl,
  i53 := by kernel_rfl,
  i171 := by kernel_rfl,
  i173 := by kernel_rfl,
  i212 := by kernel_rfl,
  i232 := by kernel_rfl,
  i233 := by kernel_rfl,
  m17 := by kernel_rfl,
  m18 := by kernel_rfl,
  m19 := by kernel_rfl }
end Go.Proofs
