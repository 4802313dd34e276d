/- A message is read. Conditions: such as Go can hold; a method that can be made valid; the library's tables; strconv.ErrRange holds an error. -/
import Derived.Test.YtagafedkfkmkbaaGreatDoorMO32
namespace Go.Proofs.YtagafedkfkmkbaaGreatDoor
open Go Go.RowKit Go.Lib

/-- what a message of a kind is asked: n functions -/
def ReqIs (n : Nat) (F : Nat → FuncId) (w : World) (e : Ending) (w' : World) : Prop := ∃ b, e = .returned (.slice (some ⟨b, 0, none⟩) n n) ∧ b < w'.heap.size ∧ (∀ j, j < n → w'.cell? ⟨b, j, none⟩ = some (.func (.func (F j)) #[] #[])) ∧ Below w.heap.size w w'
def req1 (j : Nat) : FuncId := if j = 0 then 148 else if j = 1 then 149 else if j = 2 then 150 else 151
def req3 (j : Nat) : FuncId := if j = 0 then 148 else if j = 1 then 152 else if j = 2 then 153 else 154
set_option maxHeartbeats 1000000 in
set_option maxRecDepth 100000 in
theorem requirements1_any (w : World) : Calls Tryz.prog 82 #[.int .u8 1] w (ReqIs 4 req1 w) := by
  go_enter Tryz.func82, Tryz.ntmps82
  go_wp2_with fail
  go_ret
  refine ⟨w.heap.size, rfl, by simp, fun j hj => ?_, (Below.refl w.heap.size w).alloc (Nat.le_refl _) _⟩
  have hj' : j = 0 ∨ j = 1 ∨ j = 2 ∨ j = 3 := by omega
  rcases hj' with rfl | rfl | rfl | rfl <;> exact (cell_of_row _ _ _ _ _ (0, 0) (heap_alloc_new _ _)).trans rfl
set_option maxHeartbeats 1000000 in
set_option maxRecDepth 100000 in
theorem requirements2_any (w : World) : Calls Tryz.prog 82 #[.int .u8 2] w (ReqIs 3 req1 w) := by
  go_enter Tryz.func82, Tryz.ntmps82
  go_wp2_with fail
  go_ret
  refine ⟨w.heap.size, rfl, by simp, fun j hj => ?_, (Below.refl w.heap.size w).alloc (Nat.le_refl _) _⟩
  have hj' : j = 0 ∨ j = 1 ∨ j = 2 := by omega
  rcases hj' with rfl | rfl | rfl <;> exact (cell_of_row _ _ _ _ _ (0, 0) (heap_alloc_new _ _)).trans rfl
set_option maxHeartbeats 1000000 in
set_option maxRecDepth 100000 in
theorem requirements3_any (w : World) : Calls Tryz.prog 82 #[.int .u8 3] w (ReqIs 4 req3 w) := by
  go_enter Tryz.func82, Tryz.ntmps82
  go_wp2_with fail
  go_ret
  refine ⟨w.heap.size, rfl, by simp, fun j hj => ?_, (Below.refl w.heap.size w).alloc (Nat.le_refl _) _⟩
  have hj' : j = 0 ∨ j = 1 ∨ j = 2 ∨ j = 3 := by omega
  rcases hj' with rfl | rfl | rfl | rfl <;> exact (cell_of_row _ _ _ _ _ (0, 0) (heap_alloc_new _ _)).trans rfl
/-- the first n hold -/
def allB2 (n : Nat) (B : Nat → Bool) : Bool := (List.range n).all B
theorem allB2_yes {n : Nat} {B : Nat → Bool} (h : ∀ j, j < n → B j = true) : allB2 n B = true := List.all_eq_true.2 (fun j hj => h j (List.mem_range.1 hj))
theorem allB2_no {n j : Nat} {B : Nat → Bool} (hj : j < n) (h : B j = false) : allB2 n B = false := by
  cases e : allB2 n B
  · rfl
  · have := List.all_eq_true.1 e j (List.mem_range.2 hj)
    rw [h] at this; cases this
/-- a message as it is read: its call, or none -/
def ReadIs (ok : Bool) (k : Nat) (i : R5) (F : ByteArray) (p : R5) (w : World) (e : Ending) (w' : World) : Prop :=
  if ok = true then ∃ di dp : Fd, e = .returned (.tuple #[.agg #[.int .u8 k, .int .u8 di.k, .string di.x, .slice di.p di.n di.c, .slice di.q di.m di.e, .string F, .int .u8 dp.k, .string dp.x, .slice dp.p dp.n dp.c, .slice dp.q dp.m dp.e], .int .i64 0]) ∧ di.r = i ∧ dp.r = p ∧ di.Ok (fun b => w.heap.size ≤ b) w' ∧ dp.Ok (fun b => w.heap.size ≤ b) w' ∧ Below w.heap.size w w'
  else e = .returned (.tuple #[.agg #[.int .u8 0, .int .u8 0, .string ⟨#[]⟩, .slice none 0 0, .slice none 0 0, .string ⟨#[]⟩, .int .u8 0, .string ⟨#[]⟩, .slice none 0 0, .slice none 0 0], .int .i64 60]) ∧ Below w.heap.size w w'
theorem readIs_yes {k : Nat} {i : R5} {F : ByteArray} {p : R5} {w : World} {e : Ending} {w' : World} : ReadIs true k i F p w e w' ↔ ∃ di dp : Fd, e = .returned (.tuple #[.agg #[.int .u8 k, .int .u8 di.k, .string di.x, .slice di.p di.n di.c, .slice di.q di.m di.e, .string F, .int .u8 dp.k, .string dp.x, .slice dp.p dp.n dp.c, .slice dp.q dp.m dp.e], .int .i64 0]) ∧ di.r = i ∧ dp.r = p ∧ di.Ok (fun b => w.heap.size ≤ b) w' ∧ dp.Ok (fun b => w.heap.size ≤ b) w' ∧ Below w.heap.size w w' := by
  unfold ReadIs; rw [if_pos rfl]
theorem readIs_no {k : Nat} {i : R5} {F : ByteArray} {p : R5} {w : World} {e : Ending} {w' : World} : ReadIs false k i F p w e w' ↔ e = .returned (.tuple #[.agg #[.int .u8 0, .int .u8 0, .string ⟨#[]⟩, .slice none 0 0, .slice none 0 0, .string ⟨#[]⟩, .int .u8 0, .string ⟨#[]⟩, .slice none 0 0, .slice none 0 0], .int .i64 60]) ∧ Below w.heap.size w w' := by
  unfold ReadIs; rw [if_neg (by decide)]
theorem results_cell_tmp {P : Program} {fn : Func} {p q : Tmp} {ty : TypeId} (h : fn.results = #[.cell p ty, .tmp q]) (tmps : Array Value) (w : World) (g : Nat) (t : TypeId) (cs : Array Value) (fr : Nat × Nat) (d : TypeDesc)
    (hp : tmps.getD p undef = .pointer (some ⟨g, 0, none⟩)) (hg : w.heap[g]? = some (.cells cs t fr))
    (hu : P.underlying ty = some d) (hd : (match d with | .struct _ | .array _ _ => true | _ => false) = true) (hi : (P.info? ty).map (·.size) = some cs.size) :
    (results fn tmps).run P w = .ok (.tuple #[.agg cs, tmps.getD q undef]) w := by
  have hp' : tmps[p]?.getD undef = .pointer (some ⟨g, 0, none⟩) := by simpa using hp
  simp [results, h, hp', asAddr, run_loadVar_row w g t ty cs fr d hg hu hd hi]
structure RdSt (w : World) (k : Nat) (x : ByteArray) (v u : Value) (M : Ms) (W : World) : Prop where
  below : Below w.heap.size w W
  b0 : Blk4 W w.heap.size 25 (.int .u8 k) (.string x) v u
  b1 : ClBlk W (w.heap.size + 1) 0 fd0 ⟨#[]⟩ fd0
  ok : M.Ok (fun b => w.heap.size + 2 ≤ b) W
theorem RdSt.on {w : World} {k : Nat} {x : ByteArray} {v u : Value} {M : Ms} {W W' : World} (h : RdSt w k x v u M W) (hB : Below W.heap.size W W') : RdSt w k x v u M W' :=
  ⟨h.below.trans (hB.mono h.below.size), h.b0.same (hB.block _ h.b0.lt), h.b1.same hB, h.ok.below hB⟩
set_option maxHeartbeats 2000000 in
set_option maxRecDepth 100000 in
theorem read_with (K n : Nat) (F : Nat → FuncId) (B : Nat → Bool) (k : Nat) (x : ByteArray) (v u : Value) (l f : V.T) (A : Nat → Prop) (w : World) (hl : HS w A 0 v l) (hf : HS w A 1 u f) (hK : (sixOf k f).kind = K) (hn : n ≤ 4)
    (hreq : ∀ W, Calls Tryz.prog 82 #[.int .u8 K] W (ReqIs n F W)) (hent : ∀ j, j < n → ∀ args W, (callFunc (F j) args).run Tryz.prog W = .ok (.enter (F j) args) W)
    (hF : ∀ j, j < n → ∀ (M : Ms) (A' : Nat → Prop) W, M.six = sixOf k f → M.Ok A' W → Below w.heap.size w W → Calls Tryz.prog (F j) #[.agg #[.int .u8 M.j.k, .string M.j.x, .slice M.j.p M.j.n M.j.c, .slice M.j.q M.j.m M.j.e, .bool M.j.b, .int .u8 M.m.k, .string M.m.x, .slice M.m.p M.m.n M.m.c, .slice M.m.q M.m.m M.m.e, .bool M.m.b, .int .u8 M.p.k, .string M.p.x, .slice M.p.p M.p.n M.p.c, .slice M.p.q M.p.m M.p.e, .bool M.p.b, .int .u8 M.i.k, .string M.i.x, .slice M.i.p M.i.n M.i.c, .slice M.i.q M.i.m M.i.e, .bool M.i.b, .int .u8 M.r.k, .string M.r.x, .slice M.r.p M.r.n M.r.c, .slice M.r.q M.r.m M.r.e, .bool M.r.b, .int .u8 M.o.k, .string M.o.x, .slice M.o.p M.o.n M.o.c, .slice M.o.q M.o.m M.o.e, .bool M.o.b]] W (Bools (B j) W))
    (hcall : ∀ (M : Ms) (A' : Nat → Prop) W, M.six = sixOf k f → M.Ok A' W → Below w.heap.size w W → Calls Tryz.prog 84 #[.agg #[.int .u8 M.j.k, .string M.j.x, .slice M.j.p M.j.n M.j.c, .slice M.j.q M.j.m M.j.e, .bool M.j.b, .int .u8 M.m.k, .string M.m.x, .slice M.m.p M.m.n M.m.c, .slice M.m.q M.m.m M.m.e, .bool M.m.b, .int .u8 M.p.k, .string M.p.x, .slice M.p.p M.p.n M.p.c, .slice M.p.q M.p.m M.p.e, .bool M.p.b, .int .u8 M.i.k, .string M.i.x, .slice M.i.p M.i.n M.i.c, .slice M.i.q M.i.m M.i.e, .bool M.i.b, .int .u8 M.r.k, .string M.r.x, .slice M.r.p M.r.n M.r.c, .slice M.r.q M.r.m M.r.e, .bool M.r.b, .int .u8 M.o.k, .string M.o.x, .slice M.o.p M.o.n M.o.c, .slice M.o.q M.o.m M.o.e, .bool M.o.b]] W (CallIs (sixOf k f).kind (sixOf k f).i (sixOf k f).callF (sixOf k f).callP A' W)) :
    Calls Tryz.prog 23 #[.agg #[.int .u8 k, .string x, v, u]] w (ReadIs (allB2 n B) (sixOf k f).kind (sixOf k f).i (sixOf k f).callF (sixOf k f).callP w) := by
  have HM := Lib.hid (fun W (h : Below w.heap.size w W) => messageOf_any k x v u l f A W (hl.below h) (hf.below h))
  have hB0 := two_below w (.cells #[.int .u8 k, .string x, v, u] 25) (.cells #[.int .u8 0, .int .u8 0, .string ⟨#[]⟩, .slice none 0 0, .slice none 0 0, .string ⟨#[]⟩, .int .u8 0, .string ⟨#[]⟩, .slice none 0 0, .slice none 0 0] 39)
  have hn0 := two_new w (.cells #[.int .u8 k, .string x, v, u] 25) (.cells #[.int .u8 0, .int .u8 0, .string ⟨#[]⟩, .slice none 0 0, .slice none 0 0, .string ⟨#[]⟩, .int .u8 0, .string ⟨#[]⟩, .slice none 0 0, .slice none 0 0] 39)
  have hz0 := two_size w (.cells #[.int .u8 k, .string x, v, u] 25) (.cells #[.int .u8 0, .int .u8 0, .string ⟨#[]⟩, .slice none 0 0, .slice none 0 0, .string ⟨#[]⟩, .int .u8 0, .string ⟨#[]⟩, .slice none 0 0, .slice none 0 0] 39)
  obtain ⟨p, c, rfl, -⟩ := hl.len
  obtain ⟨q, d, rfl, -⟩ := hf.len
  have b0 : Blk4 _ w.heap.size 25 _ _ _ _ := hn0.1
  obtain ⟨x0, x1, x2, x3⟩ := b0.box
  have H0 := Lib.hid (And.intro hB0 (And.intro hn0 hz0))
  have HX := Lib.hid (And.intro hK (And.intro hreq (And.intro hent (And.intro hF hcall))))
  clear hl hf hK hreq hent hF hcall hB0 hn0 hz0 b0
  generalize sixOf k f = s at *
  go_enter Tryz.func23, Tryz.ntmps23
  go_upto_region 1 with fail
  generalize (w.alloc (.cells #[.int .u8 k, .string x, .slice p l.len c, .slice q f.len d] 25)).alloc (.cells #[.int .u8 0, .int .u8 0, .string ⟨#[]⟩, .slice none 0 0, .slice none 0 0, .string ⟨#[]⟩, .int .u8 0, .string ⟨#[]⟩, .slice none 0 0, .slice none 0 0] 39) = W0 at *
  go_cut [4] (fun g wx => ∃ (M : Ms) (b : Nat), g = .pointer (some ⟨b, 0, none⟩) ∧ Hid (M.six = s ∧ RdSt w k x (.slice p l.len c) (.slice q f.len d) M wx ∧ MsBlk wx b M))
  case first =>
    go_wp2_with fail
    refine (HM.out _ H0.out.1).mono ?_
    rintro e w1 ⟨M, rfl, hsix, hok, hB1⟩
    have HS6 := Lib.hid hsix
    have H1 := Lib.hid (show RdSt w k x (.slice p l.len c) (.slice q f.len d) M w1 from ⟨H0.out.1.trans (hB1.mono H0.out.1.size), (hB1.block _ (by rw [H0.out.2.2]; omega)).trans H0.out.2.1.1, (hB1.block _ (by rw [H0.out.2.2]; omega)).trans H0.out.2.1.2, hok.imp (fun b hb _ => by rw [H0.out.2.2] at hb; omega) (fun _ _ _ => rfl)⟩)
    clear hsix hok hB1 x0 x1 x2 x3
    have hBa := (Below.refl w1.heap.size w1).alloc (Nat.le_refl _) (.cells #[.int .u8 M.j.k, .string M.j.x, .slice M.j.p M.j.n M.j.c, .slice M.j.q M.j.m M.j.e, .bool M.j.b, .int .u8 M.m.k, .string M.m.x, .slice M.m.p M.m.n M.m.c, .slice M.m.q M.m.m M.m.e, .bool M.m.b, .int .u8 M.p.k, .string M.p.x, .slice M.p.p M.p.n M.p.c, .slice M.p.q M.p.m M.p.e, .bool M.p.b, .int .u8 M.i.k, .string M.i.x, .slice M.i.p M.i.n M.i.c, .slice M.i.q M.i.m M.i.e, .bool M.i.b, .int .u8 M.r.k, .string M.r.x, .slice M.r.p M.r.n M.r.c, .slice M.r.q M.r.m M.r.e, .bool M.r.b, .int .u8 M.o.k, .string M.o.x, .slice M.o.p M.o.n M.o.c, .slice M.o.q M.o.m M.o.e, .bool M.o.b] 128)
    have H2 := Lib.hid (And.intro (H1.out.on hBa) (msBlk_new w1 M))
    clear hBa
    have hz : (w1.alloc (.cells #[.int .u8 0, .string ⟨#[]⟩, .slice none 0 0, .slice none 0 0, .bool false, .int .u8 0, .string ⟨#[]⟩, .slice none 0 0, .slice none 0 0, .bool false, .int .u8 0, .string ⟨#[]⟩, .slice none 0 0, .slice none 0 0, .bool false, .int .u8 0, .string ⟨#[]⟩, .slice none 0 0, .slice none 0 0, .bool false, .int .u8 0, .string ⟨#[]⟩, .slice none 0 0, .slice none 0 0, .bool false, .int .u8 0, .string ⟨#[]⟩, .slice none 0 0, .slice none 0 0, .bool false] 128)).heap[w1.heap.size]? = some (.cells #[.int .u8 0, .string ⟨#[]⟩, .slice none 0 0, .slice none 0 0, .bool false, .int .u8 0, .string ⟨#[]⟩, .slice none 0 0, .slice none 0 0, .bool false, .int .u8 0, .string ⟨#[]⟩, .slice none 0 0, .slice none 0 0, .bool false, .int .u8 0, .string ⟨#[]⟩, .slice none 0 0, .slice none 0 0, .bool false, .int .u8 0, .string ⟨#[]⟩, .slice none 0 0, .slice none 0 0, .bool false, .int .u8 0, .string ⟨#[]⟩, .slice none 0 0, .slice none 0 0, .bool false] 128 (0, 0)) := heap_alloc_new _ _
    have hset := World.setRow_alloc_new w1 #[.int .u8 0, .string ⟨#[]⟩, .slice none 0 0, .slice none 0 0, .bool false, .int .u8 0, .string ⟨#[]⟩, .slice none 0 0, .slice none 0 0, .bool false, .int .u8 0, .string ⟨#[]⟩, .slice none 0 0, .slice none 0 0, .bool false, .int .u8 0, .string ⟨#[]⟩, .slice none 0 0, .slice none 0 0, .bool false, .int .u8 0, .string ⟨#[]⟩, .slice none 0 0, .slice none 0 0, .bool false, .int .u8 0, .string ⟨#[]⟩, .slice none 0 0, .slice none 0 0, .bool false] #[.int .u8 M.j.k, .string M.j.x, .slice M.j.p M.j.n M.j.c, .slice M.j.q M.j.m M.j.e, .bool M.j.b, .int .u8 M.m.k, .string M.m.x, .slice M.m.p M.m.n M.m.c, .slice M.m.q M.m.m M.m.e, .bool M.m.b, .int .u8 M.p.k, .string M.p.x, .slice M.p.p M.p.n M.p.c, .slice M.p.q M.p.m M.p.e, .bool M.p.b, .int .u8 M.i.k, .string M.i.x, .slice M.i.p M.i.n M.i.c, .slice M.i.q M.i.m M.i.e, .bool M.i.b, .int .u8 M.r.k, .string M.r.x, .slice M.r.p M.r.n M.r.c, .slice M.r.q M.r.m M.r.e, .bool M.r.b, .int .u8 M.o.k, .string M.o.x, .slice M.o.p M.o.n M.o.c, .slice M.o.q M.o.m M.o.e, .bool M.o.b] 128
    go_wp2_with (refine wpList_store_row rfl 128 _ _ rfl w1.heap.size #[.int .u8 M.j.k, .string M.j.x, .slice M.j.p M.j.n M.j.c, .slice M.j.q M.j.m M.j.e, .bool M.j.b, .int .u8 M.m.k, .string M.m.x, .slice M.m.p M.m.n M.m.c, .slice M.m.q M.m.m M.m.e, .bool M.m.b, .int .u8 M.p.k, .string M.p.x, .slice M.p.p M.p.n M.p.c, .slice M.p.q M.p.m M.p.e, .bool M.p.b, .int .u8 M.i.k, .string M.i.x, .slice M.i.p M.i.n M.i.c, .slice M.i.q M.i.m M.i.e, .bool M.i.b, .int .u8 M.r.k, .string M.r.x, .slice M.r.p M.r.n M.r.c, .slice M.r.q M.r.m M.r.e, .bool M.r.b, .int .u8 M.o.k, .string M.o.x, .slice M.o.p M.o.n M.o.c, .slice M.o.q M.o.m M.o.e, .bool M.o.b] (by rfl) (by rfl) 128 #[.int .u8 0, .string ⟨#[]⟩, .slice none 0 0, .slice none 0 0, .bool false, .int .u8 0, .string ⟨#[]⟩, .slice none 0 0, .slice none 0 0, .bool false, .int .u8 0, .string ⟨#[]⟩, .slice none 0 0, .slice none 0 0, .bool false, .int .u8 0, .string ⟨#[]⟩, .slice none 0 0, .slice none 0 0, .bool false, .int .u8 0, .string ⟨#[]⟩, .slice none 0 0, .slice none 0 0, .bool false, .int .u8 0, .string ⟨#[]⟩, .slice none 0 0, .slice none 0 0, .bool false] hz info_message rfl (one_message M) ?_)
    rw [hset]
    go_meet
    exact ⟨M, _, rfl, Lib.hid ⟨HS6.out, H2.out⟩⟩
  case rest =>
  obtain ⟨M, b, rfl, HC⟩ := hcut
  have HS6 := Lib.hid HC.out.1
  have H1 := Lib.hid HC.out.2.1
  have HB := Lib.hid HC.out.2.2
  clear HC H0 x0 x1 x2 x3
  have HKd := Lib.hid (fun W (h : M.Ok (fun b => w.heap.size + 2 ≤ b) W) => kind_any M (fun b => w.heap.size + 2 ≤ b) W h)
  rw [HS6.out, HX.out.1] at HKd
  have hrow : MsBlk wc b M := HB.out
  go_wp2_with (refine wpList_load_row rfl 128 _ rfl b (by rfl) 128 _ (0, 0) _ hrow Tryz.underlying128 rfl info_message ?_)
  refine (HKd.out _ H1.out.ok).mono ?_
  rintro e w2 ⟨rfl, hB2⟩
  have H2 := Lib.hid (And.intro (H1.out.on hB2) (HB.out.same hB2))
  clear hB2 H1 HB hrow
  go_wp2_with fail
  refine (HX.out.2.1 _).mono ?_
  rintro e w3 ⟨br, rfl, hbr, hcs, hB3⟩
  have H3 := Lib.hid (And.intro (H2.out.1.on hB3) (H2.out.2.same hB3))
  have HQ := Lib.hid (And.intro hbr hcs)
  have hn4 : n ≤ 4 := hn
  clear hB3 H2 hbr hcs hn
  go_wp2_with fail
  have HM0 := Lib.hid H3.out
  go_loopw [6, 13] (fun hh y wr => ∃ i : Nat, y = .int .i64 i ∧ i ≤ n ∧ Hid (RdSt w k x (.slice p l.len c) (.slice q f.len d) M wr ∧ MsBlk wr b M ∧ (br < wr.heap.size ∧ ∀ j, j < n → wr.cell? ⟨br, j, none⟩ = some (.func (.func (F j)) #[] #[])) ∧ ∀ j, j < i → B j = true)) (fun hh y _ => n - (RowKit.intOf y).toNat)
  case atStart => exact ⟨0, rfl, Nat.zero_le _, Lib.hid ⟨H3.out.1, H3.out.2, HQ.out, fun j hj => absurd hj (Nat.not_lt_zero j)⟩⟩
  case round =>
    obtain ⟨i, rfl, hi, HR⟩ := hrel
    by_cases hlt : i < n
    · have t1 : decide ((i : Int) < (n : Int)) = true := decide_eq_true (by omega)
      have HLT := Lib.hid hlt
      have hcell := HR.out.2.2.1.2 i hlt
      have hent := HX.out.2.2.1 i hlt
      have HC := Lib.hid (fun W (g : Below w.heap.size w W) (ok : M.Ok (fun b => w.heap.size + 2 ≤ b) W) => HX.out.2.2.2.1 i hlt M _ W HS6.out ok g)
      obtain ⟨Bi, hBi⟩ : ∃ r, r = B i := ⟨_, rfl⟩
      rw [← hBi] at HC
      have HBI := Lib.hid hBi
      generalize F i = fi at *
      have hrow : MsBlk wr b M := HR.out.2.1
      clear hlt hBi
      go_wp2_with (refine wpList_load_row rfl 128 _ rfl b (by rfl) 128 _ (0, 0) _ hrow Tryz.underlying128 rfl info_message ?_)
      refine (HC.out _ HR.out.1.below HR.out.1.ok).mono ?_
      rintro e w4 ⟨rfl, hB4⟩
      have H4 := Lib.hid (And.intro (HR.out.1.on hB4) (And.intro (HR.out.2.1.same hB4) (And.intro (Nat.lt_of_lt_of_le HR.out.2.2.1.1 hB4.size) (fun j hj => (hB4.cell (p := ⟨br, j, none⟩) HR.out.2.2.1.1).trans (HR.out.2.2.1.2 j hj)))))
      have HI := Lib.hid HR.out.2.2.2
      clear hrow hcell hent hB4 HR HC
      cases Bi
      · have hb1 := H4.out.1.b1
        go_wp2_with (refine wpList_store_row rfl 39 _ _ rfl (w.heap.size + 1) #[.int .u8 0, .int .u8 0, .string ⟨#[]⟩, .slice none 0 0, .slice none 0 0, .string ⟨#[]⟩, .int .u8 0, .string ⟨#[]⟩, .slice none 0 0, .slice none 0 0] (by rfl) (by rfl) 39 _ hb1 info_call rfl (one_call 0 fd0 ⟨#[]⟩ fd0) ?_)
        have hrow := row_set (c := #[.int .u8 0, .int .u8 0, .string ⟨#[]⟩, .slice none 0 0, .slice none 0 0, .string ⟨#[]⟩, .int .u8 0, .string ⟨#[]⟩, .slice none 0 0, .slice none 0 0]) hb1
        have hB2 := below_setRow (w0 := w) (B := w.heap.size) H4.out.1.below (g := w.heap.size + 1) (by omega) #[.int .u8 0, .int .u8 0, .string ⟨#[]⟩, .slice none 0 0, .slice none 0 0, .string ⟨#[]⟩, .int .u8 0, .string ⟨#[]⟩, .slice none 0 0, .slice none 0 0]
        refine bodyPost_ret (v := .tuple #[.agg #[.int .u8 0, .int .u8 0, .string ⟨#[]⟩, .slice none 0 0, .slice none 0 0, .string ⟨#[]⟩, .int .u8 0, .string ⟨#[]⟩, .slice none 0 0, .slice none 0 0], .int .i64 60]) (results_cell_tmp Tryz.results23 _ _ (w.heap.size + 1) 39 _ (0, 0) _ (by rfl) hrow Tryz.underlying39 rfl info_call) rfl ?_
        unfold ReadIs
        rw [if_neg (by rw [allB2_no HLT.out HBI.out.symm]; decide)]
        exact ⟨rfl, hB2⟩
      · go_wp2_with fail
        go_roundw
        case rel => exact ⟨i + 1, by go_num, HLT.out, Lib.hid ⟨H4.out.1, H4.out.2.1, H4.out.2.2, fun j hj => by
          by_cases hji : j = i
          · subst hji; exact HBI.out.symm
          · exact HI.out j (by omega)⟩⟩
        case measure => have := HLT.out; simp [RowKit.intOf]; omega
    · obtain rfl : i = n := by omega
      have t1 : decide ((i : Int) < (i : Int)) = false := decide_eq_false (by omega)
      have hrow : MsBlk wr b M := HR.out.2.1
      have HC := Lib.hid (fun W (g : Below w.heap.size w W) (ok : M.Ok (fun b => w.heap.size + 2 ≤ b) W) => HX.out.2.2.2.2 M _ W HS6.out ok g)
      go_wp2_with (refine wpList_load_row rfl 128 _ rfl b (by rfl) 128 _ (0, 0) _ hrow Tryz.underlying128 rfl info_message ?_)
      refine (HC.out _ HR.out.1.below HR.out.1.ok).mono ?_
      rintro e w4 ⟨di, dp, rfl, hdi, hdp, oi, op, hB4⟩
      have H4 := Lib.hid (HR.out.1.on hB4)
      have HD := Lib.hid (And.intro hdi (And.intro hdp (And.intro oi op)))
      have hb1 := H4.out.b1
      have HA := Lib.hid (allB2_yes HR.out.2.2.2)
      clear hrow hB4 HR HC hdi hdp oi op
      generalize s.callF = cF at *
      go_wp2_with (refine wpList_store_row rfl 39 _ _ rfl (w.heap.size + 1) #[.int .u8 s.kind, .int .u8 di.k, .string di.x, .slice di.p di.n di.c, .slice di.q di.m di.e, .string cF, .int .u8 dp.k, .string dp.x, .slice dp.p dp.n dp.c, .slice dp.q dp.m dp.e] (by rfl) (by rfl) 39 _ hb1 info_call rfl (one_call s.kind di cF dp) ?_)
      have hrow := row_set (c := #[.int .u8 s.kind, .int .u8 di.k, .string di.x, .slice di.p di.n di.c, .slice di.q di.m di.e, .string cF, .int .u8 dp.k, .string dp.x, .slice dp.p dp.n dp.c, .slice dp.q dp.m dp.e]) hb1
      have hB2 := below_setRow (w0 := w) (B := w.heap.size) H4.out.below (g := w.heap.size + 1) (by omega) #[.int .u8 s.kind, .int .u8 di.k, .string di.x, .slice di.p di.n di.c, .slice di.q di.m di.e, .string cF, .int .u8 dp.k, .string dp.x, .slice dp.p dp.n dp.c, .slice dp.q dp.m dp.e]
      refine bodyPost_ret (v := .tuple #[.agg #[.int .u8 s.kind, .int .u8 di.k, .string di.x, .slice di.p di.n di.c, .slice di.q di.m di.e, .string cF, .int .u8 dp.k, .string dp.x, .slice dp.p dp.n dp.c, .slice dp.q dp.m dp.e], .int .i64 0]) (results_cell_tmp Tryz.results23 _ _ (w.heap.size + 1) 39 _ (0, 0) _ (by rfl) hrow Tryz.underlying39 rfl info_call) rfl ?_
      unfold ReadIs
      rw [if_pos HA.out]
      have hg : ¬ w.heap.size + 2 ≤ w.heap.size + 1 := by omega
      have hle : ∀ (W : World) b, w.heap.size + 2 ≤ b → b < W.heap.size → w.heap.size ≤ b := fun _ b hb _ => by omega
      exact ⟨di, dp, rfl, HD.out.1, HD.out.2.1, (HD.out.2.2.1.set hg _).imp (hle _) (fun _ _ _ => rfl), (HD.out.2.2.2.set hg _).imp (hle _) (fun _ _ _ => rfl), hB2⟩
end Go.Proofs.YtagafedkfkmkbaaGreatDoor

namespace Go.Proofs.YtagafedkfkmkbaaGreatDoor
open Go Go.RowKit Go.Lib

theorem ent_hasVersion : ∀ args w, (callFunc 148 args).run Tryz.prog w = .ok (.enter 148 args) w := enters_of Tryz.func148 (by kernel_rfl) rfl
theorem ent_hasMethod : ∀ args w, (callFunc 149 args).run Tryz.prog w = .ok (.enter 149 args) w := enters_of Tryz.func149 (by kernel_rfl) rfl
theorem ent_mayHaveParams : ∀ args w, (callFunc 150 args).run Tryz.prog w = .ok (.enter 150 args) w := enters_of Tryz.func150 (by kernel_rfl) rfl
theorem ent_hasID : ∀ args w, (callFunc 151 args).run Tryz.prog w = .ok (.enter 151 args) w := enters_of Tryz.func151 (by kernel_rfl) rfl
theorem ent_hasIDOrNull : ∀ args w, (callFunc 152 args).run Tryz.prog w = .ok (.enter 152 args) w := enters_of Tryz.func152 (by kernel_rfl) rfl
theorem ent_hasOneOutcome : ∀ args w, (callFunc 153 args).run Tryz.prog w = .ok (.enter 153 args) w := enters_of Tryz.func153 (by kernel_rfl) rfl
theorem ent_mayHaveFault : ∀ args w, (callFunc 154 args).run Tryz.prog w = .ok (.enter 154 args) w := enters_of Tryz.func154 (by kernel_rfl) rfl
theorem Six.kind_is (s : Six) : s.kind = 1 ∨ s.kind = 2 ∨ s.kind = 3 := by
  unfold Six.kind
  split
  · split
    · exact .inl rfl
    · exact .inr (.inl rfl)
  · exact .inr (.inr rfl)
set_option maxHeartbeats 1000000 in
set_option maxRecDepth 100000 in
theorem read_any (k : Nat) (x : ByteArray) (v u : Value) (l f : V.T) (A : Nat → Prop) (w : World) (hl : HS w A 0 v l) (hf : HS w A 1 u f) (hxi : (sixOf k f).i.2.1.size ≤ 140737488355328) (hs : (sixOf k f).m.2.1.size ≤ 1000000000000) (hz : (U.fixS (sixOf k f).m.2.1).size ≤ 140737488355328) (hT : Tabs w) (hE : ErrC w) :
    Calls Tryz.prog 23 #[.agg #[.int .u8 k, .string x, v, u]] w (ReadIs (sixOf k f).holds (sixOf k f).kind (sixOf k f).i (sixOf k f).callF (sixOf k f).callP w) := by
  have hcall : ∀ (M : Ms) (A' : Nat → Prop) W, M.six = sixOf k f → M.Ok A' W → Below w.heap.size w W → Calls Tryz.prog 84 #[.agg #[.int .u8 M.j.k, .string M.j.x, .slice M.j.p M.j.n M.j.c, .slice M.j.q M.j.m M.j.e, .bool M.j.b, .int .u8 M.m.k, .string M.m.x, .slice M.m.p M.m.n M.m.c, .slice M.m.q M.m.m M.m.e, .bool M.m.b, .int .u8 M.p.k, .string M.p.x, .slice M.p.p M.p.n M.p.c, .slice M.p.q M.p.m M.p.e, .bool M.p.b, .int .u8 M.i.k, .string M.i.x, .slice M.i.p M.i.n M.i.c, .slice M.i.q M.i.m M.i.e, .bool M.i.b, .int .u8 M.r.k, .string M.r.x, .slice M.r.p M.r.n M.r.c, .slice M.r.q M.r.m M.r.e, .bool M.r.b, .int .u8 M.o.k, .string M.o.x, .slice M.o.p M.o.n M.o.c, .slice M.o.q M.o.m M.o.e, .bool M.o.b]] W (CallIs (sixOf k f).kind (sixOf k f).i (sixOf k f).callF (sixOf k f).callP A' W) := by
    intro M A' W hsix ok hBW
    rw [← hsix] at hs hz ⊢
    exact call_any M A' W ok hs hz (tabs_below hT hBW)
  rcases Six.kind_is (sixOf k f) with hk | hk | hk
  · have hB : allB2 4 (fun j => if j = 0 then verB (sixOf k f).j else if j = 1 then methB (sixOf k f).m else if j = 2 then parB (sixOf k f).p else idB (sixOf k f).i) = (sixOf k f).holds := by
      unfold Six.holds
      rw [if_pos hk]
      simp [allB2, List.range, List.range.loop, Bool.and_assoc]
    rw [← hB]
    refine read_with 1 4 req1 (fun j => if j = 0 then verB (sixOf k f).j else if j = 1 then methB (sixOf k f).m else if j = 2 then parB (sixOf k f).p else idB (sixOf k f).i) k x v u l f A w hl hf hk (by decide) (fun W => requirements1_any W) (fun j hj => ?_) (fun j hj => ?_) hcall
    · have hj' : j = 0 ∨ j = 1 ∨ j = 2 ∨ j = 3 := by omega
      rcases hj' with rfl | rfl | rfl | rfl
      · exact ent_hasVersion
      · exact ent_hasMethod
      · exact ent_mayHaveParams
      · exact ent_hasID
    · intro M A' W hsix ok hBW
      have hj' : j = 0 ∨ j = 1 ∨ j = 2 ∨ j = 3 := by omega
      rcases hj' with rfl | rfl | rfl | rfl
      · show Calls Tryz.prog _ _ W (Bools (verB (sixOf k f).j) W)
        rw [← hsix]
        exact version_any M A' W ok
      · show Calls Tryz.prog _ _ W (Bools (methB (sixOf k f).m) W)
        rw [← hsix]
        exact hasMethod_any M A' W ok
      · show Calls Tryz.prog _ _ W (Bools (parB (sixOf k f).p) W)
        rw [← hsix]
        exact mayPar_any M A' W ok
      · show Calls Tryz.prog _ _ W (Bools (idB (sixOf k f).i) W)
        rw [← hsix]
        exact hasID_any M A' W ok (by have := hxi; rw [← hsix] at this; exact this) (tabs_below hT hBW) (hE.on hBW)
  · have hB : allB2 3 (fun j => if j = 0 then verB (sixOf k f).j else if j = 1 then methB (sixOf k f).m else parB (sixOf k f).p) = (sixOf k f).holds := by
      unfold Six.holds
      rw [if_neg (by rw [hk]; decide), if_pos hk]
      simp [allB2, List.range, List.range.loop, Bool.and_assoc]
    rw [← hB]
    refine read_with 2 3 req1 (fun j => if j = 0 then verB (sixOf k f).j else if j = 1 then methB (sixOf k f).m else parB (sixOf k f).p) k x v u l f A w hl hf hk (by decide) (fun W => requirements2_any W) (fun j hj => ?_) (fun j hj => ?_) hcall
    · have hj' : j = 0 ∨ j = 1 ∨ j = 2 := by omega
      rcases hj' with rfl | rfl | rfl
      · exact ent_hasVersion
      · exact ent_hasMethod
      · exact ent_mayHaveParams
    · intro M A' W hsix ok hBW
      have hj' : j = 0 ∨ j = 1 ∨ j = 2 := by omega
      rcases hj' with rfl | rfl | rfl
      · show Calls Tryz.prog _ _ W (Bools (verB (sixOf k f).j) W)
        rw [← hsix]
        exact version_any M A' W ok
      · show Calls Tryz.prog _ _ W (Bools (methB (sixOf k f).m) W)
        rw [← hsix]
        exact hasMethod_any M A' W ok
      · show Calls Tryz.prog _ _ W (Bools (parB (sixOf k f).p) W)
        rw [← hsix]
        exact mayPar_any M A' W ok
  · have hB : allB2 4 (fun j => if j = 0 then verB (sixOf k f).j else if j = 1 then idNB (sixOf k f).i else if j = 2 then outB (sixOf k f).r (sixOf k f).o else fauB (sixOf k f).o) = (sixOf k f).holds := by
      unfold Six.holds
      rw [if_neg (by rw [hk]; decide), if_neg (by rw [hk]; decide)]
      simp [allB2, List.range, List.range.loop, Bool.and_assoc]
    rw [← hB]
    refine read_with 3 4 req3 (fun j => if j = 0 then verB (sixOf k f).j else if j = 1 then idNB (sixOf k f).i else if j = 2 then outB (sixOf k f).r (sixOf k f).o else fauB (sixOf k f).o) k x v u l f A w hl hf hk (by decide) (fun W => requirements3_any W) (fun j hj => ?_) (fun j hj => ?_) hcall
    · have hj' : j = 0 ∨ j = 1 ∨ j = 2 ∨ j = 3 := by omega
      rcases hj' with rfl | rfl | rfl | rfl
      · exact ent_hasVersion
      · exact ent_hasIDOrNull
      · exact ent_hasOneOutcome
      · exact ent_mayHaveFault
    · intro M A' W hsix ok hBW
      have hj' : j = 0 ∨ j = 1 ∨ j = 2 ∨ j = 3 := by omega
      rcases hj' with rfl | rfl | rfl | rfl
      · show Calls Tryz.prog _ _ W (Bools (verB (sixOf k f).j) W)
        rw [← hsix]
        exact version_any M A' W ok
      · show Calls Tryz.prog _ _ W (Bools (idNB (sixOf k f).i) W)
        rw [← hsix]
        exact idOrNull_any M A' W ok (by have := hxi; rw [← hsix] at this; exact this) (tabs_below hT hBW) (hE.on hBW)
      · show Calls Tryz.prog _ _ W (Bools (outB (sixOf k f).r (sixOf k f).o) W)
        rw [← hsix]
        exact outcome_any M A' W ok
      · show Calls Tryz.prog _ _ W (Bools (fauB (sixOf k f).o) W)
        rw [← hsix]
        exact fault_any M A' W ok
end Go.Proofs.YtagafedkfkmkbaaGreatDoor
