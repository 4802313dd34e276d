/- A message's call. Conditions: a method such as can be made valid; the library's tables. -/
import Derived.Test.YtagafedkfkmkbaaGreatDoorMO31
namespace Go.Proofs.YtagafedkfkmkbaaGreatDoor
open Go Go.RowKit Go.Lib

/-- nothing found -/
def fd0 : Fd := ⟨0, ⟨#[]⟩, none, 0, 0, none, 0, 0, false, .nil, .nil⟩
theorem fd0_ok (A : Nat → Prop) (w : World) : fd0.Ok A w := ⟨HS.nil _ _ _, HS.nil _ _ _⟩
theorem info_call : (Tryz.prog.info? 39).map (·.size) = some 10 := by kernel_rfl
theorem one_call (k : Int) (i : Fd) (F : ByteArray) (p : Fd) : ((#[.int .u8 k, .int .u8 i.k, .string i.x, .slice i.p i.n i.c, .slice i.q i.m i.e, .string F, .int .u8 p.k, .string p.x, .slice p.p p.n p.c, .slice p.q p.m p.e] : Array Value).all (·.oneCell')) = true := by
  simp [Value.oneCell']
/-- a call in a block -/
def ClBlk (w : World) (b : Nat) (k : Nat) (i : Fd) (F : ByteArray) (p : Fd) : Prop := w.heap[b]? = some (.cells #[.int .u8 k, .int .u8 i.k, .string i.x, .slice i.p i.n i.c, .slice i.q i.m i.e, .string F, .int .u8 p.k, .string p.x, .slice p.p p.n p.c, .slice p.q p.m p.e] 39 (0, 0))
theorem ClBlk.lt {w : World} {b k : Nat} {i p : Fd} {F : ByteArray} (h : ClBlk w b k i F p) : b < w.heap.size := (Array.getElem?_eq_some_iff.1 h).1
theorem ClBlk.same {w w' : World} {b k : Nat} {i p : Fd} {F : ByteArray} (h : ClBlk w b k i F p) (hB : Below w.heap.size w w') : ClBlk w' b k i F p := (hB.block b h.lt).trans h
theorem ClBlk.c {w : World} {b k : Nat} {i p : Fd} {F : ByteArray} (h : ClBlk w b k i F p) (j : Nat) (v : Value) (hv : (#[.int .u8 k, .int .u8 i.k, .string i.x, .slice i.p i.n i.c, .slice i.q i.m i.e, .string F, .int .u8 p.k, .string p.x, .slice p.p p.n p.c, .slice p.q p.m p.e] : Array Value)[j]? = some v) : w.cell? ⟨b, j, none⟩ = some v := (cell_of_row w b j _ _ (0, 0) h).trans hv
theorem ClBlk.setF {w : World} {b k : Nat} {i p : Fd} {F : ByteArray} (h : ClBlk w b k i F p) (F' : ByteArray) : ClBlk (w.setCell ⟨b, 5, none⟩ (.string F')) b k i F' p := heap_setCell_same w b 5 _ _ _ h
theorem ClBlk.setP {w : World} {b k : Nat} {i p : Fd} {F : ByteArray} (h : ClBlk w b k i F p) (p' : Fd) : ClBlk ((((w.setCell ⟨b, 6, none⟩ (.int .u8 p'.k)).setCell ⟨b, 7, none⟩ (.string p'.x)).setCell ⟨b, 8, none⟩ (.slice p'.p p'.n p'.c)).setCell ⟨b, 9, none⟩ (.slice p'.q p'.m p'.e)) b k i F p' :=
  heap_setCell_same _ b 9 _ _ _ (heap_setCell_same _ b 8 _ _ _ (heap_setCell_same _ b 7 _ _ _ (heap_setCell_same w b 6 _ _ _ h)))
theorem ClBlk.free {w : World} {b k : Nat} {i p : Fd} {F : ByteArray} (h : ClBlk w b k i F p) (j : Nat) : w.frozen? ⟨b, j, none⟩ = false := by
  have h' : w.heap[b]? = _ := h
  simp [World.frozen?, h']
theorem set4s_below (w : World) (b : Nat) (x0 x1 x2 x3 : Value) : Below b w ((((w.setCell ⟨b, 6, none⟩ x0).setCell ⟨b, 7, none⟩ x1).setCell ⟨b, 8, none⟩ x2).setCell ⟨b, 9, none⟩ x3) :=
  ((((Below.refl b w).setCell (Nat.le_refl _) _).setCell (Nat.le_refl _) _).setCell (Nat.le_refl _) _).setCell (Nat.le_refl _) _
theorem set5_below (w : World) (b : Nat) (x : Value) : Below b w (w.setCell ⟨b, 5, none⟩ x) := (Below.refl b w).setCell (Nat.le_refl b) x
def r0 : R5 := (0, ⟨#[]⟩, .nil, .nil, false)
/-- what a call holds -/
def Six.callF (s : Six) : ByteArray := if s.kind = 3 then ⟨#[]⟩ else U.fixS s.m.2.1
def Six.callP (s : Six) : R5 := if s.kind = 3 then r0 else if s.p.1 = 0 then r0 else s.p
/-- a call is handed back -/
def CallIs (k : Nat) (i : R5) (F : ByteArray) (p : R5) (A : Nat → Prop) (w : World) (e : Ending) (w' : World) : Prop := ∃ di dp : Fd, e = .returned (.agg #[.int .u8 k, .int .u8 di.k, .string di.x, .slice di.p di.n di.c, .slice di.q di.m di.e, .string F, .int .u8 dp.k, .string dp.x, .slice dp.p dp.n dp.c, .slice dp.q dp.m dp.e]) ∧ di.r = i ∧ dp.r = p ∧ di.Ok A w' ∧ dp.Ok A w' ∧ Below w.heap.size w w'
structure ClSt (w : World) (M : Ms) (W : World) : Prop where
  below : Below w.heap.size w W
  b0 : MsBlk W w.heap.size M
  b1 : ClBlk W (w.heap.size + 1) 0 fd0 ⟨#[]⟩ fd0
theorem ClSt.on {w : World} {M : Ms} {W W' : World} (h : ClSt w M W) (hB : Below W.heap.size W W') : ClSt w M W' :=
  ⟨h.below.trans (hB.mono h.below.size), h.b0.same hB, h.b1.same hB⟩
theorem ClSt.lt2 {w : World} {M : Ms} {W : World} (h : ClSt w M W) : w.heap.size + 2 ≤ W.heap.size := h.b1.lt
theorem ClSt.past {w : World} {M : Ms} {W W' : World} (h : ClSt w M W) {b : Nat} (hb : w.heap.size + 2 ≤ b) (hB : Below b W W') : ClSt w M W' :=
  ⟨h.below.trans (hB.mono (by omega)), (hB.block _ (by omega)).trans h.b0, (hB.block _ (by omega)).trans h.b1⟩
/-- a whole row is loaded -/
theorem yields_row {P : Program} {a : Act} {o : Oper} (ty : TypeId) (x : Operand) (ho : o.op = .load ty x) (g : Nat) (hx : a.eval x = .pointer (some ⟨g, 0, none⟩)) {X : World} {t : TypeId} {cs : Array Value} {d : TypeDesc} (hg : X.heap[g]? = some (.cells cs t (0, 0)))
    (hu : P.underlying ty = some d) (hd : (match d with | .struct _ | .array _ _ => true | _ => false) = true) (hi : (P.info? ty).map (·.size) = some cs.size) : (execOp a.eval o).run P X = .ok (.value (.agg cs)) X := by
  unfold execOp
  simp only [ho, hx, Instr.loadAt, Instr.sureAddr, Sem.run_bind, Sem.run_pure, Result.andThen_ok, run_loadVar_row X g t ty cs (0, 0) d hg hu hd hi]
set_option maxHeartbeats 2000000 in
set_option maxRecDepth 100000 in
theorem call_any (M : Ms) (A : Nat → Prop) (w : World) (h : M.Ok A w) (hs : M.m.x.size ≤ 1000000000000) (hz : (U.fixS M.m.x).size ≤ 140737488355328) (hT : Tabs w) :
    Calls Tryz.prog 84 #[.agg #[.int .u8 M.j.k, .string M.j.x, .slice M.j.p M.j.n M.j.c, .slice M.j.q M.j.m M.j.e, .bool M.j.b, .int .u8 M.m.k, .string M.m.x, .slice M.m.p M.m.n M.m.c, .slice M.m.q M.m.m M.m.e, .bool M.m.b, .int .u8 M.p.k, .string M.p.x, .slice M.p.p M.p.n M.p.c, .slice M.p.q M.p.m M.p.e, .bool M.p.b, .int .u8 M.i.k, .string M.i.x, .slice M.i.p M.i.n M.i.c, .slice M.i.q M.i.m M.i.e, .bool M.i.b, .int .u8 M.r.k, .string M.r.x, .slice M.r.p M.r.n M.r.c, .slice M.r.q M.r.m M.r.e, .bool M.r.b, .int .u8 M.o.k, .string M.o.x, .slice M.o.p M.o.n M.o.c, .slice M.o.q M.o.m M.o.e, .bool M.o.b]] w (CallIs M.six.kind M.i.r M.six.callF M.six.callP A w) := by
  have H0 := Lib.hid (show ClSt w M ((w.alloc (.cells #[.int .u8 M.j.k, .string M.j.x, .slice M.j.p M.j.n M.j.c, .slice M.j.q M.j.m M.j.e, .bool M.j.b, .int .u8 M.m.k, .string M.m.x, .slice M.m.p M.m.n M.m.c, .slice M.m.q M.m.m M.m.e, .bool M.m.b, .int .u8 M.p.k, .string M.p.x, .slice M.p.p M.p.n M.p.c, .slice M.p.q M.p.m M.p.e, .bool M.p.b, .int .u8 M.i.k, .string M.i.x, .slice M.i.p M.i.n M.i.c, .slice M.i.q M.i.m M.i.e, .bool M.i.b, .int .u8 M.r.k, .string M.r.x, .slice M.r.p M.r.n M.r.c, .slice M.r.q M.r.m M.r.e, .bool M.r.b, .int .u8 M.o.k, .string M.o.x, .slice M.o.p M.o.n M.o.c, .slice M.o.q M.o.m M.o.e, .bool M.o.b] 128)).alloc (.cells #[.int .u8 0, .int .u8 0, .string ⟨#[]⟩, .slice none 0 0, .slice none 0 0, .string ⟨#[]⟩, .int .u8 0, .string ⟨#[]⟩, .slice none 0 0, .slice none 0 0] 39)) from ⟨two_below _ _ _, (two_new _ _ _).1, (two_new _ _ _).2⟩)
  have HK := Lib.hid (fun W (g : ClSt w M W) => kind_any M A W (h.below g.below))
  have HT := Lib.hid (fun W (g : ClSt w M W) => text4_any M.m.x W hs hz (tabs_below hT g.below))
  have HIS := Lib.hid (fun W b hb (g : ClSt w M W) => is_zero M.p.k M.p.x (.slice M.p.p M.p.n M.p.c) (.slice M.p.q M.p.m M.p.e) M.p.l M.p.f A W b hb (h.below g.below).p.l (h.below g.below).p.f)
  have HOK := Lib.hid h
  obtain ⟨K, hK⟩ : ∃ K, K = M.six.kind := ⟨_, rfl⟩
  have hF : M.six.callF = if K = 3 then ⟨#[]⟩ else U.fixS M.m.x := by rw [hK]; rfl
  have hP : M.six.callP = if K = 3 then r0 else if M.p.k = 0 then r0 else M.p.r := by rw [hK]; rfl
  rw [← hK] at HK
  have hk9 : K ≤ 3 := by rw [hK]; unfold Six.kind; split <;> (try split) <;> decide
  have HKK := Lib.hid (And.intro hK (And.intro hF (And.intro hP hk9)))
  rw [← hK]
  generalize M.six.callF = cF at *
  generalize M.six.callP = cP at *
  clear h hs hz hT hK hF hP hk9
  generalize U.fixS M.m.x = FX at *
  go_enter Tryz.func84, Tryz.ntmps84
  go_wp2_with fail
  generalize (w.alloc (.cells #[.int .u8 M.j.k, .string M.j.x, .slice M.j.p M.j.n M.j.c, .slice M.j.q M.j.m M.j.e, .bool M.j.b, .int .u8 M.m.k, .string M.m.x, .slice M.m.p M.m.n M.m.c, .slice M.m.q M.m.m M.m.e, .bool M.m.b, .int .u8 M.p.k, .string M.p.x, .slice M.p.p M.p.n M.p.c, .slice M.p.q M.p.m M.p.e, .bool M.p.b, .int .u8 M.i.k, .string M.i.x, .slice M.i.p M.i.n M.i.c, .slice M.i.q M.i.m M.i.e, .bool M.i.b, .int .u8 M.r.k, .string M.r.x, .slice M.r.p M.r.n M.r.c, .slice M.r.q M.r.m M.r.e, .bool M.r.b, .int .u8 M.o.k, .string M.o.x, .slice M.o.p M.o.n M.o.c, .slice M.o.q M.o.m M.o.e, .bool M.o.b] 128)).alloc (.cells #[.int .u8 0, .int .u8 0, .string ⟨#[]⟩, .slice none 0 0, .slice none 0 0, .string ⟨#[]⟩, .int .u8 0, .string ⟨#[]⟩, .slice none 0 0, .slice none 0 0] 39) = W0 at *
  go_cut [3] (fun g wx => ∃ b, g = .pointer (some ⟨b, 0, none⟩) ∧ Hid (ClSt w M wx ∧ ClBlk wx b K M.i ⟨#[]⟩ fd0 ∧ w.heap.size + 2 ≤ b))
  case first =>
    have HD := Lib.hid (H0.out.on (Below.refl W0.heap.size W0).drew)
    have HS0 := Lib.hid HD.out.b0
    refine wp_region_late (S := fun X => MsBlk X w.heap.size M) (zs := [7]) (by kernel_rfl) ?_
    refine wpAnyL_take (v := ?_) 0 rfl (by kernel_rfl) (by kernel_rfl) (by kernel_rfl) (fun _ _ _ h => h) (by kernel_rfl) (by kernel_rfl) HS0.out (by rfl) (fun X hX => ?_) ?_
    rotate_left
    · refine yields_row 128 (.tmp 1) ?_ w.heap.size ?_ hX Tryz.underlying128 rfl info_message
      · rfl
      · rfl
    try simp only [Act.put, List.setIfInBounds_toArray, List.set_cons_zero, List.set_cons_succ]
    refine wpAnyL_take (v := ?_) 2 rfl (by kernel_rfl) (by kernel_rfl) (by kernel_rfl) (fun _ _ _ h => h) (by kernel_rfl) (by kernel_rfl) HS0.out (by rfl) (fun X hX => ?_) ?_
    rotate_left
    · have c15 := MsBlk.c hX 15 _ rfl
      have c16 := MsBlk.c hX 16 _ rfl
      have c17 := MsBlk.c hX 17 _ rfl
      have c18 := MsBlk.c hX 18 _ rfl
      go_simp
      try with_reducible rfl
    try simp only [Act.put, List.setIfInBounds_toArray, List.set_cons_zero, List.set_cons_succ]
    refine wpAnyL_take (v := ?_) 3 rfl (by kernel_rfl) (by kernel_rfl) (by kernel_rfl) (fun _ _ _ h => h) (by kernel_rfl) (by kernel_rfl) HS0.out (by rfl) (fun X hX => ?_) ?_
    rotate_left
    · have c15 := MsBlk.c hX 15 _ rfl
      have c16 := MsBlk.c hX 16 _ rfl
      have c17 := MsBlk.c hX 17 _ rfl
      have c18 := MsBlk.c hX 18 _ rfl
      go_simp
      try with_reducible rfl
    try simp only [Act.put, List.setIfInBounds_toArray, List.set_cons_zero, List.set_cons_succ]
    refine wpAnyL_take (v := ?_) 4 rfl (by kernel_rfl) (by kernel_rfl) (by kernel_rfl) (fun _ _ _ h => h) (by kernel_rfl) (by kernel_rfl) HS0.out (by rfl) (fun X hX => ?_) ?_
    rotate_left
    · have c15 := MsBlk.c hX 15 _ rfl
      have c16 := MsBlk.c hX 16 _ rfl
      have c17 := MsBlk.c hX 17 _ rfl
      have c18 := MsBlk.c hX 18 _ rfl
      go_simp
      try with_reducible rfl
    try simp only [Act.put, List.setIfInBounds_toArray, List.set_cons_zero, List.set_cons_succ]
    refine wpAnyL_two 1 6 (by kernel_rfl) rfl rfl (fun K2 hK2 => ?_) (fun K2 hK2 => ?_)
    · go_simp
      go_at_call 83
      (with_reducible refine (HK.out _ HD.out).mono ?_)
      rintro e W1 ⟨rfl, hB⟩
      have H1 := Lib.hid (HD.out.on hB)
      refine hK2.out _ _ (fun _ => H1.out.b0) ?_
      try simp only [Act.put, List.setIfInBounds_toArray, List.set_cons_zero, List.set_cons_succ]
      clear hK2 K2 hB
      refine wpAnyL_take (v := ?_) 5 rfl (by kernel_rfl) (by kernel_rfl) (by kernel_rfl) (fun _ _ _ h => h) (by kernel_rfl) (by kernel_rfl) H1.out.b0 (by rfl) (fun X hX => ?_) ?_
      rotate_left
      · go_simp
        try with_reducible rfl
      try simp only [Act.put, List.setIfInBounds_toArray, List.set_cons_zero, List.set_cons_succ]
      refine wpAnyL_op 6 (by kernel_rfl) rfl (fun K2 hK2 => ?_)
      go_simp
      have hB2 := (Below.refl W1.heap.size W1).alloc (Nat.le_refl _) (.cells #[.int .u8 0, .int .u8 0, .string ⟨#[]⟩, .slice none 0 0, .slice none 0 0, .string ⟨#[]⟩, .int .u8 0, .string ⟨#[]⟩, .slice none 0 0, .slice none 0 0] 39)
      have H2 := Lib.hid (H1.out.on hB2)
      refine hK2.out _ _ (fun _ => H2.out.b0) ?_
      try simp only [Act.put, List.setIfInBounds_toArray, List.set_cons_zero, List.set_cons_succ]
      clear hK2 K2 hB2
      have hrow : (W1.alloc (.cells #[.int .u8 0, .int .u8 0, .string ⟨#[]⟩, .slice none 0 0, .slice none 0 0, .string ⟨#[]⟩, .int .u8 0, .string ⟨#[]⟩, .slice none 0 0, .slice none 0 0] 39)).heap[W1.heap.size]? = _ := heap_alloc_new _ _
      refine wpAnyL_op 7 (by kernel_rfl) rfl (fun K2 hK2 => ?_)
      rw [if_pos (by rfl)]
      refine wp_store_row 39 _ _ rfl W1.heap.size #[.int .u8 K, .int .u8 M.i.k, .string M.i.x, .slice M.i.p M.i.n M.i.c, .slice M.i.q M.i.m M.i.e, .string ⟨#[]⟩, .int .u8 0, .string ⟨#[]⟩, .slice none 0 0, .slice none 0 0] (by rfl) (by rfl) 39 _ hrow info_call rfl (one_call K M.i ⟨#[]⟩ fd0) ?_
      have hrow2 := row_set (c := #[.int .u8 K, .int .u8 M.i.k, .string M.i.x, .slice M.i.p M.i.n M.i.c, .slice M.i.q M.i.m M.i.e, .string ⟨#[]⟩, .int .u8 0, .string ⟨#[]⟩, .slice none 0 0, .slice none 0 0]) hrow
      have HE := Lib.hid (And.intro (H2.out.past (W' := (W1.alloc (.cells #[.int .u8 0, .int .u8 0, .string ⟨#[]⟩, .slice none 0 0, .slice none 0 0, .string ⟨#[]⟩, .int .u8 0, .string ⟨#[]⟩, .slice none 0 0, .slice none 0 0] 39)).setRow W1.heap.size #[.int .u8 K, .int .u8 M.i.k, .string M.i.x, .slice M.i.p M.i.n M.i.c, .slice M.i.q M.i.m M.i.e, .string ⟨#[]⟩, .int .u8 0, .string ⟨#[]⟩, .slice none 0 0, .slice none 0 0]) H1.out.lt2 (below_setRow (Below.refl _ _) (Nat.le_refl _) _)) (And.intro hrow2 H1.out.lt2))
      refine hK2.out _ _ (fun e => absurd e (by decide)) ?_
      clear hK2 K2 hrow hrow2
      try simp only [Act.put, List.setIfInBounds_toArray, List.set_cons_zero, List.set_cons_succ]
      refine wpAnyL_end (by kernel_rfl) ?_
      go_wp2_with fail
      go_meet
      exact ⟨_, rfl, Lib.hid HE.out⟩
    · go_simp
      have hB2 := (Below.refl W0.heap.size W0).alloc (Nat.le_refl _) (.cells #[.int .u8 0, .int .u8 0, .string ⟨#[]⟩, .slice none 0 0, .slice none 0 0, .string ⟨#[]⟩, .int .u8 0, .string ⟨#[]⟩, .slice none 0 0, .slice none 0 0] 39)
      have H1 := Lib.hid (H0.out.on (hB2.drew))
      refine hK2.out _ _ (fun _ => H1.out.b0) ?_
      try simp only [Act.put, List.setIfInBounds_toArray, List.set_cons_zero, List.set_cons_succ]
      clear hK2 K2 hB2
      have hrow0 : ((W0.alloc (.cells #[.int .u8 0, .int .u8 0, .string ⟨#[]⟩, .slice none 0 0, .slice none 0 0, .string ⟨#[]⟩, .int .u8 0, .string ⟨#[]⟩, .slice none 0 0, .slice none 0 0] 39)).drew).heap[W0.heap.size]? = _ := heap_alloc_new _ _
      have HR0 := Lib.hid hrow0
      clear hrow0
      generalize (W0.alloc (.cells #[.int .u8 0, .int .u8 0, .string ⟨#[]⟩, .slice none 0 0, .slice none 0 0, .string ⟨#[]⟩, .int .u8 0, .string ⟨#[]⟩, .slice none 0 0, .slice none 0 0] 39)).drew = W1 at *
      refine wpAnyL_op 1 (by kernel_rfl) rfl (fun K2 hK2 => ?_)
      go_simp
      go_at_call 83
      (with_reducible refine (HK.out _ H1.out).mono ?_)
      rintro e W2 ⟨rfl, hB⟩
      have H2 := Lib.hid (H1.out.on hB)
      have hrow : W2.heap[W0.heap.size]? = _ := (hB.block _ (Array.getElem?_eq_some_iff.1 HR0.out).1).trans HR0.out
      refine hK2.out _ _ (fun _ => H2.out.b0) ?_
      try simp only [Act.put, List.setIfInBounds_toArray, List.set_cons_zero, List.set_cons_succ]
      clear hK2 K2 hB
      refine wpAnyL_op 5 (by kernel_rfl) rfl (fun K2 hK2 => ?_)
      go_simp
      refine hK2.out _ _ (fun _ => H2.out.b0) ?_
      try simp only [Act.put, List.setIfInBounds_toArray, List.set_cons_zero, List.set_cons_succ]
      clear hK2 K2
      refine wpAnyL_op 7 (by kernel_rfl) rfl (fun K2 hK2 => ?_)
      rw [if_pos (by rfl)]
      refine wp_store_row 39 _ _ rfl W0.heap.size #[.int .u8 K, .int .u8 M.i.k, .string M.i.x, .slice M.i.p M.i.n M.i.c, .slice M.i.q M.i.m M.i.e, .string ⟨#[]⟩, .int .u8 0, .string ⟨#[]⟩, .slice none 0 0, .slice none 0 0] (by rfl) (by rfl) 39 _ hrow info_call rfl (one_call K M.i ⟨#[]⟩ fd0) ?_
      have hrow2 := row_set (c := #[.int .u8 K, .int .u8 M.i.k, .string M.i.x, .slice M.i.p M.i.n M.i.c, .slice M.i.q M.i.m M.i.e, .string ⟨#[]⟩, .int .u8 0, .string ⟨#[]⟩, .slice none 0 0, .slice none 0 0]) hrow
      have HE := Lib.hid (And.intro (H2.out.past (W' := W2.setRow W0.heap.size #[.int .u8 K, .int .u8 M.i.k, .string M.i.x, .slice M.i.p M.i.n M.i.c, .slice M.i.q M.i.m M.i.e, .string ⟨#[]⟩, .int .u8 0, .string ⟨#[]⟩, .slice none 0 0, .slice none 0 0]) H0.out.lt2 (below_setRow (Below.refl _ _) (Nat.le_refl _) _)) (And.intro hrow2 H0.out.lt2))
      refine hK2.out _ _ (fun e => absurd e (by decide)) ?_
      clear hK2 K2 hrow hrow2
      try simp only [Act.put, List.setIfInBounds_toArray, List.set_cons_zero, List.set_cons_succ]
      refine wpAnyL_end (by kernel_rfl) ?_
      go_wp2_with fail
      go_meet
      exact ⟨_, rfl, Lib.hid HE.out⟩
  case rest =>
  obtain ⟨b, rfl, HC⟩ := hcut
  have HB2 := Lib.hid HC.out.2.2
  have H1 := Lib.hid HC.out.1
  have HL := Lib.hid HC.out.2.1
  have k0 := HL.out.c 0 _ rfl
  clear HC H0
  by_cases h3 : K = 3
  · have H3 := Lib.hid h3
    have t3 : ((K : Int) == 3) = true := by simp; omega
    clear h3
    have hl := HL.out
    have hb1 := H1.out.b1
    go_wp2_with (first
      | refine wpList_load_row rfl 39 _ rfl b (by rfl) 39 _ (0, 0) _ hl Tryz.underlying39 rfl info_call ?_
      | refine wpList_store_row rfl 39 _ _ rfl (w.heap.size + 1) #[.int .u8 K, .int .u8 M.i.k, .string M.i.x, .slice M.i.p M.i.n M.i.c, .slice M.i.q M.i.m M.i.e, .string ⟨#[]⟩, .int .u8 0, .string ⟨#[]⟩, .slice none 0 0, .slice none 0 0] (by rfl) (by rfl) 39 _ hb1 info_call rfl (one_call K M.i ⟨#[]⟩ fd0) ?_)
    have hrow := row_set (c := #[.int .u8 K, .int .u8 M.i.k, .string M.i.x, .slice M.i.p M.i.n M.i.c, .slice M.i.q M.i.m M.i.e, .string ⟨#[]⟩, .int .u8 0, .string ⟨#[]⟩, .slice none 0 0, .slice none 0 0]) hb1
    have hB2 := below_setRow (w0 := w) (B := w.heap.size) H1.out.below (g := w.heap.size + 1) (by omega) #[.int .u8 K, .int .u8 M.i.k, .string M.i.x, .slice M.i.p M.i.n M.i.c, .slice M.i.q M.i.m M.i.e, .string ⟨#[]⟩, .int .u8 0, .string ⟨#[]⟩, .slice none 0 0, .slice none 0 0]
    exact bodyPost_ret (results_cell_row Tryz.results84 _ _ (w.heap.size + 1) 39 _ (0, 0) _ (by rfl) hrow Tryz.underlying39 rfl info_call) rfl
      ⟨M.i, fd0, by rw [HKK.out.2.1, if_pos H3.out]; rfl, rfl, by rw [HKK.out.2.2.1, if_pos H3.out]; rfl, (HOK.out.below hB2).i, fd0_ok _ _, hB2⟩
  · have H3 := Lib.hid h3
    have t3 : ((K : Int) == 3) = false := by simp; omega
    have c6 := H1.out.b0.c 6 _ rfl
    clear h3
    go_wp2_with fail
    refine (HT.out _ H1.out).mono ?_
    rintro e W2 ⟨rfl, hB⟩
    have H2 := Lib.hid (H1.out.on hB)
    have HL2 := Lib.hid (HL.out.same hB)
    clear hB c6 k0 H1 HL
    have l5 := HL2.out.c 5 _ rfl
    have c10 := H2.out.b0.c 10 _ rfl
    have c11 := H2.out.b0.c 11 _ rfl
    have c12 := H2.out.b0.c 12 _ rfl
    have c13 := H2.out.b0.c 13 _ rfl
    have hfld : ∀ W : World, (Instr.field 25 (.agg #[.int .u8 4, .string FX, .slice none 0 0, .slice none 0 0]) 1).run Tryz.prog W = .ok (.string FX) W := fun W => by kernel_rfl
    have f5 := HL2.out.free
    go_wp2_with fail
    have H3' := Lib.hid (And.intro (H2.out.past (W' := W2.setCell ⟨b, 5, none⟩ (.string FX)) HB2.out (set5_below W2 b (.string FX))) (HL2.out.setF FX))
    have hs3 : (W2.setCell ⟨b, 5, none⟩ (.string FX)).heap.size = W2.heap.size := by simp
    have HS3 := Lib.hid hs3
    clear l5 c10 c11 c12 c13 HL2 H2 hfld f5 hs3
    generalize W2.setCell ⟨b, 5, none⟩ (.string FX) = W3 at *
    refine (HIS.out _ _ HS3.out H3'.out.1).mono ?_
    rintro e W4 ⟨rfl, hB⟩
    have H4 := Lib.hid (H3'.out.1.on hB)
    have HL4 := Lib.hid (H3'.out.2.same hB)
    clear hB H3'
    obtain ⟨r, hr⟩ : ∃ r, r = decide (M.p.k ∈ [0]) := ⟨_, rfl⟩
    rw [← hr]
    have HR := Lib.hid hr
    clear hr
    have hb1 := H4.out.b1
    have c10 := H4.out.b0.c 10 _ rfl
    have c11 := H4.out.b0.c 11 _ rfl
    have c12 := H4.out.b0.c 12 _ rfl
    have c13 := H4.out.b0.c 13 _ rfl
    cases r
    · have l6 := HL4.out.c 6 _ rfl
      have l7 := HL4.out.c 7 _ rfl
      have l8 := HL4.out.c 8 _ rfl
      have l9 := HL4.out.c 9 _ rfl
      have f4 := HL4.out.free
      have HP5 := Lib.hid (And.intro (H4.out.past (W' := (((W4.setCell ⟨b, 6, none⟩ (.int .u8 M.p.k)).setCell ⟨b, 7, none⟩ (.string M.p.x)).setCell ⟨b, 8, none⟩ (.slice M.p.p M.p.n M.p.c)).setCell ⟨b, 9, none⟩ (.slice M.p.q M.p.m M.p.e)) HB2.out (set4s_below W4 b _ _ _ _)) (HL4.out.setP M.p))
      obtain ⟨W5, hW5⟩ : ∃ W5, W5 = (((W4.setCell ⟨b, 6, none⟩ (.int .u8 M.p.k)).setCell ⟨b, 7, none⟩ (.string M.p.x)).setCell ⟨b, 8, none⟩ (.slice M.p.p M.p.n M.p.c)).setCell ⟨b, 9, none⟩ (.slice M.p.q M.p.m M.p.e) := ⟨_, rfl⟩
      rw [← hW5] at HP5
      have hl := HP5.out.2
      have hb5 := HP5.out.1.b1
      go_upto_region 7 with fail
      rw [← hW5]
      clear hW5 c10 c11 c12 c13 l6 l7 l8 l9 f4 HL4 H4 hb1
      go_wp2_with (first
        | refine wpList_load_row rfl 39 _ rfl b (by rfl) 39 _ (0, 0) _ hl Tryz.underlying39 rfl info_call ?_
        | refine wpList_store_row rfl 39 _ _ rfl (w.heap.size + 1) #[.int .u8 K, .int .u8 M.i.k, .string M.i.x, .slice M.i.p M.i.n M.i.c, .slice M.i.q M.i.m M.i.e, .string FX, .int .u8 M.p.k, .string M.p.x, .slice M.p.p M.p.n M.p.c, .slice M.p.q M.p.m M.p.e] (by rfl) (by rfl) 39 _ hb5 info_call rfl (one_call K M.i FX M.p) ?_)
      have hrow := row_set (c := #[.int .u8 K, .int .u8 M.i.k, .string M.i.x, .slice M.i.p M.i.n M.i.c, .slice M.i.q M.i.m M.i.e, .string FX, .int .u8 M.p.k, .string M.p.x, .slice M.p.p M.p.n M.p.c, .slice M.p.q M.p.m M.p.e]) hb5
      have hB2 := below_setRow (w0 := w) (B := w.heap.size) HP5.out.1.below (g := w.heap.size + 1) (by omega) #[.int .u8 K, .int .u8 M.i.k, .string M.i.x, .slice M.i.p M.i.n M.i.c, .slice M.i.q M.i.m M.i.e, .string FX, .int .u8 M.p.k, .string M.p.x, .slice M.p.p M.p.n M.p.c, .slice M.p.q M.p.m M.p.e]
      exact bodyPost_ret (results_cell_row Tryz.results84 _ _ (w.heap.size + 1) 39 _ (0, 0) _ (by rfl) hrow Tryz.underlying39 rfl info_call) rfl
        ⟨M.i, M.p, by rw [HKK.out.2.1, if_neg H3.out], rfl, by rw [HKK.out.2.2.1, if_neg H3.out, if_neg (by have := HR.out; simpa using this.symm)], (HOK.out.below hB2).i, (HOK.out.below hB2).p, hB2⟩
    · have hl := HL4.out
      go_wp2_with (first
        | refine wpList_load_row rfl 39 _ rfl b (by rfl) 39 _ (0, 0) _ hl Tryz.underlying39 rfl info_call ?_
        | refine wpList_store_row rfl 39 _ _ rfl (w.heap.size + 1) #[.int .u8 K, .int .u8 M.i.k, .string M.i.x, .slice M.i.p M.i.n M.i.c, .slice M.i.q M.i.m M.i.e, .string FX, .int .u8 0, .string ⟨#[]⟩, .slice none 0 0, .slice none 0 0] (by rfl) (by rfl) 39 _ hb1 info_call rfl (one_call K M.i FX fd0) ?_)
      have hrow := row_set (c := #[.int .u8 K, .int .u8 M.i.k, .string M.i.x, .slice M.i.p M.i.n M.i.c, .slice M.i.q M.i.m M.i.e, .string FX, .int .u8 0, .string ⟨#[]⟩, .slice none 0 0, .slice none 0 0]) hb1
      have hB2 := below_setRow (w0 := w) (B := w.heap.size) H4.out.below (g := w.heap.size + 1) (by omega) #[.int .u8 K, .int .u8 M.i.k, .string M.i.x, .slice M.i.p M.i.n M.i.c, .slice M.i.q M.i.m M.i.e, .string FX, .int .u8 0, .string ⟨#[]⟩, .slice none 0 0, .slice none 0 0]
      exact bodyPost_ret (results_cell_row Tryz.results84 _ _ (w.heap.size + 1) 39 _ (0, 0) _ (by rfl) hrow Tryz.underlying39 rfl info_call) rfl
        ⟨M.i, fd0, by rw [HKK.out.2.1, if_neg H3.out]; rfl, rfl, by rw [HKK.out.2.2.1, if_neg H3.out, if_pos (by have := HR.out; simpa using this.symm)]; rfl, (HOK.out.below hB2).i, fd0_ok _ _, hB2⟩
end Go.Proofs.YtagafedkfkmkbaaGreatDoor
