/- What is read is of one kind: the law. Conditions: such as Go can hold; a method of at most 10^10 bytes; the library's tables; strconv.ErrRange holds an error. -/
import Derived.Test.YtagafedkfkmkbaaGreatDoorMO49
import Derived.Test.YtagafedkfkmkbaaGreatDoorMO50
namespace Go.Proofs.YtagafedkfkmkbaaGreatDoor
open Go Go.RowKit Go.Lib

theorem fi_find {d : Nat} : ∀ (t : V.T) (nm : ByteArray) (k : Nat) (x : ByteArray) (l f : V.T), Fi t d → t.find nm = some (k, x, l, f) → Fit ⟨#[]⟩ k x
  | .nil, _, _, _, _, _, _, h => by cases h
  | .cons nm' k' x' l' f' tl, nm, k, x, l, f, hF, h => by
    unfold V.T.find at h
    split at h
    · cases h
      exact ⟨hF.2.1.1, hF.2.1.2.1, Nat.zero_le _⟩
    · exact fi_find tl nm k x l f hF.2.2.2.2 h
theorem six_fit {w : World} {A : Nat → Prop} {u : Value} {k : Nat} {f : V.T} (hf : HS w A 1 u f) (nm : ByteArray) : Fit ⟨#[]⟩ (V.res (V.got k f nm)).1 (V.res (V.got k f nm)).2.1 := by
  unfold V.got
  by_cases h : k = 6
  · rw [if_pos h]
    cases e : f.find nm with
    | none => exact ⟨by decide, by decide, Nat.zero_le _⟩
    | some o =>
      obtain ⟨k1, x1, l1, f1⟩ := o
      exact fi_find f nm k1 x1 l1 f1 hf.fi e
  · rw [if_neg h]
    exact ⟨by decide, by decide, Nat.zero_le _⟩
theorem callP_fit {s : Six} (h : Fit ⟨#[]⟩ s.p.1 s.p.2.1) : Fit ⟨#[]⟩ s.callP.1 s.callP.2.1 := by
  unfold Six.callP
  split
  · exact ⟨by decide, by decide, Nat.zero_le _⟩
  · split
    · exact ⟨by decide, by decide, Nat.zero_le _⟩
    · exact h
theorem callF_fix (s : Six) : U.fixS s.callF = s.callF := by
  unfold Six.callF
  split
  · exact fix_e
  · exact U.fix_fix _
section
variable {P : Program} {ops : Array Oper} {Q : Exit → Act → World → Prop} {md : Region.Mode} {S : World → Prop} {zs : List Nat}
/-- an operation that is not wanted is passed by first -/
theorem wpAnyL_pass (i : Nat) {oi : Oper} {fuel : Nat} {listed : Array Bool} {a : Act} {w : World} (hi : ops[i]? = some oi)
    (hs : Region.noSelect ops = true) (hf : Region.free md ops listed i = true) (hr : (Region.ready md ops listed).contains i = true)
    (hQ : ∀ c a w, Q (.panic c) (a.put oi.dst undef) w → Q (.panic c) a w) (hl : allB md ops zs i = true) (hc : closedB md ops listed = true) (hS : S w)
    (hw : Region.wanted oi (yielded ops a.tmps) = false)
    (h : wpAnyL P md ops Q S zs fuel (listed.setIfInBounds i true) (a.put oi.dst undef) w) : wpAnyL P md ops Q S zs (fuel + 1) listed a w :=
  wpAnyL_first hi (Region.noSelect_spec hs) hQ hl fuel listed a w (Region.free_spec hi hf) (by simpa using hr) (.inr ⟨hw, rfl⟩) hS (closed_of hc) h
end
structure OnSt (w : World) (k : Nat) (x : ByteArray) (v u : Value) (W : World) : Prop where
  below : Below w.heap.size w W
  b0 : Blk4 W w.heap.size 25 (.int .u8 k) (.string x) v u
theorem OnSt.on {w : World} {k : Nat} {x : ByteArray} {v u : Value} {W W' : World} (h : OnSt w k x v u W) (hB : Below W.heap.size W W') : OnSt w k x v u W' :=
  ⟨h.below.trans (hB.mono h.below.size), h.b0.same (hB.block _ h.b0.lt)⟩
def S11 (w : World) (k : Nat) (x : ByteArray) (v u : Value) (n1 K : Nat) (di : Fd) (F : ByteArray) (dp : Fd) (n2 : Nat) (d2 g2 : Fd) (X : World) : Prop := Box4 X w.heap.size (.int .u8 k) (.string x) v u ∧ ClBlk X n1 K di F dp ∧ ClBlk X n2 K d2 F g2
structure R11 (w : World) (k : Nat) (x : ByteArray) (v u : Value) (n1 K : Nat) (di : Fd) (F : ByteArray) (dp : Fd) (n2 : Nat) (d2 g2 : Fd) (W : World) : Prop where
  on : OnSt w k x v u W
  c1 : ClBlk W n1 K di F dp
  c2 : ClBlk W n2 K d2 F g2
  o1 : di.Ok (fun _ => True) W
  o2 : dp.Ok (fun _ => True) W
  o3 : d2.Ok (fun _ => True) W
  o4 : g2.Ok (fun _ => True) W
theorem R11.go {w : World} {k : Nat} {x : ByteArray} {v u : Value} {n1 K : Nat} {di : Fd} {F : ByteArray} {dp : Fd} {n2 : Nat} {d2 g2 : Fd} {W W' : World} (h : R11 w k x v u n1 K di F dp n2 d2 g2 W) (hB : Below W.heap.size W W') : R11 w k x v u n1 K di F dp n2 d2 g2 W' :=
  ⟨h.on.on hB, h.c1.same hB, h.c2.same hB, h.o1.below hB, h.o2.below hB, h.o3.below hB, h.o4.below hB⟩
theorem R11.s {w : World} {k : Nat} {x : ByteArray} {v u : Value} {n1 K : Nat} {di : Fd} {F : ByteArray} {dp : Fd} {n2 : Nat} {d2 g2 : Fd} {W : World} (h : R11 w k x v u n1 K di F dp n2 d2 g2 W) : S11 w k x v u n1 K di F dp n2 d2 g2 W := ⟨h.on.b0.box, h.c1, h.c2⟩
/-- what each operation of the statement yields -/
def F11 (k : Nat) (x : ByteArray) (v u : Value) (n1 : Nat) (di : Fd) (F : ByteArray) (dp : Fd) (n2 : Nat) (d2 g2 : Fd) (b0 : Bool) (R : R5) : Nat → Value → World → Prop
  | 0, y, W => y = .pointer (some ⟨n1, 1, none⟩)
  | 1, y, W => y = .agg #[.int .u8 di.k, .string di.x, .slice di.p di.n di.c, .slice di.q di.m di.e]
  | 2, y, W => y = .bool true
  | 3, y, W => y = .bool true
  | 4, y, W => y = .int .i64 0
  | 5, y, W => y = .bool true
  | 6, y, W => y = .bool true
  | 7, y, W => y = .bool true
  | 8, y, W => y = .pointer (some ⟨n1, 6, none⟩)
  | 9, y, W => y = .pointer (some ⟨n1, 6, none⟩)
  | 10, y, W => y = .int .u8 dp.k
  | 11, y, W => y = .bool b0
  | 12, y, W => y = .bool b0
  | 13, y, W => b0 = false → y = .pointer (some ⟨n1, 5, none⟩)
  | 14, y, W => b0 = false → y = .string F
  | 15, y, W => b0 = false → y = .bool true
  | 16, y, W => b0 = false → y = .agg #[.int .u8 1, .int .u8 di.k, .string di.x, .slice di.p di.n di.c, .slice di.q di.m di.e, .string F, .int .u8 dp.k, .string dp.x, .slice dp.p dp.n dp.c, .slice dp.q dp.m dp.e]
  | 17, y, W => b0 = false → y = .agg #[.int .u8 1, .int .u8 d2.k, .string d2.x, .slice d2.p d2.n d2.c, .slice d2.q d2.m d2.e, .string F, .int .u8 g2.k, .string g2.x, .slice g2.p g2.n g2.c, .slice g2.q g2.m g2.e]
  | 18, y, W => b0 = false → y = .bool true
  | 19, y, W => b0 = false → y = .bool true
  | 20, y, W => y = .bool true
  | 21, y, W => y = .bool true
  | 22, y, W => y = .bool true
  | 23, y, W => y = .agg #[.int .u8 k, .string x, v, u]
  | 24, y, W => ∃ d3 : Fd, y = .agg #[.int .u8 d3.k, .string d3.x, .slice d3.p d3.n d3.c, .slice d3.q d3.m d3.e] ∧ d3.r = R ∧ d3.Ok (fun _ => True) W
  | 25, y, W => y = .pointer (some ⟨n1, 1, none⟩)
  | 26, y, W => y = .agg #[.int .u8 di.k, .string di.x, .slice di.p di.n di.c, .slice di.q di.m di.e]
  | 27, y, W => y = .bool true
  | 28, y, W => y = .bool true
  | _, _, _ => True
theorem F11.on {k : Nat} {x : ByteArray} {v u : Value} {n1 : Nat} {di : Fd} {F : ByteArray} {dp : Fd} {n2 : Nat} {d2 g2 : Fd} {b0 : Bool} {R : R5} {i : Nat} {y : Value} {W W' : World} (h : F11 k x v u n1 di F dp n2 d2 g2 b0 R i y W) (hB : Below W.heap.size W W') : F11 k x v u n1 di F dp n2 d2 g2 b0 R i y W' := by
  unfold F11 at h ⊢
  split at h
  · exact h
  · exact h
  · exact h
  · exact h
  · exact h
  · exact h
  · exact h
  · exact h
  · exact h
  · exact h
  · exact h
  · exact h
  · exact h
  · exact h
  · exact h
  · exact h
  · exact h
  · exact h
  · exact h
  · exact h
  · exact h
  · exact h
  · exact h
  · exact h
  · obtain ⟨d3, h1, h2, h3⟩ := h; exact ⟨d3, h1, h2, h3.below hB⟩
  · exact h
  · exact h
  · exact h
  · exact h
  · trivial
/-- what each operation of the statement yields -/
def F14 (n1 : Nat) (di : Fd) (F : ByteArray) (dp : Fd) (n2 : Nat) (d2 g2 : Fd) (b0 : Bool) : Nat → Value → World → Prop
  | 0, y, W => y = .pointer (some ⟨n1, 1, none⟩)
  | 1, y, W => y = .pointer (some ⟨n1, 1, none⟩)
  | 2, y, W => y = .int .u8 di.k
  | 3, y, W => y = .bool true
  | 4, y, W => y = .bool true
  | 5, y, W => y = .int .i64 0
  | 6, y, W => y = .bool true
  | 7, y, W => y = .bool true
  | 8, y, W => y = .bool true
  | 9, y, W => y = .pointer (some ⟨n1, 6, none⟩)
  | 10, y, W => y = .pointer (some ⟨n1, 6, none⟩)
  | 11, y, W => y = .int .u8 dp.k
  | 12, y, W => y = .bool b0
  | 13, y, W => y = .bool b0
  | 14, y, W => b0 = false → y = .pointer (some ⟨n1, 5, none⟩)
  | 15, y, W => b0 = false → y = .string F
  | 16, y, W => b0 = false → y = .bool true
  | 17, y, W => b0 = false → y = .agg #[.int .u8 2, .int .u8 di.k, .string di.x, .slice di.p di.n di.c, .slice di.q di.m di.e, .string F, .int .u8 dp.k, .string dp.x, .slice dp.p dp.n dp.c, .slice dp.q dp.m dp.e]
  | 18, y, W => b0 = false → y = .agg #[.int .u8 2, .int .u8 d2.k, .string d2.x, .slice d2.p d2.n d2.c, .slice d2.q d2.m d2.e, .string F, .int .u8 g2.k, .string g2.x, .slice g2.p g2.n g2.c, .slice g2.q g2.m g2.e]
  | 19, y, W => b0 = false → y = .bool true
  | 20, y, W => b0 = false → y = .bool true
  | 21, y, W => y = .bool true
  | 22, y, W => y = .bool true
  | _, _, _ => True
theorem F14.on {n1 : Nat} {di : Fd} {F : ByteArray} {dp : Fd} {n2 : Nat} {d2 g2 : Fd} {b0 : Bool} {i : Nat} {y : Value} {W W' : World} (h : F14 n1 di F dp n2 d2 g2 b0 i y W) : F14 n1 di F dp n2 d2 g2 b0 i y W' := by
  unfold F14 at h ⊢
  split at h
  · exact h
  · exact h
  · exact h
  · exact h
  · exact h
  · exact h
  · exact h
  · exact h
  · exact h
  · exact h
  · exact h
  · exact h
  · exact h
  · exact h
  · exact h
  · exact h
  · exact h
  · exact h
  · exact h
  · exact h
  · exact h
  · exact h
  · exact h
  · trivial
theorem res_no (o : Option (Nat × ByteArray × V.T × V.T)) (h : (V.res o).2.2.2.2 = false) : V.res o = r0 := by
  cases o with
  | none => rfl
  | some z => cases h
set_option maxHeartbeats 8000000 in
set_option maxRecDepth 100000 in
theorem oneLaw_any (k : Nat) (x : ByteArray) (v u : Value) (l f : V.T) (A : Nat → Prop) (w : World) (hl : HS w A 0 v l) (hf : HS w A 1 u f) (hm : (sixOf k f).m.2.1.size ≤ 10000000000) (hP : PowTab w) (hT : Tabs w) (hE : ErrC w) :
    Calls Tryz.prog 4 #[.agg #[.int .u8 k, .string x, v, u]] w (Bools true w) := by
  have hx : (sixOf k f).i.2.1.size ≤ 140737488355328 := (six_fit hf nmI).2.1
  have hB0 := (Below.refl w.heap.size w).alloc (Nat.le_refl _) (.cells #[.int .u8 k, .string x, v, u] 25)
  have H0 := Lib.hid (show OnSt w k x v u (w.alloc (.cells #[.int .u8 k, .string x, v, u] 25)) from ⟨hB0, heap_alloc_new _ _⟩)
  have HA := Lib.hid (fun W (h : Below w.heap.size w W) => awake6_any W (tabs_below hT h) (pow_on hP h) (hE.on h))
  have HG := Lib.hid (fun W b (hb : W.heap.size = b) (h : Below w.heap.size w W) => (show Calls Tryz.prog 22 #[.slice (some ⟨b, 0, none⟩) 1 1] (W.alloc (.cells #[.int .u8 k, .string x, v, u] 25)) (Great1 (W.alloc (.cells #[.int .u8 k, .string x, v, u] 25))) from by
    subst hb
    have hB := (Below.refl W.heap.size W).alloc (Nat.le_refl _) (.cells #[.int .u8 k, .string x, v, u] 25)
    exact great1_any W.heap.size 1 k x v u l f A _ (by decide) (one4_of W k x v u) ((hl.below h).below hB) ((hf.below h).below hB)))
  have HR := Lib.hid (fun W (h : Below w.heap.size w W) => read_any k x v u l f A W (hl.below h) (hf.below h) hx (by omega) (by have := U.fix_size (sixOf k f).m.2.1; omega) (tabs_below hT h) (hE.on h))
  have HID := Lib.hid (fun W (h : Below w.heap.size w W) => ID_any k x v u l f A W (hl.below h) (hf.below h) hx (tabs_below hT h) (hE.on h))
  have hfi : Fit ⟨#[]⟩ (sixOf k f).i.1 (sixOf k f).i.2.1 := six_fit hf nmI
  have hfp : Fit ⟨#[]⟩ (sixOf k f).callP.1 (sixOf k f).callP.2.1 := callP_fit (six_fit hf nmP)
  have hcf : (sixOf k f).callF.size ≤ 30000000000 := by
    unfold Six.callF
    split
    · decide
    · have := U.fix_size (sixOf k f).m.2.1; omega
  obtain ⟨p, c, rfl, -⟩ := hl.len
  obtain ⟨q, d, rfl, -⟩ := hf.len
  have HALL := Lib.hid (And.intro hfi (And.intro hfp (And.intro hcf (And.intro hP (And.intro hT (And.intro hE (callF_fix (sixOf k f))))))))
  have HIF := Lib.hid (show (sixOf k f).i.2.2.2.2 = false → (sixOf k f).i = r0 from res_no _)
  clear hl hf hm hx hP hT hE hfi hfp hcf hB0
  generalize sixOf k f = s at *
  go_enter Tryz.func4, Tryz.ntmps4
  go_wp2_with fail
  generalize w.alloc (.cells #[.int .u8 k, .string x, .slice p l.len c, .slice q f.len d] 25) = W0 at *
  refine (HA.out _ H0.out.below).mono ?_
  rintro e w1 ⟨rfl, hB1⟩
  have H1 := Lib.hid (H0.out.on hB1)
  clear hB1 H0
  obtain ⟨x0, x1, x2, x3⟩ := H1.out.b0.box
  go_wp2_with fail
  refine (HG.out w1 _ rfl H1.out.below).mono ?_
  rintro e w2 ⟨r, rfl, hB2⟩
  have hBa := ((Below.refl w1.heap.size w1).alloc (Nat.le_refl _) (.cells #[.int .u8 k, .string x, .slice p l.len c, .slice q f.len d] 25))
  have H2 := Lib.hid (H1.out.on (hBa.trans (hB2.mono hBa.size)))
  clear hB2 hBa H1 x0 x1 x2 x3
  cases r
  rotate_left
  · go_wp2_with fail
    go_ret
    exact ⟨rfl, H2.out.below⟩
  obtain ⟨x0, x1, x2, x3⟩ := H2.out.b0.box
  go_wp2_with fail
  refine (HR.out _ H2.out.below).mono ?_
  rintro e w3 hrd
  obtain ⟨ok, hok⟩ : ∃ b, b = s.holds := ⟨_, rfl⟩
  rw [← hok] at hrd
  have HOK := Lib.hid hok
  clear hok x0 x1 x2 x3
  cases ok
  · obtain ⟨rfl, hB⟩ := readIs_no.1 hrd
    have hBa := (Below.refl w3.heap.size w3).alloc (Nat.le_refl _) (.cells #[.int .u8 0, .int .u8 0, .string ⟨#[]⟩, .slice none 0 0, .slice none 0 0, .string ⟨#[]⟩, .int .u8 0, .string ⟨#[]⟩, .slice none 0 0, .slice none 0 0] 39)
    have H3 := Lib.hid (H2.out.below.trans ((hB.trans (hBa.mono hB.size)).mono H2.out.below.size))
    have HS6 := Lib.hid (fun W => same6_any 0 fd0 ⟨#[]⟩ fd0 0 fd0 ⟨#[]⟩ fd0 (fun _ => True) (fun _ => True) W (fd0_ok _ _) (fd0_ok _ _) (fd0_ok _ _) (fd0_ok _ _))
    have hv : (decide (0 = 0) && decide ((⟨#[]⟩ : ByteArray) = ⟨#[]⟩) && veqR fd0.r fd0.r && veqR fd0.r fd0.r) = true := by rw [veqR_self]; simp
    rw [hv] at HS6
    clear hrd hB hBa hv H2
    go_wp2_with fail
    refine (HS6.out _).mono ?_
    rintro e w4 ⟨rfl, hB⟩
    have H4 := Lib.hid (H3.out.trans (hB.mono H3.out.size))
    clear hB
    go_wp2_with fail
    go_ret
    exact ⟨rfl, H4.out⟩
  obtain ⟨di, dp, rfl, hdi, hdp, oi, op, hB⟩ := readIs_yes.1 hrd
  have hBa := (Below.refl w3.heap.size w3).alloc (Nat.le_refl _) (.cells #[.int .u8 s.kind, .int .u8 di.k, .string di.x, .slice di.p di.n di.c, .slice di.q di.m di.e, .string s.callF, .int .u8 dp.k, .string dp.x, .slice dp.p dp.n dp.c, .slice dp.q dp.m dp.e] 39)
  have H3 := Lib.hid (H2.out.on (hB.trans (hBa.mono hB.size)))
  have HC := Lib.hid (show ClBlk (w3.alloc (.cells #[.int .u8 s.kind, .int .u8 di.k, .string di.x, .slice di.p di.n di.c, .slice di.q di.m di.e, .string s.callF, .int .u8 dp.k, .string dp.x, .slice dp.p dp.n dp.c, .slice dp.q dp.m dp.e] 39)) w3.heap.size s.kind di s.callF dp from heap_alloc_new _ _)
  have HD := Lib.hid (And.intro hdi (And.intro hdp (And.intro ((oi.imp (A' := fun _ => True) (fun _ _ _ => trivial) (fun _ _ _ => rfl)).below hBa) ((op.imp (A' := fun _ => True) (fun _ _ _ => trivial) (fun _ _ _ => rfl)).below hBa))))
  clear hrd hB hBa hdi hdp oi op H2
  have HF3 := Lib.hid (fun h : s.kind = 3 => (show s.callF = ⟨#[]⟩ from by unfold Six.callF; rw [if_pos h]))
  generalize s.callF = F at *
  rcases Six.kind_is s with hk | hk | hk
  · have hq := one_req HOK.out.symm hk
    rw [hk] at HC H3 HD
    rw [hk]
    have hff : U.fixS F = F := HALL.out.2.2.2.2.2.2
    have hfz : F.size ≤ 30000000000 := HALL.out.2.2.1
    have hfi : Fit ⟨#[]⟩ di.k di.x := by
      have h1 := congrArg (fun r : R5 => r.1) HD.out.1
      have h2 := congrArg (fun r : R5 => r.2.1) HD.out.1
      rw [show di.k = s.i.1 from h1, show di.x = s.i.2.1 from h2]; exact HALL.out.1
    have hfp : Fit ⟨#[]⟩ dp.k dp.x := by
      have h1 := congrArg (fun r : R5 => r.1) HD.out.2.1
      have h2 := congrArg (fun r : R5 => r.2.1) HD.out.2.1
      rw [show dp.k = s.callP.1 from h1, show dp.x = s.callP.2.1 from h2]; exact HALL.out.2.1
    have hpk : decide (dp.k ∈ [5, 6, 0]) = true := by
      rw [show dp.k = s.callP.1 from congrArg (fun r : R5 => r.1) HD.out.2.1]; exact hq.2.1
    have hpv : veqR dp.r (pV dp.k dp.x dp.l dp.f) = true := by
      have e := hq.2.2
      rw [← HD.out.2.1] at e
      rw [show pV dp.k dp.x dp.l dp.f = (dp.k, dp.x, dp.l, dp.f, decide (¬ dp.k = 0)) from e]
      exact veqR_self (dp.k, dp.x, dp.l, dp.f, decide (¬ dp.k = 0))
    have hmid : midV di.k di.x di.l di.f = true := by
      have := hq.1
      rw [← HD.out.1] at this
      exact this
    have hok1 : di.Ok (fun _ => True) (w3.alloc (.cells #[.int .u8 1, .int .u8 di.k, .string di.x, .slice di.p di.n di.c, .slice di.q di.m di.e, .string F, .int .u8 dp.k, .string dp.x, .slice dp.p dp.n dp.c, .slice dp.q dp.m dp.e] 39)) := HD.out.2.2.1
    have hok2 : dp.Ok (fun _ => True) (w3.alloc (.cells #[.int .u8 1, .int .u8 di.k, .string di.x, .slice di.p di.n di.c, .slice di.q di.m di.e, .string F, .int .u8 dp.k, .string dp.x, .slice dp.p dp.n dp.c, .slice dp.q dp.m dp.e] 39)) := HD.out.2.2.2
    have HI := Lib.hid HD.out.1
    have HP1 := Lib.hid (And.intro hpv (And.intro hmid (And.intro hpk (And.intro hq.1 ((U.fix_same F).1 hff)))))
    have HFC := Lib.hid (And.intro hff (And.intro hfz (And.intro hfi hfp)))
    go_upto_region 10 with fail
    generalize w3.alloc (.cells #[.int .u8 1, .int .u8 di.k, .string di.x, .slice di.p di.n di.c, .slice di.q di.m di.e, .string F, .int .u8 dp.k, .string dp.x, .slice dp.p dp.n dp.c, .slice dp.q dp.m dp.e] 39) = W4 at *
    generalize w3.heap.size = n1 at *
    have HOS := Lib.hid (And.intro hok1 hok2)
    have HRQ := Lib.hid (request_any F di.k di.x (.slice di.p di.n di.c) (.slice di.q di.m di.e) di.l di.f dp.k dp.x (.slice dp.p dp.n dp.c) (.slice dp.q dp.m dp.e) dp.l dp.f (fun _ => True) (fun _ => True) W4 (by omega) hfi hfp hok1.l hok1.f hok2.l hok2.f (tabs_below HALL.out.2.2.2.2.1 H3.out.below))
    have HRD := Lib.hid (fun W (h : Below w.heap.size w W) (v u : Value) hl hf => rdReq (i := di) (p := dp) (s := F) W v u hfi.2.1 (by omega) (.inr hl) hf (tabs_below HALL.out.2.2.2.2.1 h) (HALL.out.2.2.2.2.2.1.on h))
    rw [hpk, hmid, hff] at HRD
    rw [hff] at HRQ
    clear hq hff hfz hfi hfp hpk hpv hmid hok1 hok2 hk HD
    have a0 := HC.out.c 0 _ rfl
    have a1 := HC.out.c 1 _ rfl
    have a2 := HC.out.c 2 _ rfl
    have a3 := HC.out.c 3 _ rfl
    have a4 := HC.out.c 4 _ rfl
    have a5 := HC.out.c 5 _ rfl
    have a6 := HC.out.c 6 _ rfl
    have a7 := HC.out.c 7 _ rfl
    have a8 := HC.out.c 8 _ rfl
    have a9 := HC.out.c 9 _ rfl
    go_wp2_with fail
    refine HRQ.out.mono ?_
    rintro e w5 ⟨v5, u5, rfl, hl5, hf5, hB⟩
    have H5 := Lib.hid (And.intro (H3.out.on hB) (And.intro (HC.out.same hB) (And.intro (HOS.out.1.below hB) (HOS.out.2.below hB))))
    have HRR := Lib.hid (HRD.out w5 H5.out.1.below v5 u5 (hl5.mono (fun _ _ _ => trivial)) (hf5.mono (fun _ _ _ => trivial)))
    obtain ⟨p5, c5, rfl, -⟩ := hl5.len
    obtain ⟨q5, d5, rfl, -⟩ := hf5.len
    clear hB hl5 hf5 a0 a1 a2 a3 a4 a5 a6 a7 a8 a9 H3 HC HOS HRQ HRD
    go_wp2_with fail
    refine HRR.out.mono ?_
    rintro e w6 hrd
    obtain ⟨d2, g2, rfl, hd2, hg2, o2, r2, hB⟩ := readIs_yes.1 hrd
    have hBa := (Below.refl w6.heap.size w6).alloc (Nat.le_refl _) (.cells #[.int .u8 1, .int .u8 d2.k, .string d2.x, .slice d2.p d2.n d2.c, .slice d2.q d2.m d2.e, .string F, .int .u8 g2.k, .string g2.x, .slice g2.p g2.n g2.c, .slice g2.q g2.m g2.e] 39)
    have hBB := hB.trans (hBa.mono hB.size)
    have H6 := Lib.hid (And.intro (H5.out.1.on hBB) (And.intro (H5.out.2.1.same hBB) (And.intro (H5.out.2.2.1.below hBB) (H5.out.2.2.2.below hBB))))
    have H7 := Lib.hid (And.intro (show ClBlk (w6.alloc (.cells #[.int .u8 1, .int .u8 d2.k, .string d2.x, .slice d2.p d2.n d2.c, .slice d2.q d2.m d2.e, .string F, .int .u8 g2.k, .string g2.x, .slice g2.p g2.n g2.c, .slice g2.q g2.m g2.e] 39)) w6.heap.size 1 d2 F g2 from heap_alloc_new _ _) (And.intro hd2 (And.intro hg2 (And.intro ((o2.imp (A' := fun _ => True) (fun _ _ _ => trivial) (fun _ _ _ => rfl)).below hBa) ((r2.imp (A' := fun _ => True) (fun _ _ _ => trivial) (fun _ _ _ => rfl)).below hBa)))))
    clear hrd hB hBa hBB hd2 hg2 o2 r2 H5 HRR
    go_upto_region 11 with fail
    generalize w6.alloc (.cells #[.int .u8 1, .int .u8 d2.k, .string d2.x, .slice d2.p d2.n d2.c, .slice d2.q d2.m d2.e, .string F, .int .u8 g2.k, .string g2.x, .slice g2.p g2.n g2.c, .slice g2.q g2.m g2.e] 39) = W7 at *
    generalize w6.heap.size = n2 at *
    have HMY := Lib.hid (fun W (h : R11 w k x (.slice p l.len c) (.slice q f.len d) n1 1 di F dp n2 d2 g2 W) => (show Calls Tryz.prog 26 #[.agg #[.int .u8 di.k, .string di.x, .slice di.p di.n di.c, .slice di.q di.m di.e]] W (Bools true W) from by
      have hh := mayID_any di.k di.x (.slice di.p di.n di.c) (.slice di.q di.m di.e) di.l di.f (fun _ => True) W HFC.out.2.2.1.2.1 h.o1.l h.o1.f (tabs_below HALL.out.2.2.2.2.1 h.on.below) (HALL.out.2.2.2.2.2.1.on h.on.below)
      rw [HP1.out.2.1] at hh
      exact hh))
    have HVA := Lib.hid (fun W (h : Below w.heap.size w W) => (show Calls Tryz.prog 27 #[.string F] W (Bools true W) from by
      have hh := utfValid_any F W (by have := HFC.out.2.1; omega) (tabs_below HALL.out.2.2.2.2.1 h)
      rw [HP1.out.2.2.2.2] at hh
      exact hh))
    have HS6 := Lib.hid (fun W (h : R11 w k x (.slice p l.len c) (.slice q f.len d) n1 1 di F dp n2 d2 g2 W) => (show Calls Tryz.prog 24 #[.agg #[.int .u8 1, .int .u8 di.k, .string di.x, .slice di.p di.n di.c, .slice di.q di.m di.e, .string F, .int .u8 dp.k, .string dp.x, .slice dp.p dp.n dp.c, .slice dp.q dp.m dp.e], .agg #[.int .u8 1, .int .u8 d2.k, .string d2.x, .slice d2.p d2.n d2.c, .slice d2.q d2.m d2.e, .string F, .int .u8 g2.k, .string g2.x, .slice g2.p g2.n g2.c, .slice g2.q g2.m g2.e]] W (Bools true W) from by
      have hh := same6_any 1 di F dp 1 d2 F g2 (fun _ => True) (fun _ => True) W h.o1 h.o2 h.o3 h.o4
      have hv : (decide (1 = 1) && decide (F = F) && veqR di.r d2.r && veqR dp.r g2.r) = true := by
        rw [H7.out.2.1, H7.out.2.2.1, HP1.out.1, show veqR di.r (gotV di.k di.x di.l di.f) = true from veqR_self (gotV di.k di.x di.l di.f)]; simp
      rw [hv] at hh
      exact hh))
    have HSJ := Lib.hid (fun W (d3 : Fd) (h : R11 w k x (.slice p l.len c) (.slice q f.len d) n1 1 di F dp n2 d2 g2 W) (o3 : d3.Ok (fun _ => True) W) (e3 : d3.r = di.r) => (show Calls Tryz.prog 18 #[.agg #[.int .u8 d3.k, .string d3.x, .slice d3.p d3.n d3.c, .slice d3.q d3.m d3.e], .agg #[.int .u8 di.k, .string di.x, .slice di.p di.n di.c, .slice di.q di.m di.e]] W (Bools true W) from by
      have hh := sa_ok (d3.l.size + d3.f.size + 1) d3.k d3.x (.slice d3.p d3.n d3.c) (.slice d3.q d3.m d3.e) d3.l d3.f di.k di.x (.slice di.p di.n di.c) (.slice di.q di.m di.e) di.l di.f (fun _ => True) (fun _ => True) W (Nat.lt_succ_self _) o3.l o3.f h.o1.l h.o1.f
      have hv : V.veq d3.k d3.x d3.l d3.f di.k di.x di.l di.f = true := by
        have := veqR_self di.r
        unfold veqR at this
        have h1 := congrArg (fun r : R5 => r.1) e3
        have h2 := congrArg (fun r : R5 => r.2.1) e3
        have h3 := congrArg (fun r : R5 => r.2.2.1) e3
        have h4 := congrArg (fun r : R5 => r.2.2.2.1) e3
        rw [show d3.k = di.k from h1, show d3.x = di.x from h2, show d3.l = di.l from h3, show d3.f = di.f from h4]
        exact this
      rw [hv] at hh
      exact hh))
    have HIR := Lib.hid (show idR s.i = di.r from by unfold idR; rw [if_pos HP1.out.2.2.2.1]; exact HI.out.symm)
    obtain ⟨b0, hb0⟩ : ∃ b, b = decide (dp.k = 0) := ⟨_, rfl⟩
    have tb0 : ((dp.k : Int) == 0) = b0 := by rw [hb0, Bool.eq_iff_iff]; simp
    have G0 := show R11 w k x (.slice p l.len c) (.slice q f.len d) n1 1 di F dp n2 d2 g2 W7 from ⟨H6.out.1, H6.out.2.1, H7.out.1, H6.out.2.2.1, H6.out.2.2.2, H7.out.2.2.2.1, H7.out.2.2.2.2⟩
    have GN := Lib.hid (G0.go (Below.refl W7.heap.size W7).drew)
    clear hb0 G0
    refine wp_region_steps [some 43, some 44, some 45, some 46, some 47, some 48, some 49, some 50, some 51, some 52, some 53, some 54, some 55, some 56, some 57, some 58, some 59, some 60, some 61, some 62, some 63, some 64, some 65, some 66, some 67, some 68, some 69, some 70, some 71, some 2] _ _ (G := R11 w k x (.slice p l.len c) (.slice q f.len d) n1 1 di F dp n2 d2 g2) (F := F11 k x (.slice p l.len c) (.slice q f.len d) n1 di F dp n2 d2 g2 b0 di.r) (z := 29) (by kernel_rfl) rfl (by decide) rfl (by decide +kernel) (by decide +kernel) rfl (fun W W' h hB => h.go hB) (fun i y W W' h hB => h.on hB) ?_ ?_ GN.out
    · intro i o ho hz a W hg hd hold K' hK
      have HG := Lib.hid hg
      have hlt : i < 30 := (Array.getElem?_eq_some_iff.1 ho).1
      clear hg
      obtain rfl | rfl | rfl | rfl | rfl | rfl | rfl | rfl | rfl | rfl | rfl | rfl | rfl | rfl | rfl | rfl | rfl | rfl | rfl | rfl | rfl | rfl | rfl | rfl | rfl | rfl | rfl | rfl | rfl | rfl : i = 0 ∨ i = 1 ∨ i = 2 ∨ i = 3 ∨ i = 4 ∨ i = 5 ∨ i = 6 ∨ i = 7 ∨ i = 8 ∨ i = 9 ∨ i = 10 ∨ i = 11 ∨ i = 12 ∨ i = 13 ∨ i = 14 ∨ i = 15 ∨ i = 16 ∨ i = 17 ∨ i = 18 ∨ i = 19 ∨ i = 20 ∨ i = 21 ∨ i = 22 ∨ i = 23 ∨ i = 24 ∨ i = 25 ∨ i = 26 ∨ i = 27 ∨ i = 28 ∨ i = 29 := by omega
      · obtain rfl := Option.some.inj ho
        have o3 : a.tmps[3]? = _ := (hold 3 rfl).trans rfl
        clear hd hold
        go_simp
        exact hK.out _ _ (by rfl) (Below.refl _ _)
      · obtain rfl := Option.some.inj ho
        obtain ⟨y0, e0, h0⟩ := hd 0 43 rfl (by decide +kernel) (by decide)
        have h0 : y0 = _ := h0
        subst h0
        clear hd hold
        have c1 := ClBlk.c HG.out.c1 1 _ rfl
        have c2 := ClBlk.c HG.out.c1 2 _ rfl
        have c3 := ClBlk.c HG.out.c1 3 _ rfl
        have c4 := ClBlk.c HG.out.c1 4 _ rfl
        go_simp
        exact hK.out _ _ (by rfl) (Below.refl _ _)
      · obtain rfl := Option.some.inj ho
        obtain ⟨y1, e1, h1⟩ := hd 1 44 rfl (by decide +kernel) (by decide)
        have h1 : y1 = _ := h1
        subst h1
        clear hd hold
        go_simp
        go_at_call 26
        (with_reducible refine (HMY.out _ HG.out).mono ?_)
        rintro e X1 ⟨rfl, hB⟩
        exact hK.out _ _ (by rfl) hB
      · obtain rfl := Option.some.inj ho
        obtain ⟨y2, e2, h2⟩ := hd 2 45 rfl (by decide +kernel) (by decide)
        have h2 : y2 = _ := h2
        subst h2
        clear hd hold
        go_simp
        exact hK.out _ _ (by rfl) (Below.refl _ _)
      · obtain rfl := Option.some.inj ho
        obtain ⟨y3, e3, h3⟩ := hd 3 46 rfl (by decide +kernel) (by decide)
        have h3 : y3 = _ := h3
        subst h3
        have o6 : a.tmps[6]? = _ := (hold 6 rfl).trans rfl
        clear hd hold
        go_simp
        exact hK.out _ _ (by rfl) (Below.refl _ _)
      · obtain rfl := Option.some.inj ho
        obtain ⟨y3, e3, h3⟩ := hd 3 46 rfl (by decide +kernel) (by decide)
        have h3 : y3 = _ := h3
        subst h3
        obtain ⟨y4, e4, h4⟩ := hd 4 47 rfl (by decide +kernel) (by decide)
        have h4 : y4 = _ := h4
        subst h4
        clear hd hold
        go_simp
        exact hK.out _ _ (by rfl) (Below.refl _ _)
      · obtain rfl := Option.some.inj ho
        obtain ⟨y3, e3, h3⟩ := hd 3 46 rfl (by decide +kernel) (by decide)
        have h3 : y3 = _ := h3
        subst h3
        obtain ⟨y5, e5, h5⟩ := hd 5 48 rfl (by decide +kernel) (by decide)
        have h5 : y5 = _ := h5
        subst h5
        clear hd hold
        go_simp
        exact hK.out _ _ (by rfl) (Below.refl _ _)
      · obtain rfl := Option.some.inj ho
        obtain ⟨y6, e6, h6⟩ := hd 6 49 rfl (by decide +kernel) (by decide)
        have h6 : y6 = _ := h6
        subst h6
        clear hd hold
        go_simp
        exact hK.out _ _ (by rfl) (Below.refl _ _)
      · obtain rfl := Option.some.inj ho
        obtain ⟨y7, e7, h7⟩ := hd 7 50 rfl (by decide +kernel) (by decide)
        have h7 : y7 = _ := h7
        subst h7
        have o3 : a.tmps[3]? = _ := (hold 3 rfl).trans rfl
        clear hd hold
        go_simp
        exact hK.out _ _ (by rfl) (Below.refl _ _)
      · obtain rfl := Option.some.inj ho
        obtain ⟨y7, e7, h7⟩ := hd 7 50 rfl (by decide +kernel) (by decide)
        have h7 : y7 = _ := h7
        subst h7
        obtain ⟨y8, e8, h8⟩ := hd 8 51 rfl (by decide +kernel) (by decide)
        have h8 : y8 = _ := h8
        subst h8
        clear hd hold
        go_simp
        exact hK.out _ _ (by rfl) (Below.refl _ _)
      · obtain rfl := Option.some.inj ho
        obtain ⟨y7, e7, h7⟩ := hd 7 50 rfl (by decide +kernel) (by decide)
        have h7 : y7 = _ := h7
        subst h7
        obtain ⟨y9, e9, h9⟩ := hd 9 52 rfl (by decide +kernel) (by decide)
        have h9 : y9 = _ := h9
        subst h9
        clear hd hold
        have c6 := ClBlk.c HG.out.c1 6 _ rfl
        go_simp
        exact hK.out _ _ (by rfl) (Below.refl _ _)
      · obtain rfl := Option.some.inj ho
        obtain ⟨y7, e7, h7⟩ := hd 7 50 rfl (by decide +kernel) (by decide)
        have h7 : y7 = _ := h7
        subst h7
        obtain ⟨y10, e10, h10⟩ := hd 10 53 rfl (by decide +kernel) (by decide)
        have h10 : y10 = _ := h10
        subst h10
        clear hd hold
        go_simp
        exact hK.out _ _ (by rfl) (Below.refl _ _)
      · obtain rfl := Option.some.inj ho
        obtain ⟨y7, e7, h7⟩ := hd 7 50 rfl (by decide +kernel) (by decide)
        have h7 : y7 = _ := h7
        subst h7
        obtain ⟨y11, e11, h11⟩ := hd 11 54 rfl (by decide +kernel) (by decide)
        have h11 : y11 = _ := h11
        subst h11
        clear hd hold
        go_simp
        exact hK.out _ _ (by rfl) (Below.refl _ _)
      · obtain rfl := Option.some.inj ho
        obtain ⟨y12, e12, h12⟩ := hd 12 55 rfl (by decide +kernel) (by decide)
        have h12 : y12 = _ := h12
        subst h12
        have o3 : a.tmps[3]? = _ := (hold 3 rfl).trans rfl
        clear hd hold
        cases b0
        · go_simp
          exact hK.out _ _ (by exact fun _ => rfl) (Below.refl _ _)
        · go_simp
          exact hK.out _ _ (fun h => by cases h) (Below.refl _ _)
      · obtain rfl := Option.some.inj ho
        obtain ⟨y12, e12, h12⟩ := hd 12 55 rfl (by decide +kernel) (by decide)
        have h12 : y12 = _ := h12
        subst h12
        obtain ⟨y13, e13, h13⟩ := hd 13 56 rfl (by decide +kernel) (by decide)
        clear hd hold
        cases b0
        · have q13 : _ = _ := h13 rfl
          subst q13
          have c5 := ClBlk.c HG.out.c1 5 _ rfl
          go_simp
          exact hK.out _ _ (by exact fun _ => rfl) (Below.refl _ _)
        · go_simp
          exact hK.out _ _ (fun h => by cases h) (Below.refl _ _)
      · obtain rfl := Option.some.inj ho
        obtain ⟨y12, e12, h12⟩ := hd 12 55 rfl (by decide +kernel) (by decide)
        have h12 : y12 = _ := h12
        subst h12
        obtain ⟨y14, e14, h14⟩ := hd 14 57 rfl (by decide +kernel) (by decide)
        clear hd hold
        cases b0
        · have q14 : _ = _ := h14 rfl
          subst q14
          go_simp
          go_at_call 27
          (with_reducible refine (HVA.out _ HG.out.on.below).mono ?_)
          rintro e X1 ⟨rfl, hB⟩
          exact hK.out _ _ (by exact fun _ => rfl) hB
        · go_simp
          exact hK.out _ _ (fun h => by cases h) (Below.refl _ _)
      · obtain rfl := Option.some.inj ho
        obtain ⟨y12, e12, h12⟩ := hd 12 55 rfl (by decide +kernel) (by decide)
        have h12 : y12 = _ := h12
        subst h12
        have o3 : a.tmps[3]? = _ := (hold 3 rfl).trans rfl
        clear hd hold
        cases b0
        · have d0 := ClBlk.c HG.out.c1 0 _ rfl
          have d1 := ClBlk.c HG.out.c1 1 _ rfl
          have d2 := ClBlk.c HG.out.c1 2 _ rfl
          have d3 := ClBlk.c HG.out.c1 3 _ rfl
          have d4 := ClBlk.c HG.out.c1 4 _ rfl
          have d5 := ClBlk.c HG.out.c1 5 _ rfl
          have d6 := ClBlk.c HG.out.c1 6 _ rfl
          have d7 := ClBlk.c HG.out.c1 7 _ rfl
          have d8 := ClBlk.c HG.out.c1 8 _ rfl
          have d9 := ClBlk.c HG.out.c1 9 _ rfl
          go_simp
          exact hK.out _ _ (by exact fun _ => rfl) (Below.refl _ _)
        · go_simp
          exact hK.out _ _ (fun h => by cases h) (Below.refl _ _)
      · obtain rfl := Option.some.inj ho
        obtain ⟨y12, e12, h12⟩ := hd 12 55 rfl (by decide +kernel) (by decide)
        have h12 : y12 = _ := h12
        subst h12
        have o5 : a.tmps[5]? = _ := (hold 5 rfl).trans rfl
        clear hd hold
        cases b0
        · have d0 := ClBlk.c HG.out.c2 0 _ rfl
          have d1 := ClBlk.c HG.out.c2 1 _ rfl
          have d2 := ClBlk.c HG.out.c2 2 _ rfl
          have d3 := ClBlk.c HG.out.c2 3 _ rfl
          have d4 := ClBlk.c HG.out.c2 4 _ rfl
          have d5 := ClBlk.c HG.out.c2 5 _ rfl
          have d6 := ClBlk.c HG.out.c2 6 _ rfl
          have d7 := ClBlk.c HG.out.c2 7 _ rfl
          have d8 := ClBlk.c HG.out.c2 8 _ rfl
          have d9 := ClBlk.c HG.out.c2 9 _ rfl
          go_simp
          exact hK.out _ _ (by exact fun _ => rfl) (Below.refl _ _)
        · go_simp
          exact hK.out _ _ (fun h => by cases h) (Below.refl _ _)
      · obtain rfl := Option.some.inj ho
        obtain ⟨y12, e12, h12⟩ := hd 12 55 rfl (by decide +kernel) (by decide)
        have h12 : y12 = _ := h12
        subst h12
        obtain ⟨y16, e16, h16⟩ := hd 16 59 rfl (by decide +kernel) (by decide)
        obtain ⟨y17, e17, h17⟩ := hd 17 60 rfl (by decide +kernel) (by decide)
        clear hd hold
        cases b0
        · have q16 : _ = _ := h16 rfl
          subst q16
          have q17 : _ = _ := h17 rfl
          subst q17
          go_simp
          go_at_call 24
          (with_reducible refine (HS6.out _ HG.out).mono ?_)
          rintro e X1 ⟨rfl, hB⟩
          exact hK.out _ _ (by exact fun _ => rfl) hB
        · go_simp
          exact hK.out _ _ (fun h => by cases h) (Below.refl _ _)
      · obtain rfl := Option.some.inj ho
        obtain ⟨y12, e12, h12⟩ := hd 12 55 rfl (by decide +kernel) (by decide)
        have h12 : y12 = _ := h12
        subst h12
        obtain ⟨y15, e15, h15⟩ := hd 15 58 rfl (by decide +kernel) (by decide)
        obtain ⟨y18, e18, h18⟩ := hd 18 61 rfl (by decide +kernel) (by decide)
        clear hd hold
        cases b0
        · have q15 : _ = _ := h15 rfl
          subst q15
          have q18 : _ = _ := h18 rfl
          subst q18
          go_simp
          exact hK.out _ _ (by exact fun _ => rfl) (Below.refl _ _)
        · go_simp
          exact hK.out _ _ (fun h => by cases h) (Below.refl _ _)
      · obtain rfl := Option.some.inj ho
        obtain ⟨y7, e7, h7⟩ := hd 7 50 rfl (by decide +kernel) (by decide)
        have h7 : y7 = _ := h7
        subst h7
        obtain ⟨y12, e12, h12⟩ := hd 12 55 rfl (by decide +kernel) (by decide)
        have h12 : y12 = _ := h12
        subst h12
        obtain ⟨y19, e19, h19⟩ := hd 19 62 rfl (by decide +kernel) (by decide)
        clear hd hold
        cases b0
        · have q19 : _ = _ := h19 rfl
          subst q19
          go_simp
          exact hK.out _ _ (by rfl) (Below.refl _ _)
        · go_simp
          exact hK.out _ _ (by rfl) (Below.refl _ _)
      · obtain rfl := Option.some.inj ho
        obtain ⟨y7, e7, h7⟩ := hd 7 50 rfl (by decide +kernel) (by decide)
        have h7 : y7 = _ := h7
        subst h7
        obtain ⟨y20, e20, h20⟩ := hd 20 63 rfl (by decide +kernel) (by decide)
        have h20 : y20 = _ := h20
        subst h20
        clear hd hold
        go_simp
        exact hK.out _ _ (by rfl) (Below.refl _ _)
      · obtain rfl := Option.some.inj ho
        obtain ⟨y21, e21, h21⟩ := hd 21 64 rfl (by decide +kernel) (by decide)
        have h21 : y21 = _ := h21
        subst h21
        clear hd hold
        go_simp
        exact hK.out _ _ (by rfl) (Below.refl _ _)
      · obtain rfl := Option.some.inj ho
        obtain ⟨y22, e22, h22⟩ := hd 22 65 rfl (by decide +kernel) (by decide)
        have h22 : y22 = _ := h22
        subst h22
        have o1 : a.tmps[1]? = _ := (hold 1 rfl).trans rfl
        clear hd hold
        obtain ⟨s0, s1, s2, s3⟩ := HG.out.on.b0.box
        go_simp
        exact hK.out _ _ (by rfl) (Below.refl _ _)
      · obtain rfl := Option.some.inj ho
        obtain ⟨y22, e22, h22⟩ := hd 22 65 rfl (by decide +kernel) (by decide)
        have h22 : y22 = _ := h22
        subst h22
        obtain ⟨y23, e23, h23⟩ := hd 23 66 rfl (by decide +kernel) (by decide)
        have h23 : y23 = _ := h23
        subst h23
        clear hd hold
        go_simp
        go_at_call 28
        (with_reducible refine (HID.out _ HG.out.on.below).mono ?_)
        rintro e X1 ⟨d3, rfl, hd3, o3, hB⟩
        exact hK.out _ _ (by exact ⟨d3, rfl, hd3.trans HIR.out, o3⟩) hB
      · obtain rfl := Option.some.inj ho
        obtain ⟨y22, e22, h22⟩ := hd 22 65 rfl (by decide +kernel) (by decide)
        have h22 : y22 = _ := h22
        subst h22
        have o3 : a.tmps[3]? = _ := (hold 3 rfl).trans rfl
        clear hd hold
        go_simp
        exact hK.out _ _ (by rfl) (Below.refl _ _)
      · obtain rfl := Option.some.inj ho
        obtain ⟨y22, e22, h22⟩ := hd 22 65 rfl (by decide +kernel) (by decide)
        have h22 : y22 = _ := h22
        subst h22
        obtain ⟨y25, e25, h25⟩ := hd 25 68 rfl (by decide +kernel) (by decide)
        have h25 : y25 = _ := h25
        subst h25
        clear hd hold
        have c1 := ClBlk.c HG.out.c1 1 _ rfl
        have c2 := ClBlk.c HG.out.c1 2 _ rfl
        have c3 := ClBlk.c HG.out.c1 3 _ rfl
        have c4 := ClBlk.c HG.out.c1 4 _ rfl
        go_simp
        exact hK.out _ _ (by rfl) (Below.refl _ _)
      · obtain rfl := Option.some.inj ho
        obtain ⟨y22, e22, h22⟩ := hd 22 65 rfl (by decide +kernel) (by decide)
        have h22 : y22 = _ := h22
        subst h22
        obtain ⟨y24, e24, h24⟩ := hd 24 67 rfl (by decide +kernel) (by decide)
        obtain ⟨d3, rfl, hd3, o3⟩ := h24
        obtain ⟨y26, e26, h26⟩ := hd 26 69 rfl (by decide +kernel) (by decide)
        have h26 : y26 = _ := h26
        subst h26
        clear hd hold
        go_simp
        go_at_call 18
        (with_reducible refine (HSJ.out _ d3 HG.out o3 hd3).mono ?_)
        rintro e X1 ⟨rfl, hB⟩
        exact hK.out _ _ (by rfl) hB
      · obtain rfl := Option.some.inj ho
        obtain ⟨y22, e22, h22⟩ := hd 22 65 rfl (by decide +kernel) (by decide)
        have h22 : y22 = _ := h22
        subst h22
        obtain ⟨y27, e27, h27⟩ := hd 27 70 rfl (by decide +kernel) (by decide)
        have h27 : y27 = _ := h27
        subst h27
        clear hd hold
        go_simp
        exact hK.out _ _ (by rfl) (Below.refl _ _)
      · exact absurd rfl hz
    · intro rr W hg hf K' hK
      have e28 : rr 28 = .bool true := hf 28 (by decide) (by decide)
      have HG := Lib.hid hg
      clear hg hf
      simp only [putL, Act.put, List.setIfInBounds_toArray, List.set_cons_zero, List.set_cons_succ, e28]
      go_simp
      refine hK.out _ _ ?_
      go_wp2_with fail
      go_ret
      exact ⟨rfl, HG.out.on.below⟩
  · have hq := one_not HOK.out.symm hk
    have hi0 : di.r = r0 := HD.out.1.trans (HIF.out hq.1)
    rw [hk] at HC H3 HD
    rw [hk]
    have hff : U.fixS F = F := HALL.out.2.2.2.2.2.2
    have hfz : F.size ≤ 30000000000 := HALL.out.2.2.1
    have hfp : Fit ⟨#[]⟩ dp.k dp.x := by
      have h1 := congrArg (fun r : R5 => r.1) HD.out.2.1
      have h2 := congrArg (fun r : R5 => r.2.1) HD.out.2.1
      rw [show dp.k = s.callP.1 from h1, show dp.x = s.callP.2.1 from h2]; exact HALL.out.2.1
    have hpk : decide (dp.k ∈ [5, 6, 0]) = true := by
      rw [show dp.k = s.callP.1 from congrArg (fun r : R5 => r.1) HD.out.2.1]; exact hq.2.1
    have hpv : veqR dp.r (pV dp.k dp.x dp.l dp.f) = true := by
      have e := hq.2.2
      rw [← HD.out.2.1] at e
      rw [show pV dp.k dp.x dp.l dp.f = (dp.k, dp.x, dp.l, dp.f, decide (¬ dp.k = 0)) from e]
      exact veqR_self (dp.k, dp.x, dp.l, dp.f, decide (¬ dp.k = 0))
    have t0 : ((di.k : Int) == 0) = true := by rw [show di.k = 0 from congrArg (fun r : R5 => r.1) hi0]; rfl
    have hok1 : di.Ok (fun _ => True) (w3.alloc (.cells #[.int .u8 2, .int .u8 di.k, .string di.x, .slice di.p di.n di.c, .slice di.q di.m di.e, .string F, .int .u8 dp.k, .string dp.x, .slice dp.p dp.n dp.c, .slice dp.q dp.m dp.e] 39)) := HD.out.2.2.1
    have hok2 : dp.Ok (fun _ => True) (w3.alloc (.cells #[.int .u8 2, .int .u8 di.k, .string di.x, .slice di.p di.n di.c, .slice di.q di.m di.e, .string F, .int .u8 dp.k, .string dp.x, .slice dp.p dp.n dp.c, .slice dp.q dp.m dp.e] 39)) := HD.out.2.2.2
    have HI0 := Lib.hid hi0
    have HT0 := Lib.hid t0
    clear t0 hi0
    have HP1 := Lib.hid (And.intro hpv (And.intro hpk ((U.fix_same F).1 hff)))
    have HFC := Lib.hid (And.intro hff (And.intro hfz hfp))
    go_upto_region 13 with fail
    generalize w3.alloc (.cells #[.int .u8 2, .int .u8 di.k, .string di.x, .slice di.p di.n di.c, .slice di.q di.m di.e, .string F, .int .u8 dp.k, .string dp.x, .slice dp.p dp.n dp.c, .slice dp.q dp.m dp.e] 39) = W4 at *
    generalize w3.heap.size = n1 at *
    have HOS := Lib.hid (And.intro hok1 hok2)
    have HRQ := Lib.hid (notice_any F dp.k dp.x (.slice dp.p dp.n dp.c) (.slice dp.q dp.m dp.e) dp.l dp.f (fun _ => True) W4 hfp (by omega) hok2.l hok2.f (tabs_below HALL.out.2.2.2.2.1 H3.out.below))
    have HRD := Lib.hid (fun W (h : Below w.heap.size w W) (v u : Value) hl hf => rdNot (p := dp) (s := F) W v u (by omega) hl hf (tabs_below HALL.out.2.2.2.2.1 h) (HALL.out.2.2.2.2.2.1.on h))
    rw [hpk, hff] at HRD
    rw [hff] at HRQ
    clear hq hff hfz hfp hpk hpv hok1 hok2 hk HD
    have a0 := HC.out.c 0 _ rfl
    have a1 := HC.out.c 1 _ rfl
    have a2 := HC.out.c 2 _ rfl
    have a3 := HC.out.c 3 _ rfl
    have a4 := HC.out.c 4 _ rfl
    have a5 := HC.out.c 5 _ rfl
    have a6 := HC.out.c 6 _ rfl
    have a7 := HC.out.c 7 _ rfl
    have a8 := HC.out.c 8 _ rfl
    have a9 := HC.out.c 9 _ rfl
    go_wp2_with fail
    refine HRQ.out.mono ?_
    rintro e w5 ⟨v5, u5, rfl, hl5, hf5, hB⟩
    have H5 := Lib.hid (And.intro (H3.out.on hB) (And.intro (HC.out.same hB) (And.intro (HOS.out.1.below hB) (HOS.out.2.below hB))))
    have HRR := Lib.hid (HRD.out w5 H5.out.1.below v5 u5 (hl5.mono (fun _ _ _ => trivial)) (hf5.mono (fun _ _ _ => trivial)))
    obtain ⟨p5, c5, rfl, -⟩ := hl5.len
    obtain ⟨q5, d5, rfl, -⟩ := hf5.len
    clear hB hl5 hf5 a0 a1 a2 a3 a4 a5 a6 a7 a8 a9 H3 HC HOS HRQ HRD
    go_wp2_with fail
    refine HRR.out.mono ?_
    rintro e w6 hrd
    obtain ⟨d2, g2, rfl, hd2, hg2, o2, r2, hB⟩ := readIs_yes.1 hrd
    have hBa := (Below.refl w6.heap.size w6).alloc (Nat.le_refl _) (.cells #[.int .u8 2, .int .u8 d2.k, .string d2.x, .slice d2.p d2.n d2.c, .slice d2.q d2.m d2.e, .string F, .int .u8 g2.k, .string g2.x, .slice g2.p g2.n g2.c, .slice g2.q g2.m g2.e] 39)
    have hBB := hB.trans (hBa.mono hB.size)
    have H6 := Lib.hid (And.intro (H5.out.1.on hBB) (And.intro (H5.out.2.1.same hBB) (And.intro (H5.out.2.2.1.below hBB) (H5.out.2.2.2.below hBB))))
    have H7 := Lib.hid (And.intro (show ClBlk (w6.alloc (.cells #[.int .u8 2, .int .u8 d2.k, .string d2.x, .slice d2.p d2.n d2.c, .slice d2.q d2.m d2.e, .string F, .int .u8 g2.k, .string g2.x, .slice g2.p g2.n g2.c, .slice g2.q g2.m g2.e] 39)) w6.heap.size 2 d2 F g2 from heap_alloc_new _ _) (And.intro hd2 (And.intro hg2 (And.intro ((o2.imp (A' := fun _ => True) (fun _ _ _ => trivial) (fun _ _ _ => rfl)).below hBa) ((r2.imp (A' := fun _ => True) (fun _ _ _ => trivial) (fun _ _ _ => rfl)).below hBa)))))
    clear hrd hB hBa hBB hd2 hg2 o2 r2 H5 HRR
    go_upto_region 14 with fail
    generalize w6.alloc (.cells #[.int .u8 2, .int .u8 d2.k, .string d2.x, .slice d2.p d2.n d2.c, .slice d2.q d2.m d2.e, .string F, .int .u8 g2.k, .string g2.x, .slice g2.p g2.n g2.c, .slice g2.q g2.m g2.e] 39) = W7 at *
    generalize w6.heap.size = n2 at *
    have HVA := Lib.hid (fun W (h : Below w.heap.size w W) => (show Calls Tryz.prog 27 #[.string F] W (Bools true W) from by
      have hh := utfValid_any F W (by have := HFC.out.2.1; omega) (tabs_below HALL.out.2.2.2.2.1 h)
      rw [HP1.out.2.2] at hh
      exact hh))
    have HS6 := Lib.hid (fun W (h : R11 w k x (.slice p l.len c) (.slice q f.len d) n1 2 di F dp n2 d2 g2 W) => (show Calls Tryz.prog 24 #[.agg #[.int .u8 2, .int .u8 di.k, .string di.x, .slice di.p di.n di.c, .slice di.q di.m di.e, .string F, .int .u8 dp.k, .string dp.x, .slice dp.p dp.n dp.c, .slice dp.q dp.m dp.e], .agg #[.int .u8 2, .int .u8 d2.k, .string d2.x, .slice d2.p d2.n d2.c, .slice d2.q d2.m d2.e, .string F, .int .u8 g2.k, .string g2.x, .slice g2.p g2.n g2.c, .slice g2.q g2.m g2.e]] W (Bools true W) from by
      have hh := same6_any 2 di F dp 2 d2 F g2 (fun _ => True) (fun _ => True) W h.o1 h.o2 h.o3 h.o4
      have hv : (decide (2 = 2) && decide (F = F) && veqR di.r d2.r && veqR dp.r g2.r) = true := by
        rw [H7.out.2.1, H7.out.2.2.1, HP1.out.1, HI0.out, veqR_self r0]; simp
      rw [hv] at hh
      exact hh))
    obtain ⟨b0, hb0⟩ : ∃ b, b = decide (dp.k = 0) := ⟨_, rfl⟩
    have tb0 : ((dp.k : Int) == 0) = b0 := by rw [hb0, Bool.eq_iff_iff]; simp
    have G0 := show R11 w k x (.slice p l.len c) (.slice q f.len d) n1 2 di F dp n2 d2 g2 W7 from ⟨H6.out.1, H6.out.2.1, H7.out.1, H6.out.2.2.1, H6.out.2.2.2, H7.out.2.2.2.1, H7.out.2.2.2.2⟩
    have GN := Lib.hid (G0.go (Below.refl W7.heap.size W7).drew)
    clear hb0 G0
    refine wp_region_steps [some 83, some 84, some 85, some 86, some 87, some 88, some 89, some 90, some 91, some 92, some 93, some 94, some 95, some 96, some 97, some 98, some 99, some 100, some 101, some 102, some 103, some 104, some 105, some 2] _ _ (G := R11 w k x (.slice p l.len c) (.slice q f.len d) n1 2 di F dp n2 d2 g2) (F := F14 n1 di F dp n2 d2 g2 b0) (z := 23) (by kernel_rfl) rfl (by decide) rfl (by decide +kernel) (by decide +kernel) rfl (fun W W' h hB => h.go hB) (fun i y W W' h hB => h.on) ?_ ?_ GN.out
    · intro i o ho hz a W hg hd hold K' hK
      have HG := Lib.hid hg
      have hlt : i < 24 := (Array.getElem?_eq_some_iff.1 ho).1
      clear hg
      obtain rfl | rfl | rfl | rfl | rfl | rfl | rfl | rfl | rfl | rfl | rfl | rfl | rfl | rfl | rfl | rfl | rfl | rfl | rfl | rfl | rfl | rfl | rfl | rfl : i = 0 ∨ i = 1 ∨ i = 2 ∨ i = 3 ∨ i = 4 ∨ i = 5 ∨ i = 6 ∨ i = 7 ∨ i = 8 ∨ i = 9 ∨ i = 10 ∨ i = 11 ∨ i = 12 ∨ i = 13 ∨ i = 14 ∨ i = 15 ∨ i = 16 ∨ i = 17 ∨ i = 18 ∨ i = 19 ∨ i = 20 ∨ i = 21 ∨ i = 22 ∨ i = 23 := by omega
      · obtain rfl := Option.some.inj ho
        have o3 : a.tmps[3]? = _ := (hold 3 rfl).trans rfl
        clear hd hold
        go_simp
        exact hK.out _ _ (by rfl) (Below.refl _ _)
      · obtain rfl := Option.some.inj ho
        obtain ⟨y0, e0, h0⟩ := hd 0 83 rfl (by decide +kernel) (by decide)
        have h0 : y0 = _ := h0
        subst h0
        clear hd hold
        go_simp
        exact hK.out _ _ (by rfl) (Below.refl _ _)
      · obtain rfl := Option.some.inj ho
        obtain ⟨y1, e1, h1⟩ := hd 1 84 rfl (by decide +kernel) (by decide)
        have h1 : y1 = _ := h1
        subst h1
        clear hd hold
        have c1 := ClBlk.c HG.out.c1 1 _ rfl
        go_simp
        exact hK.out _ _ (by rfl) (Below.refl _ _)
      · obtain rfl := Option.some.inj ho
        obtain ⟨y2, e2, h2⟩ := hd 2 85 rfl (by decide +kernel) (by decide)
        have h2 : y2 = _ := h2
        subst h2
        clear hd hold
        have t0 := HT0.out
        go_simp
        exact hK.out _ _ (by rfl) (Below.refl _ _)
      · obtain rfl := Option.some.inj ho
        obtain ⟨y3, e3, h3⟩ := hd 3 86 rfl (by decide +kernel) (by decide)
        have h3 : y3 = _ := h3
        subst h3
        clear hd hold
        go_simp
        exact hK.out _ _ (by rfl) (Below.refl _ _)
      · obtain rfl := Option.some.inj ho
        obtain ⟨y4, e4, h4⟩ := hd 4 87 rfl (by decide +kernel) (by decide)
        have h4 : y4 = _ := h4
        subst h4
        have o8 : a.tmps[8]? = _ := (hold 8 rfl).trans rfl
        clear hd hold
        go_simp
        exact hK.out _ _ (by rfl) (Below.refl _ _)
      · obtain rfl := Option.some.inj ho
        obtain ⟨y4, e4, h4⟩ := hd 4 87 rfl (by decide +kernel) (by decide)
        have h4 : y4 = _ := h4
        subst h4
        obtain ⟨y5, e5, h5⟩ := hd 5 88 rfl (by decide +kernel) (by decide)
        have h5 : y5 = _ := h5
        subst h5
        clear hd hold
        go_simp
        exact hK.out _ _ (by rfl) (Below.refl _ _)
      · obtain rfl := Option.some.inj ho
        obtain ⟨y4, e4, h4⟩ := hd 4 87 rfl (by decide +kernel) (by decide)
        have h4 : y4 = _ := h4
        subst h4
        obtain ⟨y6, e6, h6⟩ := hd 6 89 rfl (by decide +kernel) (by decide)
        have h6 : y6 = _ := h6
        subst h6
        clear hd hold
        go_simp
        exact hK.out _ _ (by rfl) (Below.refl _ _)
      · obtain rfl := Option.some.inj ho
        obtain ⟨y7, e7, h7⟩ := hd 7 90 rfl (by decide +kernel) (by decide)
        have h7 : y7 = _ := h7
        subst h7
        clear hd hold
        go_simp
        exact hK.out _ _ (by rfl) (Below.refl _ _)
      · obtain rfl := Option.some.inj ho
        obtain ⟨y8, e8, h8⟩ := hd 8 91 rfl (by decide +kernel) (by decide)
        have h8 : y8 = _ := h8
        subst h8
        have o3 : a.tmps[3]? = _ := (hold 3 rfl).trans rfl
        clear hd hold
        go_simp
        exact hK.out _ _ (by rfl) (Below.refl _ _)
      · obtain rfl := Option.some.inj ho
        obtain ⟨y8, e8, h8⟩ := hd 8 91 rfl (by decide +kernel) (by decide)
        have h8 : y8 = _ := h8
        subst h8
        obtain ⟨y9, e9, h9⟩ := hd 9 92 rfl (by decide +kernel) (by decide)
        have h9 : y9 = _ := h9
        subst h9
        clear hd hold
        go_simp
        exact hK.out _ _ (by rfl) (Below.refl _ _)
      · obtain rfl := Option.some.inj ho
        obtain ⟨y8, e8, h8⟩ := hd 8 91 rfl (by decide +kernel) (by decide)
        have h8 : y8 = _ := h8
        subst h8
        obtain ⟨y10, e10, h10⟩ := hd 10 93 rfl (by decide +kernel) (by decide)
        have h10 : y10 = _ := h10
        subst h10
        clear hd hold
        have c6 := ClBlk.c HG.out.c1 6 _ rfl
        go_simp
        exact hK.out _ _ (by rfl) (Below.refl _ _)
      · obtain rfl := Option.some.inj ho
        obtain ⟨y8, e8, h8⟩ := hd 8 91 rfl (by decide +kernel) (by decide)
        have h8 : y8 = _ := h8
        subst h8
        obtain ⟨y11, e11, h11⟩ := hd 11 94 rfl (by decide +kernel) (by decide)
        have h11 : y11 = _ := h11
        subst h11
        clear hd hold
        go_simp
        exact hK.out _ _ (by rfl) (Below.refl _ _)
      · obtain rfl := Option.some.inj ho
        obtain ⟨y8, e8, h8⟩ := hd 8 91 rfl (by decide +kernel) (by decide)
        have h8 : y8 = _ := h8
        subst h8
        obtain ⟨y12, e12, h12⟩ := hd 12 95 rfl (by decide +kernel) (by decide)
        have h12 : y12 = _ := h12
        subst h12
        clear hd hold
        go_simp
        exact hK.out _ _ (by rfl) (Below.refl _ _)
      · obtain rfl := Option.some.inj ho
        obtain ⟨y13, e13, h13⟩ := hd 13 96 rfl (by decide +kernel) (by decide)
        have h13 : y13 = _ := h13
        subst h13
        have o3 : a.tmps[3]? = _ := (hold 3 rfl).trans rfl
        clear hd hold
        cases b0
        · go_simp
          exact hK.out _ _ (by exact fun _ => rfl) (Below.refl _ _)
        · go_simp
          exact hK.out _ _ (fun h => by cases h) (Below.refl _ _)
      · obtain rfl := Option.some.inj ho
        obtain ⟨y13, e13, h13⟩ := hd 13 96 rfl (by decide +kernel) (by decide)
        have h13 : y13 = _ := h13
        subst h13
        obtain ⟨y14, e14, h14⟩ := hd 14 97 rfl (by decide +kernel) (by decide)
        clear hd hold
        cases b0
        · have q14 : _ = _ := h14 rfl
          subst q14
          have c5 := ClBlk.c HG.out.c1 5 _ rfl
          go_simp
          exact hK.out _ _ (by exact fun _ => rfl) (Below.refl _ _)
        · go_simp
          exact hK.out _ _ (fun h => by cases h) (Below.refl _ _)
      · obtain rfl := Option.some.inj ho
        obtain ⟨y13, e13, h13⟩ := hd 13 96 rfl (by decide +kernel) (by decide)
        have h13 : y13 = _ := h13
        subst h13
        obtain ⟨y15, e15, h15⟩ := hd 15 98 rfl (by decide +kernel) (by decide)
        clear hd hold
        cases b0
        · have q15 : _ = _ := h15 rfl
          subst q15
          go_simp
          go_at_call 27
          (with_reducible refine (HVA.out _ HG.out.on.below).mono ?_)
          rintro e X1 ⟨rfl, hB⟩
          exact hK.out _ _ (by exact fun _ => rfl) hB
        · go_simp
          exact hK.out _ _ (fun h => by cases h) (Below.refl _ _)
      · obtain rfl := Option.some.inj ho
        obtain ⟨y13, e13, h13⟩ := hd 13 96 rfl (by decide +kernel) (by decide)
        have h13 : y13 = _ := h13
        subst h13
        have o3 : a.tmps[3]? = _ := (hold 3 rfl).trans rfl
        clear hd hold
        cases b0
        · have d0 := ClBlk.c HG.out.c1 0 _ rfl
          have d1 := ClBlk.c HG.out.c1 1 _ rfl
          have d2 := ClBlk.c HG.out.c1 2 _ rfl
          have d3 := ClBlk.c HG.out.c1 3 _ rfl
          have d4 := ClBlk.c HG.out.c1 4 _ rfl
          have d5 := ClBlk.c HG.out.c1 5 _ rfl
          have d6 := ClBlk.c HG.out.c1 6 _ rfl
          have d7 := ClBlk.c HG.out.c1 7 _ rfl
          have d8 := ClBlk.c HG.out.c1 8 _ rfl
          have d9 := ClBlk.c HG.out.c1 9 _ rfl
          go_simp
          exact hK.out _ _ (by exact fun _ => rfl) (Below.refl _ _)
        · go_simp
          exact hK.out _ _ (fun h => by cases h) (Below.refl _ _)
      · obtain rfl := Option.some.inj ho
        obtain ⟨y13, e13, h13⟩ := hd 13 96 rfl (by decide +kernel) (by decide)
        have h13 : y13 = _ := h13
        subst h13
        have o7 : a.tmps[7]? = _ := (hold 7 rfl).trans rfl
        clear hd hold
        cases b0
        · have d0 := ClBlk.c HG.out.c2 0 _ rfl
          have d1 := ClBlk.c HG.out.c2 1 _ rfl
          have d2 := ClBlk.c HG.out.c2 2 _ rfl
          have d3 := ClBlk.c HG.out.c2 3 _ rfl
          have d4 := ClBlk.c HG.out.c2 4 _ rfl
          have d5 := ClBlk.c HG.out.c2 5 _ rfl
          have d6 := ClBlk.c HG.out.c2 6 _ rfl
          have d7 := ClBlk.c HG.out.c2 7 _ rfl
          have d8 := ClBlk.c HG.out.c2 8 _ rfl
          have d9 := ClBlk.c HG.out.c2 9 _ rfl
          go_simp
          exact hK.out _ _ (by exact fun _ => rfl) (Below.refl _ _)
        · go_simp
          exact hK.out _ _ (fun h => by cases h) (Below.refl _ _)
      · obtain rfl := Option.some.inj ho
        obtain ⟨y13, e13, h13⟩ := hd 13 96 rfl (by decide +kernel) (by decide)
        have h13 : y13 = _ := h13
        subst h13
        obtain ⟨y17, e17, h17⟩ := hd 17 100 rfl (by decide +kernel) (by decide)
        obtain ⟨y18, e18, h18⟩ := hd 18 101 rfl (by decide +kernel) (by decide)
        clear hd hold
        cases b0
        · have q17 : _ = _ := h17 rfl
          subst q17
          have q18 : _ = _ := h18 rfl
          subst q18
          go_simp
          go_at_call 24
          (with_reducible refine (HS6.out _ HG.out).mono ?_)
          rintro e X1 ⟨rfl, hB⟩
          exact hK.out _ _ (by exact fun _ => rfl) hB
        · go_simp
          exact hK.out _ _ (fun h => by cases h) (Below.refl _ _)
      · obtain rfl := Option.some.inj ho
        obtain ⟨y13, e13, h13⟩ := hd 13 96 rfl (by decide +kernel) (by decide)
        have h13 : y13 = _ := h13
        subst h13
        obtain ⟨y16, e16, h16⟩ := hd 16 99 rfl (by decide +kernel) (by decide)
        obtain ⟨y19, e19, h19⟩ := hd 19 102 rfl (by decide +kernel) (by decide)
        clear hd hold
        cases b0
        · have q16 : _ = _ := h16 rfl
          subst q16
          have q19 : _ = _ := h19 rfl
          subst q19
          go_simp
          exact hK.out _ _ (by exact fun _ => rfl) (Below.refl _ _)
        · go_simp
          exact hK.out _ _ (fun h => by cases h) (Below.refl _ _)
      · obtain rfl := Option.some.inj ho
        obtain ⟨y8, e8, h8⟩ := hd 8 91 rfl (by decide +kernel) (by decide)
        have h8 : y8 = _ := h8
        subst h8
        obtain ⟨y13, e13, h13⟩ := hd 13 96 rfl (by decide +kernel) (by decide)
        have h13 : y13 = _ := h13
        subst h13
        obtain ⟨y20, e20, h20⟩ := hd 20 103 rfl (by decide +kernel) (by decide)
        clear hd hold
        cases b0
        · have q20 : _ = _ := h20 rfl
          subst q20
          go_simp
          exact hK.out _ _ (by rfl) (Below.refl _ _)
        · go_simp
          exact hK.out _ _ (by rfl) (Below.refl _ _)
      · obtain rfl := Option.some.inj ho
        obtain ⟨y8, e8, h8⟩ := hd 8 91 rfl (by decide +kernel) (by decide)
        have h8 : y8 = _ := h8
        subst h8
        obtain ⟨y21, e21, h21⟩ := hd 21 104 rfl (by decide +kernel) (by decide)
        have h21 : y21 = _ := h21
        subst h21
        clear hd hold
        go_simp
        exact hK.out _ _ (by rfl) (Below.refl _ _)
      · exact absurd rfl hz
    · intro rr W hg hf K' hK
      have e22 : rr 22 = .bool true := hf 22 (by decide) (by decide)
      have HG := Lib.hid hg
      clear hg hf
      simp only [putL, Act.put, List.setIfInBounds_toArray, List.set_cons_zero, List.set_cons_succ, e22]
      go_simp
      refine hK.out _ _ ?_
      go_wp2_with fail
      go_ret
      exact ⟨rfl, HG.out.on.below⟩
  · have hnb := one_rep HOK.out.symm hk
    have hF : F = ⟨#[]⟩ := HF3.out hk
    have hpk : dp.k = 0 := by
      have := congrArg Prod.fst HD.out.2.1
      unfold Six.callP at this
      rw [hk, if_pos rfl] at this
      exact this
    have t0 : ((dp.k : Int) == 0) = true := by rw [hpk]; rfl
    rw [hk, hF] at HC H3 HD
    rw [hk, hF]
    have HM := Lib.hid (fun W (h : Below w.heap.size w W) (o : di.Ok (fun _ => True) W) => mayID_any di.k di.x (.slice di.p di.n di.c) (.slice di.q di.m di.e) di.l di.f (fun _ => True) W (by have := congrArg (fun r : R5 => r.2.1) HD.out.1; rw [show di.x = s.i.2.1 from this]; exact HALL.out.1.2.1) o.l o.f (tabs_below HALL.out.2.2.2.2.1 h) (HALL.out.2.2.2.2.2.1.on h))
    obtain ⟨mi, hmi⟩ : ∃ b, b = midV di.k di.x di.l di.f := ⟨_, rfl⟩
    rw [← hmi] at HM
    have hk0 : mi = false → ((di.k : Int) == 0) = true := fun hm => by
      rw [← HD.out.1] at hnb
      have h2 : (di.b && ((decide (di.k = 0) && mayV di.k di.x di.l di.f 0) || midV di.k di.x di.l di.f)) = true := hnb
      rw [← hmi, hm, Bool.or_false] at h2
      have h3 := (Bool.and_eq_true _ _ ▸ h2).2
      have h4 := of_decide_eq_true (Bool.and_eq_true _ _ ▸ h3).1
      rw [h4]; rfl
    have HK0 := Lib.hid hk0
    clear hpk hnb hmi hk0 hk hF
    go_upto_region 16 with fail
    generalize w3.alloc (.cells #[.int .u8 3, .int .u8 di.k, .string di.x, .slice di.p di.n di.c, .slice di.q di.m di.e, .string ⟨#[]⟩, .int .u8 dp.k, .string dp.x, .slice dp.p dp.n dp.c, .slice dp.q dp.m dp.e] 39) = W4 at *
    have a0 := HC.out.c 0 _ rfl
    have a1 := HC.out.c 1 _ rfl
    have a2 := HC.out.c 2 _ rfl
    have a3 := HC.out.c 3 _ rfl
    have a4 := HC.out.c 4 _ rfl
    have a5 := HC.out.c 5 _ rfl
    have a6 := HC.out.c 6 _ rfl
    have a7 := HC.out.c 7 _ rfl
    have a8 := HC.out.c 8 _ rfl
    have a9 := HC.out.c 9 _ rfl
    go_wp2_with fail
    refine (HM.out _ H3.out.below HD.out.2.2.1).mono ?_
    rintro e w5 ⟨rfl, hB⟩
    have H5 := Lib.hid (H3.out.on hB)
    have HC5 := Lib.hid (HC.out.same hB)
    clear hB a0 a1 a2 a3 a4 a5 a6 a7 a8 a9 HC H3
    have a0 := HC5.out.c 0 _ rfl
    have a1 := HC5.out.c 1 _ rfl
    have a2 := HC5.out.c 2 _ rfl
    have a3 := HC5.out.c 3 _ rfl
    have a4 := HC5.out.c 4 _ rfl
    have a5 := HC5.out.c 5 _ rfl
    have a6 := HC5.out.c 6 _ rfl
    have a7 := HC5.out.c 7 _ rfl
    have a8 := HC5.out.c 8 _ rfl
    have a9 := HC5.out.c 9 _ rfl
    cases mi
    · have t1 := HK0.out rfl
      go_wp2_with fail
      go_ret
      exact ⟨rfl, H5.out.below⟩
    · go_wp2_with fail
      go_ret
      exact ⟨rfl, H5.out.below⟩
end Go.Proofs.YtagafedkfkmkbaaGreatDoor
