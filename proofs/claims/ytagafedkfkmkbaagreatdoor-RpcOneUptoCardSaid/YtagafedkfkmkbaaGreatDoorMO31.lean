/- May a value be a message's ID? Conditions: a string such as Go can hold; the library's tables; strconv.ErrRange holds an error. -/
import Derived.Test.YtagafedkfkmkbaaGreatDoorMO27
import Derived.Test.YtagafedkfkmkbaaGreatDoorMO30
namespace Go.Proofs.YtagafedkfkmkbaaGreatDoor
open Go Go.RowKit Go.Lib

set_option maxRecDepth 100000 in
/-- May of a value that has neither list nor fields by its kind -/
theorem may_flat (k : Nat) (x : ByteArray) (va ua : Value) (l f : V.T) (A : Nat → Prop) (w : World) (hk : k = 0 ∨ k = 3 ∨ k = 4) (hx : k = 4 → x.size ≤ 1000000000000) (hx3 : x.size ≤ 140737488355328) (hl : HS w A 0 va l) (hf : HS w A 1 ua f) (hT : Tabs w) :
    Calls Tryz.prog 16 #[.agg #[.int .u8 k, .string x, va, ua]] w (Bools (mayV k x l f 0) w) := by
  have hB := (Below.refl w.heap.size w).alloc (Nat.le_refl _) (.cells #[.int .u8 k, .string x, va, ua] 25)
  have HB := Lib.hid hB
  obtain ⟨p, c, rfl, a0, a1, a2⟩ := hl.len
  obtain ⟨q, e, rfl, b0, b1, b2⟩ := hf.len
  have hm : Calls Tryz.prog 73 #[.agg #[.int .u8 k, .string x, .slice p l.len c, .slice q f.len e], .int .i64 (0 : Nat)] (w.alloc (.cells #[.int .u8 k, .string x, .slice p l.len c, .slice q f.len e] 25)) (Bools (mayV k x l f 0) (w.alloc (.cells #[.int .u8 k, .string x, .slice p l.len c, .slice q f.len e] 25))) := by
    have hT' := tabs_below hT hB
    generalize w.alloc (.cells #[.int .u8 k, .string x, .slice p l.len c, .slice q f.len e] 25) = w' at *
    have T0 := fun W (_ : Below w'.heap.size w' W) => noText_any x W
    have L0 := fun W (_ : Below w'.heap.size w' W) => noList_any p l.len c (0 : Nat) W a0 a1 a2
    have F0 := fun W (_ : Below w'.heap.size w' W) => noFields_any q f.len e (0 : Nat) W b0 b1 b2
    rcases hk with rfl | rfl | rfl
    · exact valid_with 0 x p q l.len c f.len e (0 : Nat) 191 192 193 194 _ _ _ w' (by decide) (fun W => by kernel_rfl) ent_noText ent_noList ent_noFields T0 L0 F0
    · exact valid_with 3 x p q l.len c f.len e (0 : Nat) 197 192 193 198 _ _ _ w' (by decide) (fun W => by kernel_rfl) ent_isNumber ent_noList ent_noFields (fun W _ => isNumber_any x W hx3) L0 F0
    · exact valid_with 4 x p q l.len c f.len e (0 : Nat) 27 192 193 199 _ _ _ w' (by decide) (fun W => by kernel_rfl) ent_utfValid ent_noList ent_noFields (fun W hW => utfValid_any x W (hx rfl) (tabs_below hT' hW)) L0 F0
  clear hB hl hf hT hx hx3 hk a0 a1 a2 b0 b1 b2
  go_enter Tryz.func16, Tryz.ntmps16
  go_wp2_with fail
  refine hm.mono ?_
  rintro e w1 ⟨rfl, hB1⟩
  have H1 := Lib.hid (HB.out.trans (hB1.mono HB.out.size))
  clear hB1 hm
  go_wp2_with fail
  go_ret
  exact ⟨rfl, H1.out⟩
theorem is_text (k : Nat) (x : ByteArray) (v u : Value) (l f : V.T) (A : Nat → Prop) (W : World) (b : Nat) (hb : W.heap.size = b) (hl : HS W A 0 v l) (hf : HS W A 1 u f) :
    Calls Tryz.prog 87 #[.agg #[.int .u8 k, .string x, v, u], .slice (some ⟨b, 0, none⟩) 1 1] (W.alloc (.cells #[.int .u8 4] 5)) (Bools (decide (k = 4)) W) := by
  subst hb
  have hB2 := (Below.refl W.heap.size W).alloc (Nat.le_refl _) (.cells #[.int .u8 4] 5)
  refine (isOf_any k x v u l f A W.heap.size 1 1 [4] (W.alloc (.cells #[.int .u8 4] 5)) (hl.below hB2) (hf.below hB2) rfl (by decide) (by simp) (fun j hj => ?_)).mono ?_
  · obtain rfl : j = 0 := by omega
    exact (cell_of_row _ _ _ _ _ (0, 0) (heap_alloc_new _ _)).trans rfl
  · rintro e w' ⟨rfl, hb⟩
    exact ⟨by simp, hB2.trans (hb.mono hB2.size)⟩
structure MiSt (w : World) (A : Nat → Prop) (k : Nat) (x : ByteArray) (v u : Value) (l f : V.T) (W : World) : Prop where
  below : Below w.heap.size w W
  b0 : Blk4 W w.heap.size 25 (.int .u8 k) (.string x) v u
  l : HS W A 0 v l
  f : HS W A 1 u f
theorem MiSt.on {w : World} {A : Nat → Prop} {k : Nat} {x : ByteArray} {v u : Value} {l f : V.T} {W W' : World} (h : MiSt w A k x v u l f W) (hB : Below W.heap.size W W') : MiSt w A k x v u l f W' :=
  ⟨h.below.trans (hB.mono h.below.size), h.b0.same (hB.block _ h.b0.lt), h.l.below hB, h.f.below hB⟩
theorem midV_no {k : Nat} {x : ByteArray} {l f : V.T} (h : ((intV k x).2 || (decide (k = 4) && decide (x.size ≤ 256))) = false) : midV k x l f = false := by
  unfold midV; rw [h, Bool.false_and]
theorem midV_yes {k : Nat} {x : ByteArray} {l f : V.T} (h : ((intV k x).2 || (decide (k = 4) && decide (x.size ≤ 256))) = true) : midV k x l f = mayV k x l f 0 := by
  unfold midV; rw [h, Bool.true_and]
set_option maxHeartbeats 1000000 in
set_option maxRecDepth 100000 in
theorem mayID_any (k : Nat) (x : ByteArray) (v u : Value) (l f : V.T) (A : Nat → Prop) (w : World) (hx : x.size ≤ 140737488355328) (hl : HS w A 0 v l) (hf : HS w A 1 u f) (hT : Tabs w) (hE : ErrC w) :
    Calls Tryz.prog 26 #[.agg #[.int .u8 k, .string x, v, u]] w (Bools (midV k x l f) w) := by
  have hB := (Below.refl w.heap.size w).alloc (Nat.le_refl _) (.cells #[.int .u8 k, .string x, v, u] 25)
  have H0 := Lib.hid (show MiSt w A k x v u l f (w.alloc (.cells #[.int .u8 k, .string x, v, u] 25)) from ⟨hB, heap_alloc_new _ _, hl.below hB, hf.below hB⟩)
  have HI := Lib.hid (fun W (h : MiSt w A k x v u l f W) => int_any k x v u W hx (hE.on h.below))
  have HS4 := Lib.hid (fun W b hb (h : MiSt w A k x v u l f W) => is_text k x v u l f A W b hb h.l h.f)
  have HM := Lib.hid (fun W (h : MiSt w A k x v u l f W) (h3 : k = 0 ∨ k = 3 ∨ k = 4) (h4 : k = 4 → x.size ≤ 1000000000000) => may_flat k x v u l f A W h3 h4 hx h.l h.f (tabs_below hT h.below))
  obtain ⟨p, c, rfl, -⟩ := hl.len
  obtain ⟨q, d, rfl, -⟩ := hf.len
  have hk3 : (intV k x).2 = true → k = 3 := fun h => by
    by_cases hk : k = 3
    · exact hk
    · rw [show intV k x = (0, false) from if_neg hk] at h
      cases h
  have HX := Lib.hid (And.intro hk3 (And.intro (midV_no (k := k) (x := x) (l := l) (f := f)) (midV_yes (k := k) (x := x) (l := l) (f := f))))
  have hxz : x.size ≤ 140737488355328 := hx
  clear hl hf hT hE hx hB hk3
  go_enter Tryz.func26, Tryz.ntmps26
  go_wp2_with fail
  refine (HI.out _ H0.out).mono ?_
  rintro e w1 ⟨rfl, hB1⟩
  have H1 := Lib.hid (H0.out.on hB1)
  clear hB1 H0
  generalize intV k x = iv at *
  obtain ⟨n, ii⟩ := iv
  dsimp only at HX ⊢
  obtain ⟨x0, x1, x2, x3⟩ := H1.out.b0.box
  go_wp2_with fail
  refine (HS4.out _ _ (by simp) H1.out).mono ?_
  rintro e w2 ⟨rfl, hB2⟩
  have H2 := Lib.hid (H1.out.on hB2)
  clear hB2 H1 x0 x1 x2 x3
  obtain ⟨x0, x1, x2, x3⟩ := H2.out.b0.box
  obtain ⟨r4, hr4⟩ : ∃ r, r = decide (k = 4) := ⟨_, rfl⟩
  obtain ⟨r5, hr5⟩ : ∃ r, r = decide (x.size ≤ 256) := ⟨_, rfl⟩
  have t5 : decide ((x.size : Int) ≤ 256) = r5 := by rw [hr5]; exact decide_eq_decide.2 (by omega)
  rw [← hr4]
  rw [← hr4, ← hr5] at HX
  have HR := Lib.hid (And.intro hr4 hr5)
  clear hr4 hr5
  have hend : ∀ b, (ii || (r4 && r5)) = b → (b = true → (k = 0 ∨ k = 3 ∨ k = 4) ∧ (k = 4 → x.size ≤ 1000000000000)) := fun b hb hbt => by
    subst hbt
    rcases Bool.or_eq_true _ _ ▸ hb with h | h
    · have := HX.out.1 h
      exact ⟨.inr (.inl this), fun h4 => by omega⟩
    · obtain ⟨h4, h5⟩ := Bool.and_eq_true _ _ ▸ h
      have e4 := of_decide_eq_true (HR.out.1.symm.trans h4)
      have e5 := of_decide_eq_true (HR.out.2.symm.trans h5)
      exact ⟨.inr (.inr e4), fun _ => by omega⟩
  have HEND := Lib.hid hend
  clear hend
  cases ii <;> cases r4 <;> cases r5
  all_goals first
    | (have HNO := Lib.hid (HX.out.2.1 rfl)
       go_wp2_with fail
       go_ret
       exact ⟨by rw [HNO.out]; rfl, H2.out.below⟩)
    | (have hyes := HX.out.2.2 rfl
       have h3 := HEND.out true rfl rfl
       have HC := Lib.hid (HM.out _ H2.out h3.1 h3.2)
       generalize mayV k x l f 0 = mv at *
       have HY := Lib.hid hyes
       clear h3 hyes
       go_wp2_with fail
       refine HC.out.mono ?_
       rintro e w3 ⟨rfl, hB3⟩
       have H3 := Lib.hid (H2.out.on hB3)
       clear hB3 x0 x1 x2 x3
       go_wp2_with fail
       go_ret
       exact ⟨by rw [HY.out]; rfl, H3.out.below⟩)
end Go.Proofs.YtagafedkfkmkbaaGreatDoor

namespace Go.Proofs.YtagafedkfkmkbaaGreatDoor
open Go Go.RowKit Go.Lib

set_option maxHeartbeats 2000000 in
set_option maxRecDepth 100000 in
theorem hasID_any (M : Ms) (A : Nat → Prop) (w : World) (h : M.Ok A w) (hx : M.i.x.size ≤ 140737488355328) (hT : Tabs w) (hE : ErrC w) :
    Calls Tryz.prog 151 #[.agg #[.int .u8 M.j.k, .string M.j.x, .slice M.j.p M.j.n M.j.c, .slice M.j.q M.j.m M.j.e, .bool M.j.b, .int .u8 M.m.k, .string M.m.x, .slice M.m.p M.m.n M.m.c, .slice M.m.q M.m.m M.m.e, .bool M.m.b, .int .u8 M.p.k, .string M.p.x, .slice M.p.p M.p.n M.p.c, .slice M.p.q M.p.m M.p.e, .bool M.p.b, .int .u8 M.i.k, .string M.i.x, .slice M.i.p M.i.n M.i.c, .slice M.i.q M.i.m M.i.e, .bool M.i.b, .int .u8 M.r.k, .string M.r.x, .slice M.r.p M.r.n M.r.c, .slice M.r.q M.r.m M.r.e, .bool M.r.b, .int .u8 M.o.k, .string M.o.x, .slice M.o.p M.o.n M.o.c, .slice M.o.q M.o.m M.o.e, .bool M.o.b]] w (Bools (idB M.i.r) w) := by
  have H0 := Lib.hid (MsSt.start h)
  have HM := Lib.hid (fun W (g : MsSt w A M W) => mayID_any M.i.k M.i.x (.slice M.i.p M.i.n M.i.c) (.slice M.i.q M.i.m M.i.e) M.i.l M.i.f A W hx g.ok.i.l g.ok.i.f (tabs_below hT g.below) (hE.on g.below))
  clear h hx hT hE
  go_enter Tryz.func151, Tryz.ntmps151
  go_wp2_with fail
  refine (HM.out _ H0.out).mono ?_
  rintro e w1 ⟨rfl, hB1⟩
  have H1 := Lib.hid (H0.out.on hB1)
  obtain ⟨r, hr⟩ : ∃ r, r = midV M.i.k M.i.x M.i.l M.i.f := ⟨_, rfl⟩
  rw [← hr]
  have HR := Lib.hid hr
  clear hr hB1
  go_wp2_with fail
  go_ret
  exact ⟨by rw [HR.out]; rfl, H1.out.below⟩
set_option maxHeartbeats 2000000 in
set_option maxRecDepth 100000 in
theorem kind_any (M : Ms) (A : Nat → Prop) (w : World) (h : M.Ok A w) :
    Calls Tryz.prog 83 #[.agg #[.int .u8 M.j.k, .string M.j.x, .slice M.j.p M.j.n M.j.c, .slice M.j.q M.j.m M.j.e, .bool M.j.b, .int .u8 M.m.k, .string M.m.x, .slice M.m.p M.m.n M.m.c, .slice M.m.q M.m.m M.m.e, .bool M.m.b, .int .u8 M.p.k, .string M.p.x, .slice M.p.p M.p.n M.p.c, .slice M.p.q M.p.m M.p.e, .bool M.p.b, .int .u8 M.i.k, .string M.i.x, .slice M.i.p M.i.n M.i.c, .slice M.i.q M.i.m M.i.e, .bool M.i.b, .int .u8 M.r.k, .string M.r.x, .slice M.r.p M.r.n M.r.c, .slice M.r.q M.r.m M.r.e, .bool M.r.b, .int .u8 M.o.k, .string M.o.x, .slice M.o.p M.o.n M.o.c, .slice M.o.q M.o.m M.o.e, .bool M.o.b]] w (fun e w' => e = .returned (.int .u8 M.six.kind) ∧ Below w.heap.size w w') := by
  have HB := Lib.hid (MsSt.start h).below
  obtain ⟨b, hb⟩ : ∃ b, M.m.b = b := ⟨_, rfl⟩
  obtain ⟨b2, hb2⟩ : ∃ b, M.i.b = b := ⟨_, rfl⟩
  have HBB := Lib.hid (And.intro hb hb2)
  clear h
  rw [hb, hb2] at HB
  rw [hb, hb2]
  clear hb hb2
  cases b <;> cases b2
  all_goals
    go_enter Tryz.func83, Tryz.ntmps83
    go_wp2_with fail
    go_ret
    exact ⟨by simp [Six.kind, Ms.six, Fd.r, HBB.out.1, HBB.out.2], HB.out⟩
set_option maxHeartbeats 2000000 in
set_option maxRecDepth 100000 in
theorem idOrNull_any (M : Ms) (A : Nat → Prop) (w : World) (h : M.Ok A w) (hx : M.i.x.size ≤ 140737488355328) (hT : Tabs w) (hE : ErrC w) :
    Calls Tryz.prog 152 #[.agg #[.int .u8 M.j.k, .string M.j.x, .slice M.j.p M.j.n M.j.c, .slice M.j.q M.j.m M.j.e, .bool M.j.b, .int .u8 M.m.k, .string M.m.x, .slice M.m.p M.m.n M.m.c, .slice M.m.q M.m.m M.m.e, .bool M.m.b, .int .u8 M.p.k, .string M.p.x, .slice M.p.p M.p.n M.p.c, .slice M.p.q M.p.m M.p.e, .bool M.p.b, .int .u8 M.i.k, .string M.i.x, .slice M.i.p M.i.n M.i.c, .slice M.i.q M.i.m M.i.e, .bool M.i.b, .int .u8 M.r.k, .string M.r.x, .slice M.r.p M.r.n M.r.c, .slice M.r.q M.r.m M.r.e, .bool M.r.b, .int .u8 M.o.k, .string M.o.x, .slice M.o.p M.o.n M.o.c, .slice M.o.q M.o.m M.o.e, .bool M.o.b]] w (Bools (idNB M.i.r) w) := by
  have H0 := Lib.hid (MsSt.start h)
  have HM := Lib.hid (fun W (g : MsSt w A M W) => mayID_any M.i.k M.i.x (.slice M.i.p M.i.n M.i.c) (.slice M.i.q M.i.m M.i.e) M.i.l M.i.f A W hx g.ok.i.l g.ok.i.f (tabs_below hT g.below) (hE.on g.below))
  have HF := Lib.hid (fun W (g : MsSt w A M W) (h0 : M.i.k = 0) => may_flat M.i.k M.i.x (.slice M.i.p M.i.n M.i.c) (.slice M.i.q M.i.m M.i.e) M.i.l M.i.f A W (.inl h0) (fun h4 => by omega) hx g.ok.i.l g.ok.i.f (tabs_below hT g.below))
  have HIS := Lib.hid (fun W b hb (g : MsSt w A M W) => is_zero M.i.k M.i.x (.slice M.i.p M.i.n M.i.c) (.slice M.i.q M.i.m M.i.e) M.i.l M.i.f A W b hb g.ok.i.l g.ok.i.f)
  obtain ⟨mi, hmi⟩ : ∃ r, r = midV M.i.k M.i.x M.i.l M.i.f := ⟨_, rfl⟩
  obtain ⟨ma, hma⟩ : ∃ r, r = mayV M.i.k M.i.x M.i.l M.i.f 0 := ⟨_, rfl⟩
  rw [← hmi] at HM
  rw [← hma] at HF
  have HMM := Lib.hid (And.intro hmi hma)
  clear h hx hT hE hmi hma
  go_enter Tryz.func152, Tryz.ntmps152
  go_wp2_with fail
  refine (HIS.out _ _ (by simp) H0.out).mono ?_
  rintro e w1 ⟨rfl, hB1⟩
  have H1 := Lib.hid (H0.out.on hB1)
  obtain ⟨r, hr⟩ : ∃ r, r = decide (M.i.k ∈ [0]) := ⟨_, rfl⟩
  rw [← hr]
  have HR := Lib.hid hr
  clear hr hB1
  have hk0 : r = true → M.i.k = 0 := fun h => by have := HR.out; rw [h] at this; simpa using this.symm
  have HK := Lib.hid hk0
  obtain ⟨b, hb⟩ : ∃ b, M.i.b = b := ⟨_, rfl⟩
  have c15 := H1.out.b0.c 15 _ rfl
  have c16 := H1.out.b0.c 16 _ rfl
  have c17 := H1.out.b0.c 17 _ rfl
  have c18 := H1.out.b0.c 18 _ rfl
  have c19 := H1.out.b0.c 19 _ rfl
  rw [hb] at c19
  have HBB := Lib.hid hb
  clear hk0 hb H0
  cases r
  · cases b
    · go_wp2_with fail
      go_ret
      exact ⟨by simp [idNB, Fd.r, HBB.out], H1.out.below⟩
    · go_wp2_with fail
      refine (HM.out _ H1.out).mono ?_
      rintro e w2 ⟨rfl, hB2⟩
      have H2 := Lib.hid (H1.out.on hB2)
      clear hB2 c15 c16 c17 c18 c19
      go_wp2_with fail
      go_ret
      exact ⟨by have := HR.out; simp at this; simp [idNB, idB, Fd.r, HBB.out, HMM.out.1, this], H2.out.below⟩
  · go_wp2_with fail
    refine (HF.out _ H1.out (by simpa using HK.out)).mono ?_
    rintro e w2 ⟨rfl, hB2⟩
    have H2 := Lib.hid (H1.out.on hB2)
    clear hB2 c15 c16 c17 c18 c19
    have c15 := H2.out.b0.c 15 _ rfl
    have c16 := H2.out.b0.c 16 _ rfl
    have c17 := H2.out.b0.c 17 _ rfl
    have c18 := H2.out.b0.c 18 _ rfl
    have c19 := H2.out.b0.c 19 _ rfl
    rw [HBB.out] at c19
    cases b
    · go_wp2_with fail
      go_ret
      exact ⟨by simp [idNB, Fd.r, HBB.out], H2.out.below⟩
    · cases ma
      · go_wp2_with fail
        refine (HM.out _ H2.out).mono ?_
        rintro e w3 ⟨rfl, hB3⟩
        have H3 := Lib.hid (H2.out.on hB3)
        clear hB3 c15 c16 c17 c18 c19
        go_wp2_with fail
        go_ret
        exact ⟨by simp [idNB, idB, Fd.r, HBB.out, HMM.out.1, HMM.out.2.symm], H3.out.below⟩
      · go_wp2_with fail
        go_ret
        exact ⟨by have := HR.out; simp at this; have h2 := HMM.out.2.symm; rw [this] at h2; simp [idNB, Fd.r, HBB.out, this, h2], H2.out.below⟩
end Go.Proofs.YtagafedkfkmkbaaGreatDoor
