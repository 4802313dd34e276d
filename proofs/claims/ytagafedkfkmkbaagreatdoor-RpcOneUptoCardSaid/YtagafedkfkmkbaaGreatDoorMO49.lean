/- A value's ID. Conditions: such as Go can hold; the library's tables; strconv.ErrRange holds an error. -/
import Derived.Test.YtagafedkfkmkbaaGreatDoorMO48
import Derived.Test.YtagafedkfkmkbaaGreatDoorMO05
import Derived.Test.YtagafedkfkmkbaaGreatDoorMO03
import Derived.Shelf.Abstract
namespace Go.Proofs.YtagafedkfkmkbaaGreatDoor
open Go Go.RowKit Go.Lib

/-- what a value's ID is -/
def idR (i : R5) : R5 := if idB i = true then i else r0
def V4Is (r : R5) (w : World) (e : Ending) (w' : World) : Prop := ∃ d : Fd, e = .returned (.agg #[.int .u8 d.k, .string d.x, .slice d.p d.n d.c, .slice d.q d.m d.e]) ∧ d.r = r ∧ d.Ok (fun _ => True) w' ∧ Below w.heap.size w w'
structure IdSt (w : World) (k : Nat) (x : ByteArray) (v u : Value) (W : World) : Prop where
  below : Below w.heap.size w W
  b0 : Blk4 W w.heap.size 25 (.int .u8 k) (.string x) v u
  b1 : Blk4 W (w.heap.size + 1) 25 (.int .u8 0) (.string ⟨#[]⟩) (.slice none 0 0) (.slice none 0 0)
theorem IdSt.on {w : World} {k : Nat} {x : ByteArray} {v u : Value} {W W' : World} (h : IdSt w k x v u W) (hB : Below W.heap.size W W') : IdSt w k x v u W' :=
  ⟨h.below.trans (hB.mono h.below.size), h.b0.same (hB.block _ h.b0.lt), h.b1.same (hB.block _ h.b1.lt)⟩
set_option maxHeartbeats 2000000 in
set_option maxRecDepth 100000 in
theorem ID_any (k : Nat) (x : ByteArray) (v u : Value) (l f : V.T) (A : Nat → Prop) (w : World) (hl : HS w A 0 v l) (hf : HS w A 1 u f) (hx : (sixOf k f).i.2.1.size ≤ 140737488355328) (hT : Tabs w) (hE : ErrC w) :
    Calls Tryz.prog 28 #[.agg #[.int .u8 k, .string x, v, u]] w (V4Is (idR (sixOf k f).i) w) := by
  have H0 := Lib.hid (show IdSt w k x v u ((w.alloc (.cells #[.int .u8 k, .string x, v, u] 25)).alloc (.cells #[.int .u8 0, .string ⟨#[]⟩, .slice none 0 0, .slice none 0 0] 25)) from ⟨two_below _ _ _, (two_new _ _ _).1, (two_new _ _ _).2⟩)
  have HG := Lib.hid (fun W (h : Below w.heap.size w W) => get_any k x ⟨#[105, 100]⟩ v u l f A W (hl.below h) (hf.below h))
  have HM := Lib.hid (fun W (h : Below w.heap.size w W) (v1 u1 : Value) (l1 : HS W (fun _ => True) 0 v1 (sixOf k f).i.2.2.1) (f1 : HS W (fun _ => True) 1 u1 (sixOf k f).i.2.2.2.1) => mayID_any (sixOf k f).i.1 (sixOf k f).i.2.1 v1 u1 (sixOf k f).i.2.2.1 (sixOf k f).i.2.2.2.1 (fun _ => True) W hx l1 f1 (tabs_below hT h) (hE.on h))
  obtain ⟨p, c, rfl, -⟩ := hl.len
  obtain ⟨q, d, rfl, -⟩ := hf.len
  have e0 : V.res (V.got k f ⟨#[105, 100]⟩) = (sixOf k f).i := rfl
  have hgot : ∀ W, Below w.heap.size w W → Calls Tryz.prog 59 #[.agg #[.int .u8 k, .string x, .slice p l.len c, .slice q f.len d], .string ⟨#[105, 100]⟩] W (fun en w' => ∃ v u, en = .returned (.tuple #[.agg #[.int .u8 (sixOf k f).i.1, .string (sixOf k f).i.2.1, v, u], .bool (sixOf k f).i.2.2.2.2]) ∧ HS w' (Fre W.heap.size w') 0 v (sixOf k f).i.2.2.1 ∧ HS w' (Fre W.heap.size w') 1 u (sixOf k f).i.2.2.2.1 ∧ Below W.heap.size W w') := fun W h => (HG.out W h).mono fun en w' hh => by
    obtain ⟨v1, u1, h1, h2, h3, -, -, h4⟩ := hh
    exact ⟨v1, u1, h1, h2, h3, h4⟩
  have HGT := Lib.hid hgot
  have hid : (sixOf k f).i = (sixOf k f).i := rfl
  clear hl hf hx hT hE HG hgot hid e0
  generalize (sixOf k f).i = r at *
  obtain ⟨rk, rx, rl, rf, rb⟩ := r
  dsimp only at HGT HM
  obtain ⟨mi, hmi⟩ : ∃ b, b = midV rk rx rl rf := ⟨_, rfl⟩
  rw [← hmi] at HM
  have HMI := Lib.hid hmi
  clear hmi
  go_enter Tryz.func28, Tryz.ntmps28
  go_wp2_with fail
  generalize (w.alloc (.cells #[.int .u8 k, .string x, .slice p l.len c, .slice q f.len d] 25)).alloc (.cells #[.int .u8 0, .string ⟨#[]⟩, .slice none 0 0, .slice none 0 0] 25) = W0 at *
  have hz0 : w.heap.size + 2 ≤ W0.heap.size := H0.out.b1.lt
  obtain ⟨x0, x1, x2, x3⟩ := H0.out.b0.box
  go_wp2_with fail
  refine (HGT.out _ H0.out.below).mono ?_
  rintro e w1 ⟨v1, u1, rfl, hl1, hf1, hB1⟩
  obtain ⟨p1, c1, rfl, -⟩ := hl1.len
  obtain ⟨q1, d1, rfl, -⟩ := hf1.len
  have hBa := (Below.refl w1.heap.size w1).alloc (Nat.le_refl _) (.cells #[.int .u8 rk, .string rx, .slice p1 rl.len c1, .slice q1 rf.len d1] 25)
  have H1 := Lib.hid ((H0.out.on hB1).on hBa)
  have HV := Lib.hid (And.intro ((hl1.imp (A' := fun b => w.heap.size + 2 ≤ b) (fun b hb _ => Nat.le_trans hz0 hb.1) (fun _ _ _ => rfl)).below hBa) ((hf1.imp (A' := fun b => w.heap.size + 2 ≤ b) (fun b hb _ => Nat.le_trans hz0 hb.1) (fun _ _ _ => rfl)).below hBa))
  have hb2 : Blk4 (w1.alloc (.cells #[.int .u8 rk, .string rx, .slice p1 rl.len c1, .slice q1 rf.len d1] 25)) w1.heap.size 25 _ _ _ _ := heap_alloc_new _ _
  have HB2 := Lib.hid (And.intro hb2 (Nat.le_trans hz0 hB1.size))
  clear hl1 hf1 hB1 hBa hb2 x0 x1 x2 x3
  go_wp2_with fail
  generalize w1.alloc (.cells #[.int .u8 rk, .string rx, .slice p1 rl.len c1, .slice q1 rf.len d1] 25) = W1 at *
  generalize w1.heap.size = n1 at *
  have hc := HM.out W1 H1.out.below _ _ (HV.out.1.mono (fun _ _ _ => trivial)) (HV.out.2.mono (fun _ _ _ => trivial))
  refine hc.mono ?_
  rintro e w2 ⟨rfl, hB2⟩
  have H2 := Lib.hid (H1.out.on hB2)
  have HV2 := Lib.hid (And.intro (HV.out.1.below hB2) (HV.out.2.below hB2))
  have b2 := HB2.out.1.same (hB2.block _ HB2.out.1.lt)
  obtain ⟨x0, x1, x2, x3⟩ := b2.box
  obtain ⟨y0, y1, y2, y3⟩ := H2.out.b1.box
  have f1 := H2.out.b1.free
  clear hB2 hc H1 HV
  cases mi
  · go_wp2_with fail
    obtain ⟨g1, g2, g3⟩ := H2.out.b1.all (.int .u8 0) (.string ⟨#[]⟩) (.slice none 0 0) (.slice none 0 0)
    have g3' := g3 w.heap.size (by omega)
    clear x0 x1 x2 x3 y0 y1 y2 y3 f1
    generalize (((w2.setCell ⟨w.heap.size + 1, 0, none⟩ (.int .u8 0)).setCell ⟨w.heap.size + 1, 1, none⟩ (.string ⟨#[]⟩)).setCell ⟨w.heap.size + 1, 2, none⟩ (.slice none 0 0)).setCell ⟨w.heap.size + 1, 3, none⟩ (.slice none 0 0) = w3 at *
    obtain ⟨y0, y1, y2, y3⟩ := g1.box
    refine bodyPost_ret (v := .agg #[.int .u8 0, .string ⟨#[]⟩, .slice none 0 0, .slice none 0 0]) (by simp [results, Tryz.results28, go_sem, y0, y1, y2, y3]) rfl ?_
    exact ⟨fd0, rfl, by unfold idR idB; rw [if_neg (by rw [← HMI.out]; decide)]; rfl, fd0_ok _ _, H2.out.below.trans g3'⟩
  · go_wp2_with fail
    obtain ⟨g1, g2, g3⟩ := H2.out.b1.all (.int .u8 rk) (.string rx) (.slice p1 rl.len c1) (.slice q1 rf.len d1)
    have hw3 := set4_else w2 (w.heap.size + 1) (.int .u8 rk) (.string rx) (.slice p1 rl.len c1) (.slice q1 rf.len d1)
    have g3' := g3 w.heap.size (by omega)
    clear x0 x1 x2 x3 y0 y1 y2 y3 f1
    generalize (((w2.setCell ⟨w.heap.size + 1, 0, none⟩ (.int .u8 rk)).setCell ⟨w.heap.size + 1, 1, none⟩ (.string rx)).setCell ⟨w.heap.size + 1, 2, none⟩ (.slice p1 rl.len c1)).setCell ⟨w.heap.size + 1, 3, none⟩ (.slice q1 rf.len d1) = w3 at *
    obtain ⟨y0, y1, y2, y3⟩ := g1.box
    refine bodyPost_ret (v := .agg #[.int .u8 rk, .string rx, .slice p1 rl.len c1, .slice q1 rf.len d1]) (by simp [results, Tryz.results28, go_sem, y0, y1, y2, y3]) rfl ?_
    have keep : ∀ b, w.heap.size + 2 ≤ b → b < w2.heap.size → w3.heap[b]? = w2.heap[b]? := fun b hb _ => hw3 b (by omega)
    exact ⟨⟨rk, rx, p1, rl.len, c1, q1, rf.len, d1, rb, rl, rf⟩, rfl, by unfold idR idB; rw [if_pos (by rw [← HMI.out])]; rfl, ⟨HV2.out.1.imp (fun _ _ _ => trivial) keep, HV2.out.2.imp (fun _ _ _ => trivial) keep⟩, H2.out.below.trans g3'⟩
end Go.Proofs.YtagafedkfkmkbaaGreatDoor

namespace Go.Proofs.YtagafedkfkmkbaaGreatDoor
open Go Go.RowKit Go.Lib

/-- Same serves values of fewer than N elements -/
def SaOk (N : Nat) : Prop := ∀ (ka : Nat) (xa : ByteArray) (va ua : Value) (la fa : V.T) (kb : Nat) (xb : ByteArray) (vb ub : Value) (lb fb : V.T) (A A' : Nat → Prop) (w : World),
    la.size + fa.size < N → HS w A 0 va la → HS w A 1 ua fa → HS w A' 0 vb lb → HS w A' 1 ub fb →
    Calls Tryz.prog 18 #[.agg #[.int .u8 ka, .string xa, va, ua], .agg #[.int .u8 kb, .string xb, vb, ub]] w (Bools (V.veq ka xa la fa kb xb lb fb) w)
theorem eq_not {a b : V.T} (h : ¬ a.len = b.len) : a.eq b = false := by
  cases he : a.eq b
  · rfl
  · exact absurd (V.T.eq_len he) h

set_option maxHeartbeats 2000000 in
set_option maxRecDepth 100000 in
theorem sameField_any (N : Nat) (ih : SaOk N) (na : ByteArray) (ka : Nat) (xa : ByteArray) (va ua : Value) (la fa : V.T) (nb : ByteArray) (kb : Nat) (xb : ByteArray) (vb ub : Value) (lb fb : V.T) (A A' : Nat → Prop) (w : World)
    (hs : la.size + fa.size < N) (hva : HS w A 0 va la) (hua : HS w A 1 ua fa) (hvb : HS w A' 0 vb lb) (hub : HS w A' 1 ub fb) :
    Calls Tryz.prog 77 #[.agg #[.string na, .int .u8 ka, .string xa, va, ua], .agg #[.string nb, .int .u8 kb, .string xb, vb, ub]] w (Bools (decide (na = nb) && V.veq ka xa la fa kb xb lb fb) w) := by
  have hw := two_below w (.cells #[.string na, .int .u8 ka, .string xa, va, ua] 109) (.cells #[.string nb, .int .u8 kb, .string xb, vb, ub] 109)
  have IH := fun W (hW : Below w.heap.size w W) => ih ka xa va ua la fa kb xb vb ub lb fb A A' W hs (hva.below hW) (hua.below hW) (hvb.below hW) (hub.below hW)
  obtain ⟨pa, ca, rfl, -⟩ := hva.len
  obtain ⟨qa, da, rfl, -⟩ := hua.len
  obtain ⟨pb, cb, rfl, -⟩ := hvb.len
  obtain ⟨qb, db, rfl, -⟩ := hub.len
  have HB := Lib.hid hw
  have HI := Lib.hid IH
  clear hva hua hvb hub hs hw IH
  by_cases h : na = nb
  · have t1 : (na.toList == nb.toList) = true := by rw [h]; simp
    rw [decide_eq_true h, Bool.true_and]
    clear h
    go_enter Tryz.func77, Tryz.ntmps77
    go_wp2_with fail
    generalize V.veq ka xa la fa kb xb lb fb = r at *
    refine (HI.out _ HB.out).mono ?_
    rintro e w1 ⟨rfl, hB1⟩
    have H1 := Lib.hid (HB.out.trans (hB1.mono HB.out.size))
    clear hB1
    go_wp2_with fail
    go_ret
    exact ⟨rfl, H1.out⟩
  · have t1 : (na.toList == nb.toList) = false := by rw [bytes_beq]; simp [h]
    rw [decide_eq_false h, Bool.false_and]
    clear h
    go_enter Tryz.func77, Tryz.ntmps77
    go_wp2_with fail
    go_ret
    exact ⟨rfl, HB.out⟩

set_option maxHeartbeats 2000000 in
set_option maxRecDepth 100000 in
theorem equalV_any (N : Nat) (ih : SaOk N) (va vb : Value) (ta tb : V.T) (A A' : Nat → Prop) (w : World) (hs : ta.size ≤ N) (hva : HS w A 0 va ta) (hvb : HS w A' 0 vb tb) :
    Calls Tryz.prog 75 #[va, vb, .func (.func 18) #[] #[]] w (Bools (ta.eq tb) w) := by
  have ew : ∀ args w, (callFunc 18 args).run Tryz.prog w = .ok (.enter 18 args) w := enters_of Tryz.func18 (by kernel_rfl) rfl
  obtain ⟨pa, ca, rfl, a0, a1, a2⟩ := hva.len
  obtain ⟨pb, cb, rfl, b0, b1, b2⟩ := hvb.len
  generalize hna : ta.len = na at *
  generalize hnb : tb.len = nb at *
  have HNA := Lib.hid (And.intro hna hnb)
  by_cases hn : na = nb
  · subst hn
    have t1 : ((na : Int) != na) = false := by simp
    have HA := Lib.hid (And.intro hva hvb)
    have HS := Lib.hid hs
    clear hna hnb hva hvb hs
    go_enter Tryz.func75, Tryz.ntmps75
    go_wp2_with fail
    go_loopw [17] (fun q wr => ∃ i : Nat, q = .int .i64 i ∧ i ≤ na ∧ Hid (Below w.heap.size w wr ∧ (ta.drop i).eq (tb.drop i) = ta.eq tb)) (fun q _ => na - (RowKit.intOf q).toNat)
    case atStart => exact ⟨0, rfl, Nat.zero_le _, Lib.hid ⟨Below.refl _ _, by rw [V.T.drop_zero, V.T.drop_zero]⟩⟩
    case round =>
      obtain ⟨i, rfl, hi, HR⟩ := hrel
      by_cases hlt : i < na
      · obtain ⟨nm1, k1, x1, l1, f1, tl1, hd1⟩ := V.T.drop_some (t := ta) (i := i) (by rw [HNA.out.1]; exact hlt)
        obtain ⟨nm2, k2, x2, l2, f2, tl2, hd2⟩ := V.T.drop_some (t := tb) (i := i) (by rw [HNA.out.2]; exact hlt)
        obtain ⟨g1', o1, v1, u1, rfl, E1⟩ := (HA.out.1.below HR.out.1).elem (by rw [HNA.out.1]; exact hlt) hd1
        obtain ⟨g2', o2, v2, u2, rfl, E2⟩ := (HA.out.2.below HR.out.1).elem (by rw [HNA.out.2]; exact hlt) hd2
        obtain ⟨p1, c1, rfl, -⟩ := E1.hl.len
        obtain ⟨q1, d1, rfl, -⟩ := E1.hf.len
        obtain ⟨p2, c2, rfl, -⟩ := E2.hl.len
        obtain ⟨q2, d2, rfl, -⟩ := E2.hf.len
        have e1 := E1.kind
        have e2 := E1.text
        have e3 := E1.list
        have e4 := E1.fields
        have g1 := E2.kind
        have g2 := E2.text
        have g3 := E2.list
        have g4 := E2.fields
        simp only [Nat.add_zero] at e1 e2 e3 e4 g1 g2 g3 g4
        have HL := Lib.hid hlt
        have D1 := Lib.hid hd1
        have D2 := Lib.hid hd2
        have HW2 := Lib.hid (two_below wr (.cells #[.int .u8 k1, .string x1, .slice p1 l1.len c1, .slice q1 f1.len d1] 25) (.cells #[.int .u8 k2, .string x2, .slice p2 l2.len c2, .slice q2 f2.len d2] 25))
        have hb1 := World.block_lt_of_cell? wr _ e1
        have hb2 := World.block_lt_of_cell? wr _ g1
        have HC := (ih k1 x1 _ _ l1 f1 k2 x2 _ _ l2 f2 A A' _ (by have := V.T.drop_size D1.out; have := HS.out; omega) (E1.hl.below HW2.out) (E1.hf.below HW2.out) (E2.hl.below HW2.out) (E2.hf.below HW2.out))
        clear hd1 hd2
        cases hv : V.veq k1 x1 l1 f1 k2 x2 l2 f2
        · have hno : ta.eq tb = false := HR.out.2.symm.trans (V.eq_no D1.out D2.out hv)
          rw [hv] at HC
          rw [hno]
          clear hv hno
          go_wp2_with fail
          refine HC.mono ?_
          rintro e w1 ⟨rfl, hB1⟩
          have H1 := Lib.hid (HR.out.1.trans ((HW2.out.trans (hB1.mono HW2.out.size)).mono HR.out.1.size))
          clear hB1 HC
          go_wp2_with fail
          go_ret
          exact ⟨rfl, H1.out⟩
        · have hyes : (ta.drop (i + 1)).eq (tb.drop (i + 1)) = ta.eq tb := (V.eq_next D1.out D2.out hv ((E1.nil rfl).trans (E2.nil rfl).symm)).trans HR.out.2
          rw [hv] at HC
          have HY := Lib.hid hyes
          clear hv hyes
          go_wp2_with fail
          refine HC.mono ?_
          rintro e w1 ⟨rfl, hB1⟩
          have H1 := Lib.hid (HR.out.1.trans ((HW2.out.trans (hB1.mono HW2.out.size)).mono HR.out.1.size))
          clear hB1 HC
          go_wp2_with fail
          go_roundw
          case rel => exact ⟨i + 1, by go_num, HL.out, Lib.hid ⟨H1.out, HY.out⟩⟩
          case measure => have := HL.out; simp [RowKit.intOf]; omega
      · obtain rfl : i = na := by omega
        have hy : ta.eq tb = true := by
          have h := HR.out.2
          have e1 := V.T.drop_len ta
          have e2 := V.T.drop_len tb
          rw [HNA.out.1] at e1
          rw [HNA.out.2] at e2
          rw [e1, e2] at h
          exact h.symm
        have HB := Lib.hid HR.out.1
        have HY := Lib.hid hy
        clear hy
        go_wp2_with fail
        go_ret
        exact ⟨by rw [HY.out]; rfl, HB.out⟩
  · have t1 : ((na : Int) != nb) = true := by simp; omega
    rw [eq_not (by rw [hna, hnb]; exact hn)]
    clear hn hna hnb hva hvb hs HNA
    go_enter Tryz.func75, Tryz.ntmps75
    go_wp2_with fail
    go_ret
    exact ⟨rfl, Below.refl _ _⟩

set_option maxHeartbeats 2000000 in
set_option maxRecDepth 100000 in
theorem equalF_any (N : Nat) (ih : SaOk N) (va vb : Value) (ta tb : V.T) (A A' : Nat → Prop) (w : World) (hs : ta.size ≤ N) (hva : HS w A 1 va ta) (hvb : HS w A' 1 vb tb) :
    Calls Tryz.prog 76 #[va, vb, .func (.func 77) #[] #[]] w (Bools (ta.eq tb) w) := by
  have ew : ∀ args w, (callFunc 77 args).run Tryz.prog w = .ok (.enter 77 args) w := enters_of Tryz.func77 (by kernel_rfl) rfl
  obtain ⟨pa, ca, rfl, a0, a1, a2⟩ := hva.len
  obtain ⟨pb, cb, rfl, b0, b1, b2⟩ := hvb.len
  generalize hna : ta.len = na at *
  generalize hnb : tb.len = nb at *
  have HNA := Lib.hid (And.intro hna hnb)
  by_cases hn : na = nb
  · subst hn
    have t1 : ((na : Int) != na) = false := by simp
    have HA := Lib.hid (And.intro hva hvb)
    have HS := Lib.hid hs
    clear hna hnb hva hvb hs
    go_enter Tryz.func76, Tryz.ntmps76
    go_wp2_with fail
    go_loopw [17] (fun q wr => ∃ i : Nat, q = .int .i64 i ∧ i ≤ na ∧ Hid (Below w.heap.size w wr ∧ (ta.drop i).eq (tb.drop i) = ta.eq tb)) (fun q _ => na - (RowKit.intOf q).toNat)
    case atStart => exact ⟨0, rfl, Nat.zero_le _, Lib.hid ⟨Below.refl _ _, by rw [V.T.drop_zero, V.T.drop_zero]⟩⟩
    case round =>
      obtain ⟨i, rfl, hi, HR⟩ := hrel
      by_cases hlt : i < na
      · obtain ⟨nm1, k1, x1, l1, f1, tl1, hd1⟩ := V.T.drop_some (t := ta) (i := i) (by rw [HNA.out.1]; exact hlt)
        obtain ⟨nm2, k2, x2, l2, f2, tl2, hd2⟩ := V.T.drop_some (t := tb) (i := i) (by rw [HNA.out.2]; exact hlt)
        obtain ⟨g1', o1, v1, u1, rfl, E1⟩ := (HA.out.1.below HR.out.1).elem (by rw [HNA.out.1]; exact hlt) hd1
        obtain ⟨g2', o2, v2, u2, rfl, E2⟩ := (HA.out.2.below HR.out.1).elem (by rw [HNA.out.2]; exact hlt) hd2
        obtain ⟨p1, c1, rfl, -⟩ := E1.hl.len
        obtain ⟨q1, d1, rfl, -⟩ := E1.hf.len
        obtain ⟨p2, c2, rfl, -⟩ := E2.hl.len
        obtain ⟨q2, d2, rfl, -⟩ := E2.hf.len
        have e1 := E1.kind
        have e2 := E1.text
        have e3 := E1.list
        have e4 := E1.fields
        have g1 := E2.kind
        have g2 := E2.text
        have g3 := E2.list
        have g4 := E2.fields
        have e0 := E1.name rfl
        have g0 := E2.name rfl
        simp only [Nat.reduceAdd] at e0 e1 e2 e3 e4 g0 g1 g2 g3 g4
        rw [show o1 + i * 5 + 1 + 1 = o1 + i * 5 + 2 by omega] at e2
        rw [show o1 + i * 5 + 1 + 2 = o1 + i * 5 + 3 by omega] at e3
        rw [show o1 + i * 5 + 1 + 3 = o1 + i * 5 + 4 by omega] at e4
        rw [show o2 + i * 5 + 1 + 1 = o2 + i * 5 + 2 by omega] at g2
        rw [show o2 + i * 5 + 1 + 2 = o2 + i * 5 + 3 by omega] at g3
        rw [show o2 + i * 5 + 1 + 3 = o2 + i * 5 + 4 by omega] at g4
        have HL := Lib.hid hlt
        have D1 := Lib.hid hd1
        have D2 := Lib.hid hd2
        have HW2 := Lib.hid (two_below wr (.cells #[.string nm1, .int .u8 k1, .string x1, .slice p1 l1.len c1, .slice q1 f1.len d1] 109) (.cells #[.string nm2, .int .u8 k2, .string x2, .slice p2 l2.len c2, .slice q2 f2.len d2] 109))
        have hb1 := World.block_lt_of_cell? wr _ e1
        have hb2 := World.block_lt_of_cell? wr _ g1
        have HC := (sameField_any N ih nm1 k1 x1 _ _ l1 f1 nm2 k2 x2 _ _ l2 f2 A A' _ (by have := V.T.drop_size D1.out; have := HS.out; omega) (E1.hl.below HW2.out) (E1.hf.below HW2.out) (E2.hl.below HW2.out) (E2.hf.below HW2.out))
        clear hd1 hd2
        cases hv : (decide (nm1 = nm2) && V.veq k1 x1 l1 f1 k2 x2 l2 f2)
        · have hno : ta.eq tb = false := HR.out.2.symm.trans ((by by_cases hnn : nm1 = nm2; exact V.eq_no D1.out D2.out (by rw [decide_eq_true hnn, Bool.true_and] at hv; exact hv); exact V.eq_name D1.out D2.out hnn))
          rw [hv] at HC
          rw [hno]
          clear hv hno
          go_wp2_with fail
          refine HC.mono ?_
          rintro e w1 ⟨rfl, hB1⟩
          have H1 := Lib.hid (HR.out.1.trans ((HW2.out.trans (hB1.mono HW2.out.size)).mono HR.out.1.size))
          clear hB1 HC
          go_wp2_with fail
          go_ret
          exact ⟨rfl, H1.out⟩
        · have hyes : (ta.drop (i + 1)).eq (tb.drop (i + 1)) = ta.eq tb := (V.eq_next D1.out D2.out (Bool.and_eq_true_iff.1 hv).2 (of_decide_eq_true (Bool.and_eq_true_iff.1 hv).1)).trans HR.out.2
          rw [hv] at HC
          have HY := Lib.hid hyes
          clear hv hyes
          go_wp2_with fail
          refine HC.mono ?_
          rintro e w1 ⟨rfl, hB1⟩
          have H1 := Lib.hid (HR.out.1.trans ((HW2.out.trans (hB1.mono HW2.out.size)).mono HR.out.1.size))
          clear hB1 HC
          go_wp2_with fail
          go_roundw
          case rel => exact ⟨i + 1, by go_num, HL.out, Lib.hid ⟨H1.out, HY.out⟩⟩
          case measure => have := HL.out; simp [RowKit.intOf]; omega
      · obtain rfl : i = na := by omega
        have hy : ta.eq tb = true := by
          have h := HR.out.2
          have e1 := V.T.drop_len ta
          have e2 := V.T.drop_len tb
          rw [HNA.out.1] at e1
          rw [HNA.out.2] at e2
          rw [e1, e2] at h
          exact h.symm
        have HB := Lib.hid HR.out.1
        have HY := Lib.hid hy
        clear hy
        go_wp2_with fail
        go_ret
        exact ⟨by rw [HY.out]; rfl, HB.out⟩
  · have t1 : ((na : Int) != nb) = true := by simp; omega
    rw [eq_not (by rw [hna, hnb]; exact hn)]
    clear hn hna hnb hva hvb hs HNA
    go_enter Tryz.func76, Tryz.ntmps76
    go_wp2_with fail
    go_ret
    exact ⟨rfl, Below.refl _ _⟩

set_option maxHeartbeats 1000000 in
set_option maxRecDepth 100000 in
theorem sa_ok : ∀ N, SaOk N
  | 0 => fun _ _ _ _ _ _ _ _ _ _ _ _ _ _ _ h => absurd h (Nat.not_lt_zero _)
  | N + 1 => fun ka xa va ua la fa kb xb vb ub lb fb A A' w hN hva hua hvb hub => by
    have ih := sa_ok N
    have hw := two_below w (.cells #[.int .u8 ka, .string xa, va, ua] 25) (.cells #[.int .u8 kb, .string xb, vb, ub] 25)
    have hx := two_new w (.cells #[.int .u8 ka, .string xa, va, ua] 25) (.cells #[.int .u8 kb, .string xb, vb, ub] 25)
    have CV := fun W (hW : Below w.heap.size w W) => equalV_any N ih va vb la lb A A' W (by omega) (hva.below hW) (hvb.below hW)
    have CF := fun W (hW : Below w.heap.size w W) => equalF_any N ih ua ub fa fb A A' W (by omega) (hua.below hW) (hub.below hW)
    have hz := two_size w (.cells #[.int .u8 ka, .string xa, va, ua] 25) (.cells #[.int .u8 kb, .string xb, vb, ub] 25)
    obtain ⟨pa, ca, rfl, -⟩ := hva.len
    obtain ⟨qa, da, rfl, -⟩ := hua.len
    obtain ⟨pb, cb, rfl, -⟩ := hvb.len
    obtain ⟨qb, db, rfl, -⟩ := hub.len
    unfold V.veq
    have HB := Lib.hid hw
    have HX := Lib.hid hx
    have HZ := Lib.hid hz
    have HCV := Lib.hid CV
    have HCF := Lib.hid CF
    clear hva hua hvb hub hw hx CV CF hN hz
    by_cases h1 : ka = kb
    · have t1 : ((ka : Int) == kb) = true := by rw [h1]; simp
      rw [decide_eq_true h1, Bool.true_and]
      clear h1
      by_cases h2 : xa = xb
      · have t2 : (xa.toList == xb.toList) = true := by rw [h2]; simp
        rw [decide_eq_true h2, Bool.true_and]
        clear h2
        have b1 : Blk4 _ w.heap.size 25 _ _ _ _ := HX.out.1
        have b2 : Blk4 _ (w.heap.size + 1) 25 _ _ _ _ := HX.out.2
        obtain ⟨c0, c1, c2, c3⟩ := b1.box
        obtain ⟨d0, d1, d2, d3⟩ := b2.box
        clear b1 b2
        cases hl : la.eq lb
        · rw [hl] at HCV
          rw [Bool.false_and]
          clear hl
          go_enter Tryz.func18, Tryz.ntmps18
          go_wp2_with fail
          refine (HCV.out _ HB.out).mono ?_
          rintro e w1 ⟨rfl, hB1⟩
          have H1 := Lib.hid (HB.out.trans (hB1.mono HB.out.size))
          clear hB1 c0 c1 c2 c3 d0 d1 d2 d3
          go_wp2_with fail
          go_ret
          exact ⟨rfl, H1.out⟩
        · rw [hl] at HCV
          rw [Bool.true_and]
          clear hl
          generalize fa.eq fb = r at *
          go_enter Tryz.func18, Tryz.ntmps18
          go_wp2_with fail
          refine (HCV.out _ HB.out).mono ?_
          rintro e w1 ⟨rfl, hB1⟩
          have H1 := Lib.hid (HB.out.trans (hB1.mono HB.out.size))
          have b1 : Blk4 w1 w.heap.size 25 _ _ _ _ := (hB1.block _ (by have := HZ.out; omega)).trans HX.out.1
          have b2 : Blk4 w1 (w.heap.size + 1) 25 _ _ _ _ := (hB1.block _ (by have := HZ.out; omega)).trans HX.out.2
          obtain ⟨e0, e1, e2, e3⟩ := b1.box
          obtain ⟨g0, g1, g2, g3⟩ := b2.box
          clear hB1 c0 c1 c2 c3 d0 d1 d2 d3 b1 b2
          go_wp2_with fail
          refine (HCF.out _ H1.out).mono ?_
          rintro e w2 ⟨rfl, hB2⟩
          have H2 := Lib.hid (H1.out.trans (hB2.mono H1.out.size))
          clear hB2 e0 e1 e2 e3 g0 g1 g2 g3
          go_wp2_with fail
          go_ret
          exact ⟨rfl, H2.out⟩
      · have t2 : (xa.toList == xb.toList) = false := by rw [bytes_beq]; simp [h2]
        rw [decide_eq_false h2, Bool.false_and, Bool.false_and]
        clear h2
        go_enter Tryz.func18, Tryz.ntmps18
        go_wp2_with fail
        go_ret
        exact ⟨rfl, HB.out⟩
    · have t1 : ((ka : Int) == kb) = false := by simp; omega
      rw [decide_eq_false h1, Bool.false_and, Bool.false_and, Bool.false_and]
      clear h1
      go_enter Tryz.func18, Tryz.ntmps18
      go_wp2_with fail
      go_ret
      exact ⟨rfl, HB.out⟩
end Go.Proofs.YtagafedkfkmkbaaGreatDoor

namespace Go.Proofs.YtagafedkfkmkbaaGreatDoor
open Go Go.RowKit Go.Lib

/-- one value in a row -/
structure One4 (b k : Nat) (x : ByteArray) (v u : Value) (W : World) : Prop where
  lt : b < W.heap.size
  c : W.cell? ⟨b, 0, none⟩ = some (.int .u8 k) ∧ W.cell? ⟨b, 1, none⟩ = some (.string x) ∧ W.cell? ⟨b, 2, none⟩ = some v ∧ W.cell? ⟨b, 3, none⟩ = some u
theorem One4.on {b k : Nat} {x : ByteArray} {v u : Value} {W W' : World} (h : One4 b k x v u W) (hB : Below W.heap.size W W') : One4 b k x v u W' := by
  have hc : ∀ j y, W.cell? ⟨b, j, none⟩ = some y → W'.cell? ⟨b, j, none⟩ = some y := fun j y hy => (hB.cell (p := ⟨b, j, none⟩) h.lt).trans hy
  obtain ⟨h1, c0, c1, c2, c3⟩ := h
  exact ⟨Nat.lt_of_lt_of_le h1 hB.size, hc _ _ c0, hc _ _ c1, hc _ _ c2, hc _ _ c3⟩
def Great1 (w : World) (e : Ending) (w' : World) : Prop := ∃ r : Bool, e = .returned (.bool r) ∧ Below w.heap.size w w'
set_option maxHeartbeats 1000000 in
set_option maxRecDepth 100000 in
theorem great1_any (b c k : Nat) (x : ByteArray) (v u : Value) (l f : V.T) (A : Nat → Prop) (w : World) (hc : 1 ≤ c ∧ c ≤ 9223372036854775807) (h4 : One4 b k x v u w) (hl : HS w A 0 v l) (hf : HS w A 1 u f) :
    Calls Tryz.prog 22 #[.slice (some ⟨b, 0, none⟩) 1 c] w (Great1 w) := by
  have HS1 := Lib.hid (fun W (h : Below w.heap.size w W) => smallG_any k x v u l f A 1000 120 W (by decide) (by decide) (hl.below h) (hf.below h))
  obtain ⟨p, e1, rfl, -⟩ := hl.len
  obtain ⟨q, e2, rfl, -⟩ := hf.len
  have H0 := Lib.hid h4
  clear h4
  go_enter Tryz.func22, Tryz.ntmps22
  go_wp2_with fail
  go_loopw [3] (fun y wr => ∃ i : Nat, y = .int .i64 i ∧ i ≤ 1 ∧ Hid (Below w.heap.size w wr ∧ One4 b k x (.slice p l.len e1) (.slice q f.len e2) wr)) (fun y _ => 1 - (RowKit.intOf y).toNat)
  case atStart => exact ⟨0, rfl, by decide, Lib.hid ⟨Below.refl _ _, H0.out⟩⟩
  case round =>
    obtain ⟨i, rfl, hi, HR⟩ := hrel
    obtain rfl | rfl : i = 0 ∨ i = 1 := by omega
    · obtain ⟨g0, g1, g2, g3⟩ := HR.out.2.c
      have HQ := Lib.hid HR.out
      clear HR
      go_wp2_with fail
      refine (HS1.out _ HQ.out.1).mono ?_
      rintro e w1 ⟨ok, rfl, hok, hB1⟩
      have H1 := Lib.hid (And.intro (HQ.out.1.trans (hB1.mono HQ.out.1.size)) (HQ.out.2.on hB1))
      clear hB1 hok g0 g1 g2 g3
      cases ok
      case false =>
        go_wp2_with fail
        go_ret
        exact ⟨true, rfl, H1.out.1⟩
      case true =>
        go_wp2_with fail
        go_roundw
        case rel => exact ⟨1, rfl, by decide, Lib.hid ⟨H1.out.1, H1.out.2⟩⟩
        case measure => simp [RowKit.intOf]
    · have HQ := Lib.hid HR.out
      clear HR
      go_wp2_with fail
      go_ret
      exact ⟨false, rfl, HQ.out.1⟩
theorem one4_of (W : World) (k : Nat) (x : ByteArray) (v u : Value) : One4 W.heap.size k x v u (W.alloc (.cells #[.int .u8 k, .string x, v, u] 25)) := by
  have h := heap_alloc_new W (.cells #[.int .u8 k, .string x, v, u] 25)
  have c := fun j => cell_of_row _ _ j _ _ (0, 0) h
  exact ⟨by simp, (c 0).trans rfl, (c 1).trans rfl, (c 2).trans rfl, (c 3).trans rfl⟩
/-- what is told of a request that was read -/
theorem one_req {s : Six} (h : s.holds = true) (hk : s.kind = 1) : idB s.i = true ∧ decide (s.callP.1 ∈ [5, 6, 0]) = true ∧ pV s.callP.1 s.callP.2.1 s.callP.2.2.1 s.callP.2.2.2.1 = (s.callP.1, s.callP.2.1, s.callP.2.2.1, s.callP.2.2.2.1, decide (¬ s.callP.1 = 0)) := by
  unfold Six.holds at h
  rw [if_pos hk] at h
  have h4 := Bool.and_eq_true _ _ ▸ h
  have h3 := Bool.and_eq_true _ _ ▸ h4.1
  refine ⟨h4.2, ?_, ?_⟩
  · unfold Six.callP
    rw [hk, if_neg (by decide)]
    by_cases h0 : s.p.1 = 0
    · rw [if_pos h0]; rfl
    · rw [if_neg h0]; exact h3.2
  · unfold Six.callP
    rw [hk, if_neg (by decide)]
    by_cases h0 : s.p.1 = 0
    · rw [if_pos h0]; rfl
    · rw [if_neg h0]
      unfold pV gotV
      rw [if_neg h0]
      simp [h0]
theorem one_not {s : Six} (h : s.holds = true) (hk : s.kind = 2) : s.i.2.2.2.2 = false ∧ decide (s.callP.1 ∈ [5, 6, 0]) = true ∧ pV s.callP.1 s.callP.2.1 s.callP.2.2.1 s.callP.2.2.2.1 = (s.callP.1, s.callP.2.1, s.callP.2.2.1, s.callP.2.2.2.1, decide (¬ s.callP.1 = 0)) := by
  unfold Six.holds at h
  rw [if_neg (by rw [hk]; decide), if_pos hk] at h
  have h3 := Bool.and_eq_true _ _ ▸ h
  have hi : s.i.2.2.2.2 = false := by
    unfold Six.kind at hk
    split at hk
    · split at hk
      · cases hk
      · rename_i h1; simpa using h1
    · cases hk
  refine ⟨hi, ?_, ?_⟩
  · unfold Six.callP
    rw [hk, if_neg (by decide)]
    by_cases h0 : s.p.1 = 0
    · rw [if_pos h0]; rfl
    · rw [if_neg h0]; exact h3.2
  · unfold Six.callP
    rw [hk, if_neg (by decide)]
    by_cases h0 : s.p.1 = 0
    · rw [if_pos h0]; rfl
    · rw [if_neg h0]
      unfold pV gotV
      rw [if_neg h0]
      simp [h0]
theorem one_rep {s : Six} (h : s.holds = true) (hk : s.kind = 3) : idNB s.i = true := by
  unfold Six.holds at h
  rw [if_neg (by rw [hk]; decide), if_neg (by rw [hk]; decide)] at h
  have h3 := Bool.and_eq_true _ _ ▸ h
  have h2 := Bool.and_eq_true _ _ ▸ h3.1
  exact (Bool.and_eq_true _ _ ▸ h2.1).2
end Go.Proofs.YtagafedkfkmkbaaGreatDoor
