/- The program's Same: are two values the same, field by field? Conditions: such as Go can hold. -/
import Derived.Test.YtoolkaahjmnjeaaGreatDoorMW05
import Derived.Test.YtoolkaahjmnjeaaGreatDoorMW04
import Derived.Shelf.Abstract
import Derived.Test.YtoolkaahjmnjeaaGreatDoorMW45
import Derived.Test.YtoolkaahjmnjeaaGreatDoorMW46
namespace Go.Proofs.YtoolkaahjmnjeaaGreatDoor
open Go Go.RowKit Go.Lib

/-- Same serves values of fewer than N elements -/
def SaOk (N : Nat) : Prop := ∀ (ka : Nat) (xa : ByteArray) (va ua : Value) (la fa : V.T) (kb : Nat) (xb : ByteArray) (vb ub : Value) (lb fb : V.T) (A A' : Nat → Prop) (w : World),
    la.size + fa.size < N → HS w A 0 va la → HS w A 1 ua fa → HS w A' 0 vb lb → HS w A' 1 ub fb →
    Calls Tryz.prog 16 #[.agg #[.int .u8 ka, .string xa, va, ua], .agg #[.int .u8 kb, .string xb, vb, ub]] w (Bools (V.veq ka xa la fa kb xb lb fb) w)
theorem eq_not {a b : V.T} (h : ¬ a.len = b.len) : a.eq b = false := by
  cases he : a.eq b
  · rfl
  · exact absurd (V.T.eq_len he) h

set_option maxHeartbeats 2000000 in
set_option maxRecDepth 100000 in
theorem sameField_any (N : Nat) (ih : SaOk N) (na : ByteArray) (ka : Nat) (xa : ByteArray) (va ua : Value) (la fa : V.T) (nb : ByteArray) (kb : Nat) (xb : ByteArray) (vb ub : Value) (lb fb : V.T) (A A' : Nat → Prop) (w : World)
    (hs : la.size + fa.size < N) (hva : HS w A 0 va la) (hua : HS w A 1 ua fa) (hvb : HS w A' 0 vb lb) (hub : HS w A' 1 ub fb) :
    Calls Tryz.prog 55 #[.agg #[.string na, .int .u8 ka, .string xa, va, ua], .agg #[.string nb, .int .u8 kb, .string xb, vb, ub]] w (Bools (decide (na = nb) && V.veq ka xa la fa kb xb lb fb) w) := by
  have hw := two_below w (.cells #[.string na, .int .u8 ka, .string xa, va, ua] 80) (.cells #[.string nb, .int .u8 kb, .string xb, vb, ub] 80)
  have IH := fun W (hW : Below w.heap.size w W) => ih ka xa va ua la fa kb xb vb ub lb fb A A' W hs (hva.below hW) (hua.below hW) (hvb.below hW) (hub.below hW)
  obtain ⟨pa, ca, rfl, -⟩ := hva.len
  obtain ⟨qa, da, rfl, -⟩ := hua.len
  obtain ⟨pb, cb, rfl, -⟩ := hvb.len
  obtain ⟨qb, db, rfl, -⟩ := hub.len
  have HB := Lib.hid hw
  have HI := Lib.hid IH
  clear hva hua hvb hub hs hw IH
  by_cases h : na = nb
  · have t1 : (na.toList == nb.toList) = true := by rw [h]; simp
    rw [decide_eq_true h, Bool.true_and]
    clear h
    go_enter Tryz.func55, Tryz.ntmps55
    go_wp2_with fail
    generalize V.veq ka xa la fa kb xb lb fb = r at *
    refine (HI.out _ HB.out).mono ?_
    rintro e w1 ⟨rfl, hB1⟩
    have H1 := Lib.hid (HB.out.trans (hB1.mono HB.out.size))
    clear hB1
    go_wp2_with fail
    go_ret
    exact ⟨rfl, H1.out⟩
  · have t1 : (na.toList == nb.toList) = false := by rw [bytes_beq]; simp [h]
    rw [decide_eq_false h, Bool.false_and]
    clear h
    go_enter Tryz.func55, Tryz.ntmps55
    go_wp2_with fail
    go_ret
    exact ⟨rfl, HB.out⟩

set_option maxHeartbeats 2000000 in
set_option maxRecDepth 100000 in
theorem equalV_any (N : Nat) (ih : SaOk N) (va vb : Value) (ta tb : V.T) (A A' : Nat → Prop) (w : World) (hs : ta.size ≤ N) (hva : HS w A 0 va ta) (hvb : HS w A' 0 vb tb) :
    Calls Tryz.prog 53 #[va, vb, .func (.func 16) #[] #[]] w (Bools (ta.eq tb) w) := by
  have ew : ∀ args w, (callFunc 16 args).run Tryz.prog w = .ok (.enter 16 args) w := enters_of Tryz.func16 (by kernel_rfl) rfl
  obtain ⟨pa, ca, rfl, a0, a1, a2⟩ := hva.len
  obtain ⟨pb, cb, rfl, b0, b1, b2⟩ := hvb.len
  generalize hna : ta.len = na at *
  generalize hnb : tb.len = nb at *
  have HNA := Lib.hid (And.intro hna hnb)
  by_cases hn : na = nb
  · subst hn
    have t1 : ((na : Int) != na) = false := by simp
    have HA := Lib.hid (And.intro hva hvb)
    have HS := Lib.hid hs
    clear hna hnb hva hvb hs
    go_enter Tryz.func53, Tryz.ntmps53
    go_wp2_with fail
    go_loopw [17] (fun q wr => ∃ i : Nat, q = .int .i64 i ∧ i ≤ na ∧ Hid (Below w.heap.size w wr ∧ (ta.drop i).eq (tb.drop i) = ta.eq tb)) (fun q _ => na - (RowKit.intOf q).toNat)
    case atStart => exact ⟨0, rfl, Nat.zero_le _, Lib.hid ⟨Below.refl _ _, by rw [V.T.drop_zero, V.T.drop_zero]⟩⟩
    case round =>
      obtain ⟨i, rfl, hi, HR⟩ := hrel
      by_cases hlt : i < na
      · obtain ⟨nm1, k1, x1, l1, f1, tl1, hd1⟩ := V.T.drop_some (t := ta) (i := i) (by rw [HNA.out.1]; exact hlt)
        obtain ⟨nm2, k2, x2, l2, f2, tl2, hd2⟩ := V.T.drop_some (t := tb) (i := i) (by rw [HNA.out.2]; exact hlt)
        obtain ⟨g1', o1, v1, u1, rfl, E1⟩ := (HA.out.1.below HR.out.1).elem (by rw [HNA.out.1]; exact hlt) hd1
        obtain ⟨g2', o2, v2, u2, rfl, E2⟩ := (HA.out.2.below HR.out.1).elem (by rw [HNA.out.2]; exact hlt) hd2
        obtain ⟨p1, c1, rfl, -⟩ := E1.hl.len
        obtain ⟨q1, d1, rfl, -⟩ := E1.hf.len
        obtain ⟨p2, c2, rfl, -⟩ := E2.hl.len
        obtain ⟨q2, d2, rfl, -⟩ := E2.hf.len
        have e1 := E1.kind
        have e2 := E1.text
        have e3 := E1.list
        have e4 := E1.fields
        have g1 := E2.kind
        have g2 := E2.text
        have g3 := E2.list
        have g4 := E2.fields
        simp only [Nat.add_zero] at e1 e2 e3 e4 g1 g2 g3 g4
        have HL := Lib.hid hlt
        have D1 := Lib.hid hd1
        have D2 := Lib.hid hd2
        have HW2 := Lib.hid (two_below wr (.cells #[.int .u8 k1, .string x1, .slice p1 l1.len c1, .slice q1 f1.len d1] 25) (.cells #[.int .u8 k2, .string x2, .slice p2 l2.len c2, .slice q2 f2.len d2] 25))
        have hb1 := World.block_lt_of_cell? wr _ e1
        have hb2 := World.block_lt_of_cell? wr _ g1
        have HC := (ih k1 x1 _ _ l1 f1 k2 x2 _ _ l2 f2 A A' _ (by have := V.T.drop_size D1.out; have := HS.out; omega) (E1.hl.below HW2.out) (E1.hf.below HW2.out) (E2.hl.below HW2.out) (E2.hf.below HW2.out))
        clear hd1 hd2
        cases hv : V.veq k1 x1 l1 f1 k2 x2 l2 f2
        · have hno : ta.eq tb = false := HR.out.2.symm.trans (V.eq_no D1.out D2.out hv)
          rw [hv] at HC
          rw [hno]
          clear hv hno
          go_wp2_with fail
          refine HC.mono ?_
          rintro e w1 ⟨rfl, hB1⟩
          have H1 := Lib.hid (HR.out.1.trans ((HW2.out.trans (hB1.mono HW2.out.size)).mono HR.out.1.size))
          clear hB1 HC
          go_wp2_with fail
          go_ret
          exact ⟨rfl, H1.out⟩
        · have hyes : (ta.drop (i + 1)).eq (tb.drop (i + 1)) = ta.eq tb := (V.eq_next D1.out D2.out hv ((E1.nil rfl).trans (E2.nil rfl).symm)).trans HR.out.2
          rw [hv] at HC
          have HY := Lib.hid hyes
          clear hv hyes
          go_wp2_with fail
          refine HC.mono ?_
          rintro e w1 ⟨rfl, hB1⟩
          have H1 := Lib.hid (HR.out.1.trans ((HW2.out.trans (hB1.mono HW2.out.size)).mono HR.out.1.size))
          clear hB1 HC
          go_wp2_with fail
          go_roundw
          case rel => exact ⟨i + 1, by go_num, HL.out, Lib.hid ⟨H1.out, HY.out⟩⟩
          case measure => have := HL.out; simp [RowKit.intOf]; omega
      · obtain rfl : i = na := by omega
        have hy : ta.eq tb = true := by
          have h := HR.out.2
          have e1 := V.T.drop_len ta
          have e2 := V.T.drop_len tb
          rw [HNA.out.1] at e1
          rw [HNA.out.2] at e2
          rw [e1, e2] at h
          exact h.symm
        have HB := Lib.hid HR.out.1
        have HY := Lib.hid hy
        clear hy
        go_wp2_with fail
        go_ret
        exact ⟨by rw [HY.out]; rfl, HB.out⟩
  · have t1 : ((na : Int) != nb) = true := by simp; omega
    rw [eq_not (by rw [hna, hnb]; exact hn)]
    clear hn hna hnb hva hvb hs HNA
    go_enter Tryz.func53, Tryz.ntmps53
    go_wp2_with fail
    go_ret
    exact ⟨rfl, Below.refl _ _⟩

set_option maxHeartbeats 2000000 in
set_option maxRecDepth 100000 in
theorem equalF_any (N : Nat) (ih : SaOk N) (va vb : Value) (ta tb : V.T) (A A' : Nat → Prop) (w : World) (hs : ta.size ≤ N) (hva : HS w A 1 va ta) (hvb : HS w A' 1 vb tb) :
    Calls Tryz.prog 54 #[va, vb, .func (.func 55) #[] #[]] w (Bools (ta.eq tb) w) := by
  have ew : ∀ args w, (callFunc 55 args).run Tryz.prog w = .ok (.enter 55 args) w := enters_of Tryz.func55 (by kernel_rfl) rfl
  obtain ⟨pa, ca, rfl, a0, a1, a2⟩ := hva.len
  obtain ⟨pb, cb, rfl, b0, b1, b2⟩ := hvb.len
  generalize hna : ta.len = na at *
  generalize hnb : tb.len = nb at *
  have HNA := Lib.hid (And.intro hna hnb)
  by_cases hn : na = nb
  · subst hn
    have t1 : ((na : Int) != na) = false := by simp
    have HA := Lib.hid (And.intro hva hvb)
    have HS := Lib.hid hs
    clear hna hnb hva hvb hs
    go_enter Tryz.func54, Tryz.ntmps54
    go_wp2_with fail
    go_loopw [17] (fun q wr => ∃ i : Nat, q = .int .i64 i ∧ i ≤ na ∧ Hid (Below w.heap.size w wr ∧ (ta.drop i).eq (tb.drop i) = ta.eq tb)) (fun q _ => na - (RowKit.intOf q).toNat)
    case atStart => exact ⟨0, rfl, Nat.zero_le _, Lib.hid ⟨Below.refl _ _, by rw [V.T.drop_zero, V.T.drop_zero]⟩⟩
    case round =>
      obtain ⟨i, rfl, hi, HR⟩ := hrel
      by_cases hlt : i < na
      · obtain ⟨nm1, k1, x1, l1, f1, tl1, hd1⟩ := V.T.drop_some (t := ta) (i := i) (by rw [HNA.out.1]; exact hlt)
        obtain ⟨nm2, k2, x2, l2, f2, tl2, hd2⟩ := V.T.drop_some (t := tb) (i := i) (by rw [HNA.out.2]; exact hlt)
        obtain ⟨g1', o1, v1, u1, rfl, E1⟩ := (HA.out.1.below HR.out.1).elem (by rw [HNA.out.1]; exact hlt) hd1
        obtain ⟨g2', o2, v2, u2, rfl, E2⟩ := (HA.out.2.below HR.out.1).elem (by rw [HNA.out.2]; exact hlt) hd2
        obtain ⟨p1, c1, rfl, -⟩ := E1.hl.len
        obtain ⟨q1, d1, rfl, -⟩ := E1.hf.len
        obtain ⟨p2, c2, rfl, -⟩ := E2.hl.len
        obtain ⟨q2, d2, rfl, -⟩ := E2.hf.len
        have e1 := E1.kind
        have e2 := E1.text
        have e3 := E1.list
        have e4 := E1.fields
        have g1 := E2.kind
        have g2 := E2.text
        have g3 := E2.list
        have g4 := E2.fields
        have e0 := E1.name rfl
        have g0 := E2.name rfl
        simp only [Nat.reduceAdd] at e0 e1 e2 e3 e4 g0 g1 g2 g3 g4
        rw [show o1 + i * 5 + 1 + 1 = o1 + i * 5 + 2 by omega] at e2
        rw [show o1 + i * 5 + 1 + 2 = o1 + i * 5 + 3 by omega] at e3
        rw [show o1 + i * 5 + 1 + 3 = o1 + i * 5 + 4 by omega] at e4
        rw [show o2 + i * 5 + 1 + 1 = o2 + i * 5 + 2 by omega] at g2
        rw [show o2 + i * 5 + 1 + 2 = o2 + i * 5 + 3 by omega] at g3
        rw [show o2 + i * 5 + 1 + 3 = o2 + i * 5 + 4 by omega] at g4
        have HL := Lib.hid hlt
        have D1 := Lib.hid hd1
        have D2 := Lib.hid hd2
        have HW2 := Lib.hid (two_below wr (.cells #[.string nm1, .int .u8 k1, .string x1, .slice p1 l1.len c1, .slice q1 f1.len d1] 80) (.cells #[.string nm2, .int .u8 k2, .string x2, .slice p2 l2.len c2, .slice q2 f2.len d2] 80))
        have hb1 := World.block_lt_of_cell? wr _ e1
        have hb2 := World.block_lt_of_cell? wr _ g1
        have HC := (sameField_any N ih nm1 k1 x1 _ _ l1 f1 nm2 k2 x2 _ _ l2 f2 A A' _ (by have := V.T.drop_size D1.out; have := HS.out; omega) (E1.hl.below HW2.out) (E1.hf.below HW2.out) (E2.hl.below HW2.out) (E2.hf.below HW2.out))
        clear hd1 hd2
        cases hv : (decide (nm1 = nm2) && V.veq k1 x1 l1 f1 k2 x2 l2 f2)
        · have hno : ta.eq tb = false := HR.out.2.symm.trans ((by by_cases hnn : nm1 = nm2; exact V.eq_no D1.out D2.out (by rw [decide_eq_true hnn, Bool.true_and] at hv; exact hv); exact V.eq_name D1.out D2.out hnn))
          rw [hv] at HC
          rw [hno]
          clear hv hno
          go_wp2_with fail
          refine HC.mono ?_
          rintro e w1 ⟨rfl, hB1⟩
          have H1 := Lib.hid (HR.out.1.trans ((HW2.out.trans (hB1.mono HW2.out.size)).mono HR.out.1.size))
          clear hB1 HC
          go_wp2_with fail
          go_ret
          exact ⟨rfl, H1.out⟩
        · have hyes : (ta.drop (i + 1)).eq (tb.drop (i + 1)) = ta.eq tb := (V.eq_next D1.out D2.out (Bool.and_eq_true_iff.1 hv).2 (of_decide_eq_true (Bool.and_eq_true_iff.1 hv).1)).trans HR.out.2
          rw [hv] at HC
          have HY := Lib.hid hyes
          clear hv hyes
          go_wp2_with fail
          refine HC.mono ?_
          rintro e w1 ⟨rfl, hB1⟩
          have H1 := Lib.hid (HR.out.1.trans ((HW2.out.trans (hB1.mono HW2.out.size)).mono HR.out.1.size))
          clear hB1 HC
          go_wp2_with fail
          go_roundw
          case rel => exact ⟨i + 1, by go_num, HL.out, Lib.hid ⟨H1.out, HY.out⟩⟩
          case measure => have := HL.out; simp [RowKit.intOf]; omega
      · obtain rfl : i = na := by omega
        have hy : ta.eq tb = true := by
          have h := HR.out.2
          have e1 := V.T.drop_len ta
          have e2 := V.T.drop_len tb
          rw [HNA.out.1] at e1
          rw [HNA.out.2] at e2
          rw [e1, e2] at h
          exact h.symm
        have HB := Lib.hid HR.out.1
        have HY := Lib.hid hy
        clear hy
        go_wp2_with fail
        go_ret
        exact ⟨by rw [HY.out]; rfl, HB.out⟩
  · have t1 : ((na : Int) != nb) = true := by simp; omega
    rw [eq_not (by rw [hna, hnb]; exact hn)]
    clear hn hna hnb hva hvb hs HNA
    go_enter Tryz.func54, Tryz.ntmps54
    go_wp2_with fail
    go_ret
    exact ⟨rfl, Below.refl _ _⟩

set_option maxHeartbeats 1000000 in
set_option maxRecDepth 100000 in
theorem sa_ok : ∀ N, SaOk N
  | 0 => fun _ _ _ _ _ _ _ _ _ _ _ _ _ _ _ h => absurd h (Nat.not_lt_zero _)
  | N + 1 => fun ka xa va ua la fa kb xb vb ub lb fb A A' w hN hva hua hvb hub => by
    have ih := sa_ok N
    have hw := two_below w (.cells #[.int .u8 ka, .string xa, va, ua] 25) (.cells #[.int .u8 kb, .string xb, vb, ub] 25)
    have hx := two_new w (.cells #[.int .u8 ka, .string xa, va, ua] 25) (.cells #[.int .u8 kb, .string xb, vb, ub] 25)
    have CV := fun W (hW : Below w.heap.size w W) => equalV_any N ih va vb la lb A A' W (by omega) (hva.below hW) (hvb.below hW)
    have CF := fun W (hW : Below w.heap.size w W) => equalF_any N ih ua ub fa fb A A' W (by omega) (hua.below hW) (hub.below hW)
    have hz := two_size w (.cells #[.int .u8 ka, .string xa, va, ua] 25) (.cells #[.int .u8 kb, .string xb, vb, ub] 25)
    obtain ⟨pa, ca, rfl, -⟩ := hva.len
    obtain ⟨qa, da, rfl, -⟩ := hua.len
    obtain ⟨pb, cb, rfl, -⟩ := hvb.len
    obtain ⟨qb, db, rfl, -⟩ := hub.len
    unfold V.veq
    have HB := Lib.hid hw
    have HX := Lib.hid hx
    have HZ := Lib.hid hz
    have HCV := Lib.hid CV
    have HCF := Lib.hid CF
    clear hva hua hvb hub hw hx CV CF hN hz
    by_cases h1 : ka = kb
    · have t1 : ((ka : Int) == kb) = true := by rw [h1]; simp
      rw [decide_eq_true h1, Bool.true_and]
      clear h1
      by_cases h2 : xa = xb
      · have t2 : (xa.toList == xb.toList) = true := by rw [h2]; simp
        rw [decide_eq_true h2, Bool.true_and]
        clear h2
        have b1 : Blk4 _ w.heap.size 25 _ _ _ _ := HX.out.1
        have b2 : Blk4 _ (w.heap.size + 1) 25 _ _ _ _ := HX.out.2
        obtain ⟨c0, c1, c2, c3⟩ := b1.box
        obtain ⟨d0, d1, d2, d3⟩ := b2.box
        clear b1 b2
        cases hl : la.eq lb
        · rw [hl] at HCV
          rw [Bool.false_and]
          clear hl
          go_enter Tryz.func16, Tryz.ntmps16
          go_wp2_with fail
          refine (HCV.out _ HB.out).mono ?_
          rintro e w1 ⟨rfl, hB1⟩
          have H1 := Lib.hid (HB.out.trans (hB1.mono HB.out.size))
          clear hB1 c0 c1 c2 c3 d0 d1 d2 d3
          go_wp2_with fail
          go_ret
          exact ⟨rfl, H1.out⟩
        · rw [hl] at HCV
          rw [Bool.true_and]
          clear hl
          generalize fa.eq fb = r at *
          go_enter Tryz.func16, Tryz.ntmps16
          go_wp2_with fail
          refine (HCV.out _ HB.out).mono ?_
          rintro e w1 ⟨rfl, hB1⟩
          have H1 := Lib.hid (HB.out.trans (hB1.mono HB.out.size))
          have b1 : Blk4 w1 w.heap.size 25 _ _ _ _ := (hB1.block _ (by have := HZ.out; omega)).trans HX.out.1
          have b2 : Blk4 w1 (w.heap.size + 1) 25 _ _ _ _ := (hB1.block _ (by have := HZ.out; omega)).trans HX.out.2
          obtain ⟨e0, e1, e2, e3⟩ := b1.box
          obtain ⟨g0, g1, g2, g3⟩ := b2.box
          clear hB1 c0 c1 c2 c3 d0 d1 d2 d3 b1 b2
          go_wp2_with fail
          refine (HCF.out _ H1.out).mono ?_
          rintro e w2 ⟨rfl, hB2⟩
          have H2 := Lib.hid (H1.out.trans (hB2.mono H1.out.size))
          clear hB2 e0 e1 e2 e3 g0 g1 g2 g3
          go_wp2_with fail
          go_ret
          exact ⟨rfl, H2.out⟩
      · have t2 : (xa.toList == xb.toList) = false := by rw [bytes_beq]; simp [h2]
        rw [decide_eq_false h2, Bool.false_and, Bool.false_and]
        clear h2
        go_enter Tryz.func16, Tryz.ntmps16
        go_wp2_with fail
        go_ret
        exact ⟨rfl, HB.out⟩
    · have t1 : ((ka : Int) == kb) = false := by simp; omega
      rw [decide_eq_false h1, Bool.false_and, Bool.false_and, Bool.false_and]
      clear h1
      go_enter Tryz.func16, Tryz.ntmps16
      go_wp2_with fail
      go_ret
      exact ⟨rfl, HB.out⟩
end Go.Proofs.YtoolkaahjmnjeaaGreatDoor

namespace Go.Proofs.YtoolkaahjmnjeaaGreatDoor
open Go Go.RowKit Go.Shelf Go.Lib

theorem write04_any : ∀ N, WrR N
  | 0 => fun k x va ua l f A B b lb w h => absurd h (Nat.not_lt_zero _)
  | N + 1 => fun k x va ua l f A B b lb w hN hk hkl hkf hlen hva hua hA hown hBw => by
    have ih := write04_any N
    have hc : k = 0 ∨ k = 1 ∨ k = 2 ∨ k = 3 ∨ k = 4 ∨ k = 5 ∨ k = 6 := by omega
    rcases hc with rfl | rfl | rfl | rfl | rfl | rfl | rfl
    · exact write04_0 N x va ua l f A B b lb w hN hkl hkf hlen hva hua hA hown hBw
    · exact write04_1 N x va ua l f A B b lb w hN hkl hkf hlen hva hua hA hown hBw
    · exact write04_2 N x va ua l f A B b lb w hN hkl hkf hlen hva hua hA hown hBw
    · exact write04_3 N x va ua l f A B b lb w hN hkl hkf hlen hva hua hA hown hBw
    · exact write04_4 N x va ua l f A B b lb w hN hkl hkf hlen hva hua hA hown hBw
    · exact write04_5 N ih x va ua l f A B b lb w hN hkl hkf hlen hva hua hA hown hBw
    · exact write04_6 N ih x va ua l f A B b lb w hN hkl hkf hlen hva hua hA hown hBw
set_option maxRecDepth 100000 in
theorem May04_any (k : Nat) (x : ByteArray) (va ua : Value) (l f : V.T) (A : Nat → Prop) (w : World) (h : Gv w A k x va ua l f) : Calls Tryz.prog 15 #[.agg #[.int .u8 k, .string x, va, ua]] w (Bools (mayV k x l f 0) w) := by
  have hB := (Below.refl w.heap.size w).alloc (Nat.le_refl _) (.cells #[.int .u8 k, .string x, va, ua] 25)
  have hm : Calls Tryz.prog 52 #[.agg #[.int .u8 k, .string x, va, ua], .int .i64 1] (w.alloc (.cells #[.int .u8 k, .string x, va, ua] 25)) (Bools (mayV k x l f 0) _) :=
    may04_any (l.size + f.size + 1) k x va ua l f A 0 _ (Nat.lt_succ_self _) h.kind h.text h.sl h.sf (h.hl.below hB) (h.hf.below hB) (Nat.zero_le _)
  obtain ⟨p, c, rfl, -⟩ := h.hl.len
  obtain ⟨q, d, rfl, -⟩ := h.hf.len
  have HB := Lib.hid hB
  clear hB h
  go_enter Tryz.func15, Tryz.ntmps15
  go_wp2_with fail
  refine hm.mono ?_
  rintro e w1 ⟨rfl, hB1⟩
  have H1 := Lib.hid (HB.out.trans (hB1.mono HB.out.size))
  clear hB1 hm
  go_wp2_with fail
  go_ret
  exact ⟨rfl, H1.out⟩
set_option maxRecDepth 100000 in
theorem Same04_any (N : Nat) (ka : Nat) (xa : ByteArray) (va ua : Value) (la fa : V.T) (kb : Nat) (xb : ByteArray) (vb ub : Value) (lb fb : V.T) (A A' : Nat → Prop) (w : World)
    (hs : la.size + fa.size < N) (hva : HS w A 0 va la) (hua : HS w A 1 ua fa) (hvb : HS w A' 0 vb lb) (hub : HS w A' 1 ub fb) :
    Calls Tryz.prog 17 #[.agg #[.int .u8 ka, .string xa, va, ua], .agg #[.int .u8 kb, .string xb, vb, ub]] w (Bools (V.veq ka xa la fa kb xb lb fb) w) := by
  have hB := two_below w (.cells #[.int .u8 ka, .string xa, va, ua] 25) (.cells #[.int .u8 kb, .string xb, vb, ub] 25)
  have hS := fun W (hW : Below w.heap.size w W) => same_any N ka xa va ua la fa kb xb vb ub lb fb A A' W hs (hva.below hW) (hua.below hW) (hvb.below hW) (hub.below hW)
  have hn := two_new w (.cells #[.int .u8 ka, .string xa, va, ua] 25) (.cells #[.int .u8 kb, .string xb, vb, ub] 25)
  obtain ⟨p, c, rfl, -⟩ := hva.len
  obtain ⟨q, d, rfl, -⟩ := hua.len
  obtain ⟨p2, e2, rfl, -⟩ := hvb.len
  obtain ⟨q2, g2, rfl, -⟩ := hub.len
  have HB := Lib.hid hB
  have HS := Lib.hid hS
  generalize V.veq ka xa la fa kb xb lb fb = r at *
  clear hva hua hvb hub hB hS
  go_enter Tryz.func17, Tryz.ntmps17
  go_upto_region 1 with fail
  obtain ⟨c0, c1, c2, c3⟩ := (show Blk4 _ w.heap.size 25 _ _ _ _ from hn.1).box
  obtain ⟨d0, d1, d2, d3⟩ := (show Blk4 _ (w.heap.size + 1) 25 _ _ _ _ from hn.2).box
  clear hn
  generalize (w.alloc (.cells #[.int .u8 ka, .string xa, .slice p la.len c, .slice q fa.len d] 25)).alloc (.cells #[.int .u8 kb, .string xb, .slice p2 lb.len e2, .slice q2 fb.len g2] 25) = W0 at *
  go_wp2_with fail
  refine (HS.out _ HB.out).mono ?_
  rintro e w1 ⟨rfl, hB1⟩
  have H1 := Lib.hid (HB.out.trans (hB1.mono HB.out.size))
  clear hB1
  go_wp2_with fail
  go_ret
  exact ⟨rfl, H1.out⟩
set_option maxHeartbeats 1000000 in
set_option maxRecDepth 100000 in
theorem print04_any (k : Nat) (x : ByteArray) (va ua : Value) (l f : V.T) (A : Nat → Prop) (w : World) (h : Gv w A k x va ua l f) : Calls Tryz.prog 11 #[.agg #[.int .u8 k, .string x, va, ua]] w (PrIs (prn k x l f) w) := by
  have hB := (Below.refl w.heap.size w).alloc (Nat.le_refl _) (.cells #[.int .u8 k, .string x, va, ua] 25)
  have hm := May04_any k x va ua l f A _ (h.below hB)
  have hbk : Blk4 (w.alloc (.cells #[.int .u8 k, .string x, va, ua] 25)) w.heap.size 25 (.int .u8 k) (.string x) va ua := heap_alloc_new _ _
  have HV := Lib.hid h
  unfold prn
  cases hmay : mayV k x l f 0
  · rw [hmay] at hm
    rw [if_neg (by decide)]
    obtain ⟨p, c, rfl, -⟩ := h.hl.len
    obtain ⟨q, d, rfl, -⟩ := h.hf.len
    obtain ⟨c0, c1, c2, c3⟩ := hbk.box
    have HB := Lib.hid hB
    clear hB h hmay hbk
    go_enter Tryz.func11, Tryz.ntmps11
    go_wp2_with fail
    refine hm.mono ?_
    rintro e w1 ⟨rfl, hB1⟩
    have H1 := Lib.hid (HB.out.trans (hB1.mono HB.out.size))
    clear hB1 hm c0 c1 c2 c3
    go_wp2_with fail
    go_ret2
    exact ⟨rfl, H1.out⟩
  · rw [hmay] at hm
    rw [if_pos rfl]
    obtain ⟨⟨hk6, hk3⟩, hkl, hkf⟩ := kdV_of hmay
    have hw := fun (W : World) (hW : Below w.heap.size w W) => write04_any (l.size + f.size + 1) k x va ua l f (fun c => c < W.heap.size) W.heap.size (.slice none 0 0) [] W (Nat.lt_succ_self _) hk6 hkl hkf (by have := HV.out.len; simp only [List.length_nil]; omega)
      ((h.hl.below hW).mono (fun _ _ h => h)) ((h.hf.below hW).mono (fun _ _ h => h)) (fun _ h => h) ⟨rfl, .inl ⟨rfl, rfl⟩⟩ (Nat.le_refl _)
    simp only [List.nil_append] at hw
    have hol := wwV_len k x l f
    generalize hz : wrV k x l f = z at *
    generalize hr : (if 262144 < z.length then ((⟨#[]⟩ : ByteArray), 3) else (⟨z.toArray⟩, 0)) = r
    have HR := Lib.hid hr
    clear hr
    have HOL := Lib.hid (show z.length ≤ 100000000000 by have := HV.out.len; omega)
    obtain ⟨p, c, rfl, -⟩ := h.hl.len
    obtain ⟨q, d, rfl, -⟩ := h.hf.len
    obtain ⟨c0, c1, c2, c3⟩ := hbk.box
    have HB := Lib.hid hB
    have HBK := Lib.hid hbk
    have HW := Lib.hid hw
    clear hB h hmay hbk hz hol hk6 hk3 hkl hkf hw
    go_enter Tryz.func11, Tryz.ntmps11
    go_wp2_with fail
    refine hm.mono ?_
    rintro e w1 ⟨rfl, hB1⟩
    have H1 := Lib.hid (HB.out.trans (hB1.mono HB.out.size))
    have hb1 := HBK.out.same (hB1.block _ HBK.out.lt)
    obtain ⟨d0, d1, d2, d3⟩ := hb1.box
    clear hB1 hm c0 c1 c2 c3 hb1
    go_wp2_with fail
    refine (HW.out _ H1.out).mono ?_
    rintro e w2 ⟨v', rfl, hown, hB2, _⟩
    have H2 := Lib.hid (H1.out.trans (hB2.mono H1.out.size))
    obtain ⟨p', c', rfl⟩ := own_shape hown
    have hconv := conv_own hown
    have hl2 := HOL.out
    have hzz := Lib.hid (show (⟨z.toArray⟩ : ByteArray).size = z.length from by simp [ByteArray.size])
    have hzs := hzz.out
    generalize (⟨z.toArray⟩ : ByteArray) = Z at *
    clear hB2 d0 d1 d2 d3 hown
    by_cases hlong : 262144 < z.length
    · have tl : decide ((262144 : Int) < (z.length : Int)) = true := decide_eq_true (by omega)
      have tln : decide (262144 < z.length) = true := decide_eq_true (by omega)
      have HZ := Lib.hid hlong
      clear hlong
      go_wp2_with fail
      go_ret2
      exact ⟨by rw [← HR.out, if_pos HZ.out]; rfl, H2.out⟩
    · have tl : decide ((262144 : Int) < (z.length : Int)) = false := decide_eq_false (by omega)
      have tln : decide (262144 < z.length) = false := decide_eq_false (by omega)
      have HZ := Lib.hid hlong
      clear hlong
      go_wp2_with fail
      go_ret2
      exact ⟨by rw [← HR.out, if_neg HZ.out]; rfl, H2.out⟩
end Go.Proofs.YtoolkaahjmnjeaaGreatDoor
