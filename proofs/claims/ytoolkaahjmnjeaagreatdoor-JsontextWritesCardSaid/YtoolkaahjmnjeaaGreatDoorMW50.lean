/- The document's own count and Small: whatever value, it answers; where it says yes there are at most so many values. Conditions: such as Go can hold. -/
import Derived.Test.YtoolkaahjmnjeaaGreatDoorMW05
import Derived.Test.YtoolkaahjmnjeaaGreatDoorMW49
import Derived.Test.YtoolkaahjmnjeaaGreatDoorMW39
namespace Go.Proofs.YtoolkaahjmnjeaaGreatDoor
open Go Go.RowKit Go.Lib

def CountIs (s : Nat) (L : Int) (w : World) (en : Ending) (w' : World) : Prop := ∃ (r : Int) (ok : Bool), en = .returned (.tuple #[.int .i64 r, .bool ok]) ∧ 0 ≤ r ∧ r ≤ L ∧ (ok = true → s + 1 + r ≤ L) ∧ Below w.heap.size w w'

set_option maxRecDepth 100000 in
set_option maxHeartbeats 1000000 in
theorem count_any (n : Nat) : ∀ (ka : Nat) (xa : ByteArray) (va ua : Value) (la fa : V.T) (L D : Int) (A : Nat → Prop) (w : World),
    la.size + fa.size < n → 0 ≤ L → L ≤ 1000000 → 0 ≤ D → D ≤ 1000000 → HS w A 0 va la → HS w A 1 ua fa →
    Calls Tryz.prog 95 #[.agg #[.int .u8 ka, .string xa, va, ua], .int .i64 L, .int .i64 D] w (CountIs (la.size + fa.size) L w) := by
  induction n with
  | zero => intro _ _ _ _ _ _ _ _ _ _ h; omega
  | succ n ih =>
    intro ka xa va ua la fa L D A w hn hL0 hL1 hD0 hD1 hva hua
    obtain ⟨pa, ca, rfl, ba0, ba1, ba2⟩ := hva.len
    obtain ⟨qa, da, rfl, ba5, ba3, ba4⟩ := hua.len
    generalize ea : la.len = na at *
    generalize fa1 : fa.len = ma at *
    have fail0 : ∀ x : Obj, CountIs (la.size + fa.size) L w (.returned (.tuple #[.int .i64 0, .bool false])) (w.alloc x) := fun x => ⟨0, false, rfl, by omega, hL0, (fun h => by cases h), (Below.refl _ _).alloc (Nat.le_refl _) _⟩
    by_cases h1 : L - 1 < 0
    · have F0 := Lib.hid fail0
      clear hva hua ea fa1 ih fail0
      go_enter Tryz.func95, Tryz.ntmps95
      go_wp2_with fail
      go_ret2
      exact F0.out _
    · by_cases h2 : D < 1
      · have F0 := Lib.hid fail0
        clear hva hua ea fa1 ih fail0
        go_enter Tryz.func95, Tryz.ntmps95
        go_wp2_with fail
        go_ret2
        exact F0.out _
      · by_cases h3 : (na : Int) + ma > L - 1
        · have F0 := Lib.hid fail0
          have h4 : L - 1 < (na : Int) + ma := h3
          have t3 : decide ((na : Int) + ma > L - 1) = true := decide_eq_true h3
          clear hva hua ea fa1 ih fail0 h3
          go_enter Tryz.func95, Tryz.ntmps95
          go_wp2_with fail
          go_ret2
          exact F0.out _
        · clear fail0
          have HE := Lib.hid ea
          have HF := Lib.hid fa1
          have HN := Lib.hid hn
          have HA := Lib.hid (And.intro hva hua)
          clear ea fa1 hn hva hua
          go_enter Tryz.func95, Tryz.ntmps95
          go_wp2_with fail
          have HX := Lib.hid (Box4.mk' (heap_alloc_new w (.cells #[.int .u8 ka, .string xa, .slice pa na ca, .slice qa ma da] 25)))
          have HW := Lib.hid ((Below.refl w.heap.size w).alloc (Nat.le_refl _) (.cells #[.int .u8 ka, .string xa, .slice pa na ca, .slice qa ma da] 25))
          have HZ := Lib.hid (World.size_alloc w (.cells #[.int .u8 ka, .string xa, .slice pa na ca, .slice qa ma da] 25))
          generalize w.alloc (.cells #[.int .u8 ka, .string xa, .slice pa na ca, .slice qa ma da] 25) = W0 at *
          go_loopw [1, 8, 9] (fun l o p wr => ∃ (r : Int) (ok : Bool) (i : Nat), l = .int .i64 r ∧ o = .bool ok ∧ p = .int .i64 i ∧ i ≤ na ∧ 0 ≤ r ∧ r ≤ L ∧ Hid (Below W0.heap.size W0 wr ∧ (ok = true → la.size + 1 + r ≤ L + (la.drop i).size))) (fun _ _ p _ => na - (RowKit.intOf p).toNat)
          case atStart => exact ⟨L - 1, true, 0, rfl, rfl, rfl, Nat.zero_le _, by omega, by omega, Lib.hid ⟨Below.refl _ _, fun _ => by rw [V.T.drop_zero]; omega⟩⟩
          case round =>
            obtain ⟨r, ok, i, rfl, rfl, rfl, hi, hr0, hr1, HR⟩ := hrel
            obtain ⟨c1, c2, c3, c4⟩ := HX.out.below HR.out.1 (by rw [HZ.out]; exact Nat.lt_succ_self _)
            have HQ := Lib.hid HR
            clear HR c1 c2
            by_cases hlt : i < na
            · cases ok
              · go_wp2_with fail
                obtain ⟨wo, rfl⟩ : ∃ wo : World, wo = wr := ⟨_, rfl⟩
                clear c3 c4
                go_loopw [1, 8, 10] (fun l o p wr2 => ∃ (r : Int) (ok : Bool) (j : Nat), l = .int .i64 r ∧ o = .bool ok ∧ p = .int .i64 j ∧ j ≤ ma ∧ 0 ≤ r ∧ r ≤ L ∧ Hid (Below W0.heap.size W0 wr2 ∧ (ok = true → la.size + fa.size + 1 + r ≤ L + (fa.drop j).size))) (fun _ _ p _ => ma - (RowKit.intOf p).toNat)
                case atStart => exact ⟨r, false, 0, rfl, rfl, rfl, Nat.zero_le _, hr0, hr1, Lib.hid ⟨HQ.out.out.1, fun h => by cases h⟩⟩
                case round =>
                  obtain ⟨r3, ok, j, rfl, rfl, rfl, hj, hr4, hr5, HR⟩ := hrel
                  obtain ⟨c1, c2, c3, c4⟩ := HX.out.below HR.out.1 (by rw [HZ.out]; exact Nat.lt_succ_self _)
                  have HS2 := Lib.hid HR
                  clear HR c1 c2
                  by_cases hlt2 : j < ma
                  · cases ok
                    · go_wp2_with fail
                      go_ret2
                      exact ⟨r3, false, rfl, hr4, hr5, (fun h => by cases h), HW.out.trans (HS2.out.out.1.mono (by rw [HZ.out]; exact Nat.le_succ _))⟩
                    · obtain ⟨nm2, k2, x2, l2, f2, tl2, hd2⟩ := V.T.drop_some (t := fa) (i := j) (by rw [HF.out]; exact hlt2)
                      obtain ⟨b2, o2, v2, u2, rfl, E2⟩ := ((HA.out.2.below HW.out).below HS2.out.out.1).elem (by rw [HF.out]; exact hlt2) hd2
                      have e1 := E2.kind
                      have e2 := E2.text
                      have e3 := E2.list
                      have e4 := E2.fields
                      simp only [Nat.reduceAdd] at e1 e2 e3 e4
                      have HL := Lib.hid hlt2
                      have D2 := Lib.hid hd2
                      clear hd2
                      have IH := ih k2 x2 v2 u2 l2 f2 r3 (D - 1) A wr (by have := V.T.drop_size D2.out; have := HN.out; omega) hr4 (by omega) (by omega) (by omega) E2.hl E2.hf
                      go_wp2_with (go_at_call 95; (with_reducible refine IH.mono ?_); rintro e w1 ⟨r2, ok2, rfl, hr2, hr3, hok, hB1⟩; have HK := Lib.hid hok; have HB := Lib.hid hB1; clear hok hB1)
                      go_roundw
                      case rel => exact ⟨r2, ok2, j + 1, rfl, rfl, by go_num, HL.out, hr2, by omega, Lib.hid ⟨HS2.out.out.1.trans (HB.out.mono HS2.out.out.1.size), fun h => by
                        have h1 := HS2.out.out.2 trivial
                        have h2 := HK.out h
                        rw [D2.out] at h1
                        rw [V.T.drop_step D2.out]
                        simp only [V.T.size] at h1
                        omega⟩⟩
                      case measure => have := HL.out; simp [RowKit.intOf]; omega
                  · obtain rfl : j = ma := by omega
                    go_wp2_with fail
                    go_ret2
                    refine ⟨r3, ok, rfl, hr4, hr5, (fun h => ?_), HW.out.trans (HS2.out.out.1.mono (by rw [HZ.out]; exact Nat.le_succ _))⟩
                    have h1 := HS2.out.out.2 h
                    rw [← HF.out, V.T.drop_len] at h1
                    simp only [V.T.size] at h1
                    omega
              · obtain ⟨nm1, k1, x1, l1, f1, tl1, hd1⟩ := V.T.drop_some (t := la) (i := i) (by rw [HE.out]; exact hlt)
                obtain ⟨b1, o1, v1, u1, rfl, E1⟩ := ((HA.out.1.below HW.out).below HQ.out.out.1).elem (by rw [HE.out]; exact hlt) hd1
                have e1 := E1.kind
                have e2 := E1.text
                have e3 := E1.list
                have e4 := E1.fields
                simp only [Nat.add_zero] at e1 e2 e3 e4
                have HL := Lib.hid hlt
                have D1 := Lib.hid hd1
                clear hd1
                have IH := ih k1 x1 v1 u1 l1 f1 r (D - 1) A wr (by have := V.T.drop_size D1.out; have := HN.out; omega) hr0 (by omega) (by omega) (by omega) E1.hl E1.hf
                go_wp2_with (go_at_call 95; (with_reducible refine IH.mono ?_); rintro e w1 ⟨r2, ok2, rfl, hr2, hr3, hok, hB1⟩; have HK := Lib.hid hok; have HB := Lib.hid hB1; clear hok hB1)
                go_roundw
                case rel => exact ⟨r2, ok2, i + 1, rfl, rfl, by go_num, HL.out, hr2, by omega, Lib.hid ⟨HQ.out.out.1.trans (HB.out.mono HQ.out.out.1.size), fun h => by
                  have h1 := HQ.out.out.2 trivial
                  have h2 := HK.out h
                  rw [D1.out] at h1
                  rw [V.T.drop_step D1.out]
                  simp only [V.T.size] at h1
                  omega⟩⟩
                case measure => have := HL.out; simp [RowKit.intOf]; omega
            · obtain rfl : i = na := by omega
              go_wp2_with fail
              obtain ⟨wo, rfl⟩ : ∃ wo : World, wo = wr := ⟨_, rfl⟩
              clear c3 c4
              go_loopw [1, 8, 10] (fun l o p wr2 => ∃ (r : Int) (ok : Bool) (j : Nat), l = .int .i64 r ∧ o = .bool ok ∧ p = .int .i64 j ∧ j ≤ ma ∧ 0 ≤ r ∧ r ≤ L ∧ Hid (Below W0.heap.size W0 wr2 ∧ (ok = true → la.size + fa.size + 1 + r ≤ L + (fa.drop j).size))) (fun _ _ p _ => ma - (RowKit.intOf p).toNat)
              case atStart => exact ⟨r, ok, 0, rfl, rfl, rfl, Nat.zero_le _, hr0, hr1, Lib.hid ⟨HQ.out.out.1, fun h => by
                  have h1 := HQ.out.out.2 h
                  rw [← HE.out, V.T.drop_len] at h1
                  rw [V.T.drop_zero]
                  simp only [V.T.size] at h1
                  omega⟩⟩
              case round =>
                obtain ⟨r3, ok, j, rfl, rfl, rfl, hj, hr4, hr5, HR⟩ := hrel
                obtain ⟨c1, c2, c3, c4⟩ := HX.out.below HR.out.1 (by rw [HZ.out]; exact Nat.lt_succ_self _)
                have HS2 := Lib.hid HR
                clear HR c1 c2
                by_cases hlt2 : j < ma
                · cases ok
                  · go_wp2_with fail
                    go_ret2
                    exact ⟨r3, false, rfl, hr4, hr5, (fun h => by cases h), HW.out.trans (HS2.out.out.1.mono (by rw [HZ.out]; exact Nat.le_succ _))⟩
                  · obtain ⟨nm2, k2, x2, l2, f2, tl2, hd2⟩ := V.T.drop_some (t := fa) (i := j) (by rw [HF.out]; exact hlt2)
                    obtain ⟨b2, o2, v2, u2, rfl, E2⟩ := ((HA.out.2.below HW.out).below HS2.out.out.1).elem (by rw [HF.out]; exact hlt2) hd2
                    have e1 := E2.kind
                    have e2 := E2.text
                    have e3 := E2.list
                    have e4 := E2.fields
                    simp only [Nat.reduceAdd] at e1 e2 e3 e4
                    have HL := Lib.hid hlt2
                    have D2 := Lib.hid hd2
                    clear hd2
                    have IH := ih k2 x2 v2 u2 l2 f2 r3 (D - 1) A wr (by have := V.T.drop_size D2.out; have := HN.out; omega) hr4 (by omega) (by omega) (by omega) E2.hl E2.hf
                    go_wp2_with (go_at_call 95; (with_reducible refine IH.mono ?_); rintro e w1 ⟨r2, ok2, rfl, hr2, hr3, hok, hB1⟩; have HK := Lib.hid hok; have HB := Lib.hid hB1; clear hok hB1)
                    go_roundw
                    case rel => exact ⟨r2, ok2, j + 1, rfl, rfl, by go_num, HL.out, hr2, by omega, Lib.hid ⟨HS2.out.out.1.trans (HB.out.mono HS2.out.out.1.size), fun h => by
                      have h1 := HS2.out.out.2 trivial
                      have h2 := HK.out h
                      rw [D2.out] at h1
                      rw [V.T.drop_step D2.out]
                      simp only [V.T.size] at h1
                      omega⟩⟩
                    case measure => have := HL.out; simp [RowKit.intOf]; omega
                · obtain rfl : j = ma := by omega
                  go_wp2_with fail
                  go_ret2
                  refine ⟨r3, ok, rfl, hr4, hr5, (fun h => ?_), HW.out.trans (HS2.out.out.1.mono (by rw [HZ.out]; exact Nat.le_succ _))⟩
                  have h1 := HS2.out.out.2 h
                  rw [← HF.out, V.T.drop_len] at h1
                  simp only [V.T.size] at h1
                  omega
end Go.Proofs.YtoolkaahjmnjeaaGreatDoor

namespace Go.Proofs.YtoolkaahjmnjeaaGreatDoor
open Go Go.RowKit Go.Lib

def SmallG (s : Nat) (L : Nat) (w : World) (en : Ending) (w' : World) : Prop := ∃ ok : Bool, en = .returned (.bool ok) ∧ (ok = true → s + 1 ≤ L) ∧ Below w.heap.size w w'
set_option maxRecDepth 100000 in
set_option maxHeartbeats 1000000 in
theorem smallG_any (ka : Nat) (xa : ByteArray) (va ua : Value) (la fa : V.T) (A : Nat → Prop) (L D : Nat) (w : World) (hL : L ≤ 1000000) (hD : D ≤ 1000000) (hva : HS w A 0 va la) (hua : HS w A 1 ua fa) :
    Calls Tryz.prog 44 #[.agg #[.int .u8 ka, .string xa, va, ua], .int .i64 L, .int .i64 D] w (SmallG (la.size + fa.size) L w) := by
  obtain ⟨pa, ca, rfl, ba0, ba1, ba2⟩ := hva.len
  obtain ⟨qa, da, rfl, ba5, ba3, ba4⟩ := hua.len
  have hc := fun W hW => count_any (la.size + fa.size + 1) ka xa _ _ la fa L D A W (Nat.lt_succ_self _) (by omega) (by omega) (by omega) (by omega) (hva.below hW) (hua.below hW)
  clear hva hua
  go_enter Tryz.func44, Tryz.ntmps44
  go_wp2_with fail
  have hB := (Below.refl w.heap.size w).alloc (Nat.le_refl _) (.cells #[.int .u8 ka, .string xa, .slice pa la.len ca, .slice qa fa.len da] 25)
  refine (hc _ hB).mono ?_
  rintro e w1 ⟨r, ok, rfl, hr0, _, hok, hB1⟩
  have HK := Lib.hid (And.intro hok hr0)
  have HB1 := Lib.hid (hB.trans (hB1.mono hB.size))
  clear hok hB hB1 hc hr0
  go_wp2_with fail
  go_ret
  exact ⟨ok, rfl, fun h => by have := HK.out.1 h; have := HK.out.2; omega, HB1.out⟩
end Go.Proofs.YtoolkaahjmnjeaaGreatDoor

namespace Go.Proofs.YtoolkaahjmnjeaaGreatDoor
open Go Go.RowKit Go.Lib

/-- what is gone through is not great -/
def Fine4 (x : ByteArray) (la fa : V.T) : Prop := (la.len + fa.len = 0 ∧ x.size ≤ 524288) ∨ (la.size + fa.size + 1 ≤ 2000 ∧ x.size + szT la + szT fa ≤ 20000)
def Great4 (x : ByteArray) (la fa : V.T) (w : World) (en : Ending) (w' : World) : Prop := ∃ b : Bool, en = .returned (.bool b) ∧ (b = false → Fine4 x la fa) ∧ Below w.heap.size w w'
set_option maxRecDepth 100000 in
set_option maxHeartbeats 1000000 in
theorem great4_any (k : Nat) (x : ByteArray) (va ua : Value) (la fa : V.T) (A : Nat → Prop) (w : World) (hx : x.size ≤ 140737488355328) (hva : HS w A 0 va la) (hua : HS w A 1 ua fa) :
    Calls Tryz.prog 8 #[.agg #[.int .u8 k, .string x, va, ua]] w (Great4 x la fa w) := by
  have hB := (Below.refl w.heap.size w).alloc (Nat.le_refl _) (.cells #[.int .u8 k, .string x, va, ua] 25)
  have hbk : Blk4 (w.alloc (.cells #[.int .u8 k, .string x, va, ua] 25)) w.heap.size 25 (.int .u8 k) (.string x) va ua := heap_alloc_new _ _
  have hsm := fun W (hW : Below w.heap.size w W) => smallG_any k x va ua la fa A 2000 200 W (by decide) (by decide) (hva.below hW) (hua.below hW)
  have hlg := fun W (hW : Below w.heap.size w W) (h : la.size + fa.size ≤ 4000) => long_with (la.size + fa.size) (sz_ok _) k x va ua la fa A W (Nat.lt_succ_self _) h hx (hva.below hW) (hua.below hW)
  obtain ⟨pa, ca, rfl, ba0, ba1, ba2⟩ := hva.len
  obtain ⟨qa, da, rfl, ba5, ba3, ba4⟩ := hua.len
  have HLE := Lib.hid (And.intro (V.T.len_size la) (V.T.len_size fa))
  generalize ea : la.len = na at *
  generalize fa1 : fa.len = ma at *
  have HE := Lib.hid (And.intro ea fa1)
  obtain ⟨c0, c1, c2, c3⟩ := hbk.box
  have HB := Lib.hid hB
  have HBK := Lib.hid hbk
  have HSM := Lib.hid hsm
  have HLG := Lib.hid hlg
  clear hva hua hB hbk hsm hlg ea fa1
  by_cases h0 : na + ma = 0
  · have t0 : ((na : Int) + (ma : Int) == 0) = true := by simp; omega
    have H0 := Lib.hid h0
    have hna : na = 0 := by omega
    have hma : ma = 0 := by omega
    subst hna hma
    by_cases hl : 524288 < x.size
    · have tl : decide ((524288 : Int) < (x.size : Int)) = true := decide_eq_true (by omega)
      clear hl h0
      go_enter Tryz.func8, Tryz.ntmps8
      go_wp2_with fail
      go_ret
      exact ⟨true, rfl, (fun h => by cases h), HB.out⟩
    · have tl : decide ((524288 : Int) < (x.size : Int)) = false := decide_eq_false (by omega)
      have HL := Lib.hid hl
      clear hl h0
      go_enter Tryz.func8, Tryz.ntmps8
      go_wp2_with fail
      go_ret
      exact ⟨false, rfl, fun _ => .inl ⟨by have := HE.out; omega, by have := HL.out; omega⟩, HB.out⟩
  · have t0 : ((na : Int) + (ma : Int) == 0) = false := by simp; omega
    clear h0
    go_enter Tryz.func8, Tryz.ntmps8
    go_wp2_with fail
    refine (HSM.out _ HB.out).mono ?_
    rintro e w1 ⟨ok, rfl, hok, hB1⟩
    have H1 := Lib.hid (HB.out.trans (hB1.mono HB.out.size))
    have b1 := HBK.out.same (hB1.block _ HBK.out.lt)
    obtain ⟨d0, d1, d2, d3⟩ := b1.box
    clear hB1 c0 c1 c2 c3 b1
    cases ok
    · clear hok
      go_wp2_with fail
      go_ret
      exact ⟨true, rfl, (fun h => by cases h), H1.out⟩
    · have HK := Lib.hid (hok rfl)
      clear hok
      go_wp2_with fail
      refine (HLG.out _ H1.out (by have := HK.out; omega)).mono ?_
      rintro e w2 ⟨rfl, hB2⟩
      have H2 := Lib.hid (H1.out.trans (hB2.mono H1.out.size))
      obtain ⟨b, hb⟩ : ∃ b, b = decide (20000 < x.size + szT la + szT fa) := ⟨_, rfl⟩
      rw [← hb]
      have HBB := Lib.hid hb
      clear hB2 hb d0 d1 d2 d3
      go_wp2_with fail
      go_ret
      exact ⟨b, rfl, fun h => .inr ⟨HK.out, by
        have h2 := HBB.out
        rw [h] at h2
        have := of_decide_eq_false h2.symm
        omega⟩, H2.out⟩
theorem wgt_le : ∀ (t : V.T), wgt t ≤ 6 * szT t + 20 * t.size
  | .nil => Nat.zero_le _
  | .cons nm k x l f tl => by
    have h1 := wgt_le l
    have h2 := wgt_le f
    have h3 := wgt_le tl
    show 6 * nm.size + 6 * x.size + 20 + wgt l + wgt f + wgt tl ≤ 6 * (nm.size + x.size + szT l + szT f + szT tl) + 20 * (l.size + f.size + tl.size + 1)
    omega
theorem sm_of : ∀ (t : V.T), szT t ≤ 1000000000000 → Sm t
  | .nil, _ => trivial
  | .cons nm k x l f tl, h => by
    have h' : nm.size + x.size + szT l + szT f + szT tl ≤ 1000000000000 := h
    exact ⟨by omega, by omega, sm_of l (by omega), sm_of f (by omega), sm_of tl (by omega)⟩
theorem nn_of : ∀ (t : V.T) (d : Nat), Fi t d → Nn t d
  | .nil, _, _ => trivial
  | .cons nm k x l f tl, d, h => ⟨h.1, nn_of l 0 h.2.2.1, nn_of f 1 h.2.2.2.1, nn_of tl d h.2.2.2.2⟩
theorem gv_of {w : World} {A : Nat → Prop} {k : Nat} {x : ByteArray} {v u : Value} {l f : V.T} (hl : HS w A 0 v l) (hf : HS w A 1 u f) (hk : k < 256) (h : Fine4 x l f) : Gv w A k x v u l f := by
  have h1 := wgt_le l
  have h2 := wgt_le f
  rcases h with ⟨h0, hx⟩ | ⟨h0, hx⟩
  · have e1 : l = .nil := V.T.len_nil (by omega)
    have e2 : f = .nil := V.T.len_nil (by omega)
    subst e1 e2
    exact ⟨hl, hf, hk, by omega, trivial, trivial, by show 6 * x.size + 10 + 0 + 0 ≤ _; omega⟩
  · exact ⟨hl, hf, hk, by omega, sm_of l (by omega), sm_of f (by omega), by omega⟩
end Go.Proofs.YtoolkaahjmnjeaaGreatDoor
