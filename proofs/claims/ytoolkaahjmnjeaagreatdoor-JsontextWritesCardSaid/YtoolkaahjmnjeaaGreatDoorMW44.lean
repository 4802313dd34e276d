/- The document's own May, walked: its loops over a list's values and an object's fields. Conditions: strings of at most 10^12 bytes. -/
import Derived.Test.YtoolkaahjmnjeaaGreatDoorMW41
import Derived.Test.YtoolkaahjmnjeaaGreatDoorMW43
import Derived.Test.YtoolkaahjmnjeaaGreatDoorMW05
import Derived.Deep.DeepCutAuto
import Derived.Test.YtoolkaahjmnjeaaGreatDoorMW39
namespace Go.Proofs.YtoolkaahjmnjeaaGreatDoor
open Go Go.RowKit Go.Lib

/-- what is left of a body behind its first n statements -/
def tailAt : Nat → Code → Code
  | 0, c => c
  | n + 1, .seq _ c => tailAt n c
  | _ + 1, c => c
def MayR (N : Nat) : Prop := ∀ (k : Nat) (x : ByteArray) (va ua : Value) (l f : V.T) (A : Nat → Prop) (d : Nat) (w : World), l.size + f.size < N → k < 256 → x.size ≤ 1000000000000 → Sm l → Sm f → HS w A 0 va l → HS w A 1 ua f → d ≤ 64 →
  Calls Tryz.prog 52 #[.agg #[.int .u8 k, .string x, va, ua], .int .i64 ((d : Int) + 1)] w (Bools (mayV k x l f d) w)
set_option maxHeartbeats 4000000 in
set_option maxRecDepth 100000 in
theorem may04_rest (N : Nat) (ih : MayR N) (k : Nat) (x : ByteArray) (l f : V.T) (A : Nat → Prop) (d : Nat) (w : World) (pa qa : Option Addr) (ca da na ma : Nat) (W0 : World) (hN : l.size + f.size < N + 1) (hsl : Sm l) (hsf : Sm f)
    (hva : HS w A 0 (.slice pa na ca) l) (hua : HS w A 1 (.slice qa ma da) f) (ea : l.len = na) (fa1 : f.len = ma) (hd : (0 < na → d + 1 ≤ 64) ∧ (0 < ma → d + 1 ≤ 64)) (hd3 : (d : Int) ≤ 64) (hB : Below w.heap.size w W0)
    (hbk : Blk4 W0 w.heap.size 25 (.int .u8 k) (.string x) (.slice pa na ca) (.slice qa ma da)) (hM : mayV k x l f d = (mayT l 0 [] (d + 1) && mayT f 1 [] (d + 1)))
    (ba0 : na ≤ 2000000000000) (ba1 : na ≤ ca) (ba2 : ca ≤ 9223372036854775807) (ba5 : ma ≤ 2000000000000) (ba3 : ma ≤ da) (ba4 : da ≤ 9223372036854775807) {u0 u5 u6 u7 u8 u9 u10 u11 u12 u13 u14 u15 u16 u17 u18 u19 u20 u21 u22 u23 u24 u25 u26 u27 u28 u29 u30 u31 u32 u33 u34 u35 u36 u37 u38 u39 u40 u41 u42 u43 u44 u45 u46 u47 u48 u49 u50 u51 u52 u53 u54 u55 u56 u57 u58 u59 u60 u61 u62 u63 u64 u65 u66 u67 u68 u69 u70 u71 u72 u73 u74 u75 u76 u77 u78 u79 u80 u81 u82 u83 u84 u85 u86 u87 u88 u89 u90 u91 u92 u93 u94 u95 u96 u97 u98 u99 u100 u101 u102 u103 u104 u105 u106 u107 u108 u109 u110 u111 u112 u113 u114 u115 u116 u117 u118 u119 u120 u121 u122 u123 u124 u125 u126 u127 u128 u129 u130 u131 u132 u133 : Value} :
    Code.wp Tryz.prog (tailAt 5 (Tryz.f52.body.getD .skip)) (bodyPost Tryz.prog Tryz.f52 (Bools (mayV k x l f d) w)) { tmps := #[u0, .int .i64 ((d : Int) + 1), .pointer (some ⟨w.heap.size, 0, none⟩), undef, .bool false, u5, u6, u7, u8, u9, u10, u11, u12, u13, u14, u15, u16, u17, u18, u19, u20, u21, u22, u23, u24, u25, u26, u27, u28, u29, u30, u31, u32, u33, u34, u35, u36, u37, u38, u39, u40, u41, u42, u43, u44, u45, u46, u47, u48, u49, u50, u51, u52, u53, u54, u55, u56, u57, u58, u59, u60, u61, u62, u63, u64, u65, u66, u67, u68, u69, u70, u71, u72, u73, u74, u75, u76, u77, u78, u79, u80, u81, u82, u83, u84, u85, u86, u87, u88, u89, u90, u91, u92, u93, u94, u95, u96, u97, u98, u99, u100, u101, u102, u103, u104, u105, u106, u107, u108, u109, u110, u111, u112, u113, u114, u115, u116, u117, u118, u119, u120, u121, u122, u123, u124, u125, u126, u127, u128, u129, u130, u131, u132, u133], defers := [] } W0 := by
  have HE := Lib.hid (And.intro ea fa1)
  have HN := Lib.hid (And.intro hN (And.intro hsl hsf))
  have HA := Lib.hid (And.intro hva hua)
  have HB := Lib.hid hB
  have HBK := Lib.hid hbk
  have HM := Lib.hid hM
  have HLL := Lib.hid hd
  obtain ⟨c0, c1, c2, c3⟩ := hbk.box
  clear hN hsl hsf hva hua ea fa1 hd hB hbk hM c0 c1 c2 c3
  change Code.wp _ (Code.seq _ _) _ _ _
  go_wp2_with fail
  go_loopw [7] (fun p wr => ∃ i : Nat, p = .int .i64 i ∧ i ≤ na ∧ Hid (Below W0.heap.size W0 wr ∧ mayT (l.drop i) 0 [] (d + 1) = mayT l 0 [] (d + 1))) (fun p _ => na - (RowKit.intOf p).toNat)
  case atStart => exact ⟨0, rfl, Nat.zero_le _, Lib.hid ⟨Below.refl _ _, by rw [V.T.drop_zero]⟩⟩
  case round =>
    obtain ⟨i, rfl, hi, HR⟩ := hrel
    obtain ⟨c0, c1, c2, c3⟩ := (HBK.out.same (HR.out.1.block _ HBK.out.lt)).box
    by_cases hlt : i < na
    · obtain ⟨nm1, k1, x1, l1, f1, tl1, hd1⟩ := V.T.drop_some (t := l) (i := i) (by rw [HE.out.1]; exact hlt)
      obtain ⟨b1, o1, v1, u1, rfl, E1⟩ := ((HA.out.1.below HB.out).below HR.out.1).elem (by rw [HE.out.1]; exact hlt) hd1
      have e1 := E1.kind
      have e2 := E1.text
      have e3 := E1.list
      have e4 := E1.fields
      simp only [Nat.add_zero] at e1 e2 e3 e4
      have hsz := V.T.drop_size hd1
      have hsm := HN.out.2.1.drop hd1
      have IH := fun W (hB : Below wr.heap.size wr W) => ih k1 x1 _ _ l1 f1 A (d + 1) W (by have := HN.out.1; omega) E1.small.1 hsm.2.1 hsm.2.2.1 hsm.2.2.2.1 (E1.hl.below hB) (E1.hf.below hB) (HLL.out.1 (by omega))
      have hcast : ((d + 1 : Nat) : Int) = (d : Int) + 1 := by omega
      simp only [hcast] at IH
      clear hcast
      have hstep : mayT (l.drop i) 0 [] (d + 1) = (mayV k1 x1 l1 f1 (d + 1) && mayT (l.drop (i + 1)) 0 [] (d + 1)) := by
        rw [hd1, V.T.drop_step hd1, mayT_val, mayT_seen tl1 [nm1] []]
      have HS := Lib.hid hstep
      have HL := Lib.hid hlt
      have HQ := Lib.hid HR
      clear hstep hsz hsm E1 hd1 HR
      cases hv : mayV k1 x1 l1 f1 (d + 1)
      · have HNo := Lib.hid (show mayT l 0 [] (d + 1) = false by rw [← HQ.out.out.2, HS.out, hv]; rfl)
        rw [hv] at IH
        clear hv
        go_wp2_with fail
        (with_reducible refine (IH _ (Below.refl _ _)).mono ?_)
        rintro e w1 ⟨rfl, hB1⟩
        have H1 := Lib.hid (HB.out.trans ((HQ.out.out.1.trans (hB1.mono HQ.out.out.1.size)).mono HB.out.size))
        clear hB1 IH e1 e2 e3 e4 c0 c1 c2 c3
        go_wp2_with fail
        go_ret
        exact ⟨by rw [HM.out, HNo.out]; rfl, H1.out⟩
      · have HY := Lib.hid (show mayT (l.drop (i + 1)) 0 [] (d + 1) = mayT l 0 [] (d + 1) by rw [← HQ.out.out.2, HS.out, hv]; rfl)
        rw [hv] at IH
        clear hv
        go_wp2_with fail
        (with_reducible refine (IH _ (Below.refl _ _)).mono ?_)
        rintro e w1 ⟨rfl, hB1⟩
        have H1 := Lib.hid (HQ.out.out.1.trans (hB1.mono HQ.out.out.1.size))
        clear hB1 IH e1 e2 e3 e4 c0 c1 c2 c3
        go_wp2_with fail
        go_roundw
        case rel => exact ⟨i + 1, by go_num, HL.out, Lib.hid ⟨H1.out, HY.out⟩⟩
        case measure => have := HL.out; simp [RowKit.intOf]; omega
    · obtain rfl : i = na := by omega
      have HY := Lib.hid (show mayT l 0 [] (d + 1) = true by rw [← HR.out.2, ← HE.out.1, V.T.drop_len]; rfl)
      have HM2 := Lib.hid (HM.out.trans (by rw [HY.out, Bool.true_and]))
      have HQ := Lib.hid HR.out.1
      clear HR HM hi HY
      go_wp2_with fail
      clear c0 c1 c2 c3
      go_loopw [8] (fun p wr => ∃ i : Nat, p = .int .i64 i ∧ i ≤ ma ∧ Hid (Below W0.heap.size W0 wr ∧ mayT (f.drop i) 1 (nms f i []) (d + 1) = mayT f 1 [] (d + 1))) (fun p _ => ma - (RowKit.intOf p).toNat)
      case atStart => exact ⟨0, rfl, Nat.zero_le _, Lib.hid ⟨HQ.out, by rw [V.T.drop_zero, nms_zero]⟩⟩
      case round =>
        clear HQ
        obtain ⟨wo, rfl⟩ : ∃ wo, wo = wr := ⟨_, rfl⟩
        obtain ⟨i, rfl, hi, HR⟩ := hrel
        by_cases hlt : i < ma
        · obtain ⟨nm1, k1, x1, l1, f1, tl1, hd1⟩ := V.T.drop_some (t := f) (i := i) (by rw [HE.out.2]; exact hlt)
          obtain ⟨b1, o1, v1, u1, hqa, E1⟩ := ((HA.out.2.below HB.out).below HR.out.1).elem (by rw [HE.out.2]; exact hlt) hd1
          subst hqa
          obtain ⟨c0, c1, c2, c3⟩ := (HBK.out.same (HR.out.1.block _ HBK.out.lt)).box
          have HD1 := Lib.hid hd1
          have HE1 := Lib.hid E1
          have HL := Lib.hid hlt
          have HI := Lib.hid hi
          clear hd1 E1
          go_wp2_with fail
          clear c0 c1 c2 c3
          go_loopw [9] (fun p wv => ∃ j : Nat, p = .int .i64 j ∧ j ≤ i ∧ Hid (Below wo.heap.size wo wv ∧ (nms f j []).contains nm1 = false)) (fun p _ => i - (RowKit.intOf p).toNat)
          case atStart => exact ⟨0, rfl, Nat.zero_le _, Lib.hid ⟨Below.refl _ _, by rw [nms_zero]; rfl⟩⟩
          case round =>
            obtain ⟨j, rfl, hj, HJ⟩ := hrel
            have HBJ := Lib.hid (HR.out.1.trans (HJ.out.1.mono HR.out.1.size))
            obtain ⟨c0, c1, c2, c3⟩ := (HBK.out.same (HBJ.out.block _ HBK.out.lt)).box
            clear c0 c1 c2
            have e0 := bcellv HJ.out.1 (HE1.out.name rfl)
            by_cases hlj : j < i
            · have hjm : j < ma := by omega
              obtain ⟨nm2, k2, x2, l2, f2, tl2, hd2⟩ := V.T.drop_some (t := f) (i := j) (by rw [HE.out.2]; exact hjm)
              obtain ⟨b2, o2, v2, u2, hqb, E2⟩ := ((HA.out.2.below HB.out).below HBJ.out).elem (by rw [HE.out.2]; exact hjm) hd2
              cases hqb
              have g0 := E2.name rfl
              simp only [Nat.reduceAdd] at e0 g0
              have HLJ := Lib.hid hlj
              by_cases hnm : nm2 = nm1
              · have t1 : (nm2.toList == nm1.toList) = true := by rw [hnm]; simp
                have HNo := Lib.hid (show mayT f 1 [] (d + 1) = false by
                  rw [← HR.out.2, HD1.out, mayT_fld, nms_hit (nm := nm1) (by rw [← hnm]; exact hd2) hlj (by rw [HE.out.2]; exact hi)]; rfl)
                clear hnm hd2 E2 hlj
                go_wp2_with fail
                go_region_held3 (fun w' => w'.cell? ⟨w.heap.size, 3, none⟩ = some (.slice (some ⟨b1, o1, none⟩) ma da) ∧ w'.cell? ⟨b1, o1 + j * 5, none⟩ = some (.string nm2) ∧ w'.cell? ⟨b1, o1 + i * 5, none⟩ = some (.string nm1))
                  (exact ⟨c3, g0, e0⟩)
                  (fail)
                go_wp2_with fail
                go_ret
                exact ⟨by rw [HM2.out, HNo.out]; rfl, HB.out.trans ((HBJ.out.trans (by first | exact Below.refl _ _ | exact (Below.refl _ _).drew)).mono HB.out.size)⟩
              · have t1 : (nm2.toList == nm1.toList) = false := by rw [bytes_beq]; exact decide_eq_false hnm
                have HY := Lib.hid (nms_miss hd2 hnm HJ.out.2)
                have HJB := Lib.hid HJ.out.1
                clear hnm hd2 E2 hlj HJ
                go_wp2_with fail
                go_region_held3 (fun w' => w'.cell? ⟨w.heap.size, 3, none⟩ = some (.slice (some ⟨b1, o1, none⟩) ma da) ∧ w'.cell? ⟨b1, o1 + j * 5, none⟩ = some (.string nm2) ∧ w'.cell? ⟨b1, o1 + i * 5, none⟩ = some (.string nm1))
                  (exact ⟨c3, g0, e0⟩)
                  (fail)
                go_wp2_with fail
                go_roundw
                case rel => exact ⟨j + 1, by go_num, HLJ.out, Lib.hid ⟨HJB.out.trans (by first | exact Below.refl _ _ | exact (Below.refl _ _).drew), HY.out⟩⟩
                case measure => have := HLJ.out; simp [RowKit.intOf]; omega
            · obtain rfl : i = j := by omega
              have hsz := V.T.drop_size HD1.out
              have hsm := HN.out.2.2.drop HD1.out
              have E1 := HE1.out
              have e1 := bcellv HJ.out.1 E1.kind
              have e2 := bcellv HJ.out.1 E1.text
              have e3 := bcellv HJ.out.1 E1.list
              have e4 := bcellv HJ.out.1 E1.fields
              simp only [Nat.reduceAdd] at e0 e1 e2 e3 e4
              have KEEP := Lib.hid (fun W (hB : Below wr.heap.size wr W) => And.intro (bcellv hB c3) (And.intro (bcellv hB e1) (And.intro (bcellv hB e2) (And.intro (bcellv hB e3) (bcellv hB e4)))))
              have IU := Lib.hid (fun W => refValid_any nm1 W hsm.1)
              have IH := fun W (hB : Below wo.heap.size wo W) => ih k1 x1 _ _ l1 f1 A (d + 1) W (by have := HN.out.1; omega) E1.small.1 hsm.2.1 hsm.2.2.1 hsm.2.2.2.1 (E1.hl.below hB) (E1.hf.below hB) (HLL.out.2 (by omega))
              have hcast : ((d + 1 : Nat) : Int) = (d : Int) + 1 := by omega
              simp only [hcast] at IH
              have HIH := Lib.hid IH
              clear hcast IH
              have HS := Lib.hid (show mayT (f.drop i) 1 (nms f i []) (d + 1) = (U.valid nm1 && mayV k1 x1 l1 f1 (d + 1) && mayT (f.drop (i + 1)) 1 (nms f (i + 1) []) (d + 1)) by
                rw [HD1.out, V.T.drop_step HD1.out, mayT_fld, HJ.out.2, nms_step HD1.out]; rfl)
              have HJB := Lib.hid HJ.out.1
              have HU := Lib.hid (show Below w.heap.size w wr from HB.out.trans (HBJ.out.mono HB.out.size))
              clear E1 hsz hsm HJ hlj
              cases hu : U.valid nm1
              · have HNo := Lib.hid (show mayT f 1 [] (d + 1) = false by rw [← HR.out.2, HS.out, hu]; rfl)
                have IU := IU.out
                rw [hu] at IU
                clear hu
                go_wp2_with fail
                (with_reducible refine (IU _).mono ?_)
                rintro e w1 ⟨rfl, hB1⟩
                have H1 := Lib.hid (HU.out.trans (hB1.mono HU.out.size))
                clear hB1 IU e0 e1 e2 e3 e4 c3
                go_wp2_with fail
                go_ret
                exact ⟨by rw [HM2.out, HNo.out]; rfl, H1.out⟩
              · have IU2 := IU.out
                rw [hu] at IU2
                cases hv : mayV k1 x1 l1 f1 (d + 1)
                · have HNo := Lib.hid (show mayT f 1 [] (d + 1) = false by rw [← HR.out.2, HS.out, hu, hv]; rfl)
                  have IH := HIH.out
                  rw [hv] at IH
                  clear hu hv
                  go_wp2_with fail
                  (with_reducible refine (IU2 _).mono ?_)
                  rintro e w1 ⟨rfl, hB1⟩
                  obtain ⟨q3, q1, q2, q4, q5⟩ := KEEP.out _ hB1
                  have H0 := Lib.hid (HJB.out.trans (hB1.mono HJB.out.size))
                  have H1 := Lib.hid (HU.out.trans (hB1.mono HU.out.size))
                  clear hB1 IU2 e0 e1 e2 e3 e4 c3
                  go_wp2_with fail
                  (with_reducible refine (IH _ H0.out).mono ?_)
                  rintro e w2 ⟨rfl, hB2⟩
                  have H2 := Lib.hid (H1.out.trans (hB2.mono H1.out.size))
                  clear hB2 IH q1 q2 q3 q4 q5
                  go_wp2_with fail
                  go_ret
                  exact ⟨by rw [HM2.out, HNo.out]; rfl, H2.out⟩
                · have HY := Lib.hid (show mayT (f.drop (i + 1)) 1 (nms f (i + 1) []) (d + 1) = mayT f 1 [] (d + 1) by rw [← HR.out.2, HS.out, hu, hv]; rfl)
                  have IH := HIH.out
                  rw [hv] at IH
                  clear hu hv
                  go_wp2_with fail
                  (with_reducible refine (IU2 _).mono ?_)
                  rintro e w1 ⟨rfl, hB1⟩
                  obtain ⟨q3, q1, q2, q4, q5⟩ := KEEP.out _ hB1
                  have H0 := Lib.hid (HJB.out.trans (hB1.mono HJB.out.size))
                  have H1 := Lib.hid (HBJ.out.trans (hB1.mono HBJ.out.size))
                  clear hB1 IU2 e0 e1 e2 e3 e4 c3
                  go_wp2_with fail
                  (with_reducible refine (IH _ H0.out).mono ?_)
                  rintro e w2 ⟨rfl, hB2⟩
                  have H2 := Lib.hid (H1.out.trans (hB2.mono H1.out.size))
                  clear hB2 IH q1 q2 q3 q4 q5
                  go_wp2_with fail
                  go_roundw
                  case rel => exact ⟨i + 1, by go_num, HL.out, Lib.hid ⟨H2.out, HY.out⟩⟩
                  case measure => have := HL.out; simp [RowKit.intOf]; omega
        · obtain rfl : i = ma := by omega
          obtain ⟨c0, c1, c2, c3⟩ := (HBK.out.same (HR.out.1.block _ HBK.out.lt)).box
          have HY := Lib.hid (show mayT f 1 [] (d + 1) = true by rw [← HR.out.2, ← HE.out.2, V.T.drop_len]; rfl)
          have HQ := Lib.hid HR.out.1
          clear HR hi
          go_wp2_with fail
          go_ret
          exact ⟨by rw [HM2.out, HY.out]; rfl, HB.out.trans (HQ.out.mono HB.out.size)⟩
end Go.Proofs.YtoolkaahjmnjeaaGreatDoor

namespace Go.Proofs.YtoolkaahjmnjeaaGreatDoor
open Go Go.RowKit Go.Shelf Go.Lib

theorem wwT_len : ∀ (t : V.T) (d : Nat) (first : Bool), (wrT t d first).length ≤ wgt t
  | .nil, _, _ => by simp [wrT, wgt]
  | .cons nm k x l f tl, d, first => by
    have h1 := ahead_len d first nm
    have h2 := wwT_len l 0 true
    have h3 := wwT_len f 1 true
    have h4 := lf_len k x
    have h5 := wwT_len tl d false
    rw [wrT_cons, List.length_append, List.length_append]
    have h6 : (wrV k x l f).length ≤ 6 * x.size + 10 + wgt l + wgt f := by
      unfold wrV
      split
      · simp only [List.length_append, List.length_singleton]; omega
      split
      · simp only [List.length_append, List.length_singleton]; omega
      · omega
    unfold wgt
    omega
theorem wwV_len (k : Nat) (x : ByteArray) (l f : V.T) : (wrV k x l f).length ≤ 6 * x.size + 10 + wgt l + wgt f := by
  have h2 := wwT_len l 0 true
  have h3 := wwT_len f 1 true
  have h4 := lf_len k x
  unfold wrV
  split
  · simp only [List.length_append, List.length_singleton]; omega
  split
  · simp only [List.length_append, List.length_singleton]; omega
  · omega
/-- every block of cells that are no bytes is as it was -/
def KeepV (w w' : World) : Prop := ∀ (k : Nat) (cur : Array Value) (t : TypeId) (fr : Nat × Nat), w.heap[k]? = some (Obj.cells cur t fr) → t ≠ 5 → w'.heap[k]? = w.heap[k]?
theorem KeepV.refl (w : World) : KeepV w w := fun _ _ _ _ _ _ => rfl
theorem KeepV.trans {a b c : World} (h : KeepV a b) (k : KeepV b c) : KeepV a c := fun i cur t fr hi ht => by
  have h1 := h i cur t fr hi ht
  exact (k i cur t fr (h1.trans hi) ht).trans h1
theorem KeepX.keepV {n : Nat} {v : Value} {w w' : World} (h : KeepX n v w w') : KeepV w w' := fun k cur t fr hk ht => h k cur t fr hk (.inl ht)
theorem keepV_below {w w' : World} (h : Below w.heap.size w w') : KeepV w w' := (keepX_below 0 (.int .u8 0) h).keepV
theorem Blk4.keepV {w w' : World} {b : Nat} {p0 p1 p2 p3 : Value} (h : Blk4 w b 25 p0 p1 p2 p3) (hk : KeepV w w') : Blk4 w' b 25 p0 p1 p2 p3 := (hk _ _ _ _ h (by decide)).trans h
/-- what the writer hands back: a row of these bytes, its own from B on; all that is no bytes stays -/
def WrI (B : Nat) (l : List UInt8) (w : World) (e : Ending) (w' : World) : Prop := ∃ v', e = .returned v' ∧ w'.ownsRow B 5 1 v' l.length (U.cellsOf l) ∧ Below B w w' ∧ KeepV w w'
/-- the writer serves values of fewer than N elements -/
def WrR (N : Nat) : Prop := ∀ (k : Nat) (x : ByteArray) (va ua : Value) (l f : V.T) (A : Nat → Prop) (B : Nat) (b : Value) (lb : List UInt8) (w : World), l.size + f.size < N → k ≤ 6 → Kd l → Kd f → lb.length + 6 * x.size + 10 + wgt l + wgt f ≤ 100000000000 → HS w A 0 va l → HS w A 1 ua f →
  (∀ c, A c → c < B) → w.ownsRow B 5 1 b lb.length (U.cellsOf lb) → B ≤ w.heap.size → Calls Tryz.prog 47 #[b, .agg #[.int .u8 k, .string x, va, ua]] w (WrI B (lb ++ wrV k x l f) w)
/-- where a loop over items stands -/
structure WwAt (t : V.T) (d B : Nat) (lb : List UInt8) (i : Nat) (lb' : List UInt8) (b' : Value) (w wr : World) : Prop where
  eq : lb' ++ wrT (t.drop i) d (decide (i = 0)) = lb ++ wrT t d true
  len : lb'.length + wgt (t.drop i) ≤ 100000000000
  own : wr.ownsRow B 5 1 b' lb'.length (U.cellsOf lb')
  below : Below B w wr
  keep : KeepV w wr
theorem WwAt.step {t : V.T} {d B : Nat} {lb : List UInt8} {i : Nat} {lb' l2 : List UInt8} {b' v' : Value} {w wr w1 : World} {nm : ByteArray} {k : Nat} {x : ByteArray} {l f tl : V.T} (h : WwAt t d B lb i lb' b' w wr) (hd : t.drop i = .cons nm k x l f tl)
    (e : l2 = lb' ++ ahead d (decide (i = 0)) nm) (hown : w1.ownsRow B 5 1 v' (l2 ++ wrV k x l f).length (U.cellsOf (l2 ++ wrV k x l f))) (hB : Below B wr w1) (hK : KeepV wr w1) : WwAt t d B lb (i + 1) (l2 ++ wrV k x l f) v' w w1 := by
  have h1 := h.eq
  have h2 := h.len
  have h3 := ahead_len d (decide (i = 0)) nm
  have h4 := wwV_len k x l f
  rw [hd] at h2
  unfold wgt at h2
  refine ⟨?_, ?_, hown, h.below.trans hB, h.keep.trans hK⟩
  · rw [V.T.drop_step hd, decide_eq_false (by omega), ← h1, hd, wrT_cons, e]
    simp only [List.append_assoc]
  · rw [V.T.drop_step hd, List.length_append, e, List.length_append]
    omega
theorem WwAt.fin {t : V.T} {d B : Nat} {lb lb' : List UInt8} {b' : Value} {w wr : World} (h : WwAt t d B lb t.len lb' b' w wr) : lb' = lb ++ wrT t d true := by
  have := h.eq
  rw [V.T.drop_len] at this
  rw [← this]
  exact (List.append_nil _).symm
theorem snocU {w : World} {B : Nat} {v : Value} {l : List UInt8} {c : UInt8} (h : w.ownsRow B 5 1 v (l.length + 1) (U.cellsOf l ++ [.int .u8 (c.toNat : Int)])) : w.ownsRow B 5 1 v (l ++ [c]).length (U.cellsOf (l ++ [c])) := by
  rw [List.length_append, ← U.cellsOf_append]
  exact h
end Go.Proofs.YtoolkaahjmnjeaaGreatDoor
