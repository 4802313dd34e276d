/- Are values these chains? The walk. Conditions: chains of at most 10^6 ranges, as Go can hold them. -/
import Derived.Test.YtbkciiogkgndiaaGreatDoorMB43
import Derived.Test.YtbkciiogkgndiaaGreatDoorMB36
import Derived.Test.YtbkciiogkgndiaaGreatDoorMB13
import Derived.Test.YtbkciiogkgndiaaGreatDoorMB41
import Derived.Test.YtbkciiogkgndiaaGreatDoorMB32
import Derived.Test.YtbkciiogkgndiaaGreatDoorMB06
import Derived.Test.YtbkciiogkgndiaaGreatDoorMB42
namespace Go.Proofs.YtbkciiogkgndiaaGreatDoor
open Go Go.RowKit Go.Lib

set_option maxHeartbeats 4000000 in
set_option maxRecDepth 100000 in
theorem linked8_any (va ua : Value) (l : List Ch) (A : Nat → Prop) (v1 : Value) (w : World) (hva : HS w A 0 va (listChT l)) (hua : HS w A 1 ua .nil) (h1 : SrcC w v1 l) (hn : l.length ≤ 1000000) :
    Calls Tryz.prog 54 #[.agg #[.int .u8 5, .string ⟨#[]⟩, va, ua], v1] w (TrueB w) := by
  have hB0 := (Below.refl w.heap.size w).alloc (Nat.le_refl _) (.cells #[.int .u8 5, .string ⟨#[]⟩, va, ua] 25)
  have b0 : Blk4 (w.alloc (.cells #[.int .u8 5, .string ⟨#[]⟩, va, ua] 25)) w.heap.size 25 _ _ _ _ := heap_alloc_new _ _
  have hs0 := World.size_alloc w (.cells #[.int .u8 5, .string ⟨#[]⟩, va, ua] 25)
  have hlen := listChT_len l
  have HEl : Hid (∀ i, i < l.length → ∃ e : Ch, (listChT l).drop i = .cons ⟨#[]⟩ (chainK e.l) ⟨#[]⟩ .nil (chainT e.l) (listChT (l.drop (i + 1))) ∧ ChOk w e ∧ ∃ b o c, v1 = .slice (some ⟨b, o, none⟩) l.length c ∧ b < w.heap.size ∧ w.cell? ⟨b, o + i, none⟩ = some (.slice e.p e.n e.c)) := Lib.hid (fun i hi => by
    refine ⟨l[i], listChT_drop l i _ (List.getElem?_eq_getElem hi), ?_⟩
    rcases h1 with ⟨rfl, _⟩ | ⟨b, o, c, rfl, _, _, hb, h, hz⟩
    · cases hi
    · exact ⟨hz _ (List.getElem_mem hi), b, o, c, rfl, hb, h i _ (List.getElem?_eq_getElem hi)⟩)
  have hv1 : ∃ p1 c1, v1 = .slice p1 l.length c1 := by
    rcases h1 with ⟨rfl, p, c, rfl, _⟩ | ⟨b, o, c, rfl, _⟩
    · exact ⟨p, c, rfl⟩
    · exact ⟨_, c, rfl⟩
  obtain ⟨p1, c1, rfl⟩ := hv1
  obtain ⟨pa, ca, rfl, -⟩ := hva.len
  obtain ⟨qa, da, rfl, -⟩ := hua.len
  have HVA := Lib.hid (fun W (hB : Below w.heap.size w W) => hva.below hB)
  have HB0 := Lib.hid (And.intro b0 (And.intro hB0 hs0))
  rw [hlen] at HVA HB0 ⊢
  generalize en : l.length = na at *
  have HLn := Lib.hid hlen
  clear hva hua h1 hB0 b0 hlen en hs0
  go_enter Tryz.func54, Tryz.ntmps54
  go_upto_region 1 with fail
  generalize w.alloc (.cells #[.int .u8 5, .string ⟨#[]⟩, .slice pa na ca, .slice qa V.T.nil.len da] 25) = W0 at *
  obtain ⟨s0, s1, s2, s3⟩ := HB0.out.1.box
  go_wp2_with fail
  clear s0 s1 s2 s3
  go_loopw [5] (fun p wr => ∃ i : Nat, p = .int .i64 (i : Int) ∧ i ≤ na ∧ Hid (Blk4 wr w.heap.size 25 (.int .u8 5) (.string ⟨#[]⟩) (.slice pa na ca) (.slice qa V.T.nil.len da) ∧ Below w.heap.size w wr ∧ w.heap.size < wr.heap.size)) (fun p _ => na - (RowKit.intOf p).toNat)
  case atStart => exact ⟨0, rfl, Nat.zero_le _, Lib.hid ⟨HB0.out.1, HB0.out.2.1, HB0.out.1.lt⟩⟩
  case round =>
    obtain ⟨i, rfl, hi, HR⟩ := hrel
    by_cases hlt : i < na
    · obtain ⟨⟨ep, en, ec, el⟩, hd, hz, b, o, c, e1, hb, hc⟩ := HEl.out i hlt
      dsimp only at hd hc
      have hel : el.length ≤ 1000000 := hz.2
      have hz1 : SrcR w (.slice ep en ec) el := hz.1
      clear hz
      obtain ⟨rfl, hrg⟩ := src_rg hz1
      clear hz1
      have HRg := Lib.hid hrg
      obtain ⟨rfl, rfl⟩ : p1 = some ⟨b, o, none⟩ ∧ c1 = c := by cases e1; exact ⟨rfl, rfl⟩
      obtain ⟨b1, o1, v1, u1, rfl, E1⟩ := (HVA.out wr HR.out.2.1).elem (by rw [HLn.out]; exact hlt) hd
      have HC := Lib.hid (fun W (hB : Below w.heap.size w W) => (hB.cell (p := ⟨b, o + i, none⟩) hb).trans hc)
      have HL := Lib.hid hlt
      obtain ⟨p2, c2, rfl, -⟩ := E1.hl.len
      obtain ⟨p3, c3, rfl, -⟩ := E1.hf.len
      have k1 := E1.kind
      have k2 := E1.text
      have k3 := E1.list
      have k4 := E1.fields
      simp only [Nat.add_zero, Nat.reduceAdd] at k1 k2 k3 k4
      have HE1 := Lib.hid (And.intro E1.hl E1.hf)
      obtain ⟨s0, s1, s2, s3⟩ := HR.out.1.box
      have hi2 : (0 : Int) ≤ (i : Int) := Int.natCast_nonneg i
      have hi3 : (i : Int) < (na : Int) := by omega
      clear e1 hc hd E1 hlt hb hrg
      go_upto_region 6 with fail
      go_region_held3 (fun w' => w'.cell? ⟨w.heap.size, 2, none⟩ = some (.slice (some ⟨b1, o1, none⟩) na ca) ∧ w'.cell? ⟨b1, o1 + i * 4, none⟩ = some (.int .u8 (chainK el)) ∧ w'.cell? ⟨b1, o1 + i * 4 + 1, none⟩ = some (.string ⟨#[]⟩) ∧ w'.cell? ⟨b1, o1 + i * 4 + 2, none⟩ = some (.slice p2 V.T.nil.len c2) ∧ w'.cell? ⟨b1, o1 + i * 4 + 3, none⟩ = some (.slice p3 (chainT el).len c3)) (go_keep) (fail)
      rw [isK_zero']
      rename_i hHeld
      clear hHeld k1 k2 k3 k4 s0 s1 s2 s3
      have HX0 := Lib.hid (xin_begin HE1.out.1 HE1.out.2)
      have HW1 := Lib.hid (And.intro (show Blk4 (wr.alloc (.cells #[.int .u8 (chainK el), .string ⟨#[]⟩, .slice p2 V.T.nil.len c2, .slice p3 (chainT el).len c3] 25)).drew w.heap.size 25 (.int .u8 5) (.string ⟨#[]⟩) (.slice (some ⟨b1, o1, none⟩) na ca) (.slice qa V.T.nil.len da) from HR.out.1.same (Below.heap_alloc _ _ _ HR.out.1.lt)) (And.intro ((HR.out.2.1.alloc HR.out.2.1.size (.cells #[.int .u8 (chainK el), .string ⟨#[]⟩, .slice p2 V.T.nil.len c2, .slice p3 (chainT el).len c3] 25)).drew) HR.out.2.2))
      generalize (wr.alloc (.cells #[.int .u8 (chainK el), .string ⟨#[]⟩, .slice p2 V.T.nil.len c2, .slice p3 (chainT el).len c3] 25)).drew = W1 at *
      generalize wr.heap.size = bx at *
      clear HE1 HR
      go_wp2_with fail
      go_loopw [7, 8] (fun p q wx => ∃ k : Nat, p = .bool (isK el k) ∧ q = .int .i64 (k : Int) ∧ k ≤ el.length ∧ Hid (XIn bx el k wx ∧ Blk4 wx w.heap.size 25 (.int .u8 5) (.string ⟨#[]⟩) (.slice (some ⟨b1, o1, none⟩) na ca) (.slice qa V.T.nil.len da) ∧ Below w.heap.size w wx)) (fun _ q _ => el.length - (RowKit.intOf q).toNat)
      case atStart => exact ⟨0, rfl, rfl, Nat.zero_le _, Lib.hid ⟨HX0.out, HW1.out.1, HW1.out.2.1⟩⟩
      case round =>
        obtain ⟨k, rfl, rfl, hk, HK⟩ := hrel
        have hc := HC.out _ HK.out.2.2
        by_cases hlk : k < el.length
        · obtain ⟨hok, br, or, rfl, hcl⟩ := HRg.out k hlk
          have HO := Lib.hid hok
          have HCl := Lib.hid hcl
          have HLk := Lib.hid hlk
          obtain ⟨p4, n4, c4, q4, m4, d4, hx, hl4, hf4⟩ := HK.out.1
          rw [chainK_yes hlk] at hx
          have HX := Lib.hid hx
          have HGt := Lib.hid (get_range hlk _ _ _ _ hl4 hf4)
          have HV4 := Lib.hid (And.intro hl4 hf4)
          obtain ⟨x0, x1, x2, x3⟩ := hx.box
          have hk2 : (0 : Int) ≤ (k : Int) := Int.natCast_nonneg k
          have hk3 : (k : Int) < (el.length : Int) := by omega
          rw [isK_yes hlk]
          clear hok hcl hx hl4 hf4 hlk
          go_wp2_with fail
          refine HGt.out.mono ?_
          rintro en w2 ⟨v5, u5, rfl, hv, hu, -, -, hB⟩
          change HS w2 _ 0 v5 .nil at hv
          change HS w2 _ 1 u5 (rangeT _ _ _ _) at hu
          obtain ⟨p5, c5, rfl, -⟩ := hv.len
          obtain ⟨q5, d5, rfl, -⟩ := hu.len
          have hl2 : (rangeT (rgAt el k).a (rgAt el k).b (rgAt el k).c (rgAt el k).d).len = 2 := rfl
          rw [hl2] at hu ⊢
          have hB3 := hB.trans ((Below.refl w2.heap.size w2).alloc (Nat.le_refl _) (.cells #[.int .u8 (6 : Nat), .string ⟨#[]⟩, .slice p5 V.T.nil.len c5, .slice q5 2 d5] 25) |>.mono hB.size)
          have hN3 : Blk4 (w2.alloc (.cells #[.int .u8 (6 : Nat), .string ⟨#[]⟩, .slice p5 V.T.nil.len c5, .slice q5 2 d5] 25)) w2.heap.size 25 _ _ _ _ := heap_alloc_new _ _
          have hv3 := hv.alloc (.cells #[.int .u8 (6 : Nat), .string ⟨#[]⟩, .slice p5 V.T.nil.len c5, .slice q5 2 d5] 25)
          have hu3 := hu.alloc (.cells #[.int .u8 (6 : Nat), .string ⟨#[]⟩, .slice p5 V.T.nil.len c5, .slice q5 2 d5] 25)
          have HB3 := Lib.hid (HK.out.2.2.trans (hB3.mono HK.out.2.2.size))
          have HK3 := Lib.hid (And.intro (HX.out.same (hB3.block _ HX.out.lt)) (And.intro (HV4.out.1.below hB3) (HV4.out.2.below hB3)))
          have HT3 := Lib.hid (HK.out.2.1.same (hB3.block _ HK.out.2.1.lt))
          have HP1 := Lib.hid (fun W (hB : Below (w2.alloc (.cells #[.int .u8 (6 : Nat), .string ⟨#[]⟩, .slice p5 V.T.nil.len c5, .slice q5 2 d5] 25)).heap.size (w2.alloc (.cells #[.int .u8 (6 : Nat), .string ⟨#[]⟩, .slice p5 V.T.nil.len c5, .slice q5 2 d5] 25)) W) => (show Calls Tryz.prog 114 #[.agg #[.int .u8 6, .string ⟨#[]⟩, .slice p5 V.T.nil.len c5, .slice q5 2 d5], .string ⟨#[115, 116, 97, 114, 116]⟩, .agg #[.int .i64 (rgAt el k).a, .int .i64 (rgAt el k).b]] W (TrueB W) from place8_any 6 ⟨#[]⟩ _ _ .nil _ _ ⟨#[115, 116, 97, 114, 116]⟩ (rgAt el k).a (rgAt el k).b W (hv3.below hB) (hu3.below hB) (got_start _ _ _ _) HO.out.1 HO.out.2.1))
          have HP2 := Lib.hid (fun W (hB : Below (w2.alloc (.cells #[.int .u8 (6 : Nat), .string ⟨#[]⟩, .slice p5 V.T.nil.len c5, .slice q5 2 d5] 25)).heap.size (w2.alloc (.cells #[.int .u8 (6 : Nat), .string ⟨#[]⟩, .slice p5 V.T.nil.len c5, .slice q5 2 d5] 25)) W) => (show Calls Tryz.prog 114 #[.agg #[.int .u8 6, .string ⟨#[]⟩, .slice p5 V.T.nil.len c5, .slice q5 2 d5], .string ⟨#[101, 110, 100]⟩, .agg #[.int .i64 (rgAt el k).c, .int .i64 (rgAt el k).d]] W (TrueB W) from place8_any 6 ⟨#[]⟩ _ _ .nil _ _ ⟨#[101, 110, 100]⟩ (rgAt el k).c (rgAt el k).d W (hv3.below hB) (hu3.below hB) (got_end _ _ _ _) HO.out.2.2.1 HO.out.2.2.2))
          have KEEP := Lib.hid (fun w' (hB : Below (w2.alloc (.cells #[.int .u8 (6 : Nat), .string ⟨#[]⟩, .slice p5 V.T.nil.len c5, .slice q5 2 d5] 25)).heap.size (w2.alloc (.cells #[.int .u8 (6 : Nat), .string ⟨#[]⟩, .slice p5 V.T.nil.len c5, .slice q5 2 d5] 25)) w') => (by
            obtain ⟨z0, z1, z2, z3⟩ := (hN3.same (hB.block _ hN3.lt)).box
            have hw := HB3.out.trans (hB.mono HB3.out.size)
            obtain ⟨g0, g1, g2, g3⟩ := HCl.out w' hw
            exact ⟨z0, z1, z2, z3, HC.out w' hw, g0, g1, g2, g3⟩ : w'.cell? ⟨w2.heap.size, 0, none⟩ = some (.int .u8 6) ∧ w'.cell? ⟨w2.heap.size, 1, none⟩ = some (.string ⟨#[]⟩) ∧ w'.cell? ⟨w2.heap.size, 2, none⟩ = some (.slice p5 V.T.nil.len c5) ∧ w'.cell? ⟨w2.heap.size, 3, none⟩ = some (.slice q5 2 d5) ∧ w'.cell? ⟨b, o + i, none⟩ = some (.slice (some ⟨br, or, none⟩) el.length ec) ∧ w'.cell? ⟨br, or + k * 4, none⟩ = some (.int .i64 (rgAt el k).a) ∧ w'.cell? ⟨br, or + k * 4 + 1, none⟩ = some (.int .i64 (rgAt el k).b) ∧ w'.cell? ⟨br, or + k * 4 + 2, none⟩ = some (.int .i64 (rgAt el k).c) ∧ w'.cell? ⟨br, or + k * 4 + 3, none⟩ = some (.int .i64 (rgAt el k).d)))
          clear hv hu hB hB3 hN3 hv3 hu3 hc x0 x1 x2 x3 HGt HV4 HX
          simp only [V.res]
          go_upto_region 11 with fail
          generalize w2.alloc (.cells #[.int .u8 (6 : Nat), .string ⟨#[]⟩, .slice p5 V.T.nil.len c5, .slice q5 2 d5] 25) = W3 at *
          have kp := KEEP.out W3 (Below.refl _ _)
          obtain ⟨z0, z1, z2, z3, z4, z5, z6, z7, z8⟩ := kp
          go_region_held3 (fun w' => w'.cell? ⟨w2.heap.size, 0, none⟩ = some (.int .u8 6) ∧ w'.cell? ⟨w2.heap.size, 1, none⟩ = some (.string ⟨#[]⟩) ∧ w'.cell? ⟨w2.heap.size, 2, none⟩ = some (.slice p5 V.T.nil.len c5) ∧ w'.cell? ⟨w2.heap.size, 3, none⟩ = some (.slice q5 2 d5) ∧ w'.cell? ⟨b, o + i, none⟩ = some (.slice (some ⟨br, or, none⟩) el.length ec) ∧ w'.cell? ⟨br, or + k * 4, none⟩ = some (.int .i64 (rgAt el k).a) ∧ w'.cell? ⟨br, or + k * 4 + 1, none⟩ = some (.int .i64 (rgAt el k).b) ∧ w'.cell? ⟨br, or + k * 4 + 2, none⟩ = some (.int .i64 (rgAt el k).c) ∧ w'.cell? ⟨br, or + k * 4 + 3, none⟩ = some (.int .i64 (rgAt el k).d))
            (first | exact KEEP.out _ hB5 | exact KEEP.out _ hB4 | exact KEEP.out _ (Below.refl _ _).drew | exact KEEP.out _ (Below.refl _ _))
            (first
              | (go_at_call 114; (with_reducible refine (HP2.out _ hB4).mono ?_); rintro e w5 ⟨rfl, hB⟩; have hB5 := hB4.trans (hB.mono hB4.size); clear hB)
              | (go_at_call 114; (with_reducible refine (HP1.out _ (Below.refl _ _).drew).mono ?_); rintro e w4 ⟨rfl, hB⟩; have hB4 := (Below.refl W3.heap.size W3).drew.trans hB; clear hB))
          rename_i hHeld
          have HX5 := Lib.hid (show Blk4 w5 bx 25 (.int .u8 (6 : Nat)) (.string ⟨#[]⟩) (.slice p4 n4 c4) (.slice q4 m4 d4) ∧ HS w5 (fun b => b ≠ bx) 0 (.slice p4 n4 c4) .nil ∧ HS w5 (fun b => b ≠ bx) 1 (.slice q4 m4 d4) (chainT (rst el k)) from ⟨HK3.out.1.same (hB5.block _ HK3.out.1.lt), HK3.out.2.1.below hB5, HK3.out.2.2.below hB5⟩)
          have HB5 := Lib.hid (HB3.out.trans (hB5.mono HB3.out.size))
          have HT5 := Lib.hid (HT3.out.same (hB5.block _ HT3.out.lt))
          have HG5 := Lib.hid (get_parent HLk.out _ _ _ w5 HX5.out.2.1 HX5.out.2.2)
          clear hB4 hB5 z0 z1 z2 z3 z4 z5 z6 z7 z8 hHeld KEEP HP1 HP2 HK3 HB3 HT3
          obtain ⟨x0, x1, x2, x3⟩ := HX5.out.1.box
          go_wp2_with fail
          refine HG5.out.mono ?_
          rintro en w6 ⟨v7, u7, rfl, hv, hu, hB⟩
          obtain ⟨p7, c7, rfl, -⟩ := hv.len
          obtain ⟨q7, d7, rfl, -⟩ := hu.len
          have b6 := HX5.out.1.same (hB.block _ HX5.out.1.lt)
          have H6 := Lib.hid (And.intro hv (And.intro hu (And.intro b6 (And.intro (HB5.out.trans (hB.mono HB5.out.size)) (And.intro (HT5.out.same (hB.block _ HT5.out.lt)) (show bx < w5.heap.size from HX5.out.1.lt))))))
          clear x0 x1 x2 x3 hv hu hB HG5
          obtain ⟨y0, y1, y2, y3⟩ := b6.box
          have f0 := b6.free 0
          have f1 := b6.free 1
          have f2 := b6.free 2
          have f3 := b6.free 3
          clear b6
          go_wp2_with fail
          obtain ⟨g1, g2, g3⟩ := H6.out.2.2.1.all (.int .u8 (chainK (rst el (k + 1)))) (.string ⟨#[]⟩) (.slice p7 V.T.nil.len c7) (.slice q7 (chainT (rst el (k + 1))).len d7)
          have hw3 := set4_else w6 bx (.int .u8 (chainK (rst el (k + 1)))) (.string ⟨#[]⟩) (.slice p7 V.T.nil.len c7) (.slice q7 (chainT (rst el (k + 1))).len d7)
          have g3' := g3 w.heap.size (Nat.le_of_lt HW1.out.2.2)
          clear y0 y1 y2 y3 f0 f1 f2 f3
          generalize (((w6.setCell ⟨bx, 0, none⟩ (.int .u8 (chainK (rst el (k + 1))))).setCell ⟨bx, 1, none⟩ (.string ⟨#[]⟩)).setCell ⟨bx, 2, none⟩ (.slice p7 V.T.nil.len c7)).setCell ⟨bx, 3, none⟩ (.slice q7 (chainT (rst el (k + 1))).len d7) = wz at *
          have HXZ := Lib.hid (show XIn bx el (k + 1) wz from ⟨_, _, _, _, _, _, g1, H6.out.1.imp (fun b hb _ => by have := H6.out.2.2.2.2.2; have := hb.1; omega) (fun b hb _ => hw3 b (by have := H6.out.2.2.2.2.2; have := hb.1; omega)), H6.out.2.1.imp (fun b hb _ => by have := H6.out.2.2.2.2.2; have := hb.1; omega) (fun b hb _ => hw3 b (by have := H6.out.2.2.2.2.2; have := hb.1; omega))⟩)
          have HTZ := Lib.hid (H6.out.2.2.2.2.1.same (hw3 w.heap.size (by have := HW1.out.2.2; omega)))
          have HBZ := Lib.hid (H6.out.2.2.2.1.trans g3')
          clear g1 g2 g3 g3' hw3
          go_roundw
          case rel => exact ⟨k + 1, rfl, by go_num, HLk.out, Lib.hid ⟨HXZ.out, HTZ.out, HBZ.out⟩⟩
          case measure => have := HLk.out; simp [RowKit.intOf]; omega
        · obtain rfl : k = el.length := by omega
          have hno := isK_no el
          rw [hno]
          have hk2 : (0 : Int) ≤ (el.length : Int) := Int.natCast_nonneg _
          go_wp2_with fail
          go_roundw
          case rel => exact ⟨i + 1, by go_num, HL.out, Lib.hid ⟨HK.out.2.1, HK.out.2.2, HK.out.2.1.lt⟩⟩
          case measure => have := HL.out; simp [RowKit.intOf]; omega
    · obtain rfl : i = na := by omega
      go_wp2_with fail
      go_ret
      exact ⟨rfl, HR.out.2.1⟩
end Go.Proofs.YtbkciiogkgndiaaGreatDoor

namespace Go.Proofs.YtbkciiogkgndiaaGreatDoor
open Go Go.RowKit Go.Lib

theorem may6 {T : V.T} {dep : Nat} : mayV 6 ⟨#[]⟩ .nil T dep = (!(decide (dep = 64)) && mayT T 1 [] (dep + 1)) := by
  unfold mayV txk
  simp [V.T.len]
  exact fun _ _ => rfl
theorem may5 {T : V.T} {dep : Nat} : mayV 5 ⟨#[]⟩ T .nil dep = (!(decide (dep = 64)) && mayT T 0 [] (dep + 1)) := by
  unfold mayV txk
  simp [V.T.len]
  exact fun _ _ => rfl
theorem may3 (n : Int) (dep : Nat) : mayV 3 ⟨(Lib.itoa n).toArray⟩ .nil .nil dep = true := by
  unfold mayV txk
  rw [if_pos rfl, numS_itoa]
  simp [V.T.len]
theorem may4 {x : ByteArray} (h : U.valid x = true) (dep : Nat) : mayV 4 x .nil .nil dep = true := by
  unfold mayV txk
  rw [if_neg (by decide), if_pos rfl, h]
  simp [V.T.len]
theorem may0 (dep : Nat) : mayV 0 ⟨#[]⟩ .nil .nil dep = true := by
  unfold mayV txk
  simp [V.T.len]
  rfl
theorem may_nil {d : Nat} {seen : List ByteArray} {dep : Nat} : mayT .nil d seen dep = true := rfl
theorem may_fld {nm : ByteArray} {k : Nat} {x : ByteArray} {l f tl : V.T} {seen : List ByteArray} {dep : Nat} (h : (!(seen.contains nm) && U.valid nm) = true) : mayT (.cons nm k x l f tl) 1 seen dep = (mayV k x l f dep && mayT tl 1 (nm :: seen) dep) := by
  rw [mayT_fld, h, Bool.true_and]
theorem may_nums : ∀ (l : List Int) (dep : Nat), mayT (nmT l) 0 [] dep = true
  | [], _ => rfl
  | n :: r, dep => by
    show mayT (.cons _ _ _ _ _ (nmT r)) 0 [] dep = true
    rw [mayT_val, may3, Bool.true_and, mayT_seen _ _ []]
    exact may_nums r dep
/-- numbers' list -/
theorem may_numV (l : List Int) {dep : Nat} (h : ¬ dep = 64) : mayV 5 ⟨#[]⟩ (nmT l) .nil dep = true := by
  rw [may5, may_nums, decide_eq_false h]; rfl
theorem may_full (id : ByteArray) (l : List Int) : mayV 6 ⟨#[]⟩ .nil (full_anyT id l) 0 = true := by
  rw [may6]
  unfold full_anyT
  rw [may_fld (by decide +kernel), may_fld (by decide +kernel), may4 (U.fix_valid id), may_numV l (by decide), may_nil]
  rfl
theorem may_splice (a b : Int) (l : List Int) {dep : Nat} (h : dep < 63) : mayV 6 ⟨#[]⟩ .nil (spliceT a b l) dep = true := by
  rw [may6, decide_eq_false (by omega)]
  unfold spliceT
  rw [may_fld (by decide +kernel), may_fld (by decide +kernel), may_fld (by decide +kernel), may3, may3, may_numV l (by omega), may_nil]
  rfl
theorem may_splices : ∀ (l : List Sp) {dep : Nat} (_ : dep < 63), mayT (listSpT l) 0 [] dep = true
  | [], _, _ => rfl
  | e :: r, dep, h => by
    show mayT (.cons _ _ _ _ _ (listSpT r)) 0 [] dep = true
    rw [mayT_val, may_splice _ _ _ h, Bool.true_and, mayT_seen _ _ []]
    exact may_splices r h
theorem may_delta (id : ByteArray) (l : List Sp) : mayV 6 ⟨#[]⟩ .nil (delta_anyT id l) 0 = true := by
  rw [may6]
  unfold delta_anyT
  rw [may_fld (by decide +kernel), may_fld (by decide +kernel), may4 (U.fix_valid id), may5, may_splices l (by decide), may_nil]
  rfl
theorem may_fold (a b : Int) (cm : Bool) {dep : Nat} (h : dep < 63) : mayV 6 ⟨#[]⟩ .nil (foldT a b cm) dep = true := by
  rw [may6, decide_eq_false (by omega)]
  unfold foldT
  rw [may_fld (by decide +kernel), may_fld (by decide +kernel), may3, may3]
  cases cm
  · rfl
  · rw [if_pos rfl, may_fld (by decide +kernel), may4 (by decide +kernel), may_nil]
    rfl
theorem may_foldL : ∀ (l : List Fo) {dep : Nat} (_ : dep < 63), mayT (listFoT l) 0 [] dep = true
  | [], _, _ => rfl
  | e :: r, dep, h => by
    show mayT (.cons _ _ _ _ _ (listFoT r)) 0 [] dep = true
    rw [mayT_val, may_fold _ _ _ h, Bool.true_and, mayT_seen _ _ []]
    exact may_foldL r h
theorem may_folds (l : List Fo) : mayV 5 ⟨#[]⟩ (listFoT l) .nil 0 = true := by
  rw [may5, may_foldL l (by decide)]; rfl
theorem may_pos (a b : Int) (dep : Nat) : mayV 6 ⟨#[]⟩ .nil (posT a b) dep = !(decide (dep = 64)) := by
  rw [may6]
  unfold posT
  rw [may_fld (by decide +kernel), may_fld (by decide +kernel), may3, may3, may_nil, Bool.and_true, Bool.and_true, Bool.and_true]
theorem may_range (a b c d : Int) (dep : Nat) : mayV 6 ⟨#[]⟩ .nil (rangeT a b c d) dep = (!(decide (dep = 64)) && !(decide (dep + 1 = 64))) := by
  rw [may6]
  unfold rangeT
  rw [may_fld (by decide +kernel), may_fld (by decide +kernel), may_pos, may_pos, may_nil, Bool.and_true, Bool.and_self]
/-- a chain may be just if it is not too long -/
theorem may_chain : ∀ (l : List Rg) (dep : Nat), dep ≤ 64 → mayV (chainK l) ⟨#[]⟩ .nil (chainT l) dep = (l.isEmpty || decide (dep + l.length ≤ 62))
  | [], dep, _ => may0 dep
  | r :: l, dep, h => by
    show mayV 6 ⟨#[]⟩ .nil (chT r (!l.isEmpty) (chainK l) (chainT l)) dep = _
    rw [may6]
    by_cases h64 : dep = 64
    · subst h64
      rw [decide_eq_true rfl]
      simp
      omega
    · rw [decide_eq_false h64]
      unfold chT
      rw [may_fld (by decide +kernel), may_range]
      have ih := may_chain l (dep + 1) (by omega)
      cases l with
      | nil =>
        simp [may_nil]
        rw [Bool.eq_iff_iff]
        simp
        omega
      | cons r2 l2 =>
        simp only [List.isEmpty_cons, Bool.not_false, if_true, Bool.false_or] at ih ⊢
        rw [may_fld (by decide +kernel), ih, may_nil, Bool.eq_iff_iff]
        simp
        omega
theorem may_chainL : ∀ (l : List Ch) , mayT (listChT l) 0 [] 1 = !(l.any fun e => decide (61 < e.l.length))
  | [] => rfl
  | e :: r => by
    show mayT (.cons _ _ _ _ _ (listChT r)) 0 [] 1 = _
    rw [mayT_val, may_chain _ _ (by decide), mayT_seen _ _ [], may_chainL r, List.any_cons, Bool.not_or]
    congr 1
    cases e.l with
    | nil => rfl
    | cons a b =>
      simp only [List.isEmpty_cons, Bool.false_or]
      rw [Bool.eq_iff_iff]
      simp
      omega
theorem may_chains (l : List Ch) : mayV 5 ⟨#[]⟩ (listChT l) .nil 0 = !(l.any fun e => decide (61 < e.l.length)) := by
  rw [may5, may_chainL]; rfl
end Go.Proofs.YtbkciiogkgndiaaGreatDoor

namespace Go.Proofs.YtbkciiogkgndiaaGreatDoor
open Go Go.RowKit Go.Shelf Go.Lib

set_option maxRecDepth 100000 in
theorem valid_wild (k : Nat) (x : ByteArray) (va ua : Value) (d : Int) (w : World) (hk : ¬ k ≤ 6) :
    Calls Tryz.prog 63 #[.agg #[.int .u8 k, .string x, va, ua], .int .i64 d] w (Bools false w) := by
  have tk : decide ((6 : Int) < (k : Int)) = true := decide_eq_true (by omega)
  have hB := (Below.refl w.heap.size w).alloc (Nat.le_refl _) (.cells #[.int .u8 k, .string x, va, ua] 25)
  go_enter Tryz.func63, Tryz.ntmps63
  go_wp2_with fail
  go_ret
  exact ⟨rfl, hB⟩
theorem ent_noText : ∀ args w, (callFunc 161 args).run Tryz.prog w = .ok (.enter 161 args) w := enters_of Tryz.func161 (by kernel_rfl) rfl
theorem ent_noList : ∀ args w, (callFunc 162 args).run Tryz.prog w = .ok (.enter 162 args) w := enters_of Tryz.func162 (by kernel_rfl) rfl
theorem ent_noFields : ∀ args w, (callFunc 163 args).run Tryz.prog w = .ok (.enter 163 args) w := enters_of Tryz.func163 (by kernel_rfl) rfl
theorem ent_isNumber : ∀ args w, (callFunc 167 args).run Tryz.prog w = .ok (.enter 167 args) w := enters_of Tryz.func167 (by kernel_rfl) rfl
theorem ent_utfValid : ∀ args w, (callFunc 97 args).run Tryz.prog w = .ok (.enter 97 args) w := enters_of Tryz.func97 (by kernel_rfl) rfl
theorem ent_validList : ∀ args w, (callFunc 170 args).run Tryz.prog w = .ok (.enter 170 args) w := enters_of Tryz.func170 (by kernel_rfl) rfl
theorem ent_validFields : ∀ args w, (callFunc 172 args).run Tryz.prog w = .ok (.enter 172 args) w := enters_of Tryz.func172 (by kernel_rfl) rfl

theorem mayV_wild {k : Nat} {x : ByteArray} {l f : V.T} {d : Nat} (h : ¬ k ≤ 6) : mayV k x l f d = false := by
  unfold mayV
  rw [decide_eq_false h, Bool.false_and]
set_option maxRecDepth 100000 in
theorem may_ok : ∀ N, MayOk Tabs N
  | 0 => fun k x va ua l f A d w h => absurd h (Nat.not_lt_zero _)
  | N + 1 => fun k x va ua l f A d w hN hk hx hsl hsf hl hf hd hT => by
    have ih := may_ok N
    by_cases hk6 : k ≤ 6
    · obtain ⟨p, c, rfl, a0, a1, a2⟩ := hl.len
      obtain ⟨q, e, rfl, b0, b1, b2⟩ := hf.len
      have T0 := fun W (_ : Below w.heap.size w W) => noText_any x W
      have L0 := fun W (_ : Below w.heap.size w W) => noList_any p l.len c d W a0 a1 a2
      have F0 := fun W (_ : Below w.heap.size w W) => noFields_any q f.len e d W b0 b1 b2
      have L1 := fun W (hW : Below w.heap.size w W) => validList_any Tabs (fun _ _ => tabs_below) N ih _ l A d W (by omega) hsl (hl.below hW) hd (tabs_below hT hW)
      have F1 := fun W (hW : Below w.heap.size w W) => validFields_any Tabs (fun _ _ => tabs_below) (fun s W => utfValid_any s W) N ih _ f A d W (by omega) hsf (hf.below hW) hd (tabs_below hT hW)
      have hc : k = 0 ∨ k = 1 ∨ k = 2 ∨ k = 3 ∨ k = 4 ∨ k = 5 ∨ k = 6 := by omega
      rcases hc with rfl | rfl | rfl | rfl | rfl | rfl | rfl
      · exact valid_with 0 x p q l.len c f.len e d 161 162 163 164 _ _ _ w (by decide) (fun W => by kernel_rfl) ent_noText ent_noList ent_noFields T0 L0 F0
      · exact valid_with 1 x p q l.len c f.len e d 161 162 163 165 _ _ _ w (by decide) (fun W => by kernel_rfl) ent_noText ent_noList ent_noFields T0 L0 F0
      · exact valid_with 2 x p q l.len c f.len e d 161 162 163 166 _ _ _ w (by decide) (fun W => by kernel_rfl) ent_noText ent_noList ent_noFields T0 L0 F0
      · exact valid_with 3 x p q l.len c f.len e d 167 162 163 168 _ _ _ w (by decide) (fun W => by kernel_rfl) ent_isNumber ent_noList ent_noFields (fun W _ => isNumber_any x W (Nat.le_trans hx (by decide))) L0 F0
      · exact valid_with 4 x p q l.len c f.len e d 97 162 163 169 _ _ _ w (by decide) (fun W => by kernel_rfl) ent_utfValid ent_noList ent_noFields (fun W hW => utfValid_any x W hx (tabs_below hT hW)) L0 F0
      · exact valid_with 5 x p q l.len c f.len e d 161 170 163 171 _ _ _ w (by decide) (fun W => by kernel_rfl) ent_noText ent_validList ent_noFields T0 L1 F0
      · exact valid_with 6 x p q l.len c f.len e d 161 162 172 173 _ _ _ w (by decide) (fun W => by kernel_rfl) ent_noText ent_noList ent_validFields T0 L0 F1
    · rw [mayV_wild hk6]
      exact valid_wild k x va ua d w hk6
end Go.Proofs.YtbkciiogkgndiaaGreatDoor

namespace Go.Proofs.YtbkciiogkgndiaaGreatDoor
open Go Go.RowKit Go.Lib

set_option maxRecDepth 100000 in
theorem mayS_any (k : Nat) (x : ByteArray) (va ua : Value) (l f : V.T) (A : Nat → Prop) (w : World) (hl : HS w A 0 va l) (hf : HS w A 1 ua f) (hk : k < 256) (hx : x.size ≤ 1000000000000) (sl : Sm l) (sf : Sm f) (hT : Tabs w) : Calls Tryz.prog 15 #[.agg #[.int .u8 k, .string x, va, ua]] w (Bools (mayV k x l f 0) w) := by
  have hB := (Below.refl w.heap.size w).alloc (Nat.le_refl _) (.cells #[.int .u8 k, .string x, va, ua] 25)
  have hm := may_ok (l.size + f.size + 1) k x va ua l f A 0 (w.alloc (.cells #[.int .u8 k, .string x, va, ua] 25)) (Nat.lt_succ_self _) hk hx sl sf (hl.below hB) (hf.below hB) (Nat.zero_le _) (tabs_below hT hB)
  obtain ⟨p, c, rfl, -⟩ := hl.len
  obtain ⟨q, d, rfl, -⟩ := hf.len
  have HB := Lib.hid hB
  clear hB hl hf hT
  go_enter Tryz.func15, Tryz.ntmps15
  go_wp2_with fail
  refine hm.mono ?_
  rintro e w1 ⟨rfl, hB1⟩
  have H1 := Lib.hid (HB.out.trans (hB1.mono HB.out.size))
  clear hB1 hm
  go_wp2_with fail
  go_ret
  exact ⟨rfl, H1.out⟩
/-- of a value that was made -/
theorem mayVF_any {N k : Nat} {x : ByteArray} {l f : V.T} {y : Value} {w : World} (h : VF N k x l f y w) (hk : k < 256) (hx : x.size ≤ 1000000000000) (sl : Sm l) (sf : Sm f) (hT : Tabs w) : Calls Tryz.prog 15 #[y] w (Bools (mayV k x l f 0) w) := by
  obtain ⟨p, n, c, q, m, d, rfl, h1, h2⟩ := h
  exact mayS_any k x _ _ l f _ w h1 h2 hk hx sl sf hT
theorem sm_num {n : Int} (h : I64 n) : (⟨(Lib.itoa n).toArray⟩ : ByteArray).size ≤ 1000000000000 := by
  have := Lib.itoa_length_le n h.1 h.2
  show (Lib.itoa n).toArray.size ≤ _
  simp
  omega
theorem sm_nums : ∀ (l : List Int), (∀ n ∈ l, I64 n) → Sm (nmT l)
  | [], _ => trivial
  | n :: r, h => ⟨by decide, sm_num (h n (List.mem_cons_self ..)), trivial, trivial, sm_nums r fun m hm => h m (List.mem_cons_of_mem _ hm)⟩
theorem sm_full {id : ByteArray} {l : List Int} (hid : id.size ≤ 10000000) (h : ∀ n ∈ l, I64 n) : Sm (full_anyT id l) :=
  ⟨by decide, by have := U.fix_size id; omega, trivial, trivial, by decide, by decide, sm_nums l h, trivial, trivial⟩
def SpI (e : Sp) : Prop := I64 e.st ∧ I64 e.de ∧ ∀ n ∈ e.li, I64 n
theorem sm_splices : ∀ (l : List Sp), (∀ e ∈ l, SpI e) → Sm (listSpT l)
  | [], _ => trivial
  | e :: r, h => by
    obtain ⟨h1, h2, h3⟩ := h e (List.mem_cons_self ..)
    exact ⟨by decide, by decide, trivial, ⟨by decide, sm_num h1, trivial, trivial, by decide, sm_num h2, trivial, trivial, by decide, by decide, sm_nums e.li h3, trivial, trivial⟩, sm_splices r fun m hm => h m (List.mem_cons_of_mem _ hm)⟩
theorem sm_delta {id : ByteArray} {l : List Sp} (hid : id.size ≤ 10000000) (h : ∀ e ∈ l, SpI e) : Sm (delta_anyT id l) :=
  ⟨by decide, by have := U.fix_size id; omega, trivial, trivial, by decide, by decide, sm_splices l h, trivial, trivial⟩
theorem sm_foldL : ∀ (l : List Fo), (∀ e ∈ l, I64 e.a ∧ I64 e.b) → Sm (listFoT l)
  | [], _ => trivial
  | e :: r, h => by
    obtain ⟨h1, h2⟩ := h e (List.mem_cons_self ..)
    refine ⟨by decide, by decide, trivial, ⟨by decide, sm_num h1, trivial, trivial, by decide, sm_num h2, trivial, trivial, ?_⟩, sm_foldL r fun m hm => h m (List.mem_cons_of_mem _ hm)⟩
    cases e.cm
    · exact trivial
    · exact ⟨by decide, by decide, trivial, trivial, trivial⟩
theorem sm_pos {a b : Int} (h1 : I64 a) (h2 : I64 b) : Sm (posT a b) := ⟨by decide, sm_num h1, trivial, trivial, by decide, sm_num h2, trivial, trivial, trivial⟩
theorem sm_range {r : Rg} (h : r.Ok) : Sm (rangeT r.a r.b r.c r.d) := ⟨by decide, by decide, trivial, sm_pos h.1 h.2.1, by decide, by decide, trivial, sm_pos h.2.2.1 h.2.2.2, trivial⟩
theorem sm_chain : ∀ (l : List Rg), (∀ r ∈ l, r.Ok) → Sm (chainT l)
  | [], _ => trivial
  | r :: l, h => by
    refine ⟨by decide, by decide, trivial, sm_range (h r (List.mem_cons_self ..)), ?_⟩
    cases l with
    | nil => exact trivial
    | cons a b => exact ⟨by decide, by decide, trivial, sm_chain (a :: b) fun m hm => h m (List.mem_cons_of_mem _ hm), trivial⟩
theorem sm_chains : ∀ (l : List Ch), (∀ e ∈ l, ∀ r ∈ e.l, r.Ok) → Sm (listChT l)
  | [], _ => trivial
  | e :: r, h => ⟨by decide, by decide, trivial, sm_chain e.l (h e (List.mem_cons_self ..)), sm_chains r fun m hm => h m (List.mem_cons_of_mem _ hm)⟩
end Go.Proofs.YtbkciiogkgndiaaGreatDoor
