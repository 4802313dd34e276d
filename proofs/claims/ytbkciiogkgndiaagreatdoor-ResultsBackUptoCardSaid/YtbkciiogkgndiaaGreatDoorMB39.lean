/- The program's chain: an object within an object, put together from the last range on. Conditions: at most 10^6 ranges; the library's table of powers. -/
import Derived.Test.YtbkciiogkgndiaaGreatDoorMB38
namespace Go.Proofs.YtbkciiogkgndiaaGreatDoor
open Go Go.RowKit Go.Shelf Go.Lib

attribute [local go_sem] Oper.semAt_some

theorem keeps_below {W W' : World} (h : Below W.heap.size W W') : KeepsOthers W W' := ⟨h.size, fun k o hk _ => (h.block k (Array.getElem?_eq_some_iff.1 hk).1).trans hk⟩
theorem src_cells {w : World} {p : Option Addr} {n c : Nat} {ls : List Rg} (h : SrcR w (.slice p n c) ls) : n = ls.length ∧ (∀ r ∈ ls, r.Ok) ∧ ∀ i, i < ls.length → ∃ b o, p = some ⟨b, o, none⟩ ∧ ∀ W, Below w.heap.size w W → W.cell? ⟨b, o + i * 4, none⟩ = some (.int .i64 (rgAt ls i).a) ∧ W.cell? ⟨b, o + i * 4 + 1, none⟩ = some (.int .i64 (rgAt ls i).b) ∧ W.cell? ⟨b, o + i * 4 + 2, none⟩ = some (.int .i64 (rgAt ls i).c) ∧ W.cell? ⟨b, o + i * 4 + 3, none⟩ = some (.int .i64 (rgAt ls i).d) := by
  rcases h with ⟨rfl, p', c', e, _⟩ | ⟨b, o, c', e, h1, h2, h3, h4, h5⟩
  · cases e
    exact ⟨rfl, fun r hr => (by cases hr), fun i hi => (by cases hi)⟩
  · cases e
    refine ⟨rfl, h5, fun i hi => ⟨b, o, rfl, fun W hB => ?_⟩⟩
    have e1 : rgAt ls i = ls[i] := by
      unfold rgAt
      rw [List.getD_eq_getElem?_getD, List.getElem?_eq_getElem hi]
      rfl
    have h6 := h4 i _ (List.getElem?_eq_getElem hi)
    rw [e1]
    exact ⟨(hB.cell (p := ⟨b, o + i * 4, none⟩) h3).trans h6.1, (hB.cell (p := ⟨b, o + i * 4 + 1, none⟩) h3).trans h6.2.1, (hB.cell (p := ⟨b, o + i * 4 + 2, none⟩) h3).trans h6.2.2.1, (hB.cell (p := ⟨b, o + i * 4 + 3, none⟩) h3).trans h6.2.2.2⟩
theorem blk4_row {X Y : World} {B b : Nat} {t : TypeId} {x0 x1 x2 x3 : Value} {row : Option Nat} (h : Blk4 X b t x0 x1 x2 x3) (hg : X.grownBy Y row) (hr : ∀ r, row = some r → B ≤ r ∧ ∃ o : Obj, X.heap[r]? = some o ∧ o.isCells = false) : Blk4 Y b t x0 x1 x2 x3 :=
  h.same (hg.block b h.lt (fun e => by
    obtain ⟨-, o, ho, hc⟩ := hr b e.symm
    rw [show X.heap[b]? = _ from h] at ho
    cases ho
    cases hc))

set_option maxHeartbeats 4000000 in
set_option maxRecDepth 100000 in
theorem chain_any (p : Option Addr) (n c : Nat) (ls : List Rg) (N : Nat) (w : World) (hN : N ≤ w.heap.size) (hs : SrcR w (.slice p n c) ls) (hl : ls.length ≤ 1000000) (hP : PowTab w) :
    Calls Tryz.prog 116 #[.slice p n c] w (RetV N (chainK ls) ⟨#[]⟩ .nil (chainT ls) w) := by
  obtain ⟨rfl, hok, hE⟩ := src_cells hs
  obtain ⟨i0, hi0, hz0, hz1, hz2⟩ := info_parts infoAny
  have HPo := Lib.hid (fun W (h : Below w.heap.size w W) => pow_below hP h)
  have HOk := Lib.hid (fun i => rg_at_ok hok i)
  clear hP hok hs
  refine (callsIn_wide (n := 5)).1 ?_
  refine callsIn_of_wp_marks Tryz.func116 rfl trivial ?_ rfl
  simp only [Tryz.ntmps116, List.size_toArray, List.length_cons, List.length_nil, Nat.reduceAdd, Nat.reduceSub, Array.replicate_succ, Array.replicate_zero, List.push_toArray, List.append_toArray, List.nil_append, List.cons_append]
  gi_wp2
  refine ⟨trivial, (callsIn_wide.2 (back_any _ _ ⟨_, _, _, rfl⟩)).mono ?_⟩
  rintro e w' ⟨rfl, rfl⟩
  gi_wp2
  have bL := ((Boxed.new w 165 (.slice p ls.length c)).alloc (.cells #[.int .u8 0, .string ⟨#[]⟩, .slice none 0 0, .slice none 0 0] 25)).alloc (.cells #[.slice p ls.length c] 165)
  have bS := Boxed.new ((w.alloc (.cells #[.slice p ls.length c] 165)).alloc (.cells #[.int .u8 0, .string ⟨#[]⟩, .slice none 0 0, .slice none 0 0] 25)) 165 (.slice p ls.length c)
  have bV0 : Blk4 ((w.alloc (.cells #[.slice p ls.length c] 165)).alloc (.cells #[.int .u8 0, .string ⟨#[]⟩, .slice none 0 0, .slice none 0 0] 25)) (w.heap.size + 1) 25 (.int .u8 0) (.string ⟨#[]⟩) (.slice none 0 0) (.slice none 0 0) := (two_new w _ _).2
  have bV := bV0.same (Below.heap_alloc ((w.alloc (.cells #[.slice p ls.length c] 165)).alloc (.cells #[.int .u8 0, .string ⟨#[]⟩, .slice none 0 0, .slice none 0 0] 25)) (.cells #[.slice p ls.length c] 165) (w.heap.size + 1) bV0.lt)
  have hB0 : Below w.heap.size w (((w.alloc (.cells #[.slice p ls.length c] 165)).alloc (.cells #[.int .u8 0, .string ⟨#[]⟩, .slice none 0 0, .slice none 0 0] 25)).alloc (.cells #[.slice p ls.length c] 165)) := (two_below w _ _).alloc (by simp; omega) _
  have hsz : (((w.alloc (.cells #[.slice p ls.length c] 165)).alloc (.cells #[.int .u8 0, .string ⟨#[]⟩, .slice none 0 0, .slice none 0 0] 25)).alloc (.cells #[.slice p ls.length c] 165)).heap.size = w.heap.size + 3 := by simp
  simp only [World.size_alloc] at bS
  obtain ⟨W0, hW0⟩ : ∃ W0, ((w.alloc (.cells #[.slice p ls.length c] 165)).alloc (.cells #[.int .u8 0, .string ⟨#[]⟩, .slice none 0 0, .slice none 0 0] 25)).alloc (.cells #[.slice p ls.length c] 165) = W0 := ⟨_, rfl⟩
  try simp only [World.size_alloc]
  rw [hW0] at bL bS bV hB0 hsz ⊢
  clear hW0 bV0
  refine wpIn_rangeFunc_ownH rfl (by decide) (gf := 197) (lb := #[.pointer (some ⟨w.heap.size + 2, 0, none⟩)]) rfl trivial (enters_of Tryz.func197 (by kernel_rfl) rfl)
    (back_stops (5 - 1) (w.heap.size + 2) w.heap.size ls.length c p (by decide) ls hl w W0 hE (by omega) (by omega) hB0 bS.cell) kpR_t (fun W l o o' hl h ho hw => kpR_b (w := W0) (by omega) W l o o' hl h ho hw) (Below.refl _ _) (fun _ => rfl)
    (fun pre W => ((VBox (w.heap.size + 3) (w.heap.size + 1) (chR ls pre).1 (chR ls pre).2 W ∧ Boxed W w.heap.size 165 (.slice p ls.length c)) ∧ Boxed W (w.heap.size + 2) 165 (.slice p ls.length c)) ∧ Below w.heap.size w W)
    (fun _ _ _ => False)
    (OwnFrom.and (OwnFrom.and (OwnFrom.and (vbox_own _ _ _ _ _) (Own.from (boxed_own _ _ _) _)) (Own.from (boxed_own _ _ _) _)) (ownFrom_below (Nat.le_refl _) (by omega)))
    (fun _ _ _ _ _ hs _ _ => hs)
    ⟨⟨⟨⟨_, _, _, _, _, _, bV, HS.nil _ _ _, HS.nil _ _ _⟩, bL⟩, bS⟩, hB0⟩
    (fun k a' W => ∃ B, w.heap.size + 2 < B ∧ Blk4 W B 67 (.int .i64 (rgAt ls k).a) (.int .i64 (rgAt ls k).b) (.int .i64 (rgAt ls k).c) (.int .i64 (rgAt ls k).d) ∧ a' = { tmps := #[.slice p ls.length c, .pointer (some ⟨w.heap.size, 0, none⟩), .pointer (some ⟨w.heap.size + 1, 0, none⟩), .int .i64 k, .pointer (some ⟨B, 0, none⟩), undef, .slice p ls.length c, .func (.func 197) #[] #[.pointer (some ⟨w.heap.size + 2, 0, none⟩)], .int .i64 k, .agg #[.int .i64 (rgAt ls k).a, .int .i64 (rgAt ls k).b, .int .i64 (rgAt ls k).c, .int .i64 (rgAt ls k).d], undef, undef, undef, undef, undef, undef, undef, undef, undef, undef, undef, undef, undef, undef, undef, undef, undef, undef, undef], defers := [] })
    (fun k a' _ X Y row hs hg hr => by obtain ⟨B, h1, h2, h3⟩ := hs; exact ⟨B, h1, blk4_row h2 hg hr, h3⟩)
    ?assign ?body ?done ?stop
  case assign =>
    rintro l pre x W K ⟨⟨⟨bv, b1⟩, b2⟩, hB⟩ hK
    unfold Rg.v
    have hBa := (Below.refl W.heap.size W).alloc (Nat.le_refl _) (.cells #[.int .i64 (rgAt ls x).a, .int .i64 (rgAt ls x).b, .int .i64 (rgAt ls x).c, .int .i64 (rgAt ls x).d] 67)
    have HQ := Lib.hid (And.intro (bv.on hBa) (And.intro (b1.alloc (.cells #[.int .i64 (rgAt ls x).a, .int .i64 (rgAt ls x).b, .int .i64 (rgAt ls x).c, .int .i64 (rgAt ls x).d] 67)) (And.intro (b2.alloc (.cells #[.int .i64 (rgAt ls x).a, .int .i64 (rgAt ls x).b, .int .i64 (rgAt ls x).c, .int .i64 (rgAt ls x).d] 67)) (And.intro hBa (show w.heap.size + 2 < W.heap.size from b2.lt)))))
    have HB := Lib.hid hB
    clear hBa bv b1 b2 hB
    gi_wp2
    exact hK _ _ ((KeepsOthers.alloc _ _).from _) ⟨HQ.out.2.2.2.1.mono HB.out.size, fun _ => HQ.out.2.2.1.cell⟩ ⟨⟨⟨HQ.out.1, HQ.out.2.1⟩, HQ.out.2.2.1⟩, HB.out.trans (HQ.out.2.2.2.1.mono HB.out.size)⟩ ⟨W.heap.size, HQ.out.2.2.2.2, heap_alloc_new _ _, rfl⟩
  case body =>
    rintro l pre x a' W hl' ⟨r, hr⟩ ⟨⟨⟨bv, b1⟩, b2⟩, hB⟩ ⟨B, hBx, bX, rfl⟩ hlt
    obtain ⟨p0, n0, c0, q0, m0, d0, bV, hv0, hv1⟩ := bv
    have hkp := chR_lt ls pre
    have ho := HOk.out x
    have hpl := place_any (rgAt ls x).a (rgAt ls x).b (rgAt ls x).c (rgAt ls x).d (w.heap.size + 3) W ho.1 ho.2.1 ho.2.2.1 ho.2.2.2 (by have := b2.lt; omega) (HPo.out W hB)
    obtain ⟨y0, y1, y2, y3⟩ := bX.box
    have HC := Lib.hid (chR_snoc ls pre x)
    have HG := Lib.hid (And.intro bV (And.intro b1 (And.intro b2 (And.intro (And.intro hv0 (And.intro hv1 hkp)) hB))))
    generalize rgAt ls x = g at *
    generalize (chR ls pre).1 = kp at *
    generalize (chR ls pre).2 = fp at *
    clear bV b1 b2 hv0 hv1 hkp hB ho hr hlt bX
    gi_wp2
    refine ⟨trivial, (CallsIn.inRound l (callsIn_wide.2 hpl)).mono ?_⟩
    rintro e w1 ⟨y, rfl, ⟨p1, n1, c1, q1, m1, d1, rfl, hl1, hf1⟩, hB1⟩
    clear y0 y1 y2 y3 hpl
    have hBc := (Below.refl w1.heap.size w1).alloc (Nat.le_refl _) (.cells #[.iface 9 (.string ⟨#[114, 97, 110, 103, 101]⟩), .iface 25 (.agg #[.int .u8 6, .string ⟨#[]⟩, .slice p1 n1 c1, .slice q1 m1 d1])] 20)
    have hBd := hB1.trans (hBc.mono hB1.size)
    have own2 := World.ownsRow_lit (base := w.heap.size + 3) (e := 20) (size := 1) w1 #[.iface 9 (.string ⟨#[114, 97, 110, 103, 101]⟩), .iface 25 (.agg #[.int .u8 6, .string ⟨#[]⟩, .slice p1 n1 c1, .slice q1 m1 d1])] 2 (by have := hB1.size; have := HG.out.2.2.1.lt; omega) (by decide) rfl
    have bVc := HG.out.1.same (hBd.block _ HG.out.1.lt)
    have bLc : Boxed (w1.alloc (.cells #[.iface 9 (.string ⟨#[114, 97, 110, 103, 101]⟩), .iface 25 (.agg #[.int .u8 6, .string ⟨#[]⟩, .slice p1 n1 c1, .slice q1 m1 d1])] 20)) w.heap.size 165 (.slice p ls.length c) := (hBd.block _ HG.out.2.1.lt).trans HG.out.2.1
    have bSc : Boxed (w1.alloc (.cells #[.iface 9 (.string ⟨#[114, 97, 110, 103, 101]⟩), .iface 25 (.agg #[.int .u8 6, .string ⟨#[]⟩, .slice p1 n1 c1, .slice q1 m1 d1])] 20)) (w.heap.size + 2) 165 (.slice p ls.length c) := (hBd.block _ HG.out.2.2.1.lt).trans HG.out.2.2.1
    have hps := psf_new (cs := #[.iface 9 (.string ⟨#[114, 97, 110, 103, 101]⟩), .iface 25 (.agg #[.int .u8 6, .string ⟨#[]⟩, .slice p1 n1 c1, .slice q1 m1 d1])]) (N := w.heap.size + 3) (W := w1) (t := 20) (T := .cons ⟨#[114, 97, 110, 103, 101]⟩ 6 ⟨#[]⟩ .nil (rangeT g.a g.b g.c g.d) .nil) (m := 1) [vPt ⟨#[114, 97, 110, 103, 101]⟩ 6 ⟨#[]⟩ (.slice p1 n1 c1) (.slice q1 m1 d1) .nil (rangeT g.a g.b g.c g.d)] rfl rfl rfl (fun p hp => by
      simp only [List.mem_cons, List.not_mem_nil, or_false] at hp
      subst hp
      exact vPt_ok ⟨by decide, by decide, by decide⟩ hl1 hf1)
    have HM := Lib.hid (And.intro hps (And.intro own2 (And.intro hl1 (And.intro hf1 (And.intro hB1 (And.intro bSc.lt hBd))))))
    have cL := bLc.cell
    obtain ⟨z0, z1, z2, z3⟩ := bVc.box
    clear hl1 hf1 hB1 hBc hBd own2 bVc bLc bSc hps
    by_cases hx : x + 1 < ls.length
    · have hx1 : (x : Int) < (ls.length : Int) - 1 := by omega
      have HX := Lib.hid hx
      clear hx
      have hBk := (Below.refl (w1.alloc (.cells #[.iface 9 (.string ⟨#[114, 97, 110, 103, 101]⟩), .iface 25 (.agg #[.int .u8 6, .string ⟨#[]⟩, .slice p1 n1 c1, .slice q1 m1 d1])] 20)).heap.size (w1.alloc (.cells #[.iface 9 (.string ⟨#[114, 97, 110, 103, 101]⟩), .iface 25 (.agg #[.int .u8 6, .string ⟨#[]⟩, .slice p1 n1 c1, .slice q1 m1 d1])] 20))).alloc (Nat.le_refl _) (.cells #[.iface 9 (.string ⟨#[112, 97, 114, 101, 110, 116]⟩), .iface 25 (.agg #[.int .u8 kp, .string ⟨#[]⟩, .slice p0 n0 c0, .slice q0 m0 d0])] 20)
      have hnews : ∀ (j : Nat) (u : Value), (#[.iface 9 (.string ⟨#[112, 97, 114, 101, 110, 116]⟩), .iface 25 (.agg #[.int .u8 kp, .string ⟨#[]⟩, .slice p0 n0 c0, .slice q0 m0 d0])] : Array Value).toList[j]? = some u → ((w1.alloc (.cells #[.iface 9 (.string ⟨#[114, 97, 110, 103, 101]⟩), .iface 25 (.agg #[.int .u8 6, .string ⟨#[]⟩, .slice p1 n1 c1, .slice q1 m1 d1])] 20)).alloc (.cells #[.iface 9 (.string ⟨#[112, 97, 114, 101, 110, 116]⟩), .iface 25 (.agg #[.int .u8 kp, .string ⟨#[]⟩, .slice p0 n0 c0, .slice q0 m0 d0])] 20)).cell? ((⟨(w1.alloc (.cells #[.iface 9 (.string ⟨#[114, 97, 110, 103, 101]⟩), .iface 25 (.agg #[.int .u8 6, .string ⟨#[]⟩, .slice p1 n1 c1, .slice q1 m1 d1])] 20)).heap.size, 0, none⟩ : Addr).add j) = some u := fun j u hu => by
        have hadd : (⟨(w1.alloc (.cells #[.iface 9 (.string ⟨#[114, 97, 110, 103, 101]⟩), .iface 25 (.agg #[.int .u8 6, .string ⟨#[]⟩, .slice p1 n1 c1, .slice q1 m1 d1])] 20)).heap.size, 0, none⟩ : Addr).add j = ⟨(w1.alloc (.cells #[.iface 9 (.string ⟨#[114, 97, 110, 103, 101]⟩), .iface 25 (.agg #[.int .u8 6, .string ⟨#[]⟩, .slice p1 n1 c1, .slice q1 m1 d1])] 20)).heap.size, j, none⟩ := by unfold Addr.add; split <;> simp_all
        rw [hadd, cell_of_row _ _ j _ _ (0, 0) (heap_alloc_new _ _), ← Array.getElem?_toList]
        exact hu
      rw [World.size_alloc] at hnews
      have HO := Lib.hid (And.intro (ownsRow_below HM.out.2.1 hBk) (And.intro hnews hBk))
      clear hnews hBk
      gi_wp2_with (gi_at_builtin; refine wpListIn_append_own _ rfl _ _ 207 rfl (w.heap.size + 3) 20 i0 _ 1 16 Tryz.underlying207 hi0 hz0 hz1 hz2 rfl (by decide) _ 2 [.iface 9 (.string ⟨#[114, 97, 110, 103, 101]⟩), .iface 25 (.agg #[.int .u8 6, .string ⟨#[]⟩, .slice p1 n1 c1, .slice q1 m1 d1])] rfl HO.out.1 ⟨w1.heap.size + 1, 0, none⟩ 2 2 [.iface 9 (.string ⟨#[112, 97, 114, 101, 110, 116]⟩), .iface 25 (.agg #[.int .u8 kp, .string ⟨#[]⟩, .slice p0 n0 c0, .slice q0 m0 d0])] rfl rfl HO.out.2.1 (fun u hu => by
        simp only [List.mem_cons, List.not_mem_nil, or_false] at hu
        rcases hu with rfl | rfl <;> rfl) (by decide) (by decide) (by have := HO.out.2.2.size; have := HM.out.2.2.2.2.2.1; omega) ?_; intro v4 w4 own4 hg4 _; obtain ⟨g4, cap4, rfl⟩ := ownsRow_succ own4)
      have hB4 : Below w1.heap.size w1 w4 := (((Below.refl w1.heap.size w1).alloc (Nat.le_refl _) (.cells #[.iface 9 (.string ⟨#[114, 97, 110, 103, 101]⟩), .iface 25 (.agg #[.int .u8 6, .string ⟨#[]⟩, .slice p1 n1 c1, .slice q1 m1 d1])] 20)).alloc (by simp) (.cells #[.iface 9 (.string ⟨#[112, 97, 114, 101, 110, 116]⟩), .iface 25 (.agg #[.int .u8 kp, .string ⟨#[]⟩, .slice p0 n0 c0, .slice q0 m0 d0])] 20)).grown hg4 (by simp; omega) (fun k hk => by
        cases hk
        exact Nat.le_refl _)
      have hBw4 := HM.out.2.2.2.2.1.trans (hB4.mono HM.out.2.2.2.2.1.size)
      have hob := Lib.hid (obj_own (N := w.heap.size + 3) (m := 2) [vPt ⟨#[114, 97, 110, 103, 101]⟩ 6 ⟨#[]⟩ (.slice p1 n1 c1) (.slice q1 m1 d1) .nil (rangeT g.a g.b g.c g.d), vPt ⟨#[112, 97, 114, 101, 110, 116]⟩ kp ⟨#[]⟩ (.slice p0 n0 c0) (.slice q0 m0 d0) .nil fp] (by have := hBw4.size; have := HG.out.2.2.1.lt; omega) (by show 2 ≤ 100; decide) rfl own4 (by decide) (fun p hp => by
        simp only [List.mem_cons, List.not_mem_nil, or_false] at hp
        rcases hp with rfl | rfl
        · exact vPt_ok ⟨by decide, by decide, by decide⟩ (HM.out.2.2.1.freB hB4) (HM.out.2.2.2.1.freB hB4)
        · exact vPt_ok ⟨HG.out.2.2.2.1.2.2, by decide, by decide⟩ (HG.out.2.2.2.1.1.freB hBw4) (HG.out.2.2.2.1.2.1.freB hBw4)) (HPo.out _ (HG.out.2.2.2.2.trans (hBw4.mono HG.out.2.2.2.2.size))))
      have HB4 := Lib.hid hBw4
      clear hB4 hBw4 own4 hg4 HO
      refine ⟨trivial, (CallsIn.inRound l (callsIn_wide.2 hob.out)).mono ?_⟩
      rintro e wz ⟨y, rfl, ⟨p3, n3, d3, q3, m3, e3, rfl, h1, h2⟩, hBz⟩
      have h159 := HB4.out.trans (hBz.mono HB4.out.size)
      have bVz := HG.out.1.same (h159.block _ HG.out.1.lt)
      have bLz : Boxed wz w.heap.size 165 (.slice p ls.length c) := (h159.block _ HG.out.2.1.lt).trans HG.out.2.1
      have bSz : Boxed wz (w.heap.size + 2) 165 (.slice p ls.length c) := (h159.block _ HG.out.2.2.1.lt).trans HG.out.2.2.1
      clear cL z0 z1 z2 z3 hBz
      have b2 := bVz
      have H2 := Lib.hid (And.intro h1 (And.intro h2 (And.intro b2 (And.intro bLz (And.intro bSz h159)))))
      obtain ⟨x0, x1, x2, x3⟩ := b2.box
      have f0 := b2.free 0
      have f1 := b2.free 1
      have f2 := b2.free 2
      have f3 := b2.free 3
      clear h1 h2 b2 h159 bVz bLz bSz
      gi_wp2
      obtain ⟨g1, gs, g3⟩ := H2.out.2.2.1.all (.int .u8 6) (.string ⟨#[]⟩) (.slice p3 n3 d3) (.slice q3 m3 e3)
      have hw3 := set4_else wz (w.heap.size + 1) (.int .u8 6) (.string ⟨#[]⟩) (.slice p3 n3 d3) (.slice q3 m3 e3)
      have g3' := g3 w.heap.size (Nat.le_add_right _ _)
      have HK := Lib.hid (((((KeepsOthers.setCell wz ⟨w.heap.size + 1, 0, none⟩ (.int .u8 6)).trans (KeepsOthers.setCell _ ⟨w.heap.size + 1, 1, none⟩ (.string ⟨#[]⟩))).trans (KeepsOthers.setCell _ ⟨w.heap.size + 1, 2, none⟩ (.slice p3 n3 d3))).trans (KeepsOthers.setCell _ ⟨w.heap.size + 1, 3, none⟩ (.slice q3 m3 e3))))
      clear x0 x1 x2 x3 f0 f1 f2 f3
      generalize (((wz.setCell ⟨w.heap.size + 1, 0, none⟩ (.int .u8 6)).setCell ⟨w.heap.size + 1, 1, none⟩ (.string ⟨#[]⟩)).setCell ⟨w.heap.size + 1, 2, none⟩ (.slice p3 n3 d3)).setCell ⟨w.heap.size + 1, 3, none⟩ (.slice q3 m3 e3) = w9 at *
      have bL9 : Boxed w9 w.heap.size 165 (.slice p ls.length c) := (hw3 _ (by omega)).trans H2.out.2.2.2.1
      have bS9 : Boxed w9 (w.heap.size + 2) 165 (.slice p ls.length c) := (hw3 _ (by omega)).trans H2.out.2.2.2.2.1
      have hBt : Below w.heap.size W w9 := (H2.out.2.2.2.2.2.mono HG.out.2.2.2.2.size).trans g3'
      refine ⟨((keeps_below H2.out.2.2.2.2.2).trans HK.out).from _, ⟨hBt, fun _ => bS9.cell⟩, ⟨⟨?_, bL9⟩, bS9⟩, HG.out.2.2.2.2.trans hBt⟩
      rw [HC.out]
      have hf := H2.out.1.fre (lo' := w.heap.size + 3) (w' := w9) (fun b hb => hb) (fun b hb _ => hw3 b (by omega))
      have hf2 := H2.out.2.1.fre (lo' := w.heap.size + 3) (w' := w9) (fun b hb => hb) (fun b hb _ => hw3 b (by omega))
      exact ⟨_, _, _, _, _, _, g1, hf, by rw [decide_eq_true HX.out]; exact hf2⟩
    · have hx1 : ¬ (x : Int) < (ls.length : Int) - 1 := by omega
      have HX := Lib.hid hx
      clear hx
      have hob := Lib.hid (obj_ret (N := w.heap.size + 3) (by have := HM.out.2.2.2.2.2.1; omega) (by decide) HM.out.1 (HPo.out _ (HG.out.2.2.2.2.trans (HM.out.2.2.2.2.2.2.mono HG.out.2.2.2.2.size))))
      gi_wp2
      refine ⟨trivial, (CallsIn.inRound l (callsIn_wide.2 hob.out)).mono ?_⟩
      rintro e wz ⟨y, rfl, ⟨p3, n3, d3, q3, m3, e3, rfl, h1, h2⟩, hBz⟩
      have h159 := HM.out.2.2.2.2.2.2.trans (hBz.mono HM.out.2.2.2.2.2.2.size)
      have bVz := HG.out.1.same (h159.block _ HG.out.1.lt)
      have bLz : Boxed wz w.heap.size 165 (.slice p ls.length c) := (h159.block _ HG.out.2.1.lt).trans HG.out.2.1
      have bSz : Boxed wz (w.heap.size + 2) 165 (.slice p ls.length c) := (h159.block _ HG.out.2.2.1.lt).trans HG.out.2.2.1
      clear cL z0 z1 z2 z3 hBz
      have b2 := bVz
      have H2 := Lib.hid (And.intro h1 (And.intro h2 (And.intro b2 (And.intro bLz (And.intro bSz h159)))))
      obtain ⟨x0, x1, x2, x3⟩ := b2.box
      have f0 := b2.free 0
      have f1 := b2.free 1
      have f2 := b2.free 2
      have f3 := b2.free 3
      clear h1 h2 b2 h159 bVz bLz bSz
      gi_wp2
      obtain ⟨g1, gs, g3⟩ := H2.out.2.2.1.all (.int .u8 6) (.string ⟨#[]⟩) (.slice p3 n3 d3) (.slice q3 m3 e3)
      have hw3 := set4_else wz (w.heap.size + 1) (.int .u8 6) (.string ⟨#[]⟩) (.slice p3 n3 d3) (.slice q3 m3 e3)
      have g3' := g3 w.heap.size (Nat.le_add_right _ _)
      have HK := Lib.hid (((((KeepsOthers.setCell wz ⟨w.heap.size + 1, 0, none⟩ (.int .u8 6)).trans (KeepsOthers.setCell _ ⟨w.heap.size + 1, 1, none⟩ (.string ⟨#[]⟩))).trans (KeepsOthers.setCell _ ⟨w.heap.size + 1, 2, none⟩ (.slice p3 n3 d3))).trans (KeepsOthers.setCell _ ⟨w.heap.size + 1, 3, none⟩ (.slice q3 m3 e3))))
      clear x0 x1 x2 x3 f0 f1 f2 f3
      generalize (((wz.setCell ⟨w.heap.size + 1, 0, none⟩ (.int .u8 6)).setCell ⟨w.heap.size + 1, 1, none⟩ (.string ⟨#[]⟩)).setCell ⟨w.heap.size + 1, 2, none⟩ (.slice p3 n3 d3)).setCell ⟨w.heap.size + 1, 3, none⟩ (.slice q3 m3 e3) = w9 at *
      have bL9 : Boxed w9 w.heap.size 165 (.slice p ls.length c) := (hw3 _ (by omega)).trans H2.out.2.2.2.1
      have bS9 : Boxed w9 (w.heap.size + 2) 165 (.slice p ls.length c) := (hw3 _ (by omega)).trans H2.out.2.2.2.2.1
      have hBt : Below w.heap.size W w9 := (H2.out.2.2.2.2.2.mono HG.out.2.2.2.2.size).trans g3'
      refine ⟨((keeps_below H2.out.2.2.2.2.2).trans HK.out).from _, ⟨hBt, fun _ => bS9.cell⟩, ⟨⟨?_, bL9⟩, bS9⟩, HG.out.2.2.2.2.trans hBt⟩
      rw [HC.out]
      have hf := H2.out.1.fre (lo' := w.heap.size + 3) (w' := w9) (fun b hb => hb) (fun b hb _ => hw3 b (by omega))
      have hf2 := H2.out.2.1.fre (lo' := w.heap.size + 3) (w' := w9) (fun b hb => hb) (fun b hb _ => hw3 b (by omega))
      exact ⟨_, _, _, _, _, _, g1, hf, by rw [decide_eq_false HX.out]; exact hf2⟩
  case done =>
    rintro D ys W hD rfl ⟨⟨⟨bv, b1⟩, b2⟩, hB⟩ hK
    rw [chR_backs ls _ (Nat.le_refl _), Nat.sub_self, List.drop_zero] at bv
    obtain ⟨p0, n0, c0, q0, m0, d0, bV, hv0, hv1⟩ := bv
    have HV := Lib.hid (And.intro bV (And.intro hv0 (And.intro hv1 (And.intro hB (And.intro hK hD)))))
    obtain ⟨x0, x1, x2, x3⟩ := bV.box
    have f0 := bV.free 0
    have f1 := bV.free 1
    have f2 := bV.free 2
    have f3 := bV.free 3
    generalize chainK ls = kk at *
    generalize chainT ls = tt at *
    clear bV hv0 hv1 b1 b2 hB hK hD
    gi_wp2
    obtain ⟨g1, gs, g3⟩ := HV.out.1.all (.int .u8 kk) (.string ⟨#[]⟩) (.slice p0 n0 c0) (.slice q0 m0 d0)
    have hw3 := set4_else W (w.heap.size + 1) (.int .u8 kk) (.string ⟨#[]⟩) (.slice p0 n0 c0) (.slice q0 m0 d0)
    have g3' := g3 w.heap.size (Nat.le_add_right _ _)
    clear x0 x1 x2 x3 f0 f1 f2 f3
    generalize (((W.setCell ⟨w.heap.size + 1, 0, none⟩ (.int .u8 kk)).setCell ⟨w.heap.size + 1, 1, none⟩ (.string ⟨#[]⟩)).setCell ⟨w.heap.size + 1, 2, none⟩ (.slice p0 n0 c0)).setCell ⟨w.heap.size + 1, 3, none⟩ (.slice q0 m0 d0) = w9 at *
    have hK9 : w9.heap[D]? = some (.deferred (some [])) := (hw3 D (by have := HV.out.2.2.2.2.2; omega)).trans HV.out.2.2.2.2.1
    refine ⟨by simp, .inl ⟨_, _, rfl, run_takeDeferred hK9, ?_⟩⟩
    have hne : D ≠ w.heap.size + 1 := by have := HV.out.2.2.2.2.2; omega
    have hBp : ∀ b, b ≠ D → (w9.putObj D (.deferred none)).heap[b]? = w9.heap[b]? := fun b hb => World.putObj_heap_other hb
    have gB : Below w.heap.size w9 (w9.putObj D (.deferred none)) := belowK_b (w := W0) (by omega) w9 D _ _ (by have := HV.out.2.2.2.2.2; omega) hK9 rfl rfl
    have gp := g1.same (hBp (w.heap.size + 1) hne.symm)
    have hl := ((HV.out.2.1.fre (lo' := w.heap.size + 3) (w' := w9) (fun b hb => hb) (fun b hb _ => hw3 b (by omega)))).own (grownBy_putObj' w9 D (.deferred none)) (B := 0) (fun r e => by cases e; exact ⟨Nat.zero_le _, _, hK9, rfl⟩)
    have hf := ((HV.out.2.2.1.fre (lo' := w.heap.size + 3) (w' := w9) (fun b hb => hb) (fun b hb _ => hw3 b (by omega)))).own (grownBy_putObj' w9 D (.deferred none)) (B := 0) (fun r e => by cases e; exact ⟨Nat.zero_le _, _, hK9, rfl⟩)
    have hBw : Below w.heap.size w (w9.putObj D (.deferred none)) := (HV.out.2.2.2.1.trans g3').trans gB
    generalize w9.putObj D (.deferred none) = w8 at *
    obtain ⟨x0, x1, x2, x3⟩ := gp.box
    refine ⟨.agg #[.int .u8 kk, .string ⟨#[]⟩, .slice p0 n0 c0, .slice q0 m0 d0], by simp [results, Tryz.results116, go_sem, x0, x1, x2, x3], ?_⟩
    exact ⟨_, rfl, VF.mk (hl.mono fun b hb _ => ⟨by have := hb.1; omega, hb.2⟩) (hf.mono fun b hb _ => ⟨by have := hb.1; omega, hb.2⟩), hBw⟩
  case stop =>
    rintro D c pre W _ _ h _
    exact h.elim
end Go.Proofs.YtbkciiogkgndiaaGreatDoor
