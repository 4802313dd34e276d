/- A fold's value. Conditions: the library's tables. -/
import Derived.Test.YtdgmbmoaeoakpaaDoorMC28
namespace Go.Proofs.YtdgmbmoaeoakpaaDoor
open Go Go.RowKit Go.Lib

def foldT (a b : Int) (cm : Bool) : V.T := .cons ⟨#[115, 116, 97, 114, 116, 76, 105, 110, 101]⟩ 3 ⟨(Lib.itoa a).toArray⟩ .nil .nil (.cons ⟨#[101, 110, 100, 76, 105, 110, 101]⟩ 3 ⟨(Lib.itoa b).toArray⟩ .nil .nil (if cm then .cons ⟨#[107, 105, 110, 100]⟩ 4 ⟨#[99, 111, 109, 109, 101, 110, 116]⟩ .nil .nil .nil else .nil))
theorem fix_com : U.fixS ⟨#[99, 111, 109, 109, 101, 110, 116]⟩ = ⟨#[99, 111, 109, 109, 101, 110, 116]⟩ := U.fixS_valid _ (by decide +kernel)
theorem infoAny : (Tryd.prog.info? 20).map (fun i => (i.zero, i.size, i.bytes)) = some (some .nilIface, 1, 16) := by kernel_rfl
/-- an object of parts that lie in the call's own row -/
theorem obj_own {N m c g : Nat} {w : World} {base : Nat} {t : TypeId} (ps : List Pt) (hN : N ≤ w.heap.size) (hm : ps.length ≤ 100) (hl : ps.length = m) (ho : w.ownsRow base t 1 (.slice (some ⟨g, 0, none⟩) (2 * m) c) (2 * m) (ifs ps)) (hm0 : 0 < m) (hok : ∀ p ∈ ps, p.Ok w (Fre N w)) (hP : PowTab w) :
    Calls Tryd.prog 53 #[.slice (some ⟨g, 0, none⟩) (2 * m) c] w (RetV N 6 ⟨#[]⟩ .nil (treeOf (fes ps)) w) := by
  subst hl
  have hc : 2 * ps.length ≤ c ∧ c ≤ 9223372036854775807 ∧ g < w.heap.size := by
    rcases ho.2 with ⟨h, _⟩ | ⟨g', c', cur, h, _, h2, h3, h4, _⟩
    · cases h
    · cases h; exact ⟨h3, h4, (Array.getElem?_eq_some_iff.1 h2).1⟩
  refine (objectR_any g (2 * ps.length) c ps (fun k => Fre N w k ∧ k < w.heap.size) w rfl ⟨hc.1, hc.2.1⟩ hm hc.2.2 (fun j u hu => ?_) (fun p hp => (hok p hp).imp (fun b hb hlt => ⟨hb, hlt⟩) (fun _ _ _ => rfl)) (fun k hk => hk.2) hP).mono ?_
  · have hj := (List.getElem?_eq_some_iff.1 hu).1
    rw [ifs_len] at hj
    rw [ho.cellAt j (by omega)]
    exact hu
  · rintro e w' ⟨u, he, hu, hB⟩
    refine ⟨_, he, VF.mk (HS.nil _ _ _) (hu.mono fun b hb _ => ?_), hB⟩
    rcases hb with ⟨h, hlt⟩ | h
    · exact h.imp h.1 (hB.block b hlt)
    · exact ⟨Nat.le_trans hN h.1, h.2⟩
set_option maxHeartbeats 2000000 in
set_option maxRecDepth 100000 in
theorem fold_any (a b : Int) (cm : Bool) (N : Nat) (w : World) (ha : I64 a) (hb : I64 b) (hN : N ≤ w.heap.size) (hP : PowTab w) (hT : Tabs w) : Calls Tryd.prog 60 #[.agg #[.int .i64 a, .int .i64 b, .bool cm]] w (RetV N 6 ⟨#[]⟩ .nil (foldT a b cm) w) := by
  obtain ⟨i0, hi0, hz0, hz1, hz2⟩ := info_parts infoAny
  have HPo := Lib.hid (fun W (h : Below w.heap.size w W) => pow_below hP h)
  have HX := Lib.hid (fun W (h : Below w.heap.size w W) => text4_any ⟨#[99, 111, 109, 109, 101, 110, 116]⟩ W (by decide) (by rw [fix_com]; decide) (tabs_below hT h))
  rw [fix_com] at HX
  have H0 := Lib.hid (mkG0 w 89 #[.int .i64 a, .int .i64 b, .bool cm])
  have HA := Lib.hid (And.intro ha hb)
  clear hP hT ha hb
  go_enter Tryd.func60, Tryd.ntmps60
  go_upto_region 1 with fail
  generalize (w.alloc (.cells #[.int .i64 a, .int .i64 b, .bool cm] 89)).alloc (.cells #[.int .u8 0, .string ⟨#[]⟩, .slice none 0 0, .slice none 0 0] 25) = W0 at *
  have c0 := H0.out.c 0 _ rfl
  have c1 := H0.out.c 1 _ rfl
  have hB1 := (Below.refl W0.heap.size W0).alloc (Nat.le_refl _) (.cells #[.iface 9 (.string ⟨#[115, 116, 97, 114, 116, 76, 105, 110, 101]⟩), .iface 3 (.int .i64 a), .iface 9 (.string ⟨#[101, 110, 100, 76, 105, 110, 101]⟩), .iface 3 (.int .i64 b)] 20)
  have hps := psf_new (cs := #[.iface 9 (.string ⟨#[115, 116, 97, 114, 116, 76, 105, 110, 101]⟩), .iface 3 (.int .i64 a), .iface 9 (.string ⟨#[101, 110, 100, 76, 105, 110, 101]⟩), .iface 3 (.int .i64 b)]) (N := w.heap.size + 2) (W := W0) (t := 20) (T := foldT a b false) (m := 2) [nPt ⟨#[115, 116, 97, 114, 116, 76, 105, 110, 101]⟩ a, nPt ⟨#[101, 110, 100, 76, 105, 110, 101]⟩ b] rfl rfl rfl (fun p hp => by
    simp only [List.mem_cons, List.not_mem_nil, or_false] at hp
    rcases hp with rfl | rfl
    · exact nPt_ok HA.out.1 (by decide)
    · exact nPt_ok HA.out.2 (by decide))
  have own1 := World.ownsRow_lit (base := w.heap.size + 2) (e := 20) (size := 1) W0 #[.iface 9 (.string ⟨#[115, 116, 97, 114, 116, 76, 105, 110, 101]⟩), .iface 3 (.int .i64 a), .iface 9 (.string ⟨#[101, 110, 100, 76, 105, 110, 101]⟩), .iface 3 (.int .i64 b)] 4 H0.out.lt (by decide) rfl
  have H1 := Lib.hid (And.intro hps (And.intro (H0.out.on hB1) own1))
  clear hB1 hps own1
  go_upto_region 2 with fail
  generalize W0.alloc (.cells #[.iface 9 (.string ⟨#[115, 116, 97, 114, 116, 76, 105, 110, 101]⟩), .iface 3 (.int .i64 a), .iface 9 (.string ⟨#[101, 110, 100, 76, 105, 110, 101]⟩), .iface 3 (.int .i64 b)] 20) = W1 at *
  have c2 := H1.out.2.1.c 2 _ rfl
  cases cm
  · have hob := Lib.hid (obj_ret (N := w.heap.size + 2) H1.out.2.1.lt (by decide) H1.out.1 (HPo.out _ H1.out.2.1.below))
    go_wp2_with fail
    refine hob.out.mono ?_
    rintro e wz ⟨y, rfl, ⟨p, n, d, q, m, d', rfl, h1, h2⟩, hB⟩
    have b2 := H1.out.2.1.b1.same (hB.block _ H1.out.2.1.b1.lt)
    have hBW := H1.out.2.1.below.trans (hB.mono H1.out.2.1.below.size)
    clear hB c0 c1 c2
    have H2 := Lib.hid (And.intro h1 (And.intro h2 (And.intro b2 hBW)))
    obtain ⟨x0, x1, x2, x3⟩ := b2.box
    have f0 := b2.free 0
    have f1 := b2.free 1
    have f2 := b2.free 2
    have f3 := b2.free 3
    clear h1 h2 b2 hBW
    go_wp2_with fail
    obtain ⟨g1, g2, g3⟩ := H2.out.2.2.1.all (.int .u8 6) (.string ⟨#[]⟩) (.slice p n d) (.slice q m d')
    have hw3 := set4_else wz (w.heap.size + 1) (.int .u8 6) (.string ⟨#[]⟩) (.slice p n d) (.slice q m d')
    have g3' := g3 w.heap.size (Nat.le_add_right _ _)
    clear x0 x1 x2 x3 f0 f1 f2 f3
    generalize (((wz.setCell ⟨w.heap.size + 1, 0, none⟩ (.int .u8 6)).setCell ⟨w.heap.size + 1, 1, none⟩ (.string ⟨#[]⟩)).setCell ⟨w.heap.size + 1, 2, none⟩ (.slice p n d)).setCell ⟨w.heap.size + 1, 3, none⟩ (.slice q m d') = w3 at *
    obtain ⟨x0, x1, x2, x3⟩ := g1.box
    refine bodyPost_ret (v := .agg #[.int .u8 6, .string ⟨#[]⟩, .slice p n d, .slice q m d']) (by simp [results, Tryd.results60, go_sem, x0, x1, x2, x3]) rfl ?_
    exact ⟨_, rfl, VF.mk (H2.out.1.fre (fun b hb => by omega) (fun b hb _ => hw3 b (by omega))) (H2.out.2.1.fre (fun b hb => by omega) (fun b hb _ => hw3 b (by omega))), H2.out.2.2.2.trans g3'⟩
  · go_wp2_with fail
    refine (HX.out W1 H1.out.2.1.below).mono ?_
    rintro e w2 ⟨rfl, hB2⟩
    have hB3 := (Below.refl w2.heap.size w2).alloc (Nat.le_refl _) (.cells #[.iface 9 (.string ⟨#[107, 105, 110, 100]⟩), .iface 25 (.agg #[.int .u8 4, .string ⟨#[99, 111, 109, 109, 101, 110, 116]⟩, .slice none 0 0, .slice none 0 0])] 20)
    have hBB := hB2.trans (hB3.mono hB2.size)
    have own3 := ownsRow_below H1.out.2.2 hBB
    have HM3 := Lib.hid (H1.out.2.1.on hBB)
    have hnews : ∀ (j : Nat) (u : Value), (#[.iface 9 (.string ⟨#[107, 105, 110, 100]⟩), .iface 25 (.agg #[.int .u8 4, .string ⟨#[99, 111, 109, 109, 101, 110, 116]⟩, .slice none 0 0, .slice none 0 0])] : Array Value).toList[j]? = some u → (w2.alloc (.cells #[.iface 9 (.string ⟨#[107, 105, 110, 100]⟩), .iface 25 (.agg #[.int .u8 4, .string ⟨#[99, 111, 109, 109, 101, 110, 116]⟩, .slice none 0 0, .slice none 0 0])] 20)).cell? ((⟨w2.heap.size, 0, none⟩ : Addr).add j) = some u := fun j u hu => by
      have hadd : (⟨w2.heap.size, 0, none⟩ : Addr).add j = ⟨w2.heap.size, j, none⟩ := by unfold Addr.add; split <;> simp_all
      rw [hadd, cell_of_row _ _ j _ _ (0, 0) (heap_alloc_new _ _), ← Array.getElem?_toList]
      exact hu
    have HO := Lib.hid (And.intro own3 hnews)
    clear hB2 hB3 hBB own3 hnews c0 c1 c2
    go_wp2_with (at_builtin; go_loud (refine wpList_append_lies _ rfl _ _ 110 rfl (w.heap.size + 2) 20 i0 _ 1 16 Tryd.underlying110 hi0 hz0 hz1 hz2 rfl (by decide) _ 4 [.iface 9 (.string ⟨#[115, 116, 97, 114, 116, 76, 105, 110, 101]⟩), .iface 3 (.int .i64 a), .iface 9 (.string ⟨#[101, 110, 100, 76, 105, 110, 101]⟩), .iface 3 (.int .i64 b)] rfl HO.out.1 ⟨w2.heap.size, 0, none⟩ 2 2 [.iface 9 (.string ⟨#[107, 105, 110, 100]⟩), .iface 25 (.agg #[.int .u8 4, .string ⟨#[99, 111, 109, 109, 101, 110, 116]⟩, .slice none 0 0, .slice none 0 0])] rfl rfl HO.out.2 (fun u hu => by
      simp only [List.mem_cons, List.not_mem_nil, or_false] at hu
      rcases hu with rfl | rfl <;> rfl) (by decide) (by decide) (by decide) HM3.out.lt _ rfl ?_))
    intro g cap w4 own4 hg4 _ _
    have hB4 : Below (w.heap.size + 2) (w2.alloc (.cells #[.iface 9 (.string ⟨#[107, 105, 110, 100]⟩), .iface 25 (.agg #[.int .u8 4, .string ⟨#[99, 111, 109, 109, 101, 110, 116]⟩, .slice none 0 0, .slice none 0 0])] 20)) w4 := (Below.refl _ _).grown hg4 HM3.out.lt (fun k hk => (HO.out.1.lt k hk).1)
    have hbw := HM3.out.below.trans (hB4.mono (by omega))
    have b4 := HM3.out.b1.same (hB4.block _ (by omega))
    have hob := Lib.hid (obj_own (N := w.heap.size + 2) (m := 3) [nPt ⟨#[115, 116, 97, 114, 116, 76, 105, 110, 101]⟩ a, nPt ⟨#[101, 110, 100, 76, 105, 110, 101]⟩ b, vPt ⟨#[107, 105, 110, 100]⟩ 4 ⟨#[99, 111, 109, 109, 101, 110, 116]⟩ (.slice none 0 0) (.slice none 0 0) .nil .nil] (Nat.le_trans HM3.out.lt hB4.size) (by show 3 ≤ 100; decide) rfl own4 (by decide) (fun p hp => by
      simp only [List.mem_cons, List.not_mem_nil, or_false] at hp
      rcases hp with rfl | rfl | rfl
      · exact nPt_ok HA.out.1 (by decide)
      · exact nPt_ok HA.out.2 (by decide)
      · exact vPt_ok ⟨by decide, by decide, by decide⟩ (HS.nil _ _ _) (HS.nil _ _ _)) (HPo.out _ hbw))
    have H4 := Lib.hid (And.intro b4 hbw)
    clear own4 hg4 hB4 hbw b4 HO HM3
    go_wp2_with fail
    refine hob.out.mono ?_
    rintro e wz ⟨y, rfl, ⟨p, n, d, q, m, d', rfl, h1, h2⟩, hB⟩
    have b2 := H4.out.1.same (hB.block _ H4.out.1.lt)
    have hBW := H4.out.2.trans (hB.mono H4.out.2.size)
    clear hB
    have H2 := Lib.hid (And.intro h1 (And.intro h2 (And.intro b2 hBW)))
    obtain ⟨x0, x1, x2, x3⟩ := b2.box
    have f0 := b2.free 0
    have f1 := b2.free 1
    have f2 := b2.free 2
    have f3 := b2.free 3
    clear h1 h2 b2 hBW
    go_wp2_with fail
    obtain ⟨g1, g2, g3⟩ := H2.out.2.2.1.all (.int .u8 6) (.string ⟨#[]⟩) (.slice p n d) (.slice q m d')
    have hw3 := set4_else wz (w.heap.size + 1) (.int .u8 6) (.string ⟨#[]⟩) (.slice p n d) (.slice q m d')
    have g3' := g3 w.heap.size (Nat.le_add_right _ _)
    clear x0 x1 x2 x3 f0 f1 f2 f3
    generalize (((wz.setCell ⟨w.heap.size + 1, 0, none⟩ (.int .u8 6)).setCell ⟨w.heap.size + 1, 1, none⟩ (.string ⟨#[]⟩)).setCell ⟨w.heap.size + 1, 2, none⟩ (.slice p n d)).setCell ⟨w.heap.size + 1, 3, none⟩ (.slice q m d') = w3 at *
    obtain ⟨x0, x1, x2, x3⟩ := g1.box
    refine bodyPost_ret (v := .agg #[.int .u8 6, .string ⟨#[]⟩, .slice p n d, .slice q m d']) (by simp [results, Tryd.results60, go_sem, x0, x1, x2, x3]) rfl ?_
    exact ⟨_, rfl, VF.mk (H2.out.1.fre (fun b hb => by omega) (fun b hb _ => hw3 b (by omega))) (H2.out.2.1.fre (fun b hb => by omega) (fun b hb _ => hw3 b (by omega))), H2.out.2.2.2.trans g3'⟩
end Go.Proofs.YtdgmbmoaeoakpaaDoor
