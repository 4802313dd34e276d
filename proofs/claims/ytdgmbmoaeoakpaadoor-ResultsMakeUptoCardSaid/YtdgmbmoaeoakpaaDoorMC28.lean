/- A range's value. Conditions: the library's table of powers. -/
import Derived.Test.YtdgmbmoaeoakpaaDoorMC27
namespace Go.Proofs.YtdgmbmoaeoakpaaDoor
open Go Go.RowKit Go.Lib

/-- a value within an interface -/
def IVP (N k : Nat) (x : ByteArray) (l f : V.T) (y : Value) (W : World) : Prop := ∃ z, y = .iface 25 z ∧ VF N k x l f z W
theorem IVP.on {N k : Nat} {x : ByteArray} {l f : V.T} {y : Value} {W W' : World} (h : IVP N k x l f y W) (hB : Below W.heap.size W W') : IVP N k x l f y W' := by
  obtain ⟨z, h1, h2⟩ := h
  exact ⟨z, h1, h2.on hB⟩
/-- a struct's box, and the answer's behind it -/
structure MkG (w : World) (t : TypeId) (cs : Array Value) (W : World) : Prop where
  below : Below w.heap.size w W
  lt : w.heap.size + 2 ≤ W.heap.size
  b0 : W.heap[w.heap.size]? = some (.cells cs t (0, 0))
  b1 : Blk4 W (w.heap.size + 1) 25 (.int .u8 0) (.string ⟨#[]⟩) (.slice none 0 0) (.slice none 0 0)
theorem MkG.on {w : World} {t : TypeId} {cs : Array Value} {W W' : World} (h : MkG w t cs W) (hB : Below W.heap.size W W') : MkG w t cs W' :=
  ⟨h.below.trans (hB.mono h.below.size), Nat.le_trans h.lt hB.size, (hB.block _ (Array.getElem?_eq_some_iff.1 h.b0).1).trans h.b0, h.b1.same (hB.block _ h.b1.lt)⟩
theorem MkG.c {w : World} {t : TypeId} {cs : Array Value} {W : World} (h : MkG w t cs W) (j : Nat) (v : Value) (hj : cs[j]? = some v) : W.cell? ⟨w.heap.size, j, none⟩ = some v := (cell_of_row W _ j _ _ (0, 0) h.b0).trans hj
theorem mkG0 (w : World) (t : TypeId) (cs : Array Value) : MkG w t cs ((w.alloc (.cells cs t)).alloc (.cells #[.int .u8 0, .string ⟨#[]⟩, .slice none 0 0, .slice none 0 0] 25)) := by
  have h := two_new w (.cells cs t) (.cells #[.int .u8 0, .string ⟨#[]⟩, .slice none 0 0, .slice none 0 0] 25)
  exact ⟨two_below _ _ _, by rw [two_size]; omega, h.1, h.2⟩
def rangeT (l1 c1 l2 c2 : Int) : V.T := .cons ⟨#[115, 116, 97, 114, 116]⟩ 6 ⟨#[]⟩ .nil (posT l1 c1) (.cons ⟨#[101, 110, 100]⟩ 6 ⟨#[]⟩ .nil (posT l2 c2) .nil)
def Fplace_any (l1 c1 l2 c2 : Int) (w : World) : Nat → Value → World → Prop
  | 0, y, _ => y = .iface 9 (.string ⟨#[115, 116, 97, 114, 116]⟩)
  | 1, y, _ => y = .pointer (some ⟨w.heap.size, 0, none⟩)
  | 2, y, _ => y = .agg #[.int .i64 l1, .int .i64 c1]
  | 3, y, W => VF (w.heap.size + 2) 6 ⟨#[]⟩ .nil (posT l1 c1) y W
  | 4, y, W => IVP (w.heap.size + 2) 6 ⟨#[]⟩ .nil (posT l1 c1) y W
  | 5, y, _ => y = .iface 9 (.string ⟨#[101, 110, 100]⟩)
  | 6, y, _ => y = .pointer (some ⟨w.heap.size, 2, none⟩)
  | 7, y, _ => y = .agg #[.int .i64 l2, .int .i64 c2]
  | 8, y, W => VF (w.heap.size + 2) 6 ⟨#[]⟩ .nil (posT l2 c2) y W
  | 9, y, W => IVP (w.heap.size + 2) 6 ⟨#[]⟩ .nil (posT l2 c2) y W
  | 10, y, W => PsF (w.heap.size + 2) 2 (rangeT l1 c1 l2 c2) y W
  | 11, y, W => VF (w.heap.size + 2) 6 ⟨#[]⟩ .nil (rangeT l1 c1 l2 c2) y W
  | _, _, _ => True
theorem Fplace_any.on {l1 c1 l2 c2 : Int} {w : World} {i : Nat} {y : Value} {W W' : World} (h : Fplace_any l1 c1 l2 c2 w i y W) (hB : Below W.heap.size W W') : Fplace_any l1 c1 l2 c2 w i y W' := by
  unfold Fplace_any at h ⊢
  split at h
  · exact h
  · exact h
  · exact h
  · exact h.on hB
  · exact h.on hB
  · exact h
  · exact h
  · exact h
  · exact h.on hB
  · exact h.on hB
  · exact h.on hB
  · exact h.on hB
  · trivial
set_option maxHeartbeats 4000000 in
set_option maxRecDepth 100000 in
theorem place_any (l1 c1 l2 c2 : Int) (N : Nat) (w : World) (h_l1 : I64 l1) (h_c1 : I64 c1) (h_l2 : I64 l2) (h_c2 : I64 c2) (hN : N ≤ w.heap.size) (hP : PowTab w) : Calls Tryd.prog 86 #[.agg #[.int .i64 l1, .int .i64 c1, .int .i64 l2, .int .i64 c2]] w (RetV N 6 ⟨#[]⟩ .nil (rangeT l1 c1 l2 c2) w) := by
  have HPo := Lib.hid (fun W (h : Below w.heap.size w W) => pow_below hP h)
  have H0 := Lib.hid (mkG0 w 74 #[.int .i64 l1, .int .i64 c1, .int .i64 l2, .int .i64 c2])
  clear hP
  go_enter Tryd.func86, Tryd.ntmps86
  go_upto_region 1 with fail
  generalize (w.alloc (.cells #[.int .i64 l1, .int .i64 c1, .int .i64 l2, .int .i64 c2] 74)).alloc (.cells #[.int .u8 0, .string ⟨#[]⟩, .slice none 0 0, .slice none 0 0] 25) = W0 at *
  have HX := Lib.hid (H0.out.on (Below.refl W0.heap.size W0).drew)
  refine wp_region_stepsF [some 3, some 4, some 5, some 6, some 7, some 8, some 9, some 10, some 11, some 12, some 13, some 14, none] _ _ (G := MkG w 74 #[.int .i64 l1, .int .i64 c1, .int .i64 l2, .int .i64 c2]) (F := Fplace_any l1 c1 l2 c2 w) (z := 12) (by kernel_rfl) rfl (by decide +kernel) rfl (by decide +kernel) (by decide +kernel) rfl (fun W W' h hB => h.on hB) (fun i y W W' h hB => h.on hB) ?_ ?_ HX.out
  · intro i o ho hz a W hg hd hold K' hK
    have HG := Lib.hid hg
    have hlt : i < 13 := (Array.getElem?_eq_some_iff.1 ho).1
    clear hg
    obtain rfl | rfl | rfl | rfl | rfl | rfl | rfl | rfl | rfl | rfl | rfl | rfl | rfl : i = 0 ∨ i = 1 ∨ i = 2 ∨ i = 3 ∨ i = 4 ∨ i = 5 ∨ i = 6 ∨ i = 7 ∨ i = 8 ∨ i = 9 ∨ i = 10 ∨ i = 11 ∨ i = 12 := by omega
    · obtain rfl := Option.some.inj ho
      clear hd hold
      go_simp
      exact hK.out _ _ (by rfl) (Below.refl _ _)
    · obtain rfl := Option.some.inj ho
      have o1 : a.tmps[1]? = _ := (hold 1 rfl).trans rfl
      clear hd hold
      go_simp
      exact hK.out _ _ (by rfl) (Below.refl _ _)
    · obtain rfl := Option.some.inj ho
      obtain ⟨y1, e1, h1⟩ := hd 1 4 rfl (by decide +kernel) (by decide)
      have h1 : y1 = _ := h1
      subst h1
      have g0 := HG.out.c 0 _ rfl
      have g1 := HG.out.c 1 _ rfl
      clear hd hold
      go_simp
      exact hK.out _ _ (by rfl) (Below.refl _ _)
    · obtain rfl := Option.some.inj ho
      obtain ⟨y2, e2, h2⟩ := hd 2 5 rfl (by decide +kernel) (by decide)
      have h2 : y2 = _ := h2
      subst h2
      have hcall := position_any l1 c1 (w.heap.size + 2) W h_l1 h_c1 HG.out.lt (HPo.out _ HG.out.below)
      have HC := Lib.hid hcall
      clear hd hold hcall
      go_simp
      go_at_call 103
      (with_reducible refine HC.out.mono ?_)
      rintro e W1 ⟨y, rfl, hv, hB⟩
      exact hK.out _ _ hv hB
    · obtain rfl := Option.some.inj ho
      obtain ⟨y3, e3, h3⟩ := hd 3 6 rfl (by decide +kernel) (by decide)
      obtain ⟨p3, n3, c3, q3, m3, d3, rfl, l3, f3⟩ : VF (w.heap.size + 2) 6 ⟨#[]⟩ .nil (posT l1 c1) y3 W := h3
      clear hd hold
      go_simp
      exact hK.out _ _ ⟨_, rfl, VF.mk l3 f3⟩ (Below.refl _ _)
    · obtain rfl := Option.some.inj ho
      clear hd hold
      go_simp
      exact hK.out _ _ (by rfl) (Below.refl _ _)
    · obtain rfl := Option.some.inj ho
      have o1 : a.tmps[1]? = _ := (hold 1 rfl).trans rfl
      clear hd hold
      go_simp
      exact hK.out _ _ (by rfl) (Below.refl _ _)
    · obtain rfl := Option.some.inj ho
      obtain ⟨y6, e6, h6⟩ := hd 6 9 rfl (by decide +kernel) (by decide)
      have h6 : y6 = _ := h6
      subst h6
      have g2 := HG.out.c 2 _ rfl
      have g3 := HG.out.c 3 _ rfl
      clear hd hold
      go_simp
      exact hK.out _ _ (by rfl) (Below.refl _ _)
    · obtain rfl := Option.some.inj ho
      obtain ⟨y7, e7, h7⟩ := hd 7 10 rfl (by decide +kernel) (by decide)
      have h7 : y7 = _ := h7
      subst h7
      have hcall := position_any l2 c2 (w.heap.size + 2) W h_l2 h_c2 HG.out.lt (HPo.out _ HG.out.below)
      have HC := Lib.hid hcall
      clear hd hold hcall
      go_simp
      go_at_call 103
      (with_reducible refine HC.out.mono ?_)
      rintro e W1 ⟨y, rfl, hv, hB⟩
      exact hK.out _ _ hv hB
    · obtain rfl := Option.some.inj ho
      obtain ⟨y8, e8, h8⟩ := hd 8 11 rfl (by decide +kernel) (by decide)
      obtain ⟨p8, n8, c8, q8, m8, d8, rfl, l8, f8⟩ : VF (w.heap.size + 2) 6 ⟨#[]⟩ .nil (posT l2 c2) y8 W := h8
      clear hd hold
      go_simp
      exact hK.out _ _ ⟨_, rfl, VF.mk l8 f8⟩ (Below.refl _ _)
    · obtain rfl := Option.some.inj ho
      obtain ⟨y0, e0, h0⟩ := hd 0 3 rfl (by decide +kernel) (by decide)
      have h0 : y0 = _ := h0
      subst h0
      obtain ⟨y4, e4, h4⟩ := hd 4 7 rfl (by decide +kernel) (by decide)
      obtain ⟨z4, rfl, p4, n4, c4, q4, m4, d4, rfl, l4, f4⟩ : IVP (w.heap.size + 2) 6 ⟨#[]⟩ .nil (posT l1 c1) y4 W := h4
      obtain ⟨y5, e5, h5⟩ := hd 5 8 rfl (by decide +kernel) (by decide)
      have h5 : y5 = _ := h5
      subst h5
      obtain ⟨y9, e9, h9⟩ := hd 9 12 rfl (by decide +kernel) (by decide)
      obtain ⟨z9, rfl, p9, n9, c9, q9, m9, d9, rfl, l9, f9⟩ : IVP (w.heap.size + 2) 6 ⟨#[]⟩ .nil (posT l2 c2) y9 W := h9
      have hps := psf_new (cs := #[.iface 9 (.string ⟨#[115, 116, 97, 114, 116]⟩), .iface 25 (.agg #[.int .u8 6, .string ⟨#[]⟩, .slice p4 n4 c4, .slice q4 m4 d4]), .iface 9 (.string ⟨#[101, 110, 100]⟩), .iface 25 (.agg #[.int .u8 6, .string ⟨#[]⟩, .slice p9 n9 c9, .slice q9 m9 d9])]) (N := (w.heap.size + 2)) (W := W) (t := 20) (T := (rangeT l1 c1 l2 c2)) (m := 2) [vPt ⟨#[115, 116, 97, 114, 116]⟩ 6 ⟨#[]⟩ (.slice p4 n4 c4) (.slice q4 m4 d4) .nil (posT l1 c1), vPt ⟨#[101, 110, 100]⟩ 6 ⟨#[]⟩ (.slice p9 n9 c9) (.slice q9 m9 d9) .nil (posT l2 c2)] rfl rfl rfl (fun p hp => by
        simp only [List.mem_cons, List.not_mem_nil, or_false] at hp
        rcases hp with rfl | rfl
        · exact vPt_ok ⟨by decide, by decide, by decide⟩ l4 f4
        · exact vPt_ok ⟨by decide, by decide, by decide⟩ l9 f9)
      have hB := (Below.refl W.heap.size W).alloc (Nat.le_refl _) (.cells #[.iface 9 (.string ⟨#[115, 116, 97, 114, 116]⟩), .iface 25 (.agg #[.int .u8 6, .string ⟨#[]⟩, .slice p4 n4 c4, .slice q4 m4 d4]), .iface 9 (.string ⟨#[101, 110, 100]⟩), .iface 25 (.agg #[.int .u8 6, .string ⟨#[]⟩, .slice p9 n9 c9, .slice q9 m9 d9])] 20)
      have HQ := Lib.hid (And.intro hps hB)
      clear hd hold hps hB
      go_simp
      exact hK.out _ _ HQ.out.1 HQ.out.2
    · obtain rfl := Option.some.inj ho
      obtain ⟨y10, e10, h10⟩ := hd 10 13 rfl (by decide +kernel) (by decide)
      have h10 : PsF (w.heap.size + 2) 2 (rangeT l1 c1 l2 c2) y10 W := h10
      have hcall := obj_ret (y := y10) (w := W) (N := (w.heap.size + 2)) HG.out.lt (by decide) h10 (HPo.out _ HG.out.below)
      have HC := Lib.hid hcall
      clear hd hold hcall h10
      go_simp
      go_at_call 53
      (with_reducible refine HC.out.mono ?_)
      rintro e W1 ⟨y, rfl, hv, hB⟩
      exact hK.out _ _ hv hB
    · exact absurd rfl hz
  · intro a W hg hf hold hdf hasz K' hK
    obtain ⟨yz, oz, hvz⟩ := hf 11 14 rfl (by decide) (by decide)
    obtain ⟨p, n, d, q, m, d', rfl, hl, hf'⟩ : VF (w.heap.size + 2) 6 ⟨#[]⟩ .nil (rangeT l1 c1 l2 c2) yz W := hvz
    have o2 : a.tmps[2]? = some (Value.pointer (some ⟨w.heap.size + 1, 0, none⟩)) := (hold 2 rfl).trans rfl
    have od : a.defers = [] := hdf.trans rfl
    have HG := Lib.hid hg
    have HV := Lib.hid (And.intro hl hf')
    obtain ⟨s0, s1, s2, s3⟩ := hg.b1.box
    have f0 := hg.b1.free 0
    have f1 := hg.b1.free 1
    have f2 := hg.b1.free 2
    have f3 := hg.b1.free 3
    clear hg hl hf hf' hold hdf hasz
    go_simp
    refine hK.out _ _ ?_
    clear hK K'
    go_wp2_with fail
    obtain ⟨g1, g2, g3⟩ := HG.out.b1.all (.int .u8 6) (.string ⟨#[]⟩) (.slice p n d) (.slice q m d')
    have hw3 := set4_else W (w.heap.size + 1) (.int .u8 6) (.string ⟨#[]⟩) (.slice p n d) (.slice q m d')
    have g3' := g3 w.heap.size (Nat.le_add_right _ _)
    clear s0 s1 s2 s3 f0 f1 f2 f3
    generalize (((W.setCell ⟨w.heap.size + 1, 0, none⟩ (.int .u8 6)).setCell ⟨w.heap.size + 1, 1, none⟩ (.string ⟨#[]⟩)).setCell ⟨w.heap.size + 1, 2, none⟩ (.slice p n d)).setCell ⟨w.heap.size + 1, 3, none⟩ (.slice q m d') = w3 at *
    obtain ⟨x0, x1, x2, x3⟩ := g1.box
    refine bodyPost_ret (v := .agg #[.int .u8 6, .string ⟨#[]⟩, .slice p n d, .slice q m d']) (by simp [results, Tryd.results86, go_sem, o2, x0, x1, x2, x3]) od ?_
    exact ⟨_, rfl, VF.mk (HV.out.1.fre (fun b hb => by omega) (fun b hb _ => hw3 b (by omega))) (HV.out.2.fre (fun b hb => by omega) (fun b hb _ => hw3 b (by omega))), HG.out.below.trans g3'⟩
end Go.Proofs.YtdgmbmoaeoakpaaDoor
