/- A place's value. Conditions: the library's table of powers. -/
import Derived.Test.YtdgmbmoaeoakpaaDoorMA33
import Derived.RangeFuncNested
namespace Go.Proofs.YtdgmbmoaeoakpaaDoor
open Go Go.RowKit Go.Lib

/-- an int such as Go can hold -/
def I64 (n : Int) : Prop := -9223372036854775808 ≤ n ∧ n ≤ 9223372036854775807
def posT (l c : Int) : V.T := .cons ⟨#[108, 105, 110, 101]⟩ 3 ⟨(Lib.itoa l).toArray⟩ .nil .nil (.cons ⟨#[99, 104, 97, 114, 97, 99, 116, 101, 114]⟩ 3 ⟨(Lib.itoa c).toArray⟩ .nil .nil .nil)
set_option maxHeartbeats 1000000 in
set_option maxRecDepth 100000 in
theorem position_any (l c : Int) (N : Nat) (w : World) (hl : I64 l) (hc : I64 c) (hN : N ≤ w.heap.size) (hP : PowTab w) : Calls Tryd.prog 103 #[.agg #[.int .i64 l, .int .i64 c]] w (RetV N 6 ⟨#[]⟩ .nil (posT l c) w) := by
  have hb2 := two_below w (.cells #[.int .i64 l, .int .i64 c] 72) (.cells #[.int .u8 0, .string ⟨#[]⟩, .slice none 0 0, .slice none 0 0] 25)
  have hs2 := two_size w (.cells #[.int .i64 l, .int .i64 c] 72) (.cells #[.int .u8 0, .string ⟨#[]⟩, .slice none 0 0, .slice none 0 0] 25)
  have hn2 := two_new w (.cells #[.int .i64 l, .int .i64 c] 72) (.cells #[.int .u8 0, .string ⟨#[]⟩, .slice none 0 0, .slice none 0 0] 25)
  have H0 := Lib.hid (show Below w.heap.size w ((w.alloc (.cells #[.int .i64 l, .int .i64 c] 72)).alloc (.cells #[.int .u8 0, .string ⟨#[]⟩, .slice none 0 0, .slice none 0 0] 25)) ∧ ((w.alloc (.cells #[.int .i64 l, .int .i64 c] 72)).alloc (.cells #[.int .u8 0, .string ⟨#[]⟩, .slice none 0 0, .slice none 0 0] 25)).heap.size = w.heap.size + 2 ∧ Blk4 ((w.alloc (.cells #[.int .i64 l, .int .i64 c] 72)).alloc (.cells #[.int .u8 0, .string ⟨#[]⟩, .slice none 0 0, .slice none 0 0] 25)) (w.heap.size + 1) 25 (.int .u8 0) (.string ⟨#[]⟩) (.slice none 0 0) (.slice none 0 0) ∧ ((w.alloc (.cells #[.int .i64 l, .int .i64 c] 72)).alloc (.cells #[.int .u8 0, .string ⟨#[]⟩, .slice none 0 0, .slice none 0 0] 25)).heap[w.heap.size]? = some (.cells #[.int .i64 l, .int .i64 c] 72) from ⟨hb2, hs2, hn2.2, hn2.1⟩)
  clear hb2 hs2 hn2
  go_enter Tryd.func103, Tryd.ntmps103
  go_upto_region 1 with fail
  generalize (w.alloc (.cells #[.int .i64 l, .int .i64 c] 72)).alloc (.cells #[.int .u8 0, .string ⟨#[]⟩, .slice none 0 0, .slice none 0 0] 25) = W0 at *
  have c0 : W0.cell? ⟨w.heap.size, 0, none⟩ = some (.int .i64 l) := (cell_of_row W0 _ 0 _ _ (0, 0) H0.out.2.2.2).trans rfl
  have c1 : W0.cell? ⟨w.heap.size, 1, none⟩ = some (.int .i64 c) := (cell_of_row W0 _ 1 _ _ (0, 0) H0.out.2.2.2).trans rfl
  have hps := psf_new (cs := #[.iface 9 (.string ⟨#[108, 105, 110, 101]⟩), .iface 3 (.int .i64 l), .iface 9 (.string ⟨#[99, 104, 97, 114, 97, 99, 116, 101, 114]⟩), .iface 3 (.int .i64 c)]) (N := w.heap.size + 2) (W := W0) (t := 20) (T := posT l c) (m := 2) [nPt ⟨#[108, 105, 110, 101]⟩ l, nPt ⟨#[99, 104, 97, 114, 97, 99, 116, 101, 114]⟩ c] rfl rfl rfl (fun p hp => by
    simp only [List.mem_cons, List.not_mem_nil, or_false] at hp
    rcases hp with rfl | rfl
    · exact nPt_ok hl (by decide)
    · exact nPt_ok hc (by decide))
  have hB := (Below.refl W0.heap.size W0).alloc (Nat.le_refl _) (.cells #[.iface 9 (.string ⟨#[108, 105, 110, 101]⟩), .iface 3 (.int .i64 l), .iface 9 (.string ⟨#[99, 104, 97, 114, 97, 99, 116, 101, 114]⟩), .iface 3 (.int .i64 c)] 20)
  have hob := obj_ret (N := w.heap.size + 2) (by have := hB.size; have := H0.out.2.1; omega) (by decide) hps (pow_below hP (H0.out.1.trans (hB.mono H0.out.1.size)))
  have b1 := H0.out.2.2.1.same (hB.block _ H0.out.2.2.1.lt)
  have H1 := Lib.hid (And.intro hob (And.intro b1 (H0.out.1.trans (hB.mono H0.out.1.size))))
  clear hps hB hob b1
  go_wp2_with fail
  generalize W0.alloc (.cells #[.iface 9 (.string ⟨#[108, 105, 110, 101]⟩), .iface 3 (.int .i64 l), .iface 9 (.string ⟨#[99, 104, 97, 114, 97, 99, 116, 101, 114]⟩), .iface 3 (.int .i64 c)] 20) = w1 at *
  refine H1.out.1.mono ?_
  rintro e w2 ⟨y, rfl, ⟨p, n, d, q, m, d', rfl, h1, h2⟩, hB⟩
  have b2 := H1.out.2.1.same (hB.block _ H1.out.2.1.lt)
  have H2 := Lib.hid (And.intro h1 (And.intro h2 (And.intro b2 (H1.out.2.2.trans (hB.mono H1.out.2.2.size)))))
  obtain ⟨x0, x1, x2, x3⟩ := b2.box
  have f0 := b2.free 0
  have f1 := b2.free 1
  have f2 := b2.free 2
  have f3 := b2.free 3
  clear h1 h2 b2 hB c0 c1
  go_wp2_with fail
  obtain ⟨g1, g2, g3⟩ := H2.out.2.2.1.all (.int .u8 6) (.string ⟨#[]⟩) (.slice p n d) (.slice q m d')
  have hw3 := set4_else w2 (w.heap.size + 1) (.int .u8 6) (.string ⟨#[]⟩) (.slice p n d) (.slice q m d')
  have g3' := g3 w.heap.size (Nat.le_add_right _ _)
  clear x0 x1 x2 x3 f0 f1 f2 f3
  generalize (((w2.setCell ⟨w.heap.size + 1, 0, none⟩ (.int .u8 6)).setCell ⟨w.heap.size + 1, 1, none⟩ (.string ⟨#[]⟩)).setCell ⟨w.heap.size + 1, 2, none⟩ (.slice p n d)).setCell ⟨w.heap.size + 1, 3, none⟩ (.slice q m d') = w3 at *
  obtain ⟨x0, x1, x2, x3⟩ := g1.box
  refine bodyPost_ret (v := .agg #[.int .u8 6, .string ⟨#[]⟩, .slice p n d, .slice q m d']) (by simp [results, Tryd.results103, go_sem, x0, x1, x2, x3]) rfl ?_
  exact ⟨_, rfl, VF.mk (H2.out.1.fre (fun b hb => by omega) (fun b hb _ => hw3 b (by omega))) (H2.out.2.1.fre (fun b hb => by omega) (fun b hb _ => hw3 b (by omega))), H2.out.2.2.2.trans g3'⟩
end Go.Proofs.YtdgmbmoaeoakpaaDoor

namespace Go.Proofs.YtdgmbmoaeoakpaaDoor
open Go Go.RowKit Go.Lib

/-- a value within an interface -/
def IVP (N k : Nat) (x : ByteArray) (l f : V.T) (y : Value) (W : World) : Prop := ∃ z, y = .iface 25 z ∧ VF N k x l f z W
theorem IVP.on {N k : Nat} {x : ByteArray} {l f : V.T} {y : Value} {W W' : World} (h : IVP N k x l f y W) (hB : Below W.heap.size W W') : IVP N k x l f y W' := by
  obtain ⟨z, h1, h2⟩ := h
  exact ⟨z, h1, h2.on hB⟩
/-- a struct's box, and the answer's behind it -/
structure MkG (w : World) (t : TypeId) (cs : Array Value) (W : World) : Prop where
  below : Below w.heap.size w W
  lt : w.heap.size + 2 ≤ W.heap.size
  b0 : W.heap[w.heap.size]? = some (.cells cs t (0, 0))
  b1 : Blk4 W (w.heap.size + 1) 25 (.int .u8 0) (.string ⟨#[]⟩) (.slice none 0 0) (.slice none 0 0)
theorem MkG.on {w : World} {t : TypeId} {cs : Array Value} {W W' : World} (h : MkG w t cs W) (hB : Below W.heap.size W W') : MkG w t cs W' :=
  ⟨h.below.trans (hB.mono h.below.size), Nat.le_trans h.lt hB.size, (hB.block _ (Array.getElem?_eq_some_iff.1 h.b0).1).trans h.b0, h.b1.same (hB.block _ h.b1.lt)⟩
theorem MkG.c {w : World} {t : TypeId} {cs : Array Value} {W : World} (h : MkG w t cs W) (j : Nat) (v : Value) (hj : cs[j]? = some v) : W.cell? ⟨w.heap.size, j, none⟩ = some v := (cell_of_row W _ j _ _ (0, 0) h.b0).trans hj
theorem mkG0 (w : World) (t : TypeId) (cs : Array Value) : MkG w t cs ((w.alloc (.cells cs t)).alloc (.cells #[.int .u8 0, .string ⟨#[]⟩, .slice none 0 0, .slice none 0 0] 25)) := by
  have h := two_new w (.cells cs t) (.cells #[.int .u8 0, .string ⟨#[]⟩, .slice none 0 0, .slice none 0 0] 25)
  exact ⟨two_below _ _ _, by rw [two_size]; omega, h.1, h.2⟩
def rangeT (l1 c1 l2 c2 : Int) : V.T := .cons ⟨#[115, 116, 97, 114, 116]⟩ 6 ⟨#[]⟩ .nil (posT l1 c1) (.cons ⟨#[101, 110, 100]⟩ 6 ⟨#[]⟩ .nil (posT l2 c2) .nil)
def Fplace_any (l1 c1 l2 c2 : Int) (w : World) : Nat → Value → World → Prop
  | 0, y, _ => y = .iface 9 (.string ⟨#[115, 116, 97, 114, 116]⟩)
  | 1, y, _ => y = .pointer (some ⟨w.heap.size, 0, none⟩)
  | 2, y, _ => y = .agg #[.int .i64 l1, .int .i64 c1]
  | 3, y, W => VF (w.heap.size + 2) 6 ⟨#[]⟩ .nil (posT l1 c1) y W
  | 4, y, W => IVP (w.heap.size + 2) 6 ⟨#[]⟩ .nil (posT l1 c1) y W
  | 5, y, _ => y = .iface 9 (.string ⟨#[101, 110, 100]⟩)
  | 6, y, _ => y = .pointer (some ⟨w.heap.size, 2, none⟩)
  | 7, y, _ => y = .agg #[.int .i64 l2, .int .i64 c2]
  | 8, y, W => VF (w.heap.size + 2) 6 ⟨#[]⟩ .nil (posT l2 c2) y W
  | 9, y, W => IVP (w.heap.size + 2) 6 ⟨#[]⟩ .nil (posT l2 c2) y W
  | 10, y, W => PsF (w.heap.size + 2) 2 (rangeT l1 c1 l2 c2) y W
  | 11, y, W => VF (w.heap.size + 2) 6 ⟨#[]⟩ .nil (rangeT l1 c1 l2 c2) y W
  | _, _, _ => True
theorem Fplace_any.on {l1 c1 l2 c2 : Int} {w : World} {i : Nat} {y : Value} {W W' : World} (h : Fplace_any l1 c1 l2 c2 w i y W) (hB : Below W.heap.size W W') : Fplace_any l1 c1 l2 c2 w i y W' := by
  unfold Fplace_any at h ⊢
  split at h
  · exact h
  · exact h
  · exact h
  · exact h.on hB
  · exact h.on hB
  · exact h
  · exact h
  · exact h
  · exact h.on hB
  · exact h.on hB
  · exact h.on hB
  · exact h.on hB
  · trivial
set_option maxHeartbeats 4000000 in
set_option maxRecDepth 100000 in
theorem place_any (l1 c1 l2 c2 : Int) (N : Nat) (w : World) (h_l1 : I64 l1) (h_c1 : I64 c1) (h_l2 : I64 l2) (h_c2 : I64 c2) (hN : N ≤ w.heap.size) (hP : PowTab w) : Calls Tryd.prog 86 #[.agg #[.int .i64 l1, .int .i64 c1, .int .i64 l2, .int .i64 c2]] w (RetV N 6 ⟨#[]⟩ .nil (rangeT l1 c1 l2 c2) w) := by
  have HPo := Lib.hid (fun W (h : Below w.heap.size w W) => pow_below hP h)
  have H0 := Lib.hid (mkG0 w 74 #[.int .i64 l1, .int .i64 c1, .int .i64 l2, .int .i64 c2])
  clear hP
  go_enter Tryd.func86, Tryd.ntmps86
  go_upto_region 1 with fail
  generalize (w.alloc (.cells #[.int .i64 l1, .int .i64 c1, .int .i64 l2, .int .i64 c2] 74)).alloc (.cells #[.int .u8 0, .string ⟨#[]⟩, .slice none 0 0, .slice none 0 0] 25) = W0 at *
  have HX := Lib.hid (H0.out.on (Below.refl W0.heap.size W0).drew)
  refine wp_region_stepsF [some 3, some 4, some 5, some 6, some 7, some 8, some 9, some 10, some 11, some 12, some 13, some 14, none] _ _ (G := MkG w 74 #[.int .i64 l1, .int .i64 c1, .int .i64 l2, .int .i64 c2]) (F := Fplace_any l1 c1 l2 c2 w) (z := 12) (by kernel_rfl) rfl (by decide +kernel) rfl (by decide +kernel) (by decide +kernel) rfl (fun W W' h hB => h.on hB) (fun i y W W' h hB => h.on hB) ?_ ?_ HX.out
  · intro i o ho hz a W hg hd hold K' hK
    have HG := Lib.hid hg
    have hlt : i < 13 := (Array.getElem?_eq_some_iff.1 ho).1
    clear hg
    obtain rfl | rfl | rfl | rfl | rfl | rfl | rfl | rfl | rfl | rfl | rfl | rfl | rfl : i = 0 ∨ i = 1 ∨ i = 2 ∨ i = 3 ∨ i = 4 ∨ i = 5 ∨ i = 6 ∨ i = 7 ∨ i = 8 ∨ i = 9 ∨ i = 10 ∨ i = 11 ∨ i = 12 := by omega
    · obtain rfl := Option.some.inj ho
      clear hd hold
      go_simp
      exact hK.out _ _ (by rfl) (Below.refl _ _)
    · obtain rfl := Option.some.inj ho
      have o1 : a.tmps[1]? = _ := (hold 1 rfl).trans rfl
      clear hd hold
      go_simp
      exact hK.out _ _ (by rfl) (Below.refl _ _)
    · obtain rfl := Option.some.inj ho
      obtain ⟨y1, e1, h1⟩ := hd 1 4 rfl (by decide +kernel) (by decide)
      have h1 : y1 = _ := h1
      subst h1
      have g0 := HG.out.c 0 _ rfl
      have g1 := HG.out.c 1 _ rfl
      clear hd hold
      go_simp
      exact hK.out _ _ (by rfl) (Below.refl _ _)
    · obtain rfl := Option.some.inj ho
      obtain ⟨y2, e2, h2⟩ := hd 2 5 rfl (by decide +kernel) (by decide)
      have h2 : y2 = _ := h2
      subst h2
      have hcall := position_any l1 c1 (w.heap.size + 2) W h_l1 h_c1 HG.out.lt (HPo.out _ HG.out.below)
      have HC := Lib.hid hcall
      clear hd hold hcall
      go_simp
      go_at_call 103
      (with_reducible refine HC.out.mono ?_)
      rintro e W1 ⟨y, rfl, hv, hB⟩
      exact hK.out _ _ hv hB
    · obtain rfl := Option.some.inj ho
      obtain ⟨y3, e3, h3⟩ := hd 3 6 rfl (by decide +kernel) (by decide)
      obtain ⟨p3, n3, c3, q3, m3, d3, rfl, l3, f3⟩ : VF (w.heap.size + 2) 6 ⟨#[]⟩ .nil (posT l1 c1) y3 W := h3
      clear hd hold
      go_simp
      exact hK.out _ _ ⟨_, rfl, VF.mk l3 f3⟩ (Below.refl _ _)
    · obtain rfl := Option.some.inj ho
      clear hd hold
      go_simp
      exact hK.out _ _ (by rfl) (Below.refl _ _)
    · obtain rfl := Option.some.inj ho
      have o1 : a.tmps[1]? = _ := (hold 1 rfl).trans rfl
      clear hd hold
      go_simp
      exact hK.out _ _ (by rfl) (Below.refl _ _)
    · obtain rfl := Option.some.inj ho
      obtain ⟨y6, e6, h6⟩ := hd 6 9 rfl (by decide +kernel) (by decide)
      have h6 : y6 = _ := h6
      subst h6
      have g2 := HG.out.c 2 _ rfl
      have g3 := HG.out.c 3 _ rfl
      clear hd hold
      go_simp
      exact hK.out _ _ (by rfl) (Below.refl _ _)
    · obtain rfl := Option.some.inj ho
      obtain ⟨y7, e7, h7⟩ := hd 7 10 rfl (by decide +kernel) (by decide)
      have h7 : y7 = _ := h7
      subst h7
      have hcall := position_any l2 c2 (w.heap.size + 2) W h_l2 h_c2 HG.out.lt (HPo.out _ HG.out.below)
      have HC := Lib.hid hcall
      clear hd hold hcall
      go_simp
      go_at_call 103
      (with_reducible refine HC.out.mono ?_)
      rintro e W1 ⟨y, rfl, hv, hB⟩
      exact hK.out _ _ hv hB
    · obtain rfl := Option.some.inj ho
      obtain ⟨y8, e8, h8⟩ := hd 8 11 rfl (by decide +kernel) (by decide)
      obtain ⟨p8, n8, c8, q8, m8, d8, rfl, l8, f8⟩ : VF (w.heap.size + 2) 6 ⟨#[]⟩ .nil (posT l2 c2) y8 W := h8
      clear hd hold
      go_simp
      exact hK.out _ _ ⟨_, rfl, VF.mk l8 f8⟩ (Below.refl _ _)
    · obtain rfl := Option.some.inj ho
      obtain ⟨y0, e0, h0⟩ := hd 0 3 rfl (by decide +kernel) (by decide)
      have h0 : y0 = _ := h0
      subst h0
      obtain ⟨y4, e4, h4⟩ := hd 4 7 rfl (by decide +kernel) (by decide)
      obtain ⟨z4, rfl, p4, n4, c4, q4, m4, d4, rfl, l4, f4⟩ : IVP (w.heap.size + 2) 6 ⟨#[]⟩ .nil (posT l1 c1) y4 W := h4
      obtain ⟨y5, e5, h5⟩ := hd 5 8 rfl (by decide +kernel) (by decide)
      have h5 : y5 = _ := h5
      subst h5
      obtain ⟨y9, e9, h9⟩ := hd 9 12 rfl (by decide +kernel) (by decide)
      obtain ⟨z9, rfl, p9, n9, c9, q9, m9, d9, rfl, l9, f9⟩ : IVP (w.heap.size + 2) 6 ⟨#[]⟩ .nil (posT l2 c2) y9 W := h9
      have hps := psf_new (cs := #[.iface 9 (.string ⟨#[115, 116, 97, 114, 116]⟩), .iface 25 (.agg #[.int .u8 6, .string ⟨#[]⟩, .slice p4 n4 c4, .slice q4 m4 d4]), .iface 9 (.string ⟨#[101, 110, 100]⟩), .iface 25 (.agg #[.int .u8 6, .string ⟨#[]⟩, .slice p9 n9 c9, .slice q9 m9 d9])]) (N := (w.heap.size + 2)) (W := W) (t := 20) (T := (rangeT l1 c1 l2 c2)) (m := 2) [vPt ⟨#[115, 116, 97, 114, 116]⟩ 6 ⟨#[]⟩ (.slice p4 n4 c4) (.slice q4 m4 d4) .nil (posT l1 c1), vPt ⟨#[101, 110, 100]⟩ 6 ⟨#[]⟩ (.slice p9 n9 c9) (.slice q9 m9 d9) .nil (posT l2 c2)] rfl rfl rfl (fun p hp => by
        simp only [List.mem_cons, List.not_mem_nil, or_false] at hp
        rcases hp with rfl | rfl
        · exact vPt_ok ⟨by decide, by decide, by decide⟩ l4 f4
        · exact vPt_ok ⟨by decide, by decide, by decide⟩ l9 f9)
      have hB := (Below.refl W.heap.size W).alloc (Nat.le_refl _) (.cells #[.iface 9 (.string ⟨#[115, 116, 97, 114, 116]⟩), .iface 25 (.agg #[.int .u8 6, .string ⟨#[]⟩, .slice p4 n4 c4, .slice q4 m4 d4]), .iface 9 (.string ⟨#[101, 110, 100]⟩), .iface 25 (.agg #[.int .u8 6, .string ⟨#[]⟩, .slice p9 n9 c9, .slice q9 m9 d9])] 20)
      have HQ := Lib.hid (And.intro hps hB)
      clear hd hold hps hB
      go_simp
      exact hK.out _ _ HQ.out.1 HQ.out.2
    · obtain rfl := Option.some.inj ho
      obtain ⟨y10, e10, h10⟩ := hd 10 13 rfl (by decide +kernel) (by decide)
      have h10 : PsF (w.heap.size + 2) 2 (rangeT l1 c1 l2 c2) y10 W := h10
      have hcall := obj_ret (y := y10) (w := W) (N := (w.heap.size + 2)) HG.out.lt (by decide) h10 (HPo.out _ HG.out.below)
      have HC := Lib.hid hcall
      clear hd hold hcall h10
      go_simp
      go_at_call 53
      (with_reducible refine HC.out.mono ?_)
      rintro e W1 ⟨y, rfl, hv, hB⟩
      exact hK.out _ _ hv hB
    · exact absurd rfl hz
  · intro a W hg hf hold hdf hasz K' hK
    obtain ⟨yz, oz, hvz⟩ := hf 11 14 rfl (by decide) (by decide)
    obtain ⟨p, n, d, q, m, d', rfl, hl, hf'⟩ : VF (w.heap.size + 2) 6 ⟨#[]⟩ .nil (rangeT l1 c1 l2 c2) yz W := hvz
    have o2 : a.tmps[2]? = some (Value.pointer (some ⟨w.heap.size + 1, 0, none⟩)) := (hold 2 rfl).trans rfl
    have od : a.defers = [] := hdf.trans rfl
    have HG := Lib.hid hg
    have HV := Lib.hid (And.intro hl hf')
    obtain ⟨s0, s1, s2, s3⟩ := hg.b1.box
    have f0 := hg.b1.free 0
    have f1 := hg.b1.free 1
    have f2 := hg.b1.free 2
    have f3 := hg.b1.free 3
    clear hg hl hf hf' hold hdf hasz
    go_simp
    refine hK.out _ _ ?_
    clear hK K'
    go_wp2_with fail
    obtain ⟨g1, g2, g3⟩ := HG.out.b1.all (.int .u8 6) (.string ⟨#[]⟩) (.slice p n d) (.slice q m d')
    have hw3 := set4_else W (w.heap.size + 1) (.int .u8 6) (.string ⟨#[]⟩) (.slice p n d) (.slice q m d')
    have g3' := g3 w.heap.size (Nat.le_add_right _ _)
    clear s0 s1 s2 s3 f0 f1 f2 f3
    generalize (((W.setCell ⟨w.heap.size + 1, 0, none⟩ (.int .u8 6)).setCell ⟨w.heap.size + 1, 1, none⟩ (.string ⟨#[]⟩)).setCell ⟨w.heap.size + 1, 2, none⟩ (.slice p n d)).setCell ⟨w.heap.size + 1, 3, none⟩ (.slice q m d') = w3 at *
    obtain ⟨x0, x1, x2, x3⟩ := g1.box
    refine bodyPost_ret (v := .agg #[.int .u8 6, .string ⟨#[]⟩, .slice p n d, .slice q m d']) (by simp [results, Tryd.results86, go_sem, o2, x0, x1, x2, x3]) od ?_
    exact ⟨_, rfl, VF.mk (HV.out.1.fre (fun b hb => by omega) (fun b hb _ => hw3 b (by omega))) (HV.out.2.fre (fun b hb => by omega) (fun b hb _ => hw3 b (by omega))), HG.out.below.trans g3'⟩
end Go.Proofs.YtdgmbmoaeoakpaaDoor

namespace Go.Proofs.YtdgmbmoaeoakpaaDoor
open Go Go.RowKit Go.Lib

def foldT (a b : Int) (cm : Bool) : V.T := .cons ⟨#[115, 116, 97, 114, 116, 76, 105, 110, 101]⟩ 3 ⟨(Lib.itoa a).toArray⟩ .nil .nil (.cons ⟨#[101, 110, 100, 76, 105, 110, 101]⟩ 3 ⟨(Lib.itoa b).toArray⟩ .nil .nil (if cm then .cons ⟨#[107, 105, 110, 100]⟩ 4 ⟨#[99, 111, 109, 109, 101, 110, 116]⟩ .nil .nil .nil else .nil))
theorem fix_com : U.fixS ⟨#[99, 111, 109, 109, 101, 110, 116]⟩ = ⟨#[99, 111, 109, 109, 101, 110, 116]⟩ := U.fixS_valid _ (by decide +kernel)
theorem infoAny : (Tryd.prog.info? 20).map (fun i => (i.zero, i.size, i.bytes)) = some (some .nilIface, 1, 16) := by kernel_rfl
/-- an object of parts that lie in the call's own row -/
theorem obj_own {N m c g : Nat} {w : World} {base : Nat} {t : TypeId} (ps : List Pt) (hN : N ≤ w.heap.size) (hm : ps.length ≤ 100) (hl : ps.length = m) (ho : w.ownsRow base t 1 (.slice (some ⟨g, 0, none⟩) (2 * m) c) (2 * m) (ifs ps)) (hm0 : 0 < m) (hok : ∀ p ∈ ps, p.Ok w (Fre N w)) (hP : PowTab w) :
    Calls Tryd.prog 53 #[.slice (some ⟨g, 0, none⟩) (2 * m) c] w (RetV N 6 ⟨#[]⟩ .nil (treeOf (fes ps)) w) := by
  subst hl
  have hc : 2 * ps.length ≤ c ∧ c ≤ 9223372036854775807 ∧ g < w.heap.size := by
    rcases ho.2 with ⟨h, _⟩ | ⟨g', c', cur, h, _, h2, h3, h4, _⟩
    · cases h
    · cases h; exact ⟨h3, h4, (Array.getElem?_eq_some_iff.1 h2).1⟩
  refine (objectR_any g (2 * ps.length) c ps (fun k => Fre N w k ∧ k < w.heap.size) w rfl ⟨hc.1, hc.2.1⟩ hm hc.2.2 (fun j u hu => ?_) (fun p hp => (hok p hp).imp (fun b hb hlt => ⟨hb, hlt⟩) (fun _ _ _ => rfl)) (fun k hk => hk.2) hP).mono ?_
  · have hj := (List.getElem?_eq_some_iff.1 hu).1
    rw [ifs_len] at hj
    rw [ho.cellAt j (by omega)]
    exact hu
  · rintro e w' ⟨u, he, hu, hB⟩
    refine ⟨_, he, VF.mk (HS.nil _ _ _) (hu.mono fun b hb _ => ?_), hB⟩
    rcases hb with ⟨h, hlt⟩ | h
    · exact h.imp h.1 (hB.block b hlt)
    · exact ⟨Nat.le_trans hN h.1, h.2⟩
set_option maxHeartbeats 2000000 in
set_option maxRecDepth 100000 in
theorem fold_any (a b : Int) (cm : Bool) (N : Nat) (w : World) (ha : I64 a) (hb : I64 b) (hN : N ≤ w.heap.size) (hP : PowTab w) (hT : Tabs w) : Calls Tryd.prog 60 #[.agg #[.int .i64 a, .int .i64 b, .bool cm]] w (RetV N 6 ⟨#[]⟩ .nil (foldT a b cm) w) := by
  obtain ⟨i0, hi0, hz0, hz1, hz2⟩ := info_parts infoAny
  have HPo := Lib.hid (fun W (h : Below w.heap.size w W) => pow_below hP h)
  have HX := Lib.hid (fun W (h : Below w.heap.size w W) => text4_any ⟨#[99, 111, 109, 109, 101, 110, 116]⟩ W (by decide) (by rw [fix_com]; decide) (tabs_below hT h))
  rw [fix_com] at HX
  have H0 := Lib.hid (mkG0 w 89 #[.int .i64 a, .int .i64 b, .bool cm])
  have HA := Lib.hid (And.intro ha hb)
  clear hP hT ha hb
  go_enter Tryd.func60, Tryd.ntmps60
  go_upto_region 1 with fail
  generalize (w.alloc (.cells #[.int .i64 a, .int .i64 b, .bool cm] 89)).alloc (.cells #[.int .u8 0, .string ⟨#[]⟩, .slice none 0 0, .slice none 0 0] 25) = W0 at *
  have c0 := H0.out.c 0 _ rfl
  have c1 := H0.out.c 1 _ rfl
  have hB1 := (Below.refl W0.heap.size W0).alloc (Nat.le_refl _) (.cells #[.iface 9 (.string ⟨#[115, 116, 97, 114, 116, 76, 105, 110, 101]⟩), .iface 3 (.int .i64 a), .iface 9 (.string ⟨#[101, 110, 100, 76, 105, 110, 101]⟩), .iface 3 (.int .i64 b)] 20)
  have hps := psf_new (cs := #[.iface 9 (.string ⟨#[115, 116, 97, 114, 116, 76, 105, 110, 101]⟩), .iface 3 (.int .i64 a), .iface 9 (.string ⟨#[101, 110, 100, 76, 105, 110, 101]⟩), .iface 3 (.int .i64 b)]) (N := w.heap.size + 2) (W := W0) (t := 20) (T := foldT a b false) (m := 2) [nPt ⟨#[115, 116, 97, 114, 116, 76, 105, 110, 101]⟩ a, nPt ⟨#[101, 110, 100, 76, 105, 110, 101]⟩ b] rfl rfl rfl (fun p hp => by
    simp only [List.mem_cons, List.not_mem_nil, or_false] at hp
    rcases hp with rfl | rfl
    · exact nPt_ok HA.out.1 (by decide)
    · exact nPt_ok HA.out.2 (by decide))
  have own1 := World.ownsRow_lit (base := w.heap.size + 2) (e := 20) (size := 1) W0 #[.iface 9 (.string ⟨#[115, 116, 97, 114, 116, 76, 105, 110, 101]⟩), .iface 3 (.int .i64 a), .iface 9 (.string ⟨#[101, 110, 100, 76, 105, 110, 101]⟩), .iface 3 (.int .i64 b)] 4 H0.out.lt (by decide) rfl
  have H1 := Lib.hid (And.intro hps (And.intro (H0.out.on hB1) own1))
  clear hB1 hps own1
  go_upto_region 2 with fail
  generalize W0.alloc (.cells #[.iface 9 (.string ⟨#[115, 116, 97, 114, 116, 76, 105, 110, 101]⟩), .iface 3 (.int .i64 a), .iface 9 (.string ⟨#[101, 110, 100, 76, 105, 110, 101]⟩), .iface 3 (.int .i64 b)] 20) = W1 at *
  have c2 := H1.out.2.1.c 2 _ rfl
  cases cm
  · have hob := Lib.hid (obj_ret (N := w.heap.size + 2) H1.out.2.1.lt (by decide) H1.out.1 (HPo.out _ H1.out.2.1.below))
    go_wp2_with fail
    refine hob.out.mono ?_
    rintro e wz ⟨y, rfl, ⟨p, n, d, q, m, d', rfl, h1, h2⟩, hB⟩
    have b2 := H1.out.2.1.b1.same (hB.block _ H1.out.2.1.b1.lt)
    have hBW := H1.out.2.1.below.trans (hB.mono H1.out.2.1.below.size)
    clear hB c0 c1 c2
    have H2 := Lib.hid (And.intro h1 (And.intro h2 (And.intro b2 hBW)))
    obtain ⟨x0, x1, x2, x3⟩ := b2.box
    have f0 := b2.free 0
    have f1 := b2.free 1
    have f2 := b2.free 2
    have f3 := b2.free 3
    clear h1 h2 b2 hBW
    go_wp2_with fail
    obtain ⟨g1, g2, g3⟩ := H2.out.2.2.1.all (.int .u8 6) (.string ⟨#[]⟩) (.slice p n d) (.slice q m d')
    have hw3 := set4_else wz (w.heap.size + 1) (.int .u8 6) (.string ⟨#[]⟩) (.slice p n d) (.slice q m d')
    have g3' := g3 w.heap.size (Nat.le_add_right _ _)
    clear x0 x1 x2 x3 f0 f1 f2 f3
    generalize (((wz.setCell ⟨w.heap.size + 1, 0, none⟩ (.int .u8 6)).setCell ⟨w.heap.size + 1, 1, none⟩ (.string ⟨#[]⟩)).setCell ⟨w.heap.size + 1, 2, none⟩ (.slice p n d)).setCell ⟨w.heap.size + 1, 3, none⟩ (.slice q m d') = w3 at *
    obtain ⟨x0, x1, x2, x3⟩ := g1.box
    refine bodyPost_ret (v := .agg #[.int .u8 6, .string ⟨#[]⟩, .slice p n d, .slice q m d']) (by simp [results, Tryd.results60, go_sem, x0, x1, x2, x3]) rfl ?_
    exact ⟨_, rfl, VF.mk (H2.out.1.fre (fun b hb => by omega) (fun b hb _ => hw3 b (by omega))) (H2.out.2.1.fre (fun b hb => by omega) (fun b hb _ => hw3 b (by omega))), H2.out.2.2.2.trans g3'⟩
  · go_wp2_with fail
    refine (HX.out W1 H1.out.2.1.below).mono ?_
    rintro e w2 ⟨rfl, hB2⟩
    have hB3 := (Below.refl w2.heap.size w2).alloc (Nat.le_refl _) (.cells #[.iface 9 (.string ⟨#[107, 105, 110, 100]⟩), .iface 25 (.agg #[.int .u8 4, .string ⟨#[99, 111, 109, 109, 101, 110, 116]⟩, .slice none 0 0, .slice none 0 0])] 20)
    have hBB := hB2.trans (hB3.mono hB2.size)
    have own3 := ownsRow_below H1.out.2.2 hBB
    have HM3 := Lib.hid (H1.out.2.1.on hBB)
    have hnews : ∀ (j : Nat) (u : Value), (#[.iface 9 (.string ⟨#[107, 105, 110, 100]⟩), .iface 25 (.agg #[.int .u8 4, .string ⟨#[99, 111, 109, 109, 101, 110, 116]⟩, .slice none 0 0, .slice none 0 0])] : Array Value).toList[j]? = some u → (w2.alloc (.cells #[.iface 9 (.string ⟨#[107, 105, 110, 100]⟩), .iface 25 (.agg #[.int .u8 4, .string ⟨#[99, 111, 109, 109, 101, 110, 116]⟩, .slice none 0 0, .slice none 0 0])] 20)).cell? ((⟨w2.heap.size, 0, none⟩ : Addr).add j) = some u := fun j u hu => by
      have hadd : (⟨w2.heap.size, 0, none⟩ : Addr).add j = ⟨w2.heap.size, j, none⟩ := by unfold Addr.add; split <;> simp_all
      rw [hadd, cell_of_row _ _ j _ _ (0, 0) (heap_alloc_new _ _), ← Array.getElem?_toList]
      exact hu
    have HO := Lib.hid (And.intro own3 hnews)
    clear hB2 hB3 hBB own3 hnews c0 c1 c2
    go_wp2_with (at_builtin; go_loud (refine wpList_append_lies _ rfl _ _ 110 rfl (w.heap.size + 2) 20 i0 _ 1 16 Tryd.underlying110 hi0 hz0 hz1 hz2 rfl (by decide) _ 4 [.iface 9 (.string ⟨#[115, 116, 97, 114, 116, 76, 105, 110, 101]⟩), .iface 3 (.int .i64 a), .iface 9 (.string ⟨#[101, 110, 100, 76, 105, 110, 101]⟩), .iface 3 (.int .i64 b)] rfl HO.out.1 ⟨w2.heap.size, 0, none⟩ 2 2 [.iface 9 (.string ⟨#[107, 105, 110, 100]⟩), .iface 25 (.agg #[.int .u8 4, .string ⟨#[99, 111, 109, 109, 101, 110, 116]⟩, .slice none 0 0, .slice none 0 0])] rfl rfl HO.out.2 (fun u hu => by
      simp only [List.mem_cons, List.not_mem_nil, or_false] at hu
      rcases hu with rfl | rfl <;> rfl) (by decide) (by decide) (by decide) HM3.out.lt _ rfl ?_))
    intro g cap w4 own4 hg4 _ _
    have hB4 : Below (w.heap.size + 2) (w2.alloc (.cells #[.iface 9 (.string ⟨#[107, 105, 110, 100]⟩), .iface 25 (.agg #[.int .u8 4, .string ⟨#[99, 111, 109, 109, 101, 110, 116]⟩, .slice none 0 0, .slice none 0 0])] 20)) w4 := (Below.refl _ _).grown hg4 HM3.out.lt (fun k hk => (HO.out.1.lt k hk).1)
    have hbw := HM3.out.below.trans (hB4.mono (by omega))
    have b4 := HM3.out.b1.same (hB4.block _ (by omega))
    have hob := Lib.hid (obj_own (N := w.heap.size + 2) (m := 3) [nPt ⟨#[115, 116, 97, 114, 116, 76, 105, 110, 101]⟩ a, nPt ⟨#[101, 110, 100, 76, 105, 110, 101]⟩ b, vPt ⟨#[107, 105, 110, 100]⟩ 4 ⟨#[99, 111, 109, 109, 101, 110, 116]⟩ (.slice none 0 0) (.slice none 0 0) .nil .nil] (Nat.le_trans HM3.out.lt hB4.size) (by show 3 ≤ 100; decide) rfl own4 (by decide) (fun p hp => by
      simp only [List.mem_cons, List.not_mem_nil, or_false] at hp
      rcases hp with rfl | rfl | rfl
      · exact nPt_ok HA.out.1 (by decide)
      · exact nPt_ok HA.out.2 (by decide)
      · exact vPt_ok ⟨by decide, by decide, by decide⟩ (HS.nil _ _ _) (HS.nil _ _ _)) (HPo.out _ hbw))
    have H4 := Lib.hid (And.intro b4 hbw)
    clear own4 hg4 hB4 hbw b4 HO HM3
    go_wp2_with fail
    refine hob.out.mono ?_
    rintro e wz ⟨y, rfl, ⟨p, n, d, q, m, d', rfl, h1, h2⟩, hB⟩
    have b2 := H4.out.1.same (hB.block _ H4.out.1.lt)
    have hBW := H4.out.2.trans (hB.mono H4.out.2.size)
    clear hB
    have H2 := Lib.hid (And.intro h1 (And.intro h2 (And.intro b2 hBW)))
    obtain ⟨x0, x1, x2, x3⟩ := b2.box
    have f0 := b2.free 0
    have f1 := b2.free 1
    have f2 := b2.free 2
    have f3 := b2.free 3
    clear h1 h2 b2 hBW
    go_wp2_with fail
    obtain ⟨g1, g2, g3⟩ := H2.out.2.2.1.all (.int .u8 6) (.string ⟨#[]⟩) (.slice p n d) (.slice q m d')
    have hw3 := set4_else wz (w.heap.size + 1) (.int .u8 6) (.string ⟨#[]⟩) (.slice p n d) (.slice q m d')
    have g3' := g3 w.heap.size (Nat.le_add_right _ _)
    clear x0 x1 x2 x3 f0 f1 f2 f3
    generalize (((wz.setCell ⟨w.heap.size + 1, 0, none⟩ (.int .u8 6)).setCell ⟨w.heap.size + 1, 1, none⟩ (.string ⟨#[]⟩)).setCell ⟨w.heap.size + 1, 2, none⟩ (.slice p n d)).setCell ⟨w.heap.size + 1, 3, none⟩ (.slice q m d') = w3 at *
    obtain ⟨x0, x1, x2, x3⟩ := g1.box
    refine bodyPost_ret (v := .agg #[.int .u8 6, .string ⟨#[]⟩, .slice p n d, .slice q m d']) (by simp [results, Tryd.results60, go_sem, x0, x1, x2, x3]) rfl ?_
    exact ⟨_, rfl, VF.mk (H2.out.1.fre (fun b hb => by omega) (fun b hb _ => hw3 b (by omega))) (H2.out.2.1.fre (fun b hb => by omega) (fun b hb _ => hw3 b (by omega))), H2.out.2.2.2.trans g3'⟩
end Go.Proofs.YtdgmbmoaeoakpaaDoor

namespace Go.Proofs.YtdgmbmoaeoakpaaDoor
open Go Go.RowKit Go.Lib

structure Rg where
  a : Int
  b : Int
  c : Int
  d : Int
def Rg.Ok (r : Rg) : Prop := I64 r.a ∧ I64 r.b ∧ I64 r.c ∧ I64 r.d
def Rg.z : Rg := ⟨0, 0, 0, 0⟩
def Rg.v (r : Rg) : Value := .agg #[.int .i64 r.a, .int .i64 r.b, .int .i64 r.c, .int .i64 r.d]
def rgAt (l : List Rg) (i : Nat) : Rg := l.getD i Rg.z
theorem i64_zero : I64 0 := ⟨by decide, by decide⟩
theorem rg_at_ok {l : List Rg} (h : ∀ r ∈ l, r.Ok) (i : Nat) : (rgAt l i).Ok := by
  unfold rgAt
  rw [List.getD_eq_getElem?_getD]
  cases hi : l[i]? with
  | none => exact ⟨i64_zero, i64_zero, i64_zero, i64_zero⟩
  | some r => exact h r (List.mem_of_getElem? hi)
/-- one range, and what is behind it -/
def chT (r : Rg) (more : Bool) (k : Nat) (f : V.T) : V.T := .cons ⟨#[114, 97, 110, 103, 101]⟩ 6 ⟨#[]⟩ .nil (rangeT r.a r.b r.c r.d) (if more then .cons ⟨#[112, 97, 114, 101, 110, 116]⟩ k ⟨#[]⟩ .nil f .nil else .nil)
/-- what has been put together when these have come -/
def chR (l : List Rg) (pre : List Nat) : Nat × V.T := pre.foldl (fun a i => (6, chT (rgAt l i) (decide (i + 1 < l.length)) a.1 a.2)) (0, .nil)
theorem chR_snoc (l : List Rg) (pre : List Nat) (i : Nat) : chR l (pre ++ [i]) = (6, chT (rgAt l i) (decide (i + 1 < l.length)) (chR l pre).1 (chR l pre).2) := by
  unfold chR
  rw [List.foldl_append]
  rfl
theorem chR_lt (l : List Rg) (pre : List Nat) : (chR l pre).1 < 256 := by
  rcases List.eq_nil_or_concat pre with rfl | ⟨p, i, rfl⟩
  · show (0 : Nat) < 256; decide
  · rw [List.concat_eq_append, chR_snoc]; show (6 : Nat) < 256; decide
def chainK (l : List Rg) : Nat := if l.isEmpty then 0 else 6
theorem chainK_lt (l : List Rg) : chainK l < 256 := by
  unfold chainK
  split <;> decide
def chainT : List Rg → V.T
  | [] => .nil
  | r :: l => chT r (!l.isEmpty) (chainK l) (chainT l)
/-- the numbers from n on backwards, so many -/
def backs (n : Nat) : Nat → List Nat
  | 0 => []
  | j + 1 => backs n j ++ [n - 1 - j]
theorem backs_len (n j : Nat) : (backs n j).length = j := by
  induction j with
  | zero => rfl
  | succ j ih => show (backs n j ++ [n - 1 - j]).length = _; rw [List.length_append, ih]; rfl
theorem chR_backs (l : List Rg) : ∀ j, j ≤ l.length → chR l (backs l.length j) = (chainK (l.drop (l.length - j)), chainT (l.drop (l.length - j)))
  | 0, _ => by
    rw [Nat.sub_zero, List.drop_length]
    rfl
  | j + 1, h => by
    show chR l (backs l.length j ++ [l.length - 1 - j]) = _
    have hi : l.length - (j + 1) < l.length := by omega
    rw [chR_snoc, chR_backs l j (by omega), show l.length - 1 - j = l.length - (j + 1) by omega, List.drop_eq_getElem_cons hi, show l.length - (j + 1) + 1 = l.length - j by omega]
    have e : rgAt l (l.length - (j + 1)) = l[l.length - (j + 1)] := by
      unfold rgAt
      rw [List.getD_eq_getElem?_getD, List.getElem?_eq_getElem hi]
      rfl
    have e2 : decide (l.length - j < l.length) = !(l.drop (l.length - j)).isEmpty := by
      rw [Bool.eq_iff_iff, Bool.not_eq_true', decide_eq_true_iff, List.isEmpty_eq_false_iff, ne_eq, List.drop_eq_nil_iff]
      omega
    rw [e, e2]
    rfl
/-- blocks of a tree hold cells -/
def CB (w : World) (A : Nat → Prop) (b : Nat) : Prop := A b ∧ ∃ o : Obj, w.heap[b]? = some o ∧ o.isCells = true
theorem hr_cells {w : World} {A : Nat → Prop} : ∀ (t : V.T) (d b o : Nat), HR w A d b o t → HR w (CB w A) d b o t
  | .nil, _, _, _, _ => trivial
  | .cons nm k x l f tl, d, b, o, h => by
    obtain ⟨h1, h2, h3, h4, h5, ⟨v, h6, h7⟩, ⟨u, h8, h9⟩, h10, h11⟩ := h
    exact ⟨⟨h1, cells_of_cell h4⟩, h2, h3, h4, h5, ⟨v, h6, h7.imp fun b' o' => hr_cells l 0 b' o'⟩, ⟨u, h8, h9.imp fun b' o' => hr_cells f 1 b' o'⟩, h10, hr_cells tl d b _ h11⟩
theorem HS.own {X Y : World} {N B d : Nat} {v : Value} {t : V.T} {row : Option Nat} (h : HS X (Fre N X) d v t) (hg : X.grownBy Y row) (hr : ∀ r, row = some r → B ≤ r ∧ ∃ o : Obj, X.heap[r]? = some o ∧ o.isCells = false) : HS Y (Fre N Y) d v t := by
  have hne : ∀ b, CB X (Fre N X) b → some b ≠ row := fun b hb e => by
    obtain ⟨-, o, ho, hc⟩ := hr b e.symm
    obtain ⟨-, o2, ho2, hc2⟩ := hb
    rw [ho] at ho2
    cases ho2
    rw [hc] at hc2
    cases hc2
  exact (show HS X (CB X (Fre N X)) d v t from SL.imp h fun b o => hr_cells t d b o).imp (fun b hb hlt => hb.1.imp hb.1.1 (hg.block b hlt (hne b hb))) (fun b hb hlt => hg.block b hlt (hne b hb))
/-- a value's box; what it holds lies in blocks from N on -/
def VBox (N bv k : Nat) (f : V.T) (W : World) : Prop := ∃ p n c q m d, Blk4 W bv 25 (.int .u8 k) (.string ⟨#[]⟩) (.slice p n c) (.slice q m d) ∧ HS W (Fre N W) 0 (.slice p n c) .nil ∧ HS W (Fre N W) 1 (.slice q m d) f
theorem VBox.lt {N bv k : Nat} {f : V.T} {W : World} (h : VBox N bv k f W) : bv < W.heap.size := by
  obtain ⟨p, n, c, q, m, d, h1, h2, h3⟩ := h
  exact h1.lt
theorem VBox.on {N bv k : Nat} {f : V.T} {W W' : World} (h : VBox N bv k f W) (hB : Below W.heap.size W W') : VBox N bv k f W' := by
  obtain ⟨p, n, c, q, m, d, h1, h2, h3⟩ := h
  exact ⟨p, n, c, q, m, d, h1.same (hB.block _ h1.lt), h2.freB hB, h3.freB hB⟩
theorem vbox_own {β : Type} (B N bv : Nat) (K : β → Nat) (F : β → V.T) : OwnFrom B (fun s W => VBox N bv (K s) (F s) W) := by
  rintro s X Y row ⟨p, n, c, q, m, d, h1, h2, h3⟩ hg hr
  refine ⟨p, n, c, q, m, d, h1.same (hg.block bv h1.lt (fun e => ?_)), h2.own hg hr, h3.own hg hr⟩
  obtain ⟨-, o, ho, hc⟩ := hr bv e.symm
  rw [show X.heap[bv]? = _ from h1] at ho
  cases ho
  cases hc
structure Ch where
  p : Option Addr
  n : Nat
  c : Nat
  l : List Rg
/-- ranges as they lie behind a slice -/
def SrcR (w : World) (v : Value) (l : List Rg) : Prop := (l = [] ∧ ∃ p c, v = .slice p 0 c ∧ c ≤ 9223372036854775807) ∨ ∃ b o c, v = .slice (some ⟨b, o, none⟩) l.length c ∧ l.length ≤ c ∧ c ≤ 9223372036854775807 ∧ b < w.heap.size ∧ (∀ (j : Nat) (e : Rg), l[j]? = some e → w.cell? ⟨b, o + j * 4, none⟩ = some (.int .i64 e.a) ∧ w.cell? ⟨b, o + j * 4 + 1, none⟩ = some (.int .i64 e.b) ∧ w.cell? ⟨b, o + j * 4 + 2, none⟩ = some (.int .i64 e.c) ∧ w.cell? ⟨b, o + j * 4 + 3, none⟩ = some (.int .i64 e.d)) ∧ ∀ e ∈ l, e.Ok
theorem SrcR.below {w w' : World} {v : Value} {l : List Rg} (h : SrcR w v l) (hB : Below w.heap.size w w') : SrcR w' v l := by
  rcases h with h | ⟨b, o, c, h1, h2, h3, h4, h5, h6⟩
  · exact .inl h
  · exact .inr ⟨b, o, c, h1, h2, h3, Nat.lt_of_lt_of_le h4 hB.size, fun j e hj => ⟨(hB.cell (p := ⟨b, o + j * 4, none⟩) h4).trans (h5 j e hj).1, (hB.cell (p := ⟨b, o + j * 4 + 1, none⟩) h4).trans (h5 j e hj).2.1, (hB.cell (p := ⟨b, o + j * 4 + 2, none⟩) h4).trans (h5 j e hj).2.2.1, (hB.cell (p := ⟨b, o + j * 4 + 3, none⟩) h4).trans (h5 j e hj).2.2.2⟩, h6⟩
def ChOk (w : World) (e : Ch) : Prop := SrcR w (.slice e.p e.n e.c) e.l ∧ e.l.length ≤ 1000000
theorem ChOk_below {w w' : World} {e : Ch} (hB : Below w.heap.size w w') (h : ChOk w e) : ChOk w' e := ⟨h.1.below hB, h.2⟩
def listChT : List Ch → V.T
  | [] => .nil
  | e :: r => .cons ⟨#[]⟩ (chainK e.l) ⟨#[]⟩ .nil (chainT e.l) (listChT r)
theorem listChT_len (l : List Ch) : (listChT l).len = l.length := by
  induction l with
  | nil => rfl
  | cons s r ih => show (listChT r).len + 1 = _; rw [ih]; rfl
theorem listChT_drop : ∀ (l : List Ch) (i : Nat) (e : Ch), l[i]? = some e → (listChT l).drop i = .cons ⟨#[]⟩ (chainK e.l) ⟨#[]⟩ .nil (chainT e.l) (listChT (l.drop (i + 1)))
  | [], _, _, h => by simp at h
  | s' :: r, 0, s, h => by
    simp at h; subst h
    rfl
  | s' :: r, i + 1, s, h => listChT_drop r i s (by simpa using h)
end Go.Proofs.YtdgmbmoaeoakpaaDoor
