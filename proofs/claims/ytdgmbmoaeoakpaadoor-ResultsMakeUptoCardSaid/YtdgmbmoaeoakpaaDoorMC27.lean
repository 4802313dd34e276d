/- A place's value. Conditions: the library's table of powers. -/
import Derived.Test.YtdgmbmoaeoakpaaDoorMC26
namespace Go.Proofs.YtdgmbmoaeoakpaaDoor
open Go Go.RowKit Go.Lib

/-- an int such as Go can hold -/
def I64 (n : Int) : Prop := -9223372036854775808 ≤ n ∧ n ≤ 9223372036854775807
def posT (l c : Int) : V.T := .cons ⟨#[108, 105, 110, 101]⟩ 3 ⟨(Lib.itoa l).toArray⟩ .nil .nil (.cons ⟨#[99, 104, 97, 114, 97, 99, 116, 101, 114]⟩ 3 ⟨(Lib.itoa c).toArray⟩ .nil .nil .nil)
set_option maxHeartbeats 1000000 in
set_option maxRecDepth 100000 in
theorem position_any (l c : Int) (N : Nat) (w : World) (hl : I64 l) (hc : I64 c) (hN : N ≤ w.heap.size) (hP : PowTab w) : Calls Tryd.prog 103 #[.agg #[.int .i64 l, .int .i64 c]] w (RetV N 6 ⟨#[]⟩ .nil (posT l c) w) := by
  have hb2 := two_below w (.cells #[.int .i64 l, .int .i64 c] 72) (.cells #[.int .u8 0, .string ⟨#[]⟩, .slice none 0 0, .slice none 0 0] 25)
  have hs2 := two_size w (.cells #[.int .i64 l, .int .i64 c] 72) (.cells #[.int .u8 0, .string ⟨#[]⟩, .slice none 0 0, .slice none 0 0] 25)
  have hn2 := two_new w (.cells #[.int .i64 l, .int .i64 c] 72) (.cells #[.int .u8 0, .string ⟨#[]⟩, .slice none 0 0, .slice none 0 0] 25)
  have H0 := Lib.hid (show Below w.heap.size w ((w.alloc (.cells #[.int .i64 l, .int .i64 c] 72)).alloc (.cells #[.int .u8 0, .string ⟨#[]⟩, .slice none 0 0, .slice none 0 0] 25)) ∧ ((w.alloc (.cells #[.int .i64 l, .int .i64 c] 72)).alloc (.cells #[.int .u8 0, .string ⟨#[]⟩, .slice none 0 0, .slice none 0 0] 25)).heap.size = w.heap.size + 2 ∧ Blk4 ((w.alloc (.cells #[.int .i64 l, .int .i64 c] 72)).alloc (.cells #[.int .u8 0, .string ⟨#[]⟩, .slice none 0 0, .slice none 0 0] 25)) (w.heap.size + 1) 25 (.int .u8 0) (.string ⟨#[]⟩) (.slice none 0 0) (.slice none 0 0) ∧ ((w.alloc (.cells #[.int .i64 l, .int .i64 c] 72)).alloc (.cells #[.int .u8 0, .string ⟨#[]⟩, .slice none 0 0, .slice none 0 0] 25)).heap[w.heap.size]? = some (.cells #[.int .i64 l, .int .i64 c] 72) from ⟨hb2, hs2, hn2.2, hn2.1⟩)
  clear hb2 hs2 hn2
  go_enter Tryd.func103, Tryd.ntmps103
  go_upto_region 1 with fail
  generalize (w.alloc (.cells #[.int .i64 l, .int .i64 c] 72)).alloc (.cells #[.int .u8 0, .string ⟨#[]⟩, .slice none 0 0, .slice none 0 0] 25) = W0 at *
  have c0 : W0.cell? ⟨w.heap.size, 0, none⟩ = some (.int .i64 l) := (cell_of_row W0 _ 0 _ _ (0, 0) H0.out.2.2.2).trans rfl
  have c1 : W0.cell? ⟨w.heap.size, 1, none⟩ = some (.int .i64 c) := (cell_of_row W0 _ 1 _ _ (0, 0) H0.out.2.2.2).trans rfl
  have hps := psf_new (cs := #[.iface 9 (.string ⟨#[108, 105, 110, 101]⟩), .iface 3 (.int .i64 l), .iface 9 (.string ⟨#[99, 104, 97, 114, 97, 99, 116, 101, 114]⟩), .iface 3 (.int .i64 c)]) (N := w.heap.size + 2) (W := W0) (t := 20) (T := posT l c) (m := 2) [nPt ⟨#[108, 105, 110, 101]⟩ l, nPt ⟨#[99, 104, 97, 114, 97, 99, 116, 101, 114]⟩ c] rfl rfl rfl (fun p hp => by
    simp only [List.mem_cons, List.not_mem_nil, or_false] at hp
    rcases hp with rfl | rfl
    · exact nPt_ok hl (by decide)
    · exact nPt_ok hc (by decide))
  have hB := (Below.refl W0.heap.size W0).alloc (Nat.le_refl _) (.cells #[.iface 9 (.string ⟨#[108, 105, 110, 101]⟩), .iface 3 (.int .i64 l), .iface 9 (.string ⟨#[99, 104, 97, 114, 97, 99, 116, 101, 114]⟩), .iface 3 (.int .i64 c)] 20)
  have hob := obj_ret (N := w.heap.size + 2) (by have := hB.size; have := H0.out.2.1; omega) (by decide) hps (pow_below hP (H0.out.1.trans (hB.mono H0.out.1.size)))
  have b1 := H0.out.2.2.1.same (hB.block _ H0.out.2.2.1.lt)
  have H1 := Lib.hid (And.intro hob (And.intro b1 (H0.out.1.trans (hB.mono H0.out.1.size))))
  clear hps hB hob b1
  go_wp2_with fail
  generalize W0.alloc (.cells #[.iface 9 (.string ⟨#[108, 105, 110, 101]⟩), .iface 3 (.int .i64 l), .iface 9 (.string ⟨#[99, 104, 97, 114, 97, 99, 116, 101, 114]⟩), .iface 3 (.int .i64 c)] 20) = w1 at *
  refine H1.out.1.mono ?_
  rintro e w2 ⟨y, rfl, ⟨p, n, d, q, m, d', rfl, h1, h2⟩, hB⟩
  have b2 := H1.out.2.1.same (hB.block _ H1.out.2.1.lt)
  have H2 := Lib.hid (And.intro h1 (And.intro h2 (And.intro b2 (H1.out.2.2.trans (hB.mono H1.out.2.2.size)))))
  obtain ⟨x0, x1, x2, x3⟩ := b2.box
  have f0 := b2.free 0
  have f1 := b2.free 1
  have f2 := b2.free 2
  have f3 := b2.free 3
  clear h1 h2 b2 hB c0 c1
  go_wp2_with fail
  obtain ⟨g1, g2, g3⟩ := H2.out.2.2.1.all (.int .u8 6) (.string ⟨#[]⟩) (.slice p n d) (.slice q m d')
  have hw3 := set4_else w2 (w.heap.size + 1) (.int .u8 6) (.string ⟨#[]⟩) (.slice p n d) (.slice q m d')
  have g3' := g3 w.heap.size (Nat.le_add_right _ _)
  clear x0 x1 x2 x3 f0 f1 f2 f3
  generalize (((w2.setCell ⟨w.heap.size + 1, 0, none⟩ (.int .u8 6)).setCell ⟨w.heap.size + 1, 1, none⟩ (.string ⟨#[]⟩)).setCell ⟨w.heap.size + 1, 2, none⟩ (.slice p n d)).setCell ⟨w.heap.size + 1, 3, none⟩ (.slice q m d') = w3 at *
  obtain ⟨x0, x1, x2, x3⟩ := g1.box
  refine bodyPost_ret (v := .agg #[.int .u8 6, .string ⟨#[]⟩, .slice p n d, .slice q m d']) (by simp [results, Tryd.results103, go_sem, x0, x1, x2, x3]) rfl ?_
  exact ⟨_, rfl, VF.mk (H2.out.1.fre (fun b hb => by omega) (fun b hb _ => hw3 b (by omega))) (H2.out.2.1.fre (fun b hb => by omega) (fun b hb _ => hw3 b (by omega))), H2.out.2.2.2.trans g3'⟩
end Go.Proofs.YtdgmbmoaeoakpaaDoor
