/- .. and of none; numbers. Conditions: as for the list. -/
import Derived.Test.YtbkciiogkgndiaaGreatDoorMB08
import Derived.Test.YtbkciiogkgndiaaGreatDoorMB11
namespace Go.Proofs.YtbkciiogkgndiaaGreatDoor
open Go Go.RowKit Go.Lib

set_option maxRecDepth 100000 in
set_option maxHeartbeats 1000000 in
theorem listInt_nil (p : Option Addr) (c : Nat) (w : World) (hc : c ≤ 9223372036854775807) :
    Calls Tryz.prog 155 #[.slice p 0 c, .func (.func 102) #[] #[]] w (ListR .nil w) := by
  obtain ⟨i0, hi0, hz0, hz1, hz2⟩ := info_parts infoValue
  obtain ⟨M, hM⟩ : ∃ M, M = madeCells (Value.agg #[.int .u8 0, .string ⟨#[]⟩, .slice none 0 0, .slice none 0 0]).cells (((0 : Nat) : Int).toNat * i0.size) := ⟨_, rfl⟩
  have hMs : M.size = 0 * 4 := by rw [hM, size_madeCells, hz1, Int.toNat_natCast]
  have hmk : ∀ W : World, (Instr.makeSlice 22 (.int .i64 0) (.int .i64 0)).run Tryz.prog W = .ok (.slice (some ⟨W.heap.size, 0, none⟩) 0 0) (W.alloc (.cells M 25)) := fun W => by
    have h := run_make (P := Tryz.prog) W 22 25 i0 _ Tryz.underlying22 hi0 hz0 .i64 .i64 ((0 : Nat) : Int) ((0 : Nat) : Int) (by omega) (by omega) (by rw [hz2]; omega) (by omega)
    rw [← hM] at h
    simpa using h
  have hB0 := (Below.refl w.heap.size w).alloc (Nat.le_refl _) (.cells #[.int .u8 0, .string ⟨#[]⟩, .slice none 0 0, .slice none 0 0] 25)
  have b0 : Blk4 (w.alloc (.cells #[.int .u8 0, .string ⟨#[]⟩, .slice none 0 0, .slice none 0 0] 25)) w.heap.size 25 _ _ _ _ := heap_alloc_new _ _
  have hz0 := World.size_alloc w (.cells #[.int .u8 0, .string ⟨#[]⟩, .slice none 0 0, .slice none 0 0] 25)
  have HB := Lib.hid (And.intro b0 (And.intro hB0 hz0))
  clear hM hB0 b0 hz0
  go_enter Tryz.func155, Tryz.ntmps155
  go_wp2_with fail
  generalize w.alloc (.cells #[.int .u8 0, .string ⟨#[]⟩, .slice none 0 0, .slice none 0 0] 25) = w1 at *
  have hB1 := (Below.refl w1.heap.size w1).alloc (Nat.le_refl _) (.cells M 25)
  have hg : w1.heap.size = w.heap.size + 1 := HB.out.2.2
  have HC := Lib.hid (show LsSt w1 w.heap.size (w.heap.size + 1) .nil 0 M (w1.alloc (.cells M 25)) from
    ⟨⟨hB1, hg ▸ heap_alloc_new _ _, by rw [hMs]; rfl, Nat.le_of_eq hg, by rw [Nat.zero_mul, List.take_zero]; exact RP.nil _ _ _ _⟩, HB.out.1.same (hB1.block _ HB.out.1.lt), HB.out.1.lt⟩)
  generalize w1.alloc (.cells M 25) = W0 at *
  have HG := Lib.hid hg
  clear hB1 hMs hmk hg
  go_loopw [13] (fun p wr => ∃ i : Nat, p = .int .i64 i ∧ i ≤ 0 ∧ Hid (∃ cur, LsSt w1 w.heap.size (w.heap.size + 1) .nil i cur wr)) (fun p _ => 0 - (RowKit.intOf p).toNat)
  case atStart => exact ⟨0, rfl, Nat.zero_le _, Lib.hid ⟨_, HC.out⟩⟩
  case round =>
    obtain ⟨i, rfl, hi, HR⟩ := hrel
    obtain ⟨cur, hR⟩ := HR.out
    obtain rfl : i = 0 := by omega
    clear HR
    have hw := CaSt.whole (t := .nil) hR.ca (by decide)
    have hb2 := hR.box
    have HF := Lib.hid (And.intro hw (And.intro hb2 (And.intro hR.ca.below hR.lt)))
    obtain ⟨x0, x1, x2, x3⟩ := hb2.box
    have f0 := hb2.free 0
    have f1 := hb2.free 1
    have f2 := hb2.free 2
    have f3 := hb2.free 3
    clear hw hR hb2
    go_wp2_with fail
    obtain ⟨g1, g2, g3⟩ := HF.out.2.1.all (.int .u8 5) (.string ⟨#[]⟩) (.slice (some ⟨w.heap.size + 1, 0, none⟩) 0 0) (.slice none 0 0)
    have hw3 := set4_else wr w.heap.size (.int .u8 5) (.string ⟨#[]⟩) (.slice (some ⟨w.heap.size + 1, 0, none⟩) 0 0) (.slice none 0 0)
    have g3' := g3 w.heap.size (Nat.le_refl _)
    clear x0 x1 x2 x3 f0 f1 f2 f3
    generalize (((wr.setCell ⟨w.heap.size, 0, none⟩ (.int .u8 5)).setCell ⟨w.heap.size, 1, none⟩ (.string ⟨#[]⟩)).setCell ⟨w.heap.size, 2, none⟩ (.slice (some ⟨w.heap.size + 1, 0, none⟩) 0 0)).setCell ⟨w.heap.size, 3, none⟩ (.slice none 0 0) = w3 at *
    obtain ⟨x0, x1, x2, x3⟩ := g1.box
    refine bodyPost_ret (v := .agg #[.int .u8 5, .string ⟨#[]⟩, .slice (some ⟨w.heap.size + 1, 0, none⟩) 0 0, .slice none 0 0]) (by simp [results, Tryz.results155, go_sem, x0, x1, x2, x3]) rfl ?_
    have hlt := HF.out.2.2.2
    have hg := HG.out
    exact ⟨_, rfl, HF.out.1.fre (fun b hb => by omega) (fun b hb _ => hw3 b (by omega)), (HB.out.2.1.trans (HF.out.2.2.1.mono HB.out.2.1.size)).trans g3'⟩

/-- ints as they lie behind a slice -/
def SrcI (w : World) (v : Value) (l : List Int) : Prop := (l = [] ∧ ∃ p c, v = .slice p 0 c ∧ c ≤ 9223372036854775807) ∨ ∃ b o c, v = .slice (some ⟨b, o, none⟩) l.length c ∧ l.length ≤ c ∧ c ≤ 9223372036854775807 ∧ b < w.heap.size ∧ (∀ j n, l[j]? = some n → w.cell? ⟨b, o + j, none⟩ = some (.int .i64 n)) ∧ ∀ n ∈ l, -9223372036854775808 ≤ n ∧ n ≤ 9223372036854775807
theorem SrcI.below {w w' : World} {v : Value} {l : List Int} (h : SrcI w v l) (hB : Below w.heap.size w w') : SrcI w' v l := by
  rcases h with h | ⟨b, o, c, h1, h2, h3, h4, h5, h6⟩
  · exact .inl h
  · exact .inr ⟨b, o, c, h1, h2, h3, Nat.lt_of_lt_of_le h4 hB.size, fun j n hj => (hB.cell (p := ⟨b, o + j, none⟩) h4).trans (h5 j n hj), h6⟩
theorem listInt_any (v : Value) (l : List Int) (w : World) (h : SrcI w v l) (hn : l.length ≤ 1000000) (hP : PowTab w) :
    Calls Tryz.prog 155 #[v, .func (.func 102) #[] #[]] w (ListR (nmT l) w) := by
  rcases h with ⟨rfl, p, c, rfl, hc⟩ | ⟨b, o, c, rfl, h2, h3, h4, h5, h6⟩
  · exact listInt_nil p c w hc
  · exact listInt_some b o c l w ⟨h2, h3⟩ hn (fun _ => h4) h5 h6 hP
set_option maxHeartbeats 1000000 in
set_option maxRecDepth 100000 in
theorem numbers_any (p : Option Addr) (n c : Nat) (l : List Int) (N : Nat) (w : World) (hN : N ≤ w.heap.size) (h : SrcI w (.slice p n c) l) (hn : l.length ≤ 1000000) (hP : PowTab w) :
    Calls Tryz.prog 108 #[.slice p n c] w (RetV N 5 ⟨#[]⟩ (nmT l) .nil w) := by
  have hB0 := (Below.refl w.heap.size w).alloc (Nat.le_refl _) (.cells #[.int .u8 0, .string ⟨#[]⟩, .slice none 0 0, .slice none 0 0] 25)
  have b0 : Blk4 (w.alloc (.cells #[.int .u8 0, .string ⟨#[]⟩, .slice none 0 0, .slice none 0 0] 25)) w.heap.size 25 _ _ _ _ := heap_alloc_new _ _
  have HC := Lib.hid (listInt_any (.slice p n c) l _ (h.below hB0) hn (pow_below hP hB0))
  have hs0 := World.size_alloc w (.cells #[.int .u8 0, .string ⟨#[]⟩, .slice none 0 0, .slice none 0 0] 25)
  have H0 := Lib.hid (And.intro b0 (And.intro hB0 hs0))
  clear hB0 b0 hs0 h hP
  go_enter Tryz.func108, Tryz.ntmps108
  go_wp2_with fail
  refine HC.out.mono ?_
  rintro e w1 ⟨v, rfl, hv, hB⟩
  obtain ⟨q, d, rfl, -⟩ := hv.len
  have b1 := H0.out.1.same (hB.block _ H0.out.1.lt)
  have H1 := Lib.hid (And.intro hv (And.intro b1 (H0.out.2.1.trans (hB.mono H0.out.2.1.size))))
  obtain ⟨x0, x1, x2, x3⟩ := b1.box
  have f0 := b1.free 0
  have f1 := b1.free 1
  have f2 := b1.free 2
  have f3 := b1.free 3
  clear hv hB b1 HC
  generalize (nmT l).len = nl at *
  go_wp2_with fail
  obtain ⟨g1, g2, g3⟩ := H1.out.2.1.all (.int .u8 5) (.string ⟨#[]⟩) (.slice q nl d) (.slice none 0 0)
  have hw3 := set4_else w1 w.heap.size (.int .u8 5) (.string ⟨#[]⟩) (.slice q nl d) (.slice none 0 0)
  have g3' := g3 w.heap.size (Nat.le_refl _)
  clear x0 x1 x2 x3 f0 f1 f2 f3
  generalize (((w1.setCell ⟨w.heap.size, 0, none⟩ (.int .u8 5)).setCell ⟨w.heap.size, 1, none⟩ (.string ⟨#[]⟩)).setCell ⟨w.heap.size, 2, none⟩ (.slice q nl d)).setCell ⟨w.heap.size, 3, none⟩ (.slice none 0 0) = w3 at *
  obtain ⟨x0, x1, x2, x3⟩ := g1.box
  refine bodyPost_ret (v := .agg #[.int .u8 5, .string ⟨#[]⟩, .slice q nl d, .slice none 0 0]) (by simp [results, Tryz.results108, go_sem, x0, x1, x2, x3]) rfl ?_
  have hz := H0.out.2.2
  exact ⟨_, rfl, VF.mk (H1.out.1.fre (fun b hb => by omega) (fun b hb _ => hw3 b (by omega))) (HS.nil _ _ _), H1.out.2.2.trans g3'⟩
end Go.Proofs.YtbkciiogkgndiaaGreatDoor

namespace Go.Proofs.YtbkciiogkgndiaaGreatDoor
open Go Go.RowKit Go.Lib

/-- an int such as Go can hold -/
def I64 (n : Int) : Prop := -9223372036854775808 ≤ n ∧ n ≤ 9223372036854775807
def posT (l c : Int) : V.T := .cons ⟨#[108, 105, 110, 101]⟩ 3 ⟨(Lib.itoa l).toArray⟩ .nil .nil (.cons ⟨#[99, 104, 97, 114, 97, 99, 116, 101, 114]⟩ 3 ⟨(Lib.itoa c).toArray⟩ .nil .nil .nil)
set_option maxHeartbeats 1000000 in
set_option maxRecDepth 100000 in
theorem position_any (l c : Int) (N : Nat) (w : World) (hl : I64 l) (hc : I64 c) (hN : N ≤ w.heap.size) (hP : PowTab w) : Calls Tryz.prog 198 #[.agg #[.int .i64 l, .int .i64 c]] w (RetV N 6 ⟨#[]⟩ .nil (posT l c) w) := by
  have hb2 := two_below w (.cells #[.int .i64 l, .int .i64 c] 61) (.cells #[.int .u8 0, .string ⟨#[]⟩, .slice none 0 0, .slice none 0 0] 25)
  have hs2 := two_size w (.cells #[.int .i64 l, .int .i64 c] 61) (.cells #[.int .u8 0, .string ⟨#[]⟩, .slice none 0 0, .slice none 0 0] 25)
  have hn2 := two_new w (.cells #[.int .i64 l, .int .i64 c] 61) (.cells #[.int .u8 0, .string ⟨#[]⟩, .slice none 0 0, .slice none 0 0] 25)
  have H0 := Lib.hid (show Below w.heap.size w ((w.alloc (.cells #[.int .i64 l, .int .i64 c] 61)).alloc (.cells #[.int .u8 0, .string ⟨#[]⟩, .slice none 0 0, .slice none 0 0] 25)) ∧ ((w.alloc (.cells #[.int .i64 l, .int .i64 c] 61)).alloc (.cells #[.int .u8 0, .string ⟨#[]⟩, .slice none 0 0, .slice none 0 0] 25)).heap.size = w.heap.size + 2 ∧ Blk4 ((w.alloc (.cells #[.int .i64 l, .int .i64 c] 61)).alloc (.cells #[.int .u8 0, .string ⟨#[]⟩, .slice none 0 0, .slice none 0 0] 25)) (w.heap.size + 1) 25 (.int .u8 0) (.string ⟨#[]⟩) (.slice none 0 0) (.slice none 0 0) ∧ ((w.alloc (.cells #[.int .i64 l, .int .i64 c] 61)).alloc (.cells #[.int .u8 0, .string ⟨#[]⟩, .slice none 0 0, .slice none 0 0] 25)).heap[w.heap.size]? = some (.cells #[.int .i64 l, .int .i64 c] 61) from ⟨hb2, hs2, hn2.2, hn2.1⟩)
  clear hb2 hs2 hn2
  go_enter Tryz.func198, Tryz.ntmps198
  go_upto_region 1 with fail
  generalize (w.alloc (.cells #[.int .i64 l, .int .i64 c] 61)).alloc (.cells #[.int .u8 0, .string ⟨#[]⟩, .slice none 0 0, .slice none 0 0] 25) = W0 at *
  have c0 : W0.cell? ⟨w.heap.size, 0, none⟩ = some (.int .i64 l) := (cell_of_row W0 _ 0 _ _ (0, 0) H0.out.2.2.2).trans rfl
  have c1 : W0.cell? ⟨w.heap.size, 1, none⟩ = some (.int .i64 c) := (cell_of_row W0 _ 1 _ _ (0, 0) H0.out.2.2.2).trans rfl
  have hps := psf_new (cs := #[.iface 9 (.string ⟨#[108, 105, 110, 101]⟩), .iface 3 (.int .i64 l), .iface 9 (.string ⟨#[99, 104, 97, 114, 97, 99, 116, 101, 114]⟩), .iface 3 (.int .i64 c)]) (N := w.heap.size + 2) (W := W0) (t := 20) (T := posT l c) (m := 2) [nPt ⟨#[108, 105, 110, 101]⟩ l, nPt ⟨#[99, 104, 97, 114, 97, 99, 116, 101, 114]⟩ c] rfl rfl rfl (fun p hp => by
    simp only [List.mem_cons, List.not_mem_nil, or_false] at hp
    rcases hp with rfl | rfl
    · exact nPt_ok hl (by decide)
    · exact nPt_ok hc (by decide))
  have hB := (Below.refl W0.heap.size W0).alloc (Nat.le_refl _) (.cells #[.iface 9 (.string ⟨#[108, 105, 110, 101]⟩), .iface 3 (.int .i64 l), .iface 9 (.string ⟨#[99, 104, 97, 114, 97, 99, 116, 101, 114]⟩), .iface 3 (.int .i64 c)] 20)
  have hob := obj_ret (N := w.heap.size + 2) (by have := hB.size; have := H0.out.2.1; omega) (by decide) hps (pow_below hP (H0.out.1.trans (hB.mono H0.out.1.size)))
  have b1 := H0.out.2.2.1.same (hB.block _ H0.out.2.2.1.lt)
  have H1 := Lib.hid (And.intro hob (And.intro b1 (H0.out.1.trans (hB.mono H0.out.1.size))))
  clear hps hB hob b1
  go_wp2_with fail
  generalize W0.alloc (.cells #[.iface 9 (.string ⟨#[108, 105, 110, 101]⟩), .iface 3 (.int .i64 l), .iface 9 (.string ⟨#[99, 104, 97, 114, 97, 99, 116, 101, 114]⟩), .iface 3 (.int .i64 c)] 20) = w1 at *
  refine H1.out.1.mono ?_
  rintro e w2 ⟨y, rfl, ⟨p, n, d, q, m, d', rfl, h1, h2⟩, hB⟩
  have b2 := H1.out.2.1.same (hB.block _ H1.out.2.1.lt)
  have H2 := Lib.hid (And.intro h1 (And.intro h2 (And.intro b2 (H1.out.2.2.trans (hB.mono H1.out.2.2.size)))))
  obtain ⟨x0, x1, x2, x3⟩ := b2.box
  have f0 := b2.free 0
  have f1 := b2.free 1
  have f2 := b2.free 2
  have f3 := b2.free 3
  clear h1 h2 b2 hB c0 c1
  go_wp2_with fail
  obtain ⟨g1, g2, g3⟩ := H2.out.2.2.1.all (.int .u8 6) (.string ⟨#[]⟩) (.slice p n d) (.slice q m d')
  have hw3 := set4_else w2 (w.heap.size + 1) (.int .u8 6) (.string ⟨#[]⟩) (.slice p n d) (.slice q m d')
  have g3' := g3 w.heap.size (Nat.le_add_right _ _)
  clear x0 x1 x2 x3 f0 f1 f2 f3
  generalize (((w2.setCell ⟨w.heap.size + 1, 0, none⟩ (.int .u8 6)).setCell ⟨w.heap.size + 1, 1, none⟩ (.string ⟨#[]⟩)).setCell ⟨w.heap.size + 1, 2, none⟩ (.slice p n d)).setCell ⟨w.heap.size + 1, 3, none⟩ (.slice q m d') = w3 at *
  obtain ⟨x0, x1, x2, x3⟩ := g1.box
  refine bodyPost_ret (v := .agg #[.int .u8 6, .string ⟨#[]⟩, .slice p n d, .slice q m d']) (by simp [results, Tryz.results198, go_sem, x0, x1, x2, x3]) rfl ?_
  exact ⟨_, rfl, VF.mk (H2.out.1.fre (fun b hb => by omega) (fun b hb _ => hw3 b (by omega))) (H2.out.2.1.fre (fun b hb => by omega) (fun b hb _ => hw3 b (by omega))), H2.out.2.2.2.trans g3'⟩
end Go.Proofs.YtbkciiogkgndiaaGreatDoor

namespace Go.Proofs.YtbkciiogkgndiaaGreatDoor
open Go Go.RowKit Go.Lib

/-- a value within an interface -/
def IVP (N k : Nat) (x : ByteArray) (l f : V.T) (y : Value) (W : World) : Prop := ∃ z, y = .iface 25 z ∧ VF N k x l f z W
theorem IVP.on {N k : Nat} {x : ByteArray} {l f : V.T} {y : Value} {W W' : World} (h : IVP N k x l f y W) (hB : Below W.heap.size W W') : IVP N k x l f y W' := by
  obtain ⟨z, h1, h2⟩ := h
  exact ⟨z, h1, h2.on hB⟩
/-- a struct's box, and the answer's behind it -/
structure MkG (w : World) (t : TypeId) (cs : Array Value) (W : World) : Prop where
  below : Below w.heap.size w W
  lt : w.heap.size + 2 ≤ W.heap.size
  b0 : W.heap[w.heap.size]? = some (.cells cs t (0, 0))
  b1 : Blk4 W (w.heap.size + 1) 25 (.int .u8 0) (.string ⟨#[]⟩) (.slice none 0 0) (.slice none 0 0)
theorem MkG.on {w : World} {t : TypeId} {cs : Array Value} {W W' : World} (h : MkG w t cs W) (hB : Below W.heap.size W W') : MkG w t cs W' :=
  ⟨h.below.trans (hB.mono h.below.size), Nat.le_trans h.lt hB.size, (hB.block _ (Array.getElem?_eq_some_iff.1 h.b0).1).trans h.b0, h.b1.same (hB.block _ h.b1.lt)⟩
theorem MkG.c {w : World} {t : TypeId} {cs : Array Value} {W : World} (h : MkG w t cs W) (j : Nat) (v : Value) (hj : cs[j]? = some v) : W.cell? ⟨w.heap.size, j, none⟩ = some v := (cell_of_row W _ j _ _ (0, 0) h.b0).trans hj
theorem mkG0 (w : World) (t : TypeId) (cs : Array Value) : MkG w t cs ((w.alloc (.cells cs t)).alloc (.cells #[.int .u8 0, .string ⟨#[]⟩, .slice none 0 0, .slice none 0 0] 25)) := by
  have h := two_new w (.cells cs t) (.cells #[.int .u8 0, .string ⟨#[]⟩, .slice none 0 0, .slice none 0 0] 25)
  exact ⟨two_below _ _ _, by rw [two_size]; omega, h.1, h.2⟩
def rangeT (l1 c1 l2 c2 : Int) : V.T := .cons ⟨#[115, 116, 97, 114, 116]⟩ 6 ⟨#[]⟩ .nil (posT l1 c1) (.cons ⟨#[101, 110, 100]⟩ 6 ⟨#[]⟩ .nil (posT l2 c2) .nil)
def Fplace_any (l1 c1 l2 c2 : Int) (w : World) : Nat → Value → World → Prop
  | 0, y, _ => y = .iface 9 (.string ⟨#[115, 116, 97, 114, 116]⟩)
  | 1, y, _ => y = .pointer (some ⟨w.heap.size, 0, none⟩)
  | 2, y, _ => y = .agg #[.int .i64 l1, .int .i64 c1]
  | 3, y, W => VF (w.heap.size + 2) 6 ⟨#[]⟩ .nil (posT l1 c1) y W
  | 4, y, W => IVP (w.heap.size + 2) 6 ⟨#[]⟩ .nil (posT l1 c1) y W
  | 5, y, _ => y = .iface 9 (.string ⟨#[101, 110, 100]⟩)
  | 6, y, _ => y = .pointer (some ⟨w.heap.size, 2, none⟩)
  | 7, y, _ => y = .agg #[.int .i64 l2, .int .i64 c2]
  | 8, y, W => VF (w.heap.size + 2) 6 ⟨#[]⟩ .nil (posT l2 c2) y W
  | 9, y, W => IVP (w.heap.size + 2) 6 ⟨#[]⟩ .nil (posT l2 c2) y W
  | 10, y, W => PsF (w.heap.size + 2) 2 (rangeT l1 c1 l2 c2) y W
  | 11, y, W => VF (w.heap.size + 2) 6 ⟨#[]⟩ .nil (rangeT l1 c1 l2 c2) y W
  | _, _, _ => True
theorem Fplace_any.on {l1 c1 l2 c2 : Int} {w : World} {i : Nat} {y : Value} {W W' : World} (h : Fplace_any l1 c1 l2 c2 w i y W) (hB : Below W.heap.size W W') : Fplace_any l1 c1 l2 c2 w i y W' := by
  unfold Fplace_any at h ⊢
  split at h
  · exact h
  · exact h
  · exact h
  · exact h.on hB
  · exact h.on hB
  · exact h
  · exact h
  · exact h
  · exact h.on hB
  · exact h.on hB
  · exact h.on hB
  · exact h.on hB
  · trivial
set_option maxHeartbeats 4000000 in
set_option maxRecDepth 100000 in
theorem place_any (l1 c1 l2 c2 : Int) (N : Nat) (w : World) (h_l1 : I64 l1) (h_c1 : I64 c1) (h_l2 : I64 l2) (h_c2 : I64 c2) (hN : N ≤ w.heap.size) (hP : PowTab w) : Calls Tryz.prog 160 #[.agg #[.int .i64 l1, .int .i64 c1, .int .i64 l2, .int .i64 c2]] w (RetV N 6 ⟨#[]⟩ .nil (rangeT l1 c1 l2 c2) w) := by
  have HPo := Lib.hid (fun W (h : Below w.heap.size w W) => pow_below hP h)
  have H0 := Lib.hid (mkG0 w 67 #[.int .i64 l1, .int .i64 c1, .int .i64 l2, .int .i64 c2])
  clear hP
  go_enter Tryz.func160, Tryz.ntmps160
  go_upto_region 1 with fail
  generalize (w.alloc (.cells #[.int .i64 l1, .int .i64 c1, .int .i64 l2, .int .i64 c2] 67)).alloc (.cells #[.int .u8 0, .string ⟨#[]⟩, .slice none 0 0, .slice none 0 0] 25) = W0 at *
  have HX := Lib.hid (H0.out.on (Below.refl W0.heap.size W0).drew)
  refine wp_region_stepsF [some 3, some 4, some 5, some 6, some 7, some 8, some 9, some 10, some 11, some 12, some 13, some 14, none] _ _ (G := MkG w 67 #[.int .i64 l1, .int .i64 c1, .int .i64 l2, .int .i64 c2]) (F := Fplace_any l1 c1 l2 c2 w) (z := 12) (by kernel_rfl) rfl (by decide +kernel) rfl (by decide +kernel) (by decide +kernel) rfl (fun W W' h hB => h.on hB) (fun i y W W' h hB => h.on hB) ?_ ?_ HX.out
  · intro i o ho hz a W hg hd hold K' hK
    have HG := Lib.hid hg
    have hlt : i < 13 := (Array.getElem?_eq_some_iff.1 ho).1
    clear hg
    obtain rfl | rfl | rfl | rfl | rfl | rfl | rfl | rfl | rfl | rfl | rfl | rfl | rfl : i = 0 ∨ i = 1 ∨ i = 2 ∨ i = 3 ∨ i = 4 ∨ i = 5 ∨ i = 6 ∨ i = 7 ∨ i = 8 ∨ i = 9 ∨ i = 10 ∨ i = 11 ∨ i = 12 := by omega
    · obtain rfl := Option.some.inj ho
      clear hd hold
      go_simp
      exact hK.out _ _ (by rfl) (Below.refl _ _)
    · obtain rfl := Option.some.inj ho
      have o1 : a.tmps[1]? = _ := (hold 1 rfl).trans rfl
      clear hd hold
      go_simp
      exact hK.out _ _ (by rfl) (Below.refl _ _)
    · obtain rfl := Option.some.inj ho
      obtain ⟨y1, e1, h1⟩ := hd 1 4 rfl (by decide +kernel) (by decide)
      have h1 : y1 = _ := h1
      subst h1
      have g0 := HG.out.c 0 _ rfl
      have g1 := HG.out.c 1 _ rfl
      clear hd hold
      go_simp
      exact hK.out _ _ (by rfl) (Below.refl _ _)
    · obtain rfl := Option.some.inj ho
      obtain ⟨y2, e2, h2⟩ := hd 2 5 rfl (by decide +kernel) (by decide)
      have h2 : y2 = _ := h2
      subst h2
      have hcall := position_any l1 c1 (w.heap.size + 2) W h_l1 h_c1 HG.out.lt (HPo.out _ HG.out.below)
      have HC := Lib.hid hcall
      clear hd hold hcall
      go_simp
      go_at_call 198
      (with_reducible refine HC.out.mono ?_)
      rintro e W1 ⟨y, rfl, hv, hB⟩
      exact hK.out _ _ hv hB
    · obtain rfl := Option.some.inj ho
      obtain ⟨y3, e3, h3⟩ := hd 3 6 rfl (by decide +kernel) (by decide)
      obtain ⟨p3, n3, c3, q3, m3, d3, rfl, l3, f3⟩ : VF (w.heap.size + 2) 6 ⟨#[]⟩ .nil (posT l1 c1) y3 W := h3
      clear hd hold
      go_simp
      exact hK.out _ _ ⟨_, rfl, VF.mk l3 f3⟩ (Below.refl _ _)
    · obtain rfl := Option.some.inj ho
      clear hd hold
      go_simp
      exact hK.out _ _ (by rfl) (Below.refl _ _)
    · obtain rfl := Option.some.inj ho
      have o1 : a.tmps[1]? = _ := (hold 1 rfl).trans rfl
      clear hd hold
      go_simp
      exact hK.out _ _ (by rfl) (Below.refl _ _)
    · obtain rfl := Option.some.inj ho
      obtain ⟨y6, e6, h6⟩ := hd 6 9 rfl (by decide +kernel) (by decide)
      have h6 : y6 = _ := h6
      subst h6
      have g2 := HG.out.c 2 _ rfl
      have g3 := HG.out.c 3 _ rfl
      clear hd hold
      go_simp
      exact hK.out _ _ (by rfl) (Below.refl _ _)
    · obtain rfl := Option.some.inj ho
      obtain ⟨y7, e7, h7⟩ := hd 7 10 rfl (by decide +kernel) (by decide)
      have h7 : y7 = _ := h7
      subst h7
      have hcall := position_any l2 c2 (w.heap.size + 2) W h_l2 h_c2 HG.out.lt (HPo.out _ HG.out.below)
      have HC := Lib.hid hcall
      clear hd hold hcall
      go_simp
      go_at_call 198
      (with_reducible refine HC.out.mono ?_)
      rintro e W1 ⟨y, rfl, hv, hB⟩
      exact hK.out _ _ hv hB
    · obtain rfl := Option.some.inj ho
      obtain ⟨y8, e8, h8⟩ := hd 8 11 rfl (by decide +kernel) (by decide)
      obtain ⟨p8, n8, c8, q8, m8, d8, rfl, l8, f8⟩ : VF (w.heap.size + 2) 6 ⟨#[]⟩ .nil (posT l2 c2) y8 W := h8
      clear hd hold
      go_simp
      exact hK.out _ _ ⟨_, rfl, VF.mk l8 f8⟩ (Below.refl _ _)
    · obtain rfl := Option.some.inj ho
      obtain ⟨y0, e0, h0⟩ := hd 0 3 rfl (by decide +kernel) (by decide)
      have h0 : y0 = _ := h0
      subst h0
      obtain ⟨y4, e4, h4⟩ := hd 4 7 rfl (by decide +kernel) (by decide)
      obtain ⟨z4, rfl, p4, n4, c4, q4, m4, d4, rfl, l4, f4⟩ : IVP (w.heap.size + 2) 6 ⟨#[]⟩ .nil (posT l1 c1) y4 W := h4
      obtain ⟨y5, e5, h5⟩ := hd 5 8 rfl (by decide +kernel) (by decide)
      have h5 : y5 = _ := h5
      subst h5
      obtain ⟨y9, e9, h9⟩ := hd 9 12 rfl (by decide +kernel) (by decide)
      obtain ⟨z9, rfl, p9, n9, c9, q9, m9, d9, rfl, l9, f9⟩ : IVP (w.heap.size + 2) 6 ⟨#[]⟩ .nil (posT l2 c2) y9 W := h9
      have hps := psf_new (cs := #[.iface 9 (.string ⟨#[115, 116, 97, 114, 116]⟩), .iface 25 (.agg #[.int .u8 6, .string ⟨#[]⟩, .slice p4 n4 c4, .slice q4 m4 d4]), .iface 9 (.string ⟨#[101, 110, 100]⟩), .iface 25 (.agg #[.int .u8 6, .string ⟨#[]⟩, .slice p9 n9 c9, .slice q9 m9 d9])]) (N := (w.heap.size + 2)) (W := W) (t := 20) (T := (rangeT l1 c1 l2 c2)) (m := 2) [vPt ⟨#[115, 116, 97, 114, 116]⟩ 6 ⟨#[]⟩ (.slice p4 n4 c4) (.slice q4 m4 d4) .nil (posT l1 c1), vPt ⟨#[101, 110, 100]⟩ 6 ⟨#[]⟩ (.slice p9 n9 c9) (.slice q9 m9 d9) .nil (posT l2 c2)] rfl rfl rfl (fun p hp => by
        simp only [List.mem_cons, List.not_mem_nil, or_false] at hp
        rcases hp with rfl | rfl
        · exact vPt_ok ⟨by decide, by decide, by decide⟩ l4 f4
        · exact vPt_ok ⟨by decide, by decide, by decide⟩ l9 f9)
      have hB := (Below.refl W.heap.size W).alloc (Nat.le_refl _) (.cells #[.iface 9 (.string ⟨#[115, 116, 97, 114, 116]⟩), .iface 25 (.agg #[.int .u8 6, .string ⟨#[]⟩, .slice p4 n4 c4, .slice q4 m4 d4]), .iface 9 (.string ⟨#[101, 110, 100]⟩), .iface 25 (.agg #[.int .u8 6, .string ⟨#[]⟩, .slice p9 n9 c9, .slice q9 m9 d9])] 20)
      have HQ := Lib.hid (And.intro hps hB)
      clear hd hold hps hB
      go_simp
      exact hK.out _ _ HQ.out.1 HQ.out.2
    · obtain rfl := Option.some.inj ho
      obtain ⟨y10, e10, h10⟩ := hd 10 13 rfl (by decide +kernel) (by decide)
      have h10 : PsF (w.heap.size + 2) 2 (rangeT l1 c1 l2 c2) y10 W := h10
      have hcall := obj_ret (y := y10) (w := W) (N := (w.heap.size + 2)) HG.out.lt (by decide) h10 (HPo.out _ HG.out.below)
      have HC := Lib.hid hcall
      clear hd hold hcall h10
      go_simp
      go_at_call 107
      (with_reducible refine HC.out.mono ?_)
      rintro e W1 ⟨y, rfl, hv, hB⟩
      exact hK.out _ _ hv hB
    · exact absurd rfl hz
  · intro a W hg hf hold hdf hasz K' hK
    obtain ⟨yz, oz, hvz⟩ := hf 11 14 rfl (by decide) (by decide)
    obtain ⟨p, n, d, q, m, d', rfl, hl, hf'⟩ : VF (w.heap.size + 2) 6 ⟨#[]⟩ .nil (rangeT l1 c1 l2 c2) yz W := hvz
    have o2 : a.tmps[2]? = some (Value.pointer (some ⟨w.heap.size + 1, 0, none⟩)) := (hold 2 rfl).trans rfl
    have od : a.defers = [] := hdf.trans rfl
    have HG := Lib.hid hg
    have HV := Lib.hid (And.intro hl hf')
    obtain ⟨s0, s1, s2, s3⟩ := hg.b1.box
    have f0 := hg.b1.free 0
    have f1 := hg.b1.free 1
    have f2 := hg.b1.free 2
    have f3 := hg.b1.free 3
    clear hg hl hf hf' hold hdf hasz
    go_simp
    refine hK.out _ _ ?_
    clear hK K'
    go_wp2_with fail
    obtain ⟨g1, g2, g3⟩ := HG.out.b1.all (.int .u8 6) (.string ⟨#[]⟩) (.slice p n d) (.slice q m d')
    have hw3 := set4_else W (w.heap.size + 1) (.int .u8 6) (.string ⟨#[]⟩) (.slice p n d) (.slice q m d')
    have g3' := g3 w.heap.size (Nat.le_add_right _ _)
    clear s0 s1 s2 s3 f0 f1 f2 f3
    generalize (((W.setCell ⟨w.heap.size + 1, 0, none⟩ (.int .u8 6)).setCell ⟨w.heap.size + 1, 1, none⟩ (.string ⟨#[]⟩)).setCell ⟨w.heap.size + 1, 2, none⟩ (.slice p n d)).setCell ⟨w.heap.size + 1, 3, none⟩ (.slice q m d') = w3 at *
    obtain ⟨x0, x1, x2, x3⟩ := g1.box
    refine bodyPost_ret (v := .agg #[.int .u8 6, .string ⟨#[]⟩, .slice p n d, .slice q m d']) (by simp [results, Tryz.results160, go_sem, o2, x0, x1, x2, x3]) od ?_
    exact ⟨_, rfl, VF.mk (HV.out.1.fre (fun b hb => by omega) (fun b hb _ => hw3 b (by omega))) (HV.out.2.fre (fun b hb => by omega) (fun b hb _ => hw3 b (by omega))), HG.out.below.trans g3'⟩
end Go.Proofs.YtbkciiogkgndiaaGreatDoor
