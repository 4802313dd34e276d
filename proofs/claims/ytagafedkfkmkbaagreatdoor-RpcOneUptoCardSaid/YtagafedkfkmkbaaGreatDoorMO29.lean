/- The program's Number. Conditions: an int; the library's table of powers as its text lays it. -/
import Derived.Test.YtagafedkfkmkbaaGreatDoorMO25
import Derived.Test.YtagafedkfkmkbaaGreatDoorMO03
import Derived.Test.YtagafedkfkmkbaaGreatDoorMO28
import Derived.Shelf.Strconv.Itoa3
import Derived.Lib.AppendIntMem
import Derived.Lib.ItoaLen
import Derived.Test.YtagafedkfkmkbaaGreatDoorMO27
import Derived.Deep.AppendLies
namespace Go.Proofs
open Go Go.RowKit Go.Shelf Go.Lib

namespace YtagafedkfkmkbaaGreatDoor
def PowTab (w : World) : Prop := Lib.TabIs Tryz.prog w "internal/strconv.uint64pow10" .u64 Lib.pow10Tab
def NumIs (x : List UInt8) (w : World) (e : Ending) (w' : World) : Prop := e = .returned (.agg #[.int .u8 3, .string ⟨x.toArray⟩, .slice none 0 0, .slice none 0 0]) ∧ Below w.heap.size w w'
theorem itoa_any (n : Int) (h0 : -9223372036854775808 ≤ n) (h1 : n ≤ 9223372036854775807) (w : World) (hP : PowTab w) :
    Calls Tryz.prog 146 #[.int .i64 n] w (StrIs ⟨(Lib.itoa n).toArray⟩ w) := by
  refine (Any.strconv_Itoa Tryz.laysItoa n h0 h1 w hP).mono ?_
  rintro e w' ⟨rfl, k, os, rfl⟩
  exact ⟨rfl, Lib.below_grow _ _ (Nat.le_refl _) k os⟩

set_option maxHeartbeats 1000000 in
set_option maxRecDepth 100000 in
theorem numberJ_any (n : Int) (h0 : -9223372036854775808 ≤ n) (h1 : n ≤ 9223372036854775807) (w : World) (hP : ∀ w', Below w.heap.size w w' → PowTab w') :
    Calls Tryz.prog 80 #[.int .i64 n] w (NumIs (Lib.itoa n) w) := by
  have hc := fun W hB => itoa_any n h0 h1 W (hP W hB)
  go_enter Tryz.func80, Tryz.ntmps80
  go_wp2_with fail
  have hB0 := (Below.refl w.heap.size w).alloc (Nat.le_refl _) (.cells #[.int .u8 0, .string ⟨#[]⟩, .slice none 0 0, .slice none 0 0] 25)
  have b0 : Blk4 (w.alloc (.cells #[.int .u8 0, .string ⟨#[]⟩, .slice none 0 0, .slice none 0 0] 25)) w.heap.size 25 _ _ _ _ := heap_alloc_new _ _
  refine (hc _ hB0).mono ?_
  rintro e w1 ⟨rfl, hB1⟩
  have b1 := b0.same (hB1.block _ b0.lt)
  have hB2 := hB0.trans (hB1.mono hB0.size)
  obtain ⟨x0, x1, x2, x3⟩ := b1.box
  have f0 := b1.free 0
  have f1 := b1.free 1
  have f2 := b1.free 2
  have f3 := b1.free 3
  have HB := Lib.hid (And.intro b1 hB2)
  clear b0 b1 hB0 hB1 hB2 hc
  go_wp2_with fail
  obtain ⟨g1, g2, g3⟩ := HB.out.1.all (.int .u8 3) (.string ⟨(Lib.itoa n).toArray⟩) (.slice none 0 0) (.slice none 0 0)
  have hfin := HB.out.2.trans (g3 _ (Nat.le_refl _))
  clear x0 x1 x2 x3 f0 f1 f2 f3
  generalize (((w1.setCell ⟨w.heap.size, 0, none⟩ (.int .u8 3)).setCell ⟨w.heap.size, 1, none⟩ (.string ⟨(Lib.itoa n).toArray⟩)).setCell ⟨w.heap.size, 2, none⟩ (.slice none 0 0)).setCell ⟨w.heap.size, 3, none⟩ (.slice none 0 0) = W' at *
  obtain ⟨x0, x1, x2, x3⟩ := g1.box
  refine bodyPost_ret (v := .agg #[.int .u8 3, .string ⟨(Lib.itoa n).toArray⟩, .slice none 0 0, .slice none 0 0]) (by simp [results, Tryz.results80, go_sem, x0, x1, x2, x3]) rfl ?_
  exact ⟨rfl, hfin⟩

end YtagafedkfkmkbaaGreatDoor
end Go.Proofs

namespace Go.Proofs.YtagafedkfkmkbaaGreatDoor
open Go Go.RowKit Go.Lib

/-- an object of these fields is handed back -/
def ObjIs (v : Value) (w : World) (e : Ending) (w' : World) : Prop := e = .returned (.agg #[.int .u8 6, .string ⟨#[]⟩, .slice none 0 0, v]) ∧ Below w.heap.size w w'
set_option maxHeartbeats 1000000 in
set_option maxRecDepth 100000 in
theorem object_any (p : Option Addr) (n c : Nat) (w : World) : Calls Tryz.prog 145 #[.slice p n c] w (ObjIs (.slice p n c) w) := by
  go_enter Tryz.func145, Tryz.ntmps145
  go_wp2_with fail
  have hfin := (Below.refl w.heap.size w).alloc (Nat.le_refl _) (.cells #[.int .u8 6, .string ⟨#[]⟩, .slice none 0 0, .slice p n c] 25)
  have g1 : Blk4 (w.alloc (.cells #[.int .u8 6, .string ⟨#[]⟩, .slice none 0 0, .slice p n c] 25)) w.heap.size 25 _ _ _ _ := heap_alloc_new _ _
  generalize w.alloc (.cells #[.int .u8 6, .string ⟨#[]⟩, .slice none 0 0, .slice p n c] 25) = W' at *
  obtain ⟨x0, x1, x2, x3⟩ := g1.box
  refine bodyPost_ret (v := .agg #[.int .u8 6, .string ⟨#[]⟩, .slice none 0 0, .slice p n c]) (by simp [results, Tryz.results145, go_sem, x0, x1, x2, x3]) rfl ?_
  exact ⟨rfl, hfin⟩

structure CpSt (w : World) (k : Nat) (x : ByteArray) (v u : Value) (l f : V.T) (W : World) : Prop where
  below : Below w.heap.size w W
  size : w.heap.size + 2 ≤ W.heap.size
  b0 : Blk4 W w.heap.size 25 (.int .u8 k) (.string x) v u
  b1 : Blk4 W (w.heap.size + 1) 25 (.int .u8 0) (.string ⟨#[]⟩) (.slice none 0 0) (.slice none 0 0)
  li : Lies W (.slice (some ⟨w.heap.size + 1 + 1, 0, none⟩) 1 1) [⟨⟨#[]⟩, k, x, v, u, l, f⟩]
  l : HS W (fun _ => True) 0 v l
  f : HS W (fun _ => True) 1 u f
theorem CpSt.on {w : World} {k : Nat} {x : ByteArray} {v u : Value} {l f : V.T} {W W' : World} (h : CpSt w k x v u l f W) (hB : Below W.heap.size W W') : CpSt w k x v u l f W' :=
  ⟨h.below.trans (hB.mono h.below.size), Nat.le_trans h.size hB.size, h.b0.same (hB.block _ h.b0.lt), h.b1.same (hB.block _ h.b1.lt), h.li.below hB, h.l.below hB, h.f.below hB⟩
theorem CpSt.get {w : World} {k : Nat} {x : ByteArray} {v u : Value} {l f : V.T} {W : World} (h : CpSt w k x v u l f W) (hk : Fit ⟨#[]⟩ k x) :
    Calls Tryz.prog 59 #[.agg #[.int .u8 6, .string ⟨#[]⟩, .slice none 0 0, .slice (some ⟨w.heap.size + 1 + 1, 0, none⟩) 1 1], .string ⟨#[]⟩] W (GotF (some (k, x, l, f)) W) := by
  have := get_any 6 ⟨#[]⟩ ⟨#[]⟩ (.slice none 0 0) _ .nil _ (fun _ => True) W (HS.nil _ _ _) (h.li.hs (A := fun _ => True) (fun e he => by
    cases he with
    | head => exact ⟨h.l, h.f, hk⟩
    | tail _ h => cases h) (fun _ _ => trivial) (by show 1 ≤ 2000000000000; decide))
  exact this
set_option maxHeartbeats 1000000 in
set_option maxRecDepth 100000 in
theorem copied_any (k : Nat) (x : ByteArray) (v u : Value) (l f : V.T) (A : Nat → Prop) (w : World) (hk : Fit ⟨#[]⟩ k x) (hl : HS w A 0 v l) (hf : HS w A 1 u f) :
    Calls Tryz.prog 155 #[.agg #[.int .u8 k, .string x, v, u]] w (Own4G k x l f w) := by
  obtain ⟨p, c, rfl, -⟩ := hl.len
  obtain ⟨q, d, rfl, -⟩ := hf.len
  have HO := Lib.hid (fun W p n c => object_any p n c W)
  have HG := Lib.hid (fun W (h : CpSt w k x (.slice p l.len c) (.slice q f.len d) l f W) => h.get hk)
  have S0 : CpSt w k x (.slice p l.len c) (.slice q f.len d) l f (((w.alloc (.cells #[.int .u8 k, .string x, .slice p l.len c, .slice q f.len d] 25)).alloc (.cells #[.int .u8 0, .string ⟨#[]⟩, .slice none 0 0, .slice none 0 0] 25)).alloc (.cells #[.string ⟨#[]⟩, .int .u8 k, .string x, .slice p l.len c, .slice q f.len d] 109)) := by
    have h2 := two_new w (.cells #[.int .u8 k, .string x, .slice p l.len c, .slice q f.len d] 25) (.cells #[.int .u8 0, .string ⟨#[]⟩, .slice none 0 0, .slice none 0 0] 25)
    have hb := two_below w (.cells #[.int .u8 k, .string x, .slice p l.len c, .slice q f.len d] 25) (.cells #[.int .u8 0, .string ⟨#[]⟩, .slice none 0 0, .slice none 0 0] 25)
    have hz := two_size w (.cells #[.int .u8 k, .string x, .slice p l.len c, .slice q f.len d] 25) (.cells #[.int .u8 0, .string ⟨#[]⟩, .slice none 0 0, .slice none 0 0] 25)
    generalize (w.alloc (.cells #[.int .u8 k, .string x, .slice p l.len c, .slice q f.len d] 25)).alloc (.cells #[.int .u8 0, .string ⟨#[]⟩, .slice none 0 0, .slice none 0 0] 25) = W2 at *
    have hB := (Below.refl W2.heap.size W2).alloc (Nat.le_refl _) (.cells #[.string ⟨#[]⟩, .int .u8 k, .string x, .slice p l.len c, .slice q f.len d] 109)
    have b0 : Blk4 W2 w.heap.size 25 _ _ _ _ := h2.1
    have b1 : Blk4 W2 (w.heap.size + 1) 25 _ _ _ _ := h2.2
    have hL := lies_new (w := W2) (cs := #[.string ⟨#[]⟩, .int .u8 k, .string x, .slice p l.len c, .slice q f.len d]) (es := [⟨⟨#[]⟩, k, x, .slice p l.len c, .slice q f.len d, l, f⟩]) (t := 109) (n := 1) rfl rfl (by decide)
    rw [hz] at hL
    exact ⟨hb.trans (hB.mono hb.size), by rw [World.size_alloc, hz]; omega, b0.same (hB.block _ b0.lt), b1.same (hB.block _ b1.lt), hL, ((hl.mono (fun _ _ _ => trivial)).below (hb.trans (hB.mono hb.size))), ((hf.mono (fun _ _ _ => trivial)).below (hb.trans (hB.mono hb.size)))⟩
  have H0 := Lib.hid S0
  clear hl hf S0
  go_enter Tryz.func155, Tryz.ntmps155
  go_wp2_with fail
  refine (HO.out _ _ _ _).mono ?_
  rintro e w1 ⟨rfl, hB1⟩
  have H1 := Lib.hid (H0.out.on hB1)
  clear hB1 H0
  go_wp2_with fail
  refine (HG.out _ H1.out).mono ?_
  rintro e w2 ⟨v2, u2, rfl, hl2, hf2, -, -, hB2⟩
  dsimp only [V.res] at hl2 hf2 ⊢
  obtain ⟨p2, c2, rfl, -⟩ := hl2.len
  obtain ⟨q2, d2, rfl, -⟩ := hf2.len
  have H2 := Lib.hid (H1.out.on hB2)
  obtain ⟨x0, x1, x2, x3⟩ := H2.out.b0.box
  obtain ⟨y0, y1, y2, y3⟩ := H2.out.b1.box
  have f0 := H2.out.b0.free
  have f1 := H2.out.b1.free
  go_wp2_with fail
  obtain ⟨g1, g2, g3⟩ := H2.out.b0.all (.int .u8 k) (.string x) (.slice p2 l.len c2) (.slice q2 f.len d2)
  have hw3 := set4_else w2 w.heap.size (.int .u8 k) (.string x) (.slice p2 l.len c2) (.slice q2 f.len d2)
  have g3' := g3 _ (Nat.le_refl _)
  have b1 := H2.out.b1.same (hw3 (w.heap.size + 1) (by omega))
  clear x0 x1 x2 x3 y0 y1 y2 y3 f0 f1
  generalize (((w2.setCell ⟨w.heap.size, 0, none⟩ (.int .u8 k)).setCell ⟨w.heap.size, 1, none⟩ (.string x)).setCell ⟨w.heap.size, 2, none⟩ (.slice p2 l.len c2)).setCell ⟨w.heap.size, 3, none⟩ (.slice q2 f.len d2) = w3 at *
  obtain ⟨k1, k2, k3⟩ := b1.all (.int .u8 k) (.string x) (.slice p2 l.len c2) (.slice q2 f.len d2)
  have hw4 := set4_else w3 (w.heap.size + 1) (.int .u8 k) (.string x) (.slice p2 l.len c2) (.slice q2 f.len d2)
  have k3' := k3 w.heap.size (Nat.le_succ _)
  generalize (((w3.setCell ⟨w.heap.size + 1, 0, none⟩ (.int .u8 k)).setCell ⟨w.heap.size + 1, 1, none⟩ (.string x)).setCell ⟨w.heap.size + 1, 2, none⟩ (.slice p2 l.len c2)).setCell ⟨w.heap.size + 1, 3, none⟩ (.slice q2 f.len d2) = w4 at *
  obtain ⟨x0, x1, x2, x3⟩ := k1.box
  have hs := H1.out.size
  have keep : ∀ b, w1.heap.size ≤ b → b < w2.heap.size → w4.heap[b]? = w2.heap[b]? := fun b hb _ => (hw4 b (by omega)).trans (hw3 b (by omega))
  refine bodyPost_ret (v := .agg #[.int .u8 k, .string x, .slice p2 l.len c2, .slice q2 f.len d2]) (by simp [results, Tryz.results155, go_sem, x0, x1, x2, x3]) rfl ?_
  exact ⟨_, _, rfl, hl2.fre (fun b hb => by omega) keep, hf2.fre (fun b hb => by omega) keep, (H2.out.below.trans g3').trans k3'⟩

def verF : Fe := ⟨⟨#[106, 115, 111, 110, 114, 112, 99]⟩, 4, ⟨#[50, 46, 48]⟩, .slice none 0 0, .slice none 0 0, .nil, .nil⟩
theorem verF_ok (w : World) (A : Nat → Prop) : verF.Ok w A := ⟨HS.nil _ _ _, HS.nil _ _ _, by decide, by decide, by decide⟩
theorem ver_fix : U.fixS ⟨#[50, 46, 48]⟩ = ⟨#[50, 46, 48]⟩ := U.fixS_valid _ (by decide +kernel)

structure MdSt (w : World) (v : Value) (es : List Fe) (W : World) : Prop where
  below : Below w.heap.size w W
  size : w.heap.size + 1 ≤ W.heap.size
  b0 : Blk4 W w.heap.size 25 (.int .u8 0) (.string ⟨#[]⟩) (.slice none 0 0) (.slice none 0 0)
  li : Lies W v es
  lt : ∀ b, v.ownBlock = some b → b < w.heap.size
  ok : ∀ e ∈ es, e.Ok W (fun b => b < w.heap.size)
theorem MdSt.on {w : World} {v : Value} {es : List Fe} {W W' : World} (h : MdSt w v es W) (hB : Below W.heap.size W W') : MdSt w v es W' :=
  ⟨h.below.trans (hB.mono h.below.size), Nat.le_trans h.size hB.size, h.b0.same (hB.block _ h.b0.lt), h.li.below hB, h.lt, fun e he => (h.ok e he).below hB⟩

structure M3 (w : World) (v : Value) (es : List Fe) (W : World) : Prop where
  below : Below w.heap.size w W
  size : w.heap.size + 1 ≤ W.heap.size
  b0 : Blk4 W w.heap.size 25 (.int .u8 0) (.string ⟨#[]⟩) (.slice none 0 0) (.slice none 0 0)
  hs : HS W (fun _ => True) 1 v (treeOf es)
theorem M3.on {w : World} {v : Value} {es : List Fe} {W W' : World} (h : M3 w v es W) (hB : Below W.heap.size W W') : M3 w v es W' :=
  ⟨h.below.trans (hB.mono h.below.size), Nat.le_trans h.size hB.size, h.b0.same (hB.block _ h.b0.lt), h.hs.below hB⟩

set_option maxHeartbeats 1000000 in
set_option maxRecDepth 100000 in
theorem made_any (p : Option Addr) (n c : Nat) (es : List Fe) (A : Nat → Prop) (w : World) (hn : n = es.length) (h10 : 0 < n ∧ n ≤ 10) (hl : Lies w (.slice p n c) es) (ho : ∀ e ∈ es, e.Ok w A) (hT : Tabs w) :
    Calls Tryz.prog 85 #[.slice p n c] w (Own4G 6 ⟨#[]⟩ .nil (treeOf (verF :: es)) w) := by
  obtain ⟨i0, hi0, hz0, hz1, hz2⟩ := info_parts infoField
  subst hn
  obtain ⟨b, hp⟩ : ∃ b, p = some ⟨b, 0, none⟩ := by
    obtain ⟨b, c', e, _⟩ := hl
    cases e
    exact ⟨b, rfl⟩
  subst hp
  have HO := Lib.hid (fun W p n c => object_any p n c W)
  have HT := Lib.hid (fun W (hB : Below w.heap.size w W) => text4_any ⟨#[50, 46, 48]⟩ W (by decide) (by rw [ver_fix]; decide) (tabs_below hT hB))
  rw [ver_fix] at HT
  have HC := Lib.hid (fun W p n c (h : HS W (fun _ => True) 1 (.slice p n c) (treeOf (verF :: es))) => copied_any 6 ⟨#[]⟩ (.slice none 0 0) (.slice p n c) .nil (treeOf (verF :: es)) (fun _ => True) W ⟨by decide, by decide, by decide⟩ (HS.nil _ _ _) h)
  have H0 := Lib.hid (show MdSt w (.slice (some ⟨b, 0, none⟩) es.length c) es (w.alloc (.cells #[.int .u8 0, .string ⟨#[]⟩, .slice none 0 0, .slice none 0 0] 25)) from by
    have hB := (Below.refl w.heap.size w).alloc (Nat.le_refl _) (.cells #[.int .u8 0, .string ⟨#[]⟩, .slice none 0 0, .slice none 0 0] 25)
    refine ⟨hB, by rw [World.size_alloc]; omega, heap_alloc_new _ _, hl.below hB, fun b hb => ?_, fun e he => ((ho e he).mono (fun _ _ h => h)).below hB⟩
    obtain ⟨b', c', e, _, _, h4, _⟩ := hl
    rw [e] at hb
    cases hb
    exact h4)
  clear hl ho hT
  go_enter Tryz.func85, Tryz.ntmps85
  go_wp2_with fail
  refine (HT.out _ H0.out.below).mono ?_
  rintro e w1 ⟨rfl, hB1⟩
  have H1 := Lib.hid (H0.out.on hB1)
  clear hB1 H0
  have hB2 := two_below w1 (.cells #[.string ⟨#[106, 115, 111, 110, 114, 112, 99]⟩, .int .u8 4, .string ⟨#[50, 46, 48]⟩, .slice none 0 0, .slice none 0 0] 109) (.cells #[.string ⟨#[106, 115, 111, 110, 114, 112, 99]⟩, .int .u8 4, .string ⟨#[50, 46, 48]⟩, .slice none 0 0, .slice none 0 0] 109)
  have H2 := H1.out.on hB2
  have own2 := owns_new (w := w1.alloc (.cells #[.string ⟨#[106, 115, 111, 110, 114, 112, 99]⟩, .int .u8 4, .string ⟨#[50, 46, 48]⟩, .slice none 0 0, .slice none 0 0] 109)) (cs := #[.string ⟨#[106, 115, 111, 110, 114, 112, 99]⟩, .int .u8 4, .string ⟨#[50, 46, 48]⟩, .slice none 0 0, .slice none 0 0]) (es := [verF]) (t := 109) (n := 1) rfl rfl (by decide) (w.heap.size + 1) (by rw [World.size_alloc]; have := H1.out.size; omega)
  rw [World.size_alloc] at own2
  go_wp2_with (at_builtin; go_loud (refine wpList_append_lies _ rfl _ _ 23 rfl (w.heap.size + 1) 109 i0 _ 5 88 Tryz.underlying23 hi0 hz0 hz1 hz2 rfl (by decide) (.slice (some ⟨w1.heap.size + 1, 0, none⟩) 1 1) 1 (cellsOf [verF]) rfl own2 ⟨b, 0, none⟩ es.length c (cellsOf es) rfl (cellsOf_len _) H2.li.news (cellsOf_one es H2.ok) h10.1 (by unfold maxLen; omega) (by omega) H2.size _ rfl ?_))
  intro g cap w3 own3 hg3 _ _
  have hs1 := H1.out.size
  have H3 := Lib.hid (show M3 w (.slice (some ⟨g, 0, none⟩) (1 + es.length) cap) (verF :: es) w3 from by
    have hrow : ∀ k, (Value.slice (some ⟨w1.heap.size + 1, 0, none⟩) 1 1).ownBlock = some k → k = w1.heap.size + 1 := fun k hk => by cases hk; rfl
    have hne : ∀ k, k < w1.heap.size + 1 → some k ≠ (Value.slice (some ⟨w1.heap.size + 1, 0, none⟩) 1 1).ownBlock := fun k hk e => by have := hrow k e.symm; omega
    refine ⟨H2.below.grown hg3 (by have := H2.size; omega) (fun k hk => by rw [hrow k hk]; omega), Nat.le_trans H2.size hg3.size, H2.b0.same (hg3.block _ H2.b0.lt (hne _ (by omega))), ?_⟩
    refine Lies.hs (lies_owned (by simp; omega) own3) (fun e he => ?_) (fun _ _ => trivial) (by simp; omega)
    rcases List.mem_cons.1 he with rfl | he
    · exact verF_ok _ _
    · exact (H2.ok e he).imp (fun _ _ _ => trivial) (fun k hk hlt => hg3.block k hlt (hne k (by omega))))
  clear own3 hg3 own2 H2 hB2 H1
  go_wp2_with fail
  refine (HO.out _ _ _ _).mono ?_
  rintro e w4 ⟨rfl, hB4⟩
  have H4 := Lib.hid (H3.out.on hB4)
  clear hB4 H3
  go_wp2_with fail
  refine (HC.out _ _ _ _ H4.out.hs).mono ?_
  rintro e w5 ⟨v2, u2, rfl, hl2, hf2, hB5⟩
  obtain ⟨p2, c2, rfl, -⟩ := hl2.len
  obtain ⟨q2, d2, rfl, -⟩ := hf2.len
  have H5 := Lib.hid (H4.out.on hB5)
  have hs4 := H4.out.size
  obtain ⟨x0, x1, x2, x3⟩ := H5.out.b0.box
  have f0 := H5.out.b0.free
  go_wp2_with fail
  obtain ⟨g1, g2, g3⟩ := H5.out.b0.all (.int .u8 6) (.string ⟨#[]⟩) (.slice p2 V.T.nil.len c2) (.slice q2 (treeOf (verF :: es)).len d2)
  have hw3 := set4_else w5 w.heap.size (.int .u8 6) (.string ⟨#[]⟩) (.slice p2 V.T.nil.len c2) (.slice q2 (treeOf (verF :: es)).len d2)
  have g3' := g3 _ (Nat.le_refl _)
  clear x0 x1 x2 x3 f0
  generalize (((w5.setCell ⟨w.heap.size, 0, none⟩ (.int .u8 6)).setCell ⟨w.heap.size, 1, none⟩ (.string ⟨#[]⟩)).setCell ⟨w.heap.size, 2, none⟩ (.slice p2 V.T.nil.len c2)).setCell ⟨w.heap.size, 3, none⟩ (.slice q2 (treeOf (verF :: es)).len d2) = w6 at *
  obtain ⟨x0, x1, x2, x3⟩ := g1.box
  have keep : ∀ b, w4.heap.size ≤ b → b < w5.heap.size → w6.heap[b]? = w5.heap[b]? := fun b hb _ => hw3 b (by omega)
  refine bodyPost_ret (v := .agg #[.int .u8 6, .string ⟨#[]⟩, .slice p2 V.T.nil.len c2, .slice q2 (treeOf (verF :: es)).len d2]) (by simp [results, Tryz.results85, go_sem, x0, x1, x2, x3]) rfl ?_
  exact ⟨_, _, rfl, hl2.fre (fun b hb => by omega) keep, hf2.fre (fun b hb => by omega) keep, H5.out.below.trans g3'⟩
end Go.Proofs.YtagafedkfkmkbaaGreatDoor

namespace Go.Proofs.YtagafedkfkmkbaaGreatDoor.U
open Go

set_option maxRecDepth 100000 in
set_option maxHeartbeats 4000000 in
/-- a character hangs on its own bytes alone -/
theorem dn_local (n n' b0 b1 b2 b3 c1 c2 c3 : Nat) (hg : ¬ ((Lib.decodeN n b0 b1 b2 b3).1 = 65533 ∧ (Lib.decodeN n b0 b1 b2 b3).2 = 1)) (hn : (Lib.decodeN n b0 b1 b2 b3).2 ≤ n')
    (h1 : 2 ≤ (Lib.decodeN n b0 b1 b2 b3).2 → c1 = b1) (h2 : 3 ≤ (Lib.decodeN n b0 b1 b2 b3).2 → c2 = b2) (h3 : 4 ≤ (Lib.decodeN n b0 b1 b2 b3).2 → c3 = b3) :
    Lib.decodeN n' b0 c1 c2 c3 = Lib.decodeN n b0 b1 b2 b3 := by
  by_cases k0 : b0 < 128
  · unfold Lib.decodeN
    rw [if_pos k0, if_pos k0]
  by_cases k1 : b0 / 32 = 6 ∧ (1 < n ∧ b1 / 64 = 2)
  · have e : Lib.decodeN n b0 b1 b2 b3 = (if b0 % 32 * 64 + b1 % 64 ≥ 128 then (b0 % 32 * 64 + b1 % 64, 2) else (65533, 1)) := by
      unfold Lib.decodeN
      rw [if_neg k0, if_pos k1]
    rw [e] at hg hn h1 h2 h3 ⊢
    split at hg
    · rename_i hc
      rw [if_pos hc] at hn h1 h2 h3 ⊢
      obtain rfl := h1 (Nat.le_refl _)
      unfold Lib.decodeN
      rw [if_neg k0, if_pos ⟨k1.1, by simp only at hn; omega, k1.2.2⟩, if_pos hc]
    · exact absurd ⟨rfl, rfl⟩ hg
  by_cases k2 : b0 / 16 = 14 ∧ (1 < n ∧ b1 / 64 = 2) ∧ (2 < n ∧ b2 / 64 = 2)
  · have e : Lib.decodeN n b0 b1 b2 b3 = (if b0 % 16 * 4096 + b1 % 64 * 64 + b2 % 64 ≥ 2048 ∧ (b0 % 16 * 4096 + b1 % 64 * 64 + b2 % 64 < 55296 ∨ (57344 ≤ b0 % 16 * 4096 + b1 % 64 * 64 + b2 % 64 ∧ b0 % 16 * 4096 + b1 % 64 * 64 + b2 % 64 ≤ 1114111)) then (b0 % 16 * 4096 + b1 % 64 * 64 + b2 % 64, 3) else (65533, 1)) := by
      unfold Lib.decodeN
      rw [if_neg k0, if_neg k1, if_pos k2]
    rw [e] at hg hn h1 h2 h3 ⊢
    split at hg
    · rename_i hc
      rw [if_pos hc] at hn h1 h2 h3 ⊢
      obtain rfl := h1 (by simp only; omega)
      obtain rfl := h2 (Nat.le_refl _)
      unfold Lib.decodeN
      simp only at hn
      rw [if_neg k0, if_neg (by omega), if_pos ⟨k2.1, ⟨by omega, k2.2.1.2⟩, by omega, k2.2.2.2⟩, if_pos hc]
    · exact absurd ⟨rfl, rfl⟩ hg
  by_cases k3 : b0 / 8 = 30 ∧ (1 < n ∧ b1 / 64 = 2) ∧ (2 < n ∧ b2 / 64 = 2) ∧ (3 < n ∧ b3 / 64 = 2)
  · have e : Lib.decodeN n b0 b1 b2 b3 = (if b0 % 8 * 262144 + b1 % 64 * 4096 + b2 % 64 * 64 + b3 % 64 ≥ 65536 ∧ (b0 % 8 * 262144 + b1 % 64 * 4096 + b2 % 64 * 64 + b3 % 64 < 55296 ∨ (57344 ≤ b0 % 8 * 262144 + b1 % 64 * 4096 + b2 % 64 * 64 + b3 % 64 ∧ b0 % 8 * 262144 + b1 % 64 * 4096 + b2 % 64 * 64 + b3 % 64 ≤ 1114111)) then (b0 % 8 * 262144 + b1 % 64 * 4096 + b2 % 64 * 64 + b3 % 64, 4) else (65533, 1)) := by
      unfold Lib.decodeN
      rw [if_neg k0, if_neg k1, if_neg k2, if_pos k3]
    rw [e] at hg hn h1 h2 h3 ⊢
    split at hg
    · rename_i hc
      rw [if_pos hc] at hn h1 h2 h3 ⊢
      obtain rfl := h1 (by simp only; omega)
      obtain rfl := h2 (by simp only; omega)
      obtain rfl := h3 (Nat.le_refl _)
      unfold Lib.decodeN
      simp only at hn
      rw [if_neg k0, if_neg (by omega), if_neg (by omega), if_pos ⟨k3.1, ⟨by omega, k3.2.1.2⟩, ⟨by omega, k3.2.2.1.2⟩, by omega, k3.2.2.2.2⟩, if_pos hc]
    · exact absurd ⟨rfl, rfl⟩ hg
  · exfalso
    apply hg
    unfold Lib.decodeN
    rw [if_neg k0, if_neg k1, if_neg k2, if_neg k3]
    exact ⟨rfl, rfl⟩

/-- a character that stands elsewhere, too, is the same there -/
theorem same_char (s t : ByteArray) (p q : Nat) (hp : p < s.size) (hg : bad s p = false) (hq : q + wd s p ≤ t.size) (hb : ∀ k, k < wd s p → t.get! (q + k) = s.get! (p + k)) : ch t q = ch s p ∧ wd t q = wd s p := by
  have hf := facts s p hp
  have hn : ¬ (ch s p = 65533 ∧ wd s p = 1) := fun hx => by rw [(bad_iff s p).2 hx] at hg; cases hg
  have h0 := hb 0 (by omega)
  rw [Nat.add_zero, Nat.add_zero] at h0
  have hl := dn_local (s.size - p) (t.size - q) (s.get! p).toNat (s.get! (p + 1)).toNat (s.get! (p + 2)).toNat (s.get! (p + 3)).toNat (t.get! (q + 1)).toNat (t.get! (q + 2)).toNat (t.get! (q + 3)).toNat
    (by rw [← ch_eq, ← wd_eq]; exact hn) (by rw [← wd_eq]; omega) (by rw [← wd_eq]; intro h; rw [hb 1 (by omega)]) (by rw [← wd_eq]; intro h; rw [hb 2 (by omega)]) (by rw [← wd_eq]; intro h; rw [hb 3 (by omega)])
  rw [ch_eq t q, wd_eq t q, ch_eq s p, wd_eq s p, h0, hl]
  exact ⟨rfl, rfl⟩

theorem get_list (t : ByteArray) (q : Nat) : t.get! q = t.data.toList.getD q 0 := (Lib.getD_get!' t q).symm
theorem get_app (t : ByteArray) (l m r : List UInt8) (h : t.data.toList = l ++ (m ++ r)) (k : Nat) (hk : k < m.length) : t.get! (l.length + k) = m.getD k 0 := by
  rw [get_list, h]
  simp only [List.getD]
  rw [List.getElem?_append_right (by omega), Nat.add_sub_cancel_left, List.getElem?_append_left hk]
theorem stretch_length (s : ByteArray) (p n : Nat) : (stretch s p n).length = n := by unfold stretch; rw [List.length_map, List.length_range]
theorem stretch_getD (s : ByteArray) (p n k : Nat) (hk : k < n) : (stretch s p n).getD k 0 = s.get! (p + k) := by
  unfold stretch
  simp [List.getD, hk]

/-- where a piece stands, it is what is next, and no invalid byte -/
theorem piece_next (s t : ByteArray) (p : Nat) (l r : List UInt8) (hp : p < s.size) (h : t.data.toList = l ++ (piece s p ++ r)) :
    ch t l.length = ch s p ∧ wd t l.length = (piece s p).length ∧ bad t l.length = false := by
  have hsz : t.size = l.length + ((piece s p).length + r.length) := by rw [Lib.size_eq, h, List.length_append, List.length_append]
  cases hb : bad s p
  · have hl : (piece s p).length = wd s p := by rw [piece_good hb, stretch_length]
    obtain ⟨h1, h2⟩ := same_char s t p l.length hp hb (by omega) (fun k hk => by rw [get_app t l _ r h k (by omega), piece_good hb, stretch_getD s p _ k hk])
    refine ⟨h1, by omega, ?_⟩
    cases hx : bad t l.length
    · rfl
    · have hy := (bad_iff _ _).1 hx
      rw [h1, h2] at hy
      rw [(bad_iff s p).2 hy] at hb
      cases hb
  · have hpc := piece_bad hb
    have hl : (piece s p).length = 3 := by rw [hpc]; rfl
    have g := fun k hk => get_app t l _ r h k hk
    have g0 := g 0 (by omega)
    have g1 := g 1 (by omega)
    have g2 := g 2 (by omega)
    rw [hpc] at g0 g1 g2
    rw [Nat.add_zero] at g0
    have hd : Lib.decodeN (t.size - l.length) (t.get! l.length).toNat (t.get! (l.length + 1)).toNat (t.get! (l.length + 2)).toNat (t.get! (l.length + 3)).toNat = (65533, 3) := by
      rw [g0, g1, g2]
      show Lib.decodeN _ 239 191 189 _ = _
      unfold Lib.decodeN
      rw [if_neg (by omega), if_neg (by omega), if_pos (by omega), if_pos (by omega)]
    have hc : ch t l.length = 65533 := by rw [ch_eq, hd]
    have hw : wd t l.length = 3 := by rw [wd_eq, hd]
    refine ⟨by rw [hc, ((bad_iff s p).1 hb).1], by rw [hw, hl], good_of_wd (by omega)⟩

theorem fix_scan (s t : ByteArray) : ∀ f pos (l : List UInt8), t.data.toList = l ++ fixFrom s f pos → s.size ≤ pos + f → ∀ F, t.size ≤ l.length + F → vFrom t F l.length = true ∧ unitsFrom t F l.length = unitsFrom s f pos
  | 0, pos, l, h, hf, F, hF => by
    have hz : t.size = l.length := by rw [Lib.size_eq, h]; simp [fixFrom]
    rw [vFrom_end t F _ (by omega), unitsFrom_end t F _ (by omega), unitsFrom_end s 0 pos (by omega)]
    exact ⟨rfl, rfl⟩
  | f + 1, pos, l, h, hf, F, hF => by
    by_cases hp : pos < s.size
    · rw [fixFrom_step s f pos hp] at h
      obtain ⟨h1, h2, h3⟩ := piece_next s t pos l _ hp h
      have hpl := piece_le hp
      have hsz : t.size = l.length + ((piece s pos).length + (fixFrom s f (pos + wd s pos)).length) := by rw [Lib.size_eq, h, List.length_append, List.length_append]
      obtain ⟨F', rfl⟩ : ∃ F', F = F' + 1 := ⟨F - 1, by omega⟩
      have hlt : l.length < t.size := by omega
      have ih := fix_scan s t f (pos + wd s pos) (l ++ piece s pos) (by rw [List.append_assoc]; exact h) (by have := wd_pos hp; omega) F' (by rw [List.length_append]; omega)
      rw [List.length_append, ← h2] at ih
      rw [vFrom_step t F' _ hlt h3, unitsFrom_step t F' _ hlt, unitsFrom_step s f pos hp]
      refine ⟨ih.1, ?_⟩
      rw [ih.2]
      unfold un
      rw [h1]
    · rw [fixFrom_end s _ pos hp, List.append_nil] at h
      have hz : t.size = l.length := by rw [Lib.size_eq, h]
      rw [vFrom_end t F _ (by omega), unitsFrom_end t F _ (by omega), unitsFrom_end s _ pos hp]
      exact ⟨rfl, rfl⟩
theorem fixS_list (s : ByteArray) : (fixS s).data.toList = fixL s := rfl
theorem fix_valid (s : ByteArray) : valid (fixS s) = true := (fix_scan s (fixS s) s.size 0 [] rfl (by omega) (fixS s).size (by simp)).1
theorem fix_units (s : ByteArray) : units (fixS s) = units s := (fix_scan s (fixS s) s.size 0 [] rfl (by omega) (fixS s).size (by simp)).2
theorem fix_fix (s : ByteArray) : fixS (fixS s) = fixS s := fixS_valid _ (fix_valid s)
theorem fix_same (s : ByteArray) : fixS s = s ↔ valid s = true := ⟨fun h => by rw [← h]; exact fix_valid s, fixS_valid s⟩
theorem fixFrom_len (s : ByteArray) : ∀ f pos, pos ≤ s.size → (fixFrom s f pos).length ≤ 3 * (s.size - pos)
  | 0, _, _ => by simp [fixFrom]
  | f + 1, pos, h => by
    by_cases hp : pos < s.size
    · rw [fixFrom_step s f pos hp, List.length_append]
      have := fixFrom_len s f (pos + wd s pos) (wd_le hp)
      have := (piece_le hp).1
      have := wd_le hp
      omega
    · rw [fixFrom_end s _ pos hp]; simp
theorem fix_size (s : ByteArray) : (fixS s).size ≤ 3 * s.size := by
  have := fixFrom_len s s.size 0 (Nat.zero_le _)
  rw [Lib.size_eq, fixS_list]
  exact this
end Go.Proofs.YtagafedkfkmkbaaGreatDoor.U
