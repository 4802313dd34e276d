/- What a request and a notice have in common. Conditions: such as Go can hold. -/
import Derived.Test.YtagafedkfkmkbaaGreatDoorMO30
namespace Go.Proofs.YtagafedkfkmkbaaGreatDoor
open Go Go.RowKit Go.Lib

def methF (F : ByteArray) : Fe := ⟨⟨#[109, 101, 116, 104, 111, 100]⟩, 4, F, .slice none 0 0, .slice none 0 0, .nil, .nil⟩
def parF (k : Nat) (x : ByteArray) (v u : Value) (l f : V.T) : Fe := ⟨⟨#[112, 97, 114, 97, 109, 115]⟩, k, x, v, u, l, f⟩
def calledE (F : ByteArray) (k : Nat) (x : ByteArray) (v u : Value) (l f : V.T) : List Fe := if k = 0 then [methF F] else [methF F, parF k x v u l f]
theorem calledE_len (F : ByteArray) (k : Nat) (x : ByteArray) (v u : Value) (l f : V.T) : 0 < (calledE F k x v u l f).length ∧ (calledE F k x v u l f).length ≤ 2 := by
  unfold calledE
  split <;> simp
theorem methF_ok (F : ByteArray) (hF : F.size ≤ 140737488355328) (w : World) (A : Nat → Prop) : (methF F).Ok w A := ⟨HS.nil _ _ _, HS.nil _ _ _, by show (4 : Nat) < 256; decide, hF, by show (6 : Nat) ≤ _; decide⟩
theorem calledE_ok {F : ByteArray} {k : Nat} {x : ByteArray} {v u : Value} {l f : V.T} {w : World} {A : Nat → Prop} (hF : F.size ≤ 140737488355328) (hk : Fit ⟨#[]⟩ k x) (hl : HS w A 0 v l) (hf : HS w A 1 u f) : ∀ e ∈ calledE F k x v u l f, e.Ok w A := fun e he => by
  unfold calledE at he
  split at he
  · cases List.mem_singleton.1 he
    exact methF_ok F hF w A
  · simp only [List.mem_cons, List.mem_nil_iff, or_false] at he
    rcases he with rfl | rfl
    · exact methF_ok F hF w A
    · exact ⟨hl, hf, hk.1, hk.2.1, by show (6 : Nat) ≤ _; decide⟩
/-- the fields are handed back, in memory of their own -/
def CalledIs (es : List Fe) (w : World) (e : Ending) (w' : World) : Prop := ∃ g c, e = .returned (.slice (some ⟨g, 0, none⟩) es.length c) ∧ w.heap.size ≤ g ∧ Lies w' (.slice (some ⟨g, 0, none⟩) es.length c) es ∧ Below w.heap.size w w'

structure RqSt (w : World) (k : Nat) (x : ByteArray) (v u : Value) (W : World) : Prop where
  below : Below w.heap.size w W
  b0 : Blk4 W w.heap.size 25 (.int .u8 k) (.string x) v u
theorem RqSt.on {w : World} {k : Nat} {x : ByteArray} {v u : Value} {W W' : World} (h : RqSt w k x v u W) (hB : Below W.heap.size W W') : RqSt w k x v u W' :=
  ⟨h.below.trans (hB.mono h.below.size), h.b0.same (hB.block _ h.b0.lt)⟩

set_option maxHeartbeats 1000000 in
set_option maxRecDepth 100000 in
theorem called_any (s : ByteArray) (k : Nat) (x : ByteArray) (v u : Value) (l f : V.T) (A : Nat → Prop) (w : World) (hs : s.size ≤ 1000000000000) (hl : HS w A 0 v l) (hf : HS w A 1 u f) (hT : Tabs w) :
    Calls Tryz.prog 86 #[.string s, .agg #[.int .u8 k, .string x, v, u]] w (CalledIs (calledE (U.fixS s) k x v u l f) w) := by
  obtain ⟨i0, hi0, hz0, hz1, hz2⟩ := info_parts infoField
  obtain ⟨p, c, rfl, -⟩ := hl.len
  obtain ⟨q, d, rfl, -⟩ := hf.len
  have hz : (U.fixS s).size ≤ 3000000000000 := by have := U.fix_size s; omega
  have HT := Lib.hid (fun W (h : RqSt w k x (.slice p l.len c) (.slice q f.len d) W) => text4_any s W (by omega) (by omega) (tabs_below hT h.below))
  have hB := (Below.refl w.heap.size w).alloc (Nat.le_refl _) (.cells #[.int .u8 k, .string x, .slice p l.len c, .slice q f.len d] 25)
  have H0 := Lib.hid (show RqSt w k x (.slice p l.len c) (.slice q f.len d) (w.alloc (.cells #[.int .u8 k, .string x, .slice p l.len c, .slice q f.len d] 25)) from ⟨hB, heap_alloc_new _ _⟩)
  have his : ∀ W b, W.heap.size = b → RqSt w k x (.slice p l.len c) (.slice q f.len d) W → Calls Tryz.prog 87 #[.agg #[.int .u8 k, .string x, .slice p l.len c, .slice q f.len d], .slice (some ⟨b, 0, none⟩) 1 1] (W.alloc (.cells #[.int .u8 0] 5)) (fun e w' => e = .returned (.bool (decide (k = 0))) ∧ Below W.heap.size W w') := fun W b hWb h => by
    subst hWb
    have hB2 := (Below.refl W.heap.size W).alloc (Nat.le_refl _) (.cells #[.int .u8 0] 5)
    refine (isOf_any k x (.slice p l.len c) (.slice q f.len d) l f A W.heap.size 1 1 [0] (W.alloc (.cells #[.int .u8 0] 5)) ((hl.below h.below).below hB2) ((hf.below h.below).below hB2) rfl (by decide) (by simp) (fun j hj => ?_)).mono ?_
    · obtain rfl : j = 0 := by omega
      exact (cell_of_row _ _ 0 _ _ (0, 0) (heap_alloc_new _ _)).trans rfl
    · rintro e w' ⟨rfl, hb⟩
      refine ⟨by simp, hB2.trans (hb.mono hB2.size)⟩
  have HIS := Lib.hid his
  clear hl hf hT hs hz his hB
  generalize U.fixS s = F at *
  go_enter Tryz.func86, Tryz.ntmps86
  go_wp2_with fail
  refine (HT.out _ H0.out).mono ?_
  rintro e w1 ⟨rfl, hB1⟩
  have H1 := Lib.hid (H0.out.on hB1)
  have hBa := (Below.refl w1.heap.size w1).alloc (Nat.le_refl _) (.cells #[.string ⟨#[109, 101, 116, 104, 111, 100]⟩, .int .u8 4, .string F, .slice none 0 0, .slice none 0 0] 109)
  have hlt1 : w.heap.size < w1.heap.size := H1.out.b0.lt
  have O2 := Lib.hid (owns_new (w := w1) (cs := #[.string ⟨#[109, 101, 116, 104, 111, 100]⟩, .int .u8 4, .string F, .slice none 0 0, .slice none 0 0]) (es := [methF F]) (t := 109) (n := 1) rfl rfl (by decide) (w.heap.size + 1) hlt1)
  have H2 := Lib.hid (H1.out.on hBa)
  obtain ⟨x0, x1, x2, x3⟩ := H2.out.b0.box
  clear hBa hB1 H0
  go_wp2_with fail
  refine (HIS.out _ _ (World.size_alloc _ _) H2.out).mono ?_
  rintro e w3 ⟨rfl, hB3⟩
  have H3 := Lib.hid (H2.out.on hB3)
  have O3 := Lib.hid (ownsRow_below O2.out hB3)
  have HLT := Lib.hid hlt1
  clear x0 x1 x2 x3 hB3 H2 O2 hlt1
  by_cases hk : k = 0
  · subst hk
    go_wp2_with fail
    go_ret
    have he : calledE F 0 x (.slice p l.len c) (.slice q f.len d) l f = [methF F] := if_pos rfl
    rw [he]
    exact ⟨_, _, rfl, Nat.le_of_lt HLT.out, lies_owned rfl O3.out, H3.out.below⟩
  · have t1 : decide (k = 0) = false := decide_eq_false hk
    have HE := Lib.hid (show calledE F k x (.slice p l.len c) (.slice q f.len d) l f = [methF F, parF k x (.slice p l.len c) (.slice q f.len d) l f] from if_neg hk)
    obtain ⟨x0, x1, x2, x3⟩ := H3.out.b0.box
    have hB4 := (Below.refl w3.heap.size w3).alloc (Nat.le_refl _) (.cells #[.string ⟨#[112, 97, 114, 97, 109, 115]⟩, .int .u8 k, .string x, .slice p l.len c, .slice q f.len d] 109)
    have L4 := lies_new (w := w3) (cs := #[.string ⟨#[112, 97, 114, 97, 109, 115]⟩, .int .u8 k, .string x, .slice p l.len c, .slice q f.len d]) (es := [parF k x (.slice p l.len c) (.slice q f.len d) l f]) (t := 109) (n := 1) rfl rfl (by decide)
    have O4 := ownsRow_below O3.out hB4
    have hsz4 : w.heap.size + 1 ≤ (w3.alloc (.cells #[.string ⟨#[112, 97, 114, 97, 109, 115]⟩, .int .u8 k, .string x, .slice p l.len c, .slice q f.len d] 109)).heap.size := by have := H3.out.b0.lt; rw [World.size_alloc]; omega
    have H4 := Lib.hid (H3.out.on hB4)
    clear hk hB4
    go_wp2_with (at_builtin; go_loud (refine wpList_append_lies _ rfl _ _ 23 rfl (w.heap.size + 1) 109 i0 _ 5 88 Tryz.underlying23 hi0 hz0 hz1 hz2 rfl (by decide) (.slice (some ⟨w1.heap.size, 0, none⟩) 1 1) 1 (cellsOf [methF F]) rfl O4 ⟨w3.heap.size, 0, none⟩ 1 1 (cellsOf [parF k x (.slice p l.len c) (.slice q f.len d) l f]) rfl (cellsOf_len _) L4.news (by simp [cellsOf, parF, Value.oneCell']) (by decide) (by decide) (by decide) hsz4 _ rfl ?_))
    intro g cap w5 own5 hg5 hat5 _
    have hlt5 := own5.lt g rfl
    have hB5 := H4.out.below.grown hg5 (by omega) (fun k hk => by cases hk; exact Nat.le_of_lt HLT.out)
    have L5 := Lib.hid (And.intro (lies_owned (es := [methF F, parF k x (.slice p l.len c) (.slice q f.len d) l f]) rfl own5) (And.intro hB5 hlt5.1))
    clear own5 hg5 hat5 hlt5 hB5 L4 O4
    go_wp2_with fail
    go_ret
    rw [HE.out]
    exact ⟨_, _, rfl, by have := L5.out.2.2; omega, L5.out.1, L5.out.2.1⟩
end Go.Proofs.YtagafedkfkmkbaaGreatDoor

namespace Go.Proofs.YtagafedkfkmkbaaGreatDoor
open Go Go.RowKit Go.Lib

def noticeT (F : ByteArray) (k : Nat) (x : ByteArray) (l f : V.T) : V.T := treeOf (verF :: calledE F k x (.slice none 0 0) (.slice none 0 0) l f)
theorem notice_tree (F : ByteArray) (k : Nat) (x : ByteArray) (v u : Value) (l f : V.T) : treeOf (verF :: calledE F k x v u l f) = noticeT F k x l f := by
  unfold noticeT calledE
  split <;> rfl

set_option maxHeartbeats 1000000 in
set_option maxRecDepth 100000 in
theorem notice_any (s : ByteArray) (k : Nat) (x : ByteArray) (v u : Value) (l f : V.T) (A : Nat → Prop) (w : World) (hk : Fit ⟨#[]⟩ k x) (hs : s.size ≤ 1000000000000) (hl : HS w A 0 v l) (hf : HS w A 1 u f) (hT : Tabs w) :
    Calls Tryz.prog 29 #[.string s, .agg #[.int .u8 k, .string x, v, u]] w (Own4G 6 ⟨#[]⟩ .nil (noticeT (U.fixS s) k x l f) w) := by
  obtain ⟨p, c, rfl, -⟩ := hl.len
  obtain ⟨q, d, rfl, -⟩ := hf.len
  have hz : (U.fixS s).size ≤ 3000000000000 := by have := U.fix_size s; omega
  have HC := Lib.hid (fun W (h : FaSt w k x (.slice p l.len c) (.slice q f.len d) l f W) => called_any s k x (.slice p l.len c) (.slice q f.len d) l f (fun _ => True) W hs h.l h.f (tabs_below hT h.below))
  have hma := fun W (p' : Option Addr) (c' : Nat) (hb : FaSt w k x (.slice p l.len c) (.slice q f.len d) l f W) (hL : Lies W (.slice p' (calledE (U.fixS s) k x (.slice p l.len c) (.slice q f.len d) l f).length c') (calledE (U.fixS s) k x (.slice p l.len c) (.slice q f.len d) l f)) => made_any p' _ c' _ (fun _ => True) W rfl (by have := calledE_len (U.fixS s) k x (.slice p l.len c) (.slice q f.len d) l f; omega) hL (calledE_ok (by omega) hk hb.l hb.f) (tabs_below hT hb.below)
  simp only [notice_tree] at hma
  have HMA := Lib.hid hma
  have H0 := Lib.hid (show FaSt w k x (.slice p l.len c) (.slice q f.len d) l f ((w.alloc (.cells #[.int .u8 k, .string x, .slice p l.len c, .slice q f.len d] 25)).alloc (.cells #[.int .u8 0, .string ⟨#[]⟩, .slice none 0 0, .slice none 0 0] 25)) from
    ⟨two_below _ _ _, by rw [two_size]; omega, (two_new _ _ _).1, (two_new _ _ _).2, (hl.mono (fun _ _ _ => trivial)).below (two_below _ _ _), (hf.mono (fun _ _ _ => trivial)).below (two_below _ _ _)⟩)
  clear hl hf hs hT hz hk hma
  generalize U.fixS s = F at *
  generalize calledE F k x (.slice p l.len c) (.slice q f.len d) l f = es at *
  obtain ⟨x0, x1, x2, x3⟩ := H0.out.b0.box
  go_enter Tryz.func29, Tryz.ntmps29
  go_wp2_with fail
  refine (HC.out _ H0.out).mono ?_
  rintro e w1 ⟨g1, c1, rfl, -, hL1, hB1⟩
  have H1 := Lib.hid (And.intro (H0.out.on hB1) hL1)
  clear hB1 hL1 x0 x1 x2 x3 H0
  go_wp2_with fail
  refine (HMA.out _ _ _ H1.out.1 H1.out.2).mono ?_
  rintro e w2 ⟨v2, u2, rfl, hl2, hf2, hB2⟩
  have H2 := Lib.hid (H1.out.1.on hB2)
  have hs1 := H1.out.1.size
  obtain ⟨p2, c2, rfl, -⟩ := hl2.len
  obtain ⟨q2, d2, rfl, -⟩ := hf2.len
  obtain ⟨y0, y1, y2, y3⟩ := H2.out.b1.box
  have f1 := H2.out.b1.free
  go_wp2_with fail
  obtain ⟨k1, k2, k3⟩ := H2.out.b1.all (.int .u8 6) (.string ⟨#[]⟩) (.slice p2 V.T.nil.len c2) (.slice q2 (noticeT F k x l f).len d2)
  have hw3 := set4_else w2 (w.heap.size + 1) (.int .u8 6) (.string ⟨#[]⟩) (.slice p2 V.T.nil.len c2) (.slice q2 (noticeT F k x l f).len d2)
  have k3' := k3 w.heap.size (Nat.le_succ _)
  clear y0 y1 y2 y3 f1
  generalize (((w2.setCell ⟨w.heap.size + 1, 0, none⟩ (.int .u8 6)).setCell ⟨w.heap.size + 1, 1, none⟩ (.string ⟨#[]⟩)).setCell ⟨w.heap.size + 1, 2, none⟩ (.slice p2 V.T.nil.len c2)).setCell ⟨w.heap.size + 1, 3, none⟩ (.slice q2 (noticeT F k x l f).len d2) = w3 at *
  obtain ⟨y0, y1, y2, y3⟩ := k1.box
  have keep : ∀ b, w1.heap.size ≤ b → b < w2.heap.size → w3.heap[b]? = w2.heap[b]? := fun b hb _ => hw3 b (by omega)
  refine bodyPost_ret (v := .agg #[.int .u8 6, .string ⟨#[]⟩, .slice p2 V.T.nil.len c2, .slice q2 (noticeT F k x l f).len d2]) (by simp [results, Tryz.results29, go_sem, y0, y1, y2, y3]) rfl ?_
  exact ⟨_, _, rfl, hl2.fre (fun b hb => by omega) keep, hf2.fre (fun b hb => by omega) keep, H2.out.below.trans k3'⟩
end Go.Proofs.YtagafedkfkmkbaaGreatDoor

namespace Go.Proofs.YtagafedkfkmkbaaGreatDoor
open Go Go.RowKit Go.Lib

def resF (k : Nat) (x : ByteArray) (v u : Value) (l f : V.T) : Fe := ⟨⟨#[114, 101, 115, 117, 108, 116]⟩, k, x, v, u, l, f⟩
def replyT (k : Nat) (x : ByteArray) (l f : V.T) (k2 : Nat) (x2 : ByteArray) (l2 f2 : V.T) : V.T := treeOf [verF, idF k x (.slice none 0 0) (.slice none 0 0) l f, resF k2 x2 (.slice none 0 0) (.slice none 0 0) l2 f2]
/-- two values boxed, and a place for the answer -/
structure TwoSt (w : World) (k : Nat) (x : ByteArray) (v u : Value) (l f : V.T) (k2 : Nat) (x2 : ByteArray) (v2 u2 : Value) (l2 f2 : V.T) (W : World) : Prop where
  below : Below w.heap.size w W
  size : w.heap.size + 3 ≤ W.heap.size
  b0 : Blk4 W w.heap.size 25 (.int .u8 k) (.string x) v u
  b1 : Blk4 W (w.heap.size + 1) 25 (.int .u8 k2) (.string x2) v2 u2
  b2 : Blk4 W (w.heap.size + 2) 25 (.int .u8 0) (.string ⟨#[]⟩) (.slice none 0 0) (.slice none 0 0)
  l : HS W (fun _ => True) 0 v l
  f : HS W (fun _ => True) 1 u f
  l2 : HS W (fun _ => True) 0 v2 l2
  f2 : HS W (fun _ => True) 1 u2 f2
theorem TwoSt.on {w : World} {k : Nat} {x : ByteArray} {v u : Value} {l f : V.T} {k2 : Nat} {x2 : ByteArray} {v2 u2 : Value} {l2 f2 : V.T} {W W' : World} (h : TwoSt w k x v u l f k2 x2 v2 u2 l2 f2 W) (hB : Below W.heap.size W W') : TwoSt w k x v u l f k2 x2 v2 u2 l2 f2 W' :=
  ⟨h.below.trans (hB.mono h.below.size), Nat.le_trans h.size hB.size, h.b0.same (hB.block _ h.b0.lt), h.b1.same (hB.block _ h.b1.lt), h.b2.same (hB.block _ h.b2.lt), h.l.below hB, h.f.below hB, h.l2.below hB, h.f2.below hB⟩
theorem TwoSt.start {w : World} {A A2 : Nat → Prop} {k : Nat} {x : ByteArray} {v u : Value} {l f : V.T} {k2 : Nat} {x2 : ByteArray} {v2 u2 : Value} {l2 f2 : V.T} (hl : HS w A 0 v l) (hf : HS w A 1 u f) (hl2 : HS w A2 0 v2 l2) (hf2 : HS w A2 1 u2 f2) :
    TwoSt w k x v u l f k2 x2 v2 u2 l2 f2 (((w.alloc (.cells #[.int .u8 k, .string x, v, u] 25)).alloc (.cells #[.int .u8 k2, .string x2, v2, u2] 25)).alloc (.cells #[.int .u8 0, .string ⟨#[]⟩, .slice none 0 0, .slice none 0 0] 25)) := by
  have hb := two_below w (.cells #[.int .u8 k, .string x, v, u] 25) (.cells #[.int .u8 k2, .string x2, v2, u2] 25)
  have hz := two_size w (.cells #[.int .u8 k, .string x, v, u] 25) (.cells #[.int .u8 k2, .string x2, v2, u2] 25)
  have h2 := two_new w (.cells #[.int .u8 k, .string x, v, u] 25) (.cells #[.int .u8 k2, .string x2, v2, u2] 25)
  generalize (w.alloc (.cells #[.int .u8 k, .string x, v, u] 25)).alloc (.cells #[.int .u8 k2, .string x2, v2, u2] 25) = W2 at *
  have hB := (Below.refl W2.heap.size W2).alloc (Nat.le_refl _) (.cells #[.int .u8 0, .string ⟨#[]⟩, .slice none 0 0, .slice none 0 0] 25)
  have b0 : Blk4 W2 w.heap.size 25 _ _ _ _ := h2.1
  have b1 : Blk4 W2 (w.heap.size + 1) 25 _ _ _ _ := h2.2
  have b2 : (W2.alloc (.cells #[.int .u8 0, .string ⟨#[]⟩, .slice none 0 0, .slice none 0 0] 25)).heap[W2.heap.size]? = _ := heap_alloc_new _ _
  rw [hz] at b2
  have hT : Below w.heap.size w (W2.alloc (.cells #[.int .u8 0, .string ⟨#[]⟩, .slice none 0 0, .slice none 0 0] 25)) := hb.trans (hB.mono hb.size)
  exact ⟨hT, by rw [World.size_alloc, hz]; omega, b0.same (hB.block _ b0.lt), b1.same (hB.block _ b1.lt), b2, (hl.mono (fun _ _ _ => trivial)).below hT, (hf.mono (fun _ _ _ => trivial)).below hT, (hl2.mono (fun _ _ _ => trivial)).below hT, (hf2.mono (fun _ _ _ => trivial)).below hT⟩

end Go.Proofs.YtagafedkfkmkbaaGreatDoor
