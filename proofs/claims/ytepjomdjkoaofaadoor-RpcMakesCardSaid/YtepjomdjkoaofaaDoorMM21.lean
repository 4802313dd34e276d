/- The program makes a message: its fields after the version, copied. Conditions: such as Go can hold. -/
import Derived.Test.YtepjomdjkoaofaaDoorMM08
import Derived.Test.YtepjomdjkoaofaaDoorMM13
import Derived.Test.YtepjomdjkoaofaaDoorMM20
import Derived.Deep.AppendLies
namespace Go.Proofs.YtepjomdjkoaofaaDoor
open Go Go.RowKit Go.Lib

/-- an object of these fields is handed back -/
def ObjIs (v : Value) (w : World) (e : Ending) (w' : World) : Prop := e = .returned (.agg #[.int .u8 6, .string ⟨#[]⟩, .slice none 0 0, v]) ∧ Below w.heap.size w w'
set_option maxHeartbeats 1000000 in
set_option maxRecDepth 100000 in
theorem object_any (p : Option Addr) (n c : Nat) (w : World) : Calls Tryd.prog 38 #[.slice p n c] w (ObjIs (.slice p n c) w) := by
  go_enter Tryd.func38, Tryd.ntmps38
  go_wp2_with fail
  have hfin := (Below.refl w.heap.size w).alloc (Nat.le_refl _) (.cells #[.int .u8 6, .string ⟨#[]⟩, .slice none 0 0, .slice p n c] 25)
  have g1 : Blk4 (w.alloc (.cells #[.int .u8 6, .string ⟨#[]⟩, .slice none 0 0, .slice p n c] 25)) w.heap.size 25 _ _ _ _ := heap_alloc_new _ _
  generalize w.alloc (.cells #[.int .u8 6, .string ⟨#[]⟩, .slice none 0 0, .slice p n c] 25) = W' at *
  obtain ⟨x0, x1, x2, x3⟩ := g1.box
  refine bodyPost_ret (v := .agg #[.int .u8 6, .string ⟨#[]⟩, .slice none 0 0, .slice p n c]) (by simp [results, Tryd.results38, go_sem, x0, x1, x2, x3]) rfl ?_
  exact ⟨rfl, hfin⟩

structure CpSt (w : World) (k : Nat) (x : ByteArray) (v u : Value) (l f : V.T) (W : World) : Prop where
  below : Below w.heap.size w W
  size : w.heap.size + 2 ≤ W.heap.size
  b0 : Blk4 W w.heap.size 25 (.int .u8 k) (.string x) v u
  b1 : Blk4 W (w.heap.size + 1) 25 (.int .u8 0) (.string ⟨#[]⟩) (.slice none 0 0) (.slice none 0 0)
  li : Lies W (.slice (some ⟨w.heap.size + 1 + 1, 0, none⟩) 1 1) [⟨⟨#[]⟩, k, x, v, u, l, f⟩]
  l : HS W (fun _ => True) 0 v l
  f : HS W (fun _ => True) 1 u f
theorem CpSt.on {w : World} {k : Nat} {x : ByteArray} {v u : Value} {l f : V.T} {W W' : World} (h : CpSt w k x v u l f W) (hB : Below W.heap.size W W') : CpSt w k x v u l f W' :=
  ⟨h.below.trans (hB.mono h.below.size), Nat.le_trans h.size hB.size, h.b0.same (hB.block _ h.b0.lt), h.b1.same (hB.block _ h.b1.lt), h.li.below hB, h.l.below hB, h.f.below hB⟩
theorem CpSt.get {w : World} {k : Nat} {x : ByteArray} {v u : Value} {l f : V.T} {W : World} (h : CpSt w k x v u l f W) (hk : Fit ⟨#[]⟩ k x) :
    Calls Tryd.prog 71 #[.agg #[.int .u8 6, .string ⟨#[]⟩, .slice none 0 0, .slice (some ⟨w.heap.size + 1 + 1, 0, none⟩) 1 1], .string ⟨#[]⟩] W (GotF (some (k, x, l, f)) W) := by
  have := get_any 6 ⟨#[]⟩ ⟨#[]⟩ (.slice none 0 0) _ .nil _ (fun _ => True) W (HS.nil _ _ _) (h.li.hs (A := fun _ => True) (fun e he => by
    cases he with
    | head => exact ⟨h.l, h.f, hk⟩
    | tail _ h => cases h) (fun _ _ => trivial) (by show 1 ≤ 2000000000000; decide))
  exact this
set_option maxHeartbeats 1000000 in
set_option maxRecDepth 100000 in
theorem copied_any (k : Nat) (x : ByteArray) (v u : Value) (l f : V.T) (A : Nat → Prop) (w : World) (hk : Fit ⟨#[]⟩ k x) (hl : HS w A 0 v l) (hf : HS w A 1 u f) :
    Calls Tryd.prog 65 #[.agg #[.int .u8 k, .string x, v, u]] w (Own4G k x l f w) := by
  obtain ⟨p, c, rfl, -⟩ := hl.len
  obtain ⟨q, d, rfl, -⟩ := hf.len
  have HO := Lib.hid (fun W p n c => object_any p n c W)
  have HG := Lib.hid (fun W (h : CpSt w k x (.slice p l.len c) (.slice q f.len d) l f W) => h.get hk)
  have S0 : CpSt w k x (.slice p l.len c) (.slice q f.len d) l f (((w.alloc (.cells #[.int .u8 k, .string x, .slice p l.len c, .slice q f.len d] 25)).alloc (.cells #[.int .u8 0, .string ⟨#[]⟩, .slice none 0 0, .slice none 0 0] 25)).alloc (.cells #[.string ⟨#[]⟩, .int .u8 k, .string x, .slice p l.len c, .slice q f.len d] 50)) := by
    have h2 := two_new w (.cells #[.int .u8 k, .string x, .slice p l.len c, .slice q f.len d] 25) (.cells #[.int .u8 0, .string ⟨#[]⟩, .slice none 0 0, .slice none 0 0] 25)
    have hb := two_below w (.cells #[.int .u8 k, .string x, .slice p l.len c, .slice q f.len d] 25) (.cells #[.int .u8 0, .string ⟨#[]⟩, .slice none 0 0, .slice none 0 0] 25)
    have hz := two_size w (.cells #[.int .u8 k, .string x, .slice p l.len c, .slice q f.len d] 25) (.cells #[.int .u8 0, .string ⟨#[]⟩, .slice none 0 0, .slice none 0 0] 25)
    generalize (w.alloc (.cells #[.int .u8 k, .string x, .slice p l.len c, .slice q f.len d] 25)).alloc (.cells #[.int .u8 0, .string ⟨#[]⟩, .slice none 0 0, .slice none 0 0] 25) = W2 at *
    have hB := (Below.refl W2.heap.size W2).alloc (Nat.le_refl _) (.cells #[.string ⟨#[]⟩, .int .u8 k, .string x, .slice p l.len c, .slice q f.len d] 50)
    have b0 : Blk4 W2 w.heap.size 25 _ _ _ _ := h2.1
    have b1 : Blk4 W2 (w.heap.size + 1) 25 _ _ _ _ := h2.2
    have hL := lies_new (w := W2) (cs := #[.string ⟨#[]⟩, .int .u8 k, .string x, .slice p l.len c, .slice q f.len d]) (es := [⟨⟨#[]⟩, k, x, .slice p l.len c, .slice q f.len d, l, f⟩]) (t := 50) (n := 1) rfl rfl (by decide)
    rw [hz] at hL
    exact ⟨hb.trans (hB.mono hb.size), by rw [World.size_alloc, hz]; omega, b0.same (hB.block _ b0.lt), b1.same (hB.block _ b1.lt), hL, ((hl.mono (fun _ _ _ => trivial)).below (hb.trans (hB.mono hb.size))), ((hf.mono (fun _ _ _ => trivial)).below (hb.trans (hB.mono hb.size)))⟩
  have H0 := Lib.hid S0
  clear hl hf S0
  go_enter Tryd.func65, Tryd.ntmps65
  go_wp2_with fail
  refine (HO.out _ _ _ _).mono ?_
  rintro e w1 ⟨rfl, hB1⟩
  have H1 := Lib.hid (H0.out.on hB1)
  clear hB1 H0
  go_wp2_with fail
  refine (HG.out _ H1.out).mono ?_
  rintro e w2 ⟨v2, u2, rfl, hl2, hf2, -, -, hB2⟩
  dsimp only [V.res] at hl2 hf2 ⊢
  obtain ⟨p2, c2, rfl, -⟩ := hl2.len
  obtain ⟨q2, d2, rfl, -⟩ := hf2.len
  have H2 := Lib.hid (H1.out.on hB2)
  obtain ⟨x0, x1, x2, x3⟩ := H2.out.b0.box
  obtain ⟨y0, y1, y2, y3⟩ := H2.out.b1.box
  have f0 := H2.out.b0.free
  have f1 := H2.out.b1.free
  go_wp2_with fail
  obtain ⟨g1, g2, g3⟩ := H2.out.b0.all (.int .u8 k) (.string x) (.slice p2 l.len c2) (.slice q2 f.len d2)
  have hw3 := set4_else w2 w.heap.size (.int .u8 k) (.string x) (.slice p2 l.len c2) (.slice q2 f.len d2)
  have g3' := g3 _ (Nat.le_refl _)
  have b1 := H2.out.b1.same (hw3 (w.heap.size + 1) (by omega))
  clear x0 x1 x2 x3 y0 y1 y2 y3 f0 f1
  generalize (((w2.setCell ⟨w.heap.size, 0, none⟩ (.int .u8 k)).setCell ⟨w.heap.size, 1, none⟩ (.string x)).setCell ⟨w.heap.size, 2, none⟩ (.slice p2 l.len c2)).setCell ⟨w.heap.size, 3, none⟩ (.slice q2 f.len d2) = w3 at *
  obtain ⟨k1, k2, k3⟩ := b1.all (.int .u8 k) (.string x) (.slice p2 l.len c2) (.slice q2 f.len d2)
  have hw4 := set4_else w3 (w.heap.size + 1) (.int .u8 k) (.string x) (.slice p2 l.len c2) (.slice q2 f.len d2)
  have k3' := k3 w.heap.size (Nat.le_succ _)
  generalize (((w3.setCell ⟨w.heap.size + 1, 0, none⟩ (.int .u8 k)).setCell ⟨w.heap.size + 1, 1, none⟩ (.string x)).setCell ⟨w.heap.size + 1, 2, none⟩ (.slice p2 l.len c2)).setCell ⟨w.heap.size + 1, 3, none⟩ (.slice q2 f.len d2) = w4 at *
  obtain ⟨x0, x1, x2, x3⟩ := k1.box
  have hs := H1.out.size
  have keep : ∀ b, w1.heap.size ≤ b → b < w2.heap.size → w4.heap[b]? = w2.heap[b]? := fun b hb _ => (hw4 b (by omega)).trans (hw3 b (by omega))
  refine bodyPost_ret (v := .agg #[.int .u8 k, .string x, .slice p2 l.len c2, .slice q2 f.len d2]) (by simp [results, Tryd.results65, go_sem, x0, x1, x2, x3]) rfl ?_
  exact ⟨_, _, rfl, hl2.fre (fun b hb => by omega) keep, hf2.fre (fun b hb => by omega) keep, (H2.out.below.trans g3').trans k3'⟩

def verF : Fe := ⟨⟨#[106, 115, 111, 110, 114, 112, 99]⟩, 4, ⟨#[50, 46, 48]⟩, .slice none 0 0, .slice none 0 0, .nil, .nil⟩
theorem verF_ok (w : World) (A : Nat → Prop) : verF.Ok w A := ⟨HS.nil _ _ _, HS.nil _ _ _, by decide, by decide, by decide⟩
theorem ver_fix : U.fixS ⟨#[50, 46, 48]⟩ = ⟨#[50, 46, 48]⟩ := U.fixS_valid _ (by decide +kernel)

structure MdSt (w : World) (v : Value) (es : List Fe) (W : World) : Prop where
  below : Below w.heap.size w W
  size : w.heap.size + 1 ≤ W.heap.size
  b0 : Blk4 W w.heap.size 25 (.int .u8 0) (.string ⟨#[]⟩) (.slice none 0 0) (.slice none 0 0)
  li : Lies W v es
  lt : ∀ b, v.ownBlock = some b → b < w.heap.size
  ok : ∀ e ∈ es, e.Ok W (fun b => b < w.heap.size)
theorem MdSt.on {w : World} {v : Value} {es : List Fe} {W W' : World} (h : MdSt w v es W) (hB : Below W.heap.size W W') : MdSt w v es W' :=
  ⟨h.below.trans (hB.mono h.below.size), Nat.le_trans h.size hB.size, h.b0.same (hB.block _ h.b0.lt), h.li.below hB, h.lt, fun e he => (h.ok e he).below hB⟩

structure M3 (w : World) (v : Value) (es : List Fe) (W : World) : Prop where
  below : Below w.heap.size w W
  size : w.heap.size + 1 ≤ W.heap.size
  b0 : Blk4 W w.heap.size 25 (.int .u8 0) (.string ⟨#[]⟩) (.slice none 0 0) (.slice none 0 0)
  hs : HS W (fun _ => True) 1 v (treeOf es)
theorem M3.on {w : World} {v : Value} {es : List Fe} {W W' : World} (h : M3 w v es W) (hB : Below W.heap.size W W') : M3 w v es W' :=
  ⟨h.below.trans (hB.mono h.below.size), Nat.le_trans h.size hB.size, h.b0.same (hB.block _ h.b0.lt), h.hs.below hB⟩

set_option maxHeartbeats 1000000 in
set_option maxRecDepth 100000 in
theorem made_any (p : Option Addr) (n c : Nat) (es : List Fe) (A : Nat → Prop) (w : World) (hn : n = es.length) (h10 : 0 < n ∧ n ≤ 10) (hl : Lies w (.slice p n c) es) (ho : ∀ e ∈ es, e.Ok w A) (hT : Tabs w) :
    Calls Tryd.prog 36 #[.slice p n c] w (Own4G 6 ⟨#[]⟩ .nil (treeOf (verF :: es)) w) := by
  obtain ⟨i0, hi0, hz0, hz1, hz2⟩ := info_parts infoField
  subst hn
  obtain ⟨b, hp⟩ : ∃ b, p = some ⟨b, 0, none⟩ := by
    obtain ⟨b, c', e, _⟩ := hl
    cases e
    exact ⟨b, rfl⟩
  subst hp
  have HO := Lib.hid (fun W p n c => object_any p n c W)
  have HT := Lib.hid (fun W (hB : Below w.heap.size w W) => text4_any ⟨#[50, 46, 48]⟩ W (by decide) (by rw [ver_fix]; decide) (tabs_below hT hB))
  rw [ver_fix] at HT
  have HC := Lib.hid (fun W p n c (h : HS W (fun _ => True) 1 (.slice p n c) (treeOf (verF :: es))) => copied_any 6 ⟨#[]⟩ (.slice none 0 0) (.slice p n c) .nil (treeOf (verF :: es)) (fun _ => True) W ⟨by decide, by decide, by decide⟩ (HS.nil _ _ _) h)
  have H0 := Lib.hid (show MdSt w (.slice (some ⟨b, 0, none⟩) es.length c) es (w.alloc (.cells #[.int .u8 0, .string ⟨#[]⟩, .slice none 0 0, .slice none 0 0] 25)) from by
    have hB := (Below.refl w.heap.size w).alloc (Nat.le_refl _) (.cells #[.int .u8 0, .string ⟨#[]⟩, .slice none 0 0, .slice none 0 0] 25)
    refine ⟨hB, by rw [World.size_alloc]; omega, heap_alloc_new _ _, hl.below hB, fun b hb => ?_, fun e he => ((ho e he).mono (fun _ _ h => h)).below hB⟩
    obtain ⟨b', c', e, _, _, h4, _⟩ := hl
    rw [e] at hb
    cases hb
    exact h4)
  clear hl ho hT
  go_enter Tryd.func36, Tryd.ntmps36
  go_wp2_with fail
  refine (HT.out _ H0.out.below).mono ?_
  rintro e w1 ⟨rfl, hB1⟩
  have H1 := Lib.hid (H0.out.on hB1)
  clear hB1 H0
  have hB2 := two_below w1 (.cells #[.string ⟨#[106, 115, 111, 110, 114, 112, 99]⟩, .int .u8 4, .string ⟨#[50, 46, 48]⟩, .slice none 0 0, .slice none 0 0] 50) (.cells #[.string ⟨#[106, 115, 111, 110, 114, 112, 99]⟩, .int .u8 4, .string ⟨#[50, 46, 48]⟩, .slice none 0 0, .slice none 0 0] 50)
  have H2 := H1.out.on hB2
  have own2 := owns_new (w := w1.alloc (.cells #[.string ⟨#[106, 115, 111, 110, 114, 112, 99]⟩, .int .u8 4, .string ⟨#[50, 46, 48]⟩, .slice none 0 0, .slice none 0 0] 50)) (cs := #[.string ⟨#[106, 115, 111, 110, 114, 112, 99]⟩, .int .u8 4, .string ⟨#[50, 46, 48]⟩, .slice none 0 0, .slice none 0 0]) (es := [verF]) (t := 50) (n := 1) rfl rfl (by decide) (w.heap.size + 1) (by rw [World.size_alloc]; have := H1.out.size; omega)
  rw [World.size_alloc] at own2
  go_wp2_with (at_builtin; go_loud (refine wpList_append_lies _ rfl _ _ 23 rfl (w.heap.size + 1) 50 i0 _ 5 88 Tryd.underlying23 hi0 hz0 hz1 hz2 rfl (by decide) (.slice (some ⟨w1.heap.size + 1, 0, none⟩) 1 1) 1 (cellsOf [verF]) rfl own2 ⟨b, 0, none⟩ es.length c (cellsOf es) rfl (cellsOf_len _) H2.li.news (cellsOf_one es H2.ok) h10.1 (by unfold maxLen; omega) (by omega) H2.size _ rfl ?_))
  intro g cap w3 own3 hg3 _ _
  have hs1 := H1.out.size
  have H3 := Lib.hid (show M3 w (.slice (some ⟨g, 0, none⟩) (1 + es.length) cap) (verF :: es) w3 from by
    have hrow : ∀ k, (Value.slice (some ⟨w1.heap.size + 1, 0, none⟩) 1 1).ownBlock = some k → k = w1.heap.size + 1 := fun k hk => by cases hk; rfl
    have hne : ∀ k, k < w1.heap.size + 1 → some k ≠ (Value.slice (some ⟨w1.heap.size + 1, 0, none⟩) 1 1).ownBlock := fun k hk e => by have := hrow k e.symm; omega
    refine ⟨H2.below.grown hg3 (by have := H2.size; omega) (fun k hk => by rw [hrow k hk]; omega), Nat.le_trans H2.size hg3.size, H2.b0.same (hg3.block _ H2.b0.lt (hne _ (by omega))), ?_⟩
    refine Lies.hs (lies_owned (by simp; omega) own3) (fun e he => ?_) (fun _ _ => trivial) (by simp; omega)
    rcases List.mem_cons.1 he with rfl | he
    · exact verF_ok _ _
    · exact (H2.ok e he).imp (fun _ _ _ => trivial) (fun k hk hlt => hg3.block k hlt (hne k (by omega))))
  clear own3 hg3 own2 H2 hB2 H1
  go_wp2_with fail
  refine (HO.out _ _ _ _).mono ?_
  rintro e w4 ⟨rfl, hB4⟩
  have H4 := Lib.hid (H3.out.on hB4)
  clear hB4 H3
  go_wp2_with fail
  refine (HC.out _ _ _ _ H4.out.hs).mono ?_
  rintro e w5 ⟨v2, u2, rfl, hl2, hf2, hB5⟩
  obtain ⟨p2, c2, rfl, -⟩ := hl2.len
  obtain ⟨q2, d2, rfl, -⟩ := hf2.len
  have H5 := Lib.hid (H4.out.on hB5)
  have hs4 := H4.out.size
  obtain ⟨x0, x1, x2, x3⟩ := H5.out.b0.box
  have f0 := H5.out.b0.free
  go_wp2_with fail
  obtain ⟨g1, g2, g3⟩ := H5.out.b0.all (.int .u8 6) (.string ⟨#[]⟩) (.slice p2 V.T.nil.len c2) (.slice q2 (treeOf (verF :: es)).len d2)
  have hw3 := set4_else w5 w.heap.size (.int .u8 6) (.string ⟨#[]⟩) (.slice p2 V.T.nil.len c2) (.slice q2 (treeOf (verF :: es)).len d2)
  have g3' := g3 _ (Nat.le_refl _)
  clear x0 x1 x2 x3 f0
  generalize (((w5.setCell ⟨w.heap.size, 0, none⟩ (.int .u8 6)).setCell ⟨w.heap.size, 1, none⟩ (.string ⟨#[]⟩)).setCell ⟨w.heap.size, 2, none⟩ (.slice p2 V.T.nil.len c2)).setCell ⟨w.heap.size, 3, none⟩ (.slice q2 (treeOf (verF :: es)).len d2) = w6 at *
  obtain ⟨x0, x1, x2, x3⟩ := g1.box
  have keep : ∀ b, w4.heap.size ≤ b → b < w5.heap.size → w6.heap[b]? = w5.heap[b]? := fun b hb _ => hw3 b (by omega)
  refine bodyPost_ret (v := .agg #[.int .u8 6, .string ⟨#[]⟩, .slice p2 V.T.nil.len c2, .slice q2 (treeOf (verF :: es)).len d2]) (by simp [results, Tryd.results36, go_sem, x0, x1, x2, x3]) rfl ?_
  exact ⟨_, _, rfl, hl2.fre (fun b hb => by omega) keep, hf2.fre (fun b hb => by omega) keep, H5.out.below.trans g3'⟩
end Go.Proofs.YtepjomdjkoaofaaDoor
