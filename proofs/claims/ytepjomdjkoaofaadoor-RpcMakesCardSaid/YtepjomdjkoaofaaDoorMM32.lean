/- The program's reply. Conditions: such as Go can hold. -/
import Derived.Test.YtepjomdjkoaofaaDoorMM30
namespace Go.Proofs.YtepjomdjkoaofaaDoor
open Go Go.RowKit Go.Lib

def resF (k : Nat) (x : ByteArray) (v u : Value) (l f : V.T) : Fe := ⟨⟨#[114, 101, 115, 117, 108, 116]⟩, k, x, v, u, l, f⟩
def replyT (k : Nat) (x : ByteArray) (l f : V.T) (k2 : Nat) (x2 : ByteArray) (l2 f2 : V.T) : V.T := treeOf [verF, idF k x (.slice none 0 0) (.slice none 0 0) l f, resF k2 x2 (.slice none 0 0) (.slice none 0 0) l2 f2]
/-- two values boxed, and a place for the answer -/
structure TwoSt (w : World) (k : Nat) (x : ByteArray) (v u : Value) (l f : V.T) (k2 : Nat) (x2 : ByteArray) (v2 u2 : Value) (l2 f2 : V.T) (W : World) : Prop where
  below : Below w.heap.size w W
  size : w.heap.size + 3 ≤ W.heap.size
  b0 : Blk4 W w.heap.size 25 (.int .u8 k) (.string x) v u
  b1 : Blk4 W (w.heap.size + 1) 25 (.int .u8 k2) (.string x2) v2 u2
  b2 : Blk4 W (w.heap.size + 2) 25 (.int .u8 0) (.string ⟨#[]⟩) (.slice none 0 0) (.slice none 0 0)
  l : HS W (fun _ => True) 0 v l
  f : HS W (fun _ => True) 1 u f
  l2 : HS W (fun _ => True) 0 v2 l2
  f2 : HS W (fun _ => True) 1 u2 f2
theorem TwoSt.on {w : World} {k : Nat} {x : ByteArray} {v u : Value} {l f : V.T} {k2 : Nat} {x2 : ByteArray} {v2 u2 : Value} {l2 f2 : V.T} {W W' : World} (h : TwoSt w k x v u l f k2 x2 v2 u2 l2 f2 W) (hB : Below W.heap.size W W') : TwoSt w k x v u l f k2 x2 v2 u2 l2 f2 W' :=
  ⟨h.below.trans (hB.mono h.below.size), Nat.le_trans h.size hB.size, h.b0.same (hB.block _ h.b0.lt), h.b1.same (hB.block _ h.b1.lt), h.b2.same (hB.block _ h.b2.lt), h.l.below hB, h.f.below hB, h.l2.below hB, h.f2.below hB⟩
theorem TwoSt.start {w : World} {A A2 : Nat → Prop} {k : Nat} {x : ByteArray} {v u : Value} {l f : V.T} {k2 : Nat} {x2 : ByteArray} {v2 u2 : Value} {l2 f2 : V.T} (hl : HS w A 0 v l) (hf : HS w A 1 u f) (hl2 : HS w A2 0 v2 l2) (hf2 : HS w A2 1 u2 f2) :
    TwoSt w k x v u l f k2 x2 v2 u2 l2 f2 (((w.alloc (.cells #[.int .u8 k, .string x, v, u] 25)).alloc (.cells #[.int .u8 k2, .string x2, v2, u2] 25)).alloc (.cells #[.int .u8 0, .string ⟨#[]⟩, .slice none 0 0, .slice none 0 0] 25)) := by
  have hb := two_below w (.cells #[.int .u8 k, .string x, v, u] 25) (.cells #[.int .u8 k2, .string x2, v2, u2] 25)
  have hz := two_size w (.cells #[.int .u8 k, .string x, v, u] 25) (.cells #[.int .u8 k2, .string x2, v2, u2] 25)
  have h2 := two_new w (.cells #[.int .u8 k, .string x, v, u] 25) (.cells #[.int .u8 k2, .string x2, v2, u2] 25)
  generalize (w.alloc (.cells #[.int .u8 k, .string x, v, u] 25)).alloc (.cells #[.int .u8 k2, .string x2, v2, u2] 25) = W2 at *
  have hB := (Below.refl W2.heap.size W2).alloc (Nat.le_refl _) (.cells #[.int .u8 0, .string ⟨#[]⟩, .slice none 0 0, .slice none 0 0] 25)
  have b0 : Blk4 W2 w.heap.size 25 _ _ _ _ := h2.1
  have b1 : Blk4 W2 (w.heap.size + 1) 25 _ _ _ _ := h2.2
  have b2 : (W2.alloc (.cells #[.int .u8 0, .string ⟨#[]⟩, .slice none 0 0, .slice none 0 0] 25)).heap[W2.heap.size]? = _ := heap_alloc_new _ _
  rw [hz] at b2
  have hT : Below w.heap.size w (W2.alloc (.cells #[.int .u8 0, .string ⟨#[]⟩, .slice none 0 0, .slice none 0 0] 25)) := hb.trans (hB.mono hb.size)
  exact ⟨hT, by rw [World.size_alloc, hz]; omega, b0.same (hB.block _ b0.lt), b1.same (hB.block _ b1.lt), b2, (hl.mono (fun _ _ _ => trivial)).below hT, (hf.mono (fun _ _ _ => trivial)).below hT, (hl2.mono (fun _ _ _ => trivial)).below hT, (hf2.mono (fun _ _ _ => trivial)).below hT⟩

set_option maxHeartbeats 1000000 in
set_option maxRecDepth 100000 in
theorem reply_any (k : Nat) (x : ByteArray) (v u : Value) (l f : V.T) (k2 : Nat) (x2 : ByteArray) (v2 u2 : Value) (l2 f2 : V.T) (A A2 : Nat → Prop) (w : World) (hk : Fit ⟨#[]⟩ k x) (hk2 : Fit ⟨#[]⟩ k2 x2) (hl : HS w A 0 v l) (hf : HS w A 1 u f) (hl2 : HS w A2 0 v2 l2) (hf2 : HS w A2 1 u2 f2) (hT : Tabs w) :
    Calls Tryd.prog 13 #[.agg #[.int .u8 k, .string x, v, u], .agg #[.int .u8 k2, .string x2, v2, u2]] w (Own4G 6 ⟨#[]⟩ .nil (replyT k x l f k2 x2 l2 f2) w) := by
  have H0 := Lib.hid (TwoSt.start (k := k) (x := x) (k2 := k2) (x2 := x2) hl hf hl2 hf2)
  obtain ⟨p, c, rfl, -⟩ := hl.len
  obtain ⟨q, d, rfl, -⟩ := hf.len
  obtain ⟨p', c', rfl, -⟩ := hl2.len
  obtain ⟨q', d', rfl, -⟩ := hf2.len
  have hma := fun W b (h : TwoSt w k x (.slice p l.len c) (.slice q f.len d) l f k2 x2 (.slice p' l2.len c') (.slice q' f2.len d') l2 f2 W) (hL : Lies W (.slice (some ⟨b, 0, none⟩) 2 2) [idF k x (.slice p l.len c) (.slice q f.len d) l f, resF k2 x2 (.slice p' l2.len c') (.slice q' f2.len d') l2 f2]) => made_any (some ⟨b, 0, none⟩) 2 2 _ (fun _ => True) W rfl (by decide) hL (fun e he => by
    simp only [List.mem_cons, List.mem_nil_iff, or_false] at he
    rcases he with rfl | rfl
    · exact ⟨h.l, h.f, hk.1, hk.2.1, by show (2 : Nat) ≤ _; decide⟩
    · exact ⟨h.l2, h.f2, hk2.1, hk2.2.1, by show (6 : Nat) ≤ _; decide⟩) (tabs_below hT h.below)
  have HMA := Lib.hid hma
  clear hl hf hl2 hf2 hT hk hk2 hma
  obtain ⟨x0, x1, x2', x3⟩ := H0.out.b0.box
  obtain ⟨z0, z1, z2, z3⟩ := H0.out.b1.box
  go_enter Tryd.func13, Tryd.ntmps13
  go_wp2_with fail
  clear x0 x1 x2' x3 z0 z1 z2 z3
  have hN : (((w.alloc (.cells #[.int .u8 k, .string x, .slice p l.len c, .slice q f.len d] 25)).alloc (.cells #[.int .u8 k2, .string x2, .slice p' l2.len c', .slice q' f2.len d'] 25)).alloc (.cells #[.int .u8 0, .string ⟨#[]⟩, .slice none 0 0, .slice none 0 0] 25)).heap.size = w.heap.size + 1 + 1 + 1 := by simp
  generalize ((w.alloc (.cells #[.int .u8 k, .string x, .slice p l.len c, .slice q f.len d] 25)).alloc (.cells #[.int .u8 k2, .string x2, .slice p' l2.len c', .slice q' f2.len d'] 25)).alloc (.cells #[.int .u8 0, .string ⟨#[]⟩, .slice none 0 0, .slice none 0 0] 25) = W3 at *
  have hB := (Below.refl W3.heap.size W3).alloc (Nat.le_refl _) (.cells #[.string ⟨#[105, 100]⟩, .int .u8 k, .string x, .slice p l.len c, .slice q f.len d, .string ⟨#[114, 101, 115, 117, 108, 116]⟩, .int .u8 k2, .string x2, .slice p' l2.len c', .slice q' f2.len d'] 50)
  have L1 := lies_new (w := W3) (cs := #[.string ⟨#[105, 100]⟩, .int .u8 k, .string x, .slice p l.len c, .slice q f.len d, .string ⟨#[114, 101, 115, 117, 108, 116]⟩, .int .u8 k2, .string x2, .slice p' l2.len c', .slice q' f2.len d']) (es := [idF k x (.slice p l.len c) (.slice q f.len d) l f, resF k2 x2 (.slice p' l2.len c') (.slice q' f2.len d') l2 f2]) (t := 50) (n := 2) rfl rfl (by decide)
  rw [hN] at L1
  have H1 := Lib.hid (H0.out.on hB)
  refine (HMA.out _ _ H1.out L1).mono ?_
  rintro e w2 ⟨v3, u3, rfl, hl3, hf3, hB2⟩
  have H2 := Lib.hid (H1.out.on hB2)
  have hs1 := H1.out.size
  obtain ⟨p3, c3, rfl, -⟩ := hl3.len
  obtain ⟨q3, d3, rfl, -⟩ := hf3.len
  have hsum : w.heap.size + 1 + 1 = w.heap.size + 2 := rfl
  have b2 : Blk4 w2 (w.heap.size + 1 + 1) 25 _ _ _ _ := H2.out.b2
  obtain ⟨y0, y1, y2, y3⟩ := b2.box
  have f1 := b2.free
  have HB2 := Lib.hid b2
  have ht : treeOf (verF :: [idF k x (.slice p l.len c) (.slice q f.len d) l f, resF k2 x2 (.slice p' l2.len c') (.slice q' f2.len d') l2 f2]) = replyT k x l f k2 x2 l2 f2 := rfl
  rw [ht] at hf3 ⊢
  generalize replyT k x l f k2 x2 l2 f2 = T at *
  clear b2 hB hB2 L1 hN hsum ht
  go_wp2_with fail
  obtain ⟨k1, k4, k3⟩ := HB2.out.all (.int .u8 6) (.string ⟨#[]⟩) (.slice p3 V.T.nil.len c3) (.slice q3 T.len d3)
  have hw3 := set4_else w2 (w.heap.size + 1 + 1) (.int .u8 6) (.string ⟨#[]⟩) (.slice p3 V.T.nil.len c3) (.slice q3 T.len d3)
  have k3' := k3 w.heap.size (by omega)
  clear y0 y1 y2 y3 f1
  generalize (((w2.setCell ⟨w.heap.size + 1 + 1, 0, none⟩ (.int .u8 6)).setCell ⟨w.heap.size + 1 + 1, 1, none⟩ (.string ⟨#[]⟩)).setCell ⟨w.heap.size + 1 + 1, 2, none⟩ (.slice p3 V.T.nil.len c3)).setCell ⟨w.heap.size + 1 + 1, 3, none⟩ (.slice q3 T.len d3) = w3 at *
  obtain ⟨y0, y1, y2, y3⟩ := k1.box
  have keep : ∀ b, (W3.alloc (.cells #[.string ⟨#[105, 100]⟩, .int .u8 k, .string x, .slice p l.len c, .slice q f.len d, .string ⟨#[114, 101, 115, 117, 108, 116]⟩, .int .u8 k2, .string x2, .slice p' l2.len c', .slice q' f2.len d'] 50)).heap.size ≤ b → b < w2.heap.size → w3.heap[b]? = w2.heap[b]? := fun b hb _ => hw3 b (by omega)
  refine bodyPost_ret (v := .agg #[.int .u8 6, .string ⟨#[]⟩, .slice p3 V.T.nil.len c3, .slice q3 T.len d3]) (by simp [results, Tryd.results13, go_sem, y0, y1, y2, y3]) rfl ?_
  exact ⟨_, _, rfl, hl3.fre (fun b hb => by omega) keep, hf3.fre (fun b hb => by omega) keep, H2.out.below.trans k3'⟩
end Go.Proofs.YtepjomdjkoaofaaDoor
