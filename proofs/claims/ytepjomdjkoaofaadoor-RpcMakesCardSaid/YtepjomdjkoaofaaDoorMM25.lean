/- The reference's field and its message of nothing yet. Conditions: such as Go can hold. -/
import Derived.Test.YtepjomdjkoaofaaDoorMM08
import Derived.Test.YtepjomdjkoaofaaDoorMM24
import Derived.Deep.AppendLies
namespace Go.Proofs.YtepjomdjkoaofaaDoor
open Go Go.RowKit Go.Lib

theorem hs_nil_any {w w' : World} {A A' : Nat → Prop} {d : Nat} {v : Value} (h : HS w A d v .nil) : HS w' A' d v .nil := SL.imp h (fun _ _ _ => trivial)

structure FdSt (w : World) (k : Nat) (x : ByteArray) (v u : Value) (l f : V.T) (W : World) : Prop where
  below : Below w.heap.size w W
  size : w.heap.size + 2 ≤ W.heap.size
  b1 : W.heap[w.heap.size + 1]? = some (.cells #[.string ⟨#[]⟩, .int .u8 0, .string ⟨#[]⟩, .slice none 0 0, .slice none 0 0] 50 (0, 0))
  b0 : Blk4 W w.heap.size 25 (.int .u8 k) (.string x) v u
  l : HS W (fun _ => True) 0 v l
  f : HS W (fun _ => True) 1 u f

set_option maxHeartbeats 1000000 in
set_option maxRecDepth 100000 in
theorem field_any (nm : ByteArray) (k : Nat) (x : ByteArray) (v u : Value) (l f : V.T) (A : Nat → Prop) (w : World) (hm : l.size + f.size ≤ 1000000) (hl : HS w A 0 v l) (hf : HS w A 1 u f) :
    Calls Tryd.prog 41 #[.string nm, .agg #[.int .u8 k, .string x, v, u]] w (Own5T nm k x l f w) := by
  obtain ⟨p, c, rfl, -⟩ := hl.len
  obtain ⟨q, d, rfl, -⟩ := hf.len
  have H0 := Lib.hid (show FdSt w k x (.slice p l.len c) (.slice q f.len d) l f ((w.alloc (.cells #[.int .u8 k, .string x, .slice p l.len c, .slice q f.len d] 25)).alloc (.cells #[.string ⟨#[]⟩, .int .u8 0, .string ⟨#[]⟩, .slice none 0 0, .slice none 0 0] 50)) from
    ⟨two_below _ _ _, by rw [two_size]; omega, (two_new _ _ _).2, (two_new _ _ _).1, (hl.mono (fun _ _ _ => trivial)).below (two_below _ _ _), (hf.mono (fun _ _ _ => trivial)).below (two_below _ _ _)⟩)
  have HT := Lib.hid (fun W (h : FdSt w k x (.slice p l.len c) (.slice q f.len d) l f W) => twin_any (l.size + f.size + 1) k x (.slice p l.len c) (.slice q f.len d) l f (fun _ => True) W (Nat.lt_succ_self _) hm h.l h.f)
  clear hl hf hm
  go_enter Tryd.func41, Tryd.ntmps41
  go_wp2_with fail
  refine (HT.out _ H0.out).mono ?_
  rintro e w1 ⟨v2, u2, rfl, hl2, hf2, hB1⟩
  obtain ⟨p2, c2, rfl, -⟩ := hl2.len
  obtain ⟨q2, d2, rfl, -⟩ := hf2.len
  have b1 := (hB1.block _ (by have := H0.out.size; omega)).trans H0.out.b1
  have hs0 := H0.out.size
  have hB2 := H0.out.below.trans (hB1.mono H0.out.below.size)
  clear H0 hB1
  generalize (w.alloc (.cells #[.int .u8 k, .string x, .slice p l.len c, .slice q f.len d] 25)).alloc (.cells #[.string ⟨#[]⟩, .int .u8 0, .string ⟨#[]⟩, .slice none 0 0, .slice none 0 0] 50) = W0 at *
  have r3 : Row w1 (w.heap.size + 1) 50 _ := b1
  have x0 := r3.cell (j := 0) (by simp)
  have x1 := r3.cell (j := 1) (by simp)
  have x2 := r3.cell (j := 2) (by simp)
  have x3 := r3.cell (j := 3) (by simp)
  have x4 := r3.cell (j := 4) (by simp)
  have f0 := r3.free
  go_wp2_with fail
  have r4 := ((((r3.set 0 (.string nm)).set 1 (.int .u8 k)).set 2 (.string x)).set 3 (.slice p2 l.len c2)).set 4 (.slice q2 f.len d2)
  have g4 : ∀ j, j ≠ w.heap.size + 1 → (((((w1.setCell ⟨w.heap.size + 1, 0, none⟩ (.string nm)).setCell ⟨w.heap.size + 1, 1, none⟩ (.int .u8 k)).setCell ⟨w.heap.size + 1, 2, none⟩ (.string x)).setCell ⟨w.heap.size + 1, 3, none⟩ (.slice p2 l.len c2)).setCell ⟨w.heap.size + 1, 4, none⟩ (.slice q2 f.len d2)).heap[j]? = w1.heap[j]? := fun j hj =>
    (Below.heap_setCell _ _ _ j hj).trans ((Below.heap_setCell _ _ _ j hj).trans ((Below.heap_setCell _ _ _ j hj).trans ((Below.heap_setCell _ _ _ j hj).trans (Below.heap_setCell _ _ _ j hj))))
  have g5 : Below w.heap.size w1 (((((w1.setCell ⟨w.heap.size + 1, 0, none⟩ (.string nm)).setCell ⟨w.heap.size + 1, 1, none⟩ (.int .u8 k)).setCell ⟨w.heap.size + 1, 2, none⟩ (.string x)).setCell ⟨w.heap.size + 1, 3, none⟩ (.slice p2 l.len c2)).setCell ⟨w.heap.size + 1, 4, none⟩ (.slice q2 f.len d2)) :=
    (((((Below.refl _ _).setCell (Nat.le_succ _) _).setCell (Nat.le_succ _) _).setCell (Nat.le_succ _) _).setCell (Nat.le_succ _) _).setCell (Nat.le_succ _) _
  clear x0 x1 x2 x3 x4 f0 r3 b1
  generalize ((((w1.setCell ⟨w.heap.size + 1, 0, none⟩ (.string nm)).setCell ⟨w.heap.size + 1, 1, none⟩ (.int .u8 k)).setCell ⟨w.heap.size + 1, 2, none⟩ (.string x)).setCell ⟨w.heap.size + 1, 3, none⟩ (.slice p2 l.len c2)).setCell ⟨w.heap.size + 1, 4, none⟩ (.slice q2 f.len d2) = W3 at *
  simp only [List.setIfInBounds_toArray, List.set_cons_zero, List.set_cons_succ] at r4
  have y0 : W3.cell? ⟨w.heap.size + 1, 0, none⟩ = _ := r4.cell (j := 0) (by simp)
  have y1 : W3.cell? ⟨w.heap.size + 1, 1, none⟩ = _ := r4.cell (j := 1) (by simp)
  have y2 : W3.cell? ⟨w.heap.size + 1, 2, none⟩ = _ := r4.cell (j := 2) (by simp)
  have y3 : W3.cell? ⟨w.heap.size + 1, 3, none⟩ = _ := r4.cell (j := 3) (by simp)
  have y4 : W3.cell? ⟨w.heap.size + 1, 4, none⟩ = _ := r4.cell (j := 4) (by simp)
  have keep : ∀ b, W0.heap.size ≤ b → b < w1.heap.size → W3.heap[b]? = w1.heap[b]? := fun b hb _ => g4 b (by omega)
  refine bodyPost_ret (v := .agg #[.string nm, .int .u8 k, .string x, .slice p2 l.len c2, .slice q2 f.len d2]) (by simp [results, Tryd.results41, go_sem, y0, y1, y2, y3, y4]) rfl ?_
  exact ⟨_, _, rfl, hl2.imp (fun b hb _ => by omega) keep, hf2.imp (fun b hb _ => by omega) keep, hB2.trans g5⟩

def verG (v u : Value) : Fe := ⟨⟨#[106, 115, 111, 110, 114, 112, 99]⟩, 4, ⟨#[50, 46, 48]⟩, v, u, .nil, .nil⟩
def BegIs (w : World) (e : Ending) (w' : World) : Prop :=
  ∃ v u g, e = .returned (.agg #[.int .u8 6, .string ⟨#[]⟩, .slice none 0 0, .slice (some ⟨g, 0, none⟩) 1 1]) ∧ w'.ownsRow w.heap.size 50 5 (.slice (some ⟨g, 0, none⟩) 1 1) 1 (cellsOf [verG v u]) ∧ HS w' (fun _ => True) 0 v .nil ∧ HS w' (fun _ => True) 1 u .nil ∧ Below w.heap.size w w'
set_option maxHeartbeats 1000000 in
set_option maxRecDepth 100000 in
theorem begun_any (w : World) : Calls Tryd.prog 42 #[] w (BegIs w) := by
  have HF := Lib.hid (fun W => field_any ⟨#[106, 115, 111, 110, 114, 112, 99]⟩ 4 ⟨#[50, 46, 48]⟩ (.slice none 0 0) (.slice none 0 0) .nil .nil (fun _ => True) W (by decide) (HS.nil _ _ _) (HS.nil _ _ _))
  have b0 : Blk4 (w.alloc (.cells #[.int .u8 0, .string ⟨#[]⟩, .slice none 0 0, .slice none 0 0] 25)) w.heap.size 25 _ _ _ _ := heap_alloc_new _ _
  have hB := (Below.refl w.heap.size w).alloc (Nat.le_refl _) (.cells #[.int .u8 0, .string ⟨#[]⟩, .slice none 0 0, .slice none 0 0] 25)
  have H0 := Lib.hid (And.intro b0 hB)
  clear b0 hB
  go_enter Tryd.func42, Tryd.ntmps42
  go_wp2_with fail
  refine (HF.out _).mono ?_
  rintro e w1 ⟨v2, u2, rfl, hl2, hf2, hB1⟩
  have b1 := H0.out.1.same (hB1.block _ H0.out.1.lt)
  have hB2 := H0.out.2.trans (hB1.mono H0.out.2.size)
  have hl3 := fun W => hs_nil_any (w' := W) (A' := fun _ => True) hl2
  have hf3 := fun W => hs_nil_any (w' := W) (A' := fun _ => True) hf2
  obtain ⟨p2, c2, rfl, -⟩ := hl2.len
  obtain ⟨q2, d2, rfl, -⟩ := hf2.len
  have H4 := Lib.hid (And.intro b1 (And.intro hB2 (And.intro hl3 hf3)))
  obtain ⟨x0, x1, x2, x3⟩ := b1.box
  have f0 := b1.free
  have hlt := b1.lt
  clear b1 hB2 hB1 H0 hl3 hf3 hl2 hf2
  go_wp2_with fail
  clear x0 x1 x2 x3 f0
  obtain ⟨g1, g2, g3⟩ := H4.out.1.all (.int .u8 6) (.string ⟨#[]⟩) (.slice none 0 0) (.slice (some ⟨w1.heap.size, 0, none⟩) 1 1)
  have g3' := g3 w.heap.size (Nat.le_refl _)
  generalize (((w1.setCell ⟨w.heap.size, 0, none⟩ (.int .u8 6)).setCell ⟨w.heap.size, 1, none⟩ (.string ⟨#[]⟩)).setCell ⟨w.heap.size, 2, none⟩ (.slice none 0 0)).setCell ⟨w.heap.size, 3, none⟩ (.slice (some ⟨w1.heap.size, 0, none⟩) 1 1) = w2 at *
  have hB5 := H4.out.2.1.trans g3'
  have hO := owns_new (w := w2) (cs := #[.string ⟨#[106, 115, 111, 110, 114, 112, 99]⟩, .int .u8 4, .string ⟨#[50, 46, 48]⟩, .slice p2 V.T.nil.len c2, .slice q2 V.T.nil.len d2]) (es := [verG (.slice p2 V.T.nil.len c2) (.slice q2 V.T.nil.len d2)]) (t := 50) (n := 1) rfl rfl (by decide) w.heap.size hB5.size
  have hB6 := (Below.refl w2.heap.size w2).alloc (Nat.le_refl _) (.cells #[.string ⟨#[106, 115, 111, 110, 114, 112, 99]⟩, .int .u8 4, .string ⟨#[50, 46, 48]⟩, .slice p2 V.T.nil.len c2, .slice q2 V.T.nil.len d2] 50)
  rw [← g2] at hO
  have b3 := g1.same (hB6.block _ g1.lt)
  have hB7 := hB5.trans (hB6.mono hB5.size)
  generalize w2.alloc (.cells #[.string ⟨#[106, 115, 111, 110, 114, 112, 99]⟩, .int .u8 4, .string ⟨#[50, 46, 48]⟩, .slice p2 V.T.nil.len c2, .slice q2 V.T.nil.len d2] 50) = w3 at *
  obtain ⟨x0, x1, x2, x3⟩ := b3.box
  refine bodyPost_ret (v := .agg #[.int .u8 6, .string ⟨#[]⟩, .slice none 0 0, .slice (some ⟨w1.heap.size, 0, none⟩) 1 1]) (by simp [results, Tryd.results42, go_sem, x0, x1, x2, x3]) rfl ?_
  exact ⟨_, _, _, rfl, hO, H4.out.2.2.1 _, H4.out.2.2.2 _, hB7⟩
end Go.Proofs.YtepjomdjkoaofaaDoor
