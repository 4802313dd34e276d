/- The program's reader of JSON: a value without the blanks around it. Conditions: a string of at most 2^18 bytes; values within it that are read as they should be. -/
import Derived.Test.YtbdpghmpdghnbaaDoorMJ25
namespace Go.Proofs.YtbdpghmpdghnbaaDoor
open Go Go.RowKit Go.Lib

theorem outV_died {r : VR} {s : ByteArray} {d B : Nat} {w : World} {en : Ending} {w' : World} (h0 : ¬ r.2.2 = 0) (h : Died r.2.2 s r.2.1 B w en w') : OutV r s d B w en w' := by unfold OutV; rw [if_neg h0]; exact h
/-- the box that the call's result lies in -/
def Bx (w : World) : World := w.alloc (.cells #[.int .u8 0, .string ⟨#[]⟩, .slice none 0 0, .slice none 0 0] 25)
theorem bx_below (w : World) : Below w.heap.size w (Bx w) := (Below.refl w.heap.size w).alloc (Nat.le_refl _) _
theorem bx_size (w : World) : (Bx w).heap.size = w.heap.size + 1 := World.size_alloc ..
theorem bx_box (w : World) : Blk4 (Bx w) w.heap.size 25 (.int .u8 0) (.string ⟨#[]⟩) (.slice none 0 0) (.slice none 0 0) := heap_alloc_new w _
/-- the result is laid -/
theorem bare_fin {s : ByteArray} {w w3 : World} {d B k p' : Nat} {x : ByteArray} {l f : V.T} {v u a0 a1 a2 a3 : Value} (hB : B < w.heap.size) (hb : Blk4 w3 w.heap.size 25 a0 a1 a2 a3) (hl : HS w3 (fun b => w.heap.size + 1 ≤ b) 0 v l) (hf : HS w3 (fun b => w.heap.size + 1 ≤ b) 1 u f)
    (hfit : Fit ⟨#[]⟩ k x) (hrd : Rd s p' d B w3) (g : w.grownBy w3 (some B)) :
    Blk4 ((((w3.setCell ⟨w.heap.size, 0, none⟩ (.int .u8 k)).setCell ⟨w.heap.size, 1, none⟩ (.string x)).setCell ⟨w.heap.size, 2, none⟩ v).setCell ⟨w.heap.size, 3, none⟩ u) w.heap.size 25 (.int .u8 k) (.string x) v u ∧
    OutV ((k, x, l, f), p', 0) s d B w (.returned (.agg #[.int .u8 k, .string x, v, u])) ((((w3.setCell ⟨w.heap.size, 0, none⟩ (.int .u8 k)).setCell ⟨w.heap.size, 1, none⟩ (.string x)).setCell ⟨w.heap.size, 2, none⟩ v).setCell ⟨w.heap.size, 3, none⟩ u) := by
  obtain ⟨e1, e2, e3⟩ := hb.all (.int .u8 k) (.string x) v u
  have e4 := set4_else w3 w.heap.size (.int .u8 k) (.string x) v u
  have gg := (((grow_set w3 w.heap.size 0 (.int .u8 k)).trans (grow_set _ w.heap.size 1 (.string x))).trans (grow_set _ w.heap.size 2 v)).trans (grow_set _ w.heap.size 3 u)
  generalize (((w3.setCell ⟨w.heap.size, 0, none⟩ (.int .u8 k)).setCell ⟨w.heap.size, 1, none⟩ (.string x)).setCell ⟨w.heap.size, 2, none⟩ v).setCell ⟨w.heap.size, 3, none⟩ u = W' at *
  refine ⟨e1, ?_⟩
  show ∃ v' u', _ ∧ _
  exact ⟨v, u, rfl, hl.imp (fun b a _ => by show w.heap.size ≤ b; have : w.heap.size + 1 ≤ b := a; omega) (fun b a _ => e4 b (by have : w.heap.size + 1 ≤ b := a; omega)), hf.imp (fun b a _ => by show w.heap.size ≤ b; have : w.heap.size + 1 ≤ b := a; omega) (fun b a _ => e4 b (by have : w.heap.size + 1 ≤ b := a; omega)), hfit, hrd.same (e4 B (by omega)), grow_new2 g gg (Nat.le_refl _)⟩
theorem hs_nil (w : World) (A : Nat → Prop) (d : Nat) : HS w A d (.slice none 0 0) .nil := .inl ⟨rfl, rfl⟩

set_option maxRecDepth 100000 in
set_option maxHeartbeats 1000000 in
theorem bare_text (s : ByteArray) (v : Nat → VR) (d B p : Nat) (w : World) (hs : s.size ≤ 262144) (hd : d ≤ 64) (hv : d < 64 → VC s v (d + 1) B) (hvl : ∀ q, q ≤ s.size → Le s q (v q).2.1) (hp : p ≤ s.size) (hpk : J.pk s p = 34) (hT : TB B w) (h : Rd s p d B w) :
    Calls Tryd.prog 20 #[.pointer (some ⟨B, 0, none⟩)] w (OutV ((4, enc (ptw s p).1, .nil, .nil), (ptw s p).2) s d B w) := by
  have hB := h.lt
  have hk := peek_any s p d B (Bx w) (by omega) hp (h.below (bx_below w))
  have hc := fun q hW => text_any s p d B ((Bx w).drewN q) (by omega) hp (Lib.hid ((hT.below (bx_below w)).grow (grow_drewN _ q _))) hW
  rw [hpk] at hk
  have HB := Lib.hid (bx_box w)
  have HW := Lib.hid (bx_below w)
  have HZ := Lib.hid (bx_size w)
  have HR := Lib.hid (h.below (bx_below w))
  have hsz := ptw_size s p
  generalize ptw s p = z at *
  obtain ⟨z1, x1r⟩ := z
  unfold Bx at hk hc HB HW HZ HR
  generalize hW0 : w.alloc (.cells #[.int .u8 0, .string ⟨#[]⟩, .slice none 0 0, .slice none 0 0] 25) = W0 at *
  go_enter Tryd.func20, Tryd.ntmps20
  go_wp2_with fail
  refine hk.mono ?_
  rintro en w1 ⟨rfl, q, rfl⟩
  have hc := hc q (HR.out.drewN q)
  go_wp2_with fail
  refine hc.mono ?_
  rintro en w3 ho
  unfold Out at ho
  split at ho
  · rename_i h0
    obtain ⟨rfl, h3, g3⟩ := ho
    have G3 := Lib.hid (grow_trans (grow_below HW.out (some B)) (grow_trans (grow_drewN _ q _) g3))
    have hb3 := HB.out.same (g3.block _ (by show w.heap.size < W0.heap.size; have := HZ.out; omega) (fun e => by have e := Option.some.inj e; omega))
    have HF := Lib.hid (bare_fin (k := 4) (x := (enc z1)) (l := .nil) (f := .nil) (v := (.slice none 0 0)) (u := (.slice none 0 0)) hB hb3 (hs_nil _ _ _) (hs_nil _ _ _) ⟨by decide, by have : (enc z1).size ≤ 4 * s.size := hsz; omega, by decide⟩ h3 G3.out)
    obtain ⟨d0, d1, d2, d3⟩ := hb3.box
    have f0 := hb3.free 0
    have f1 := hb3.free 1
    have f2 := hb3.free 2
    have f3 := hb3.free 3
    clear hb3 h3 g3
    go_wp2_with fail
    have HF := HF.out
    generalize (((w3.setCell ⟨w.heap.size, 0, none⟩ (.int .u8 4)).setCell ⟨w.heap.size, 1, none⟩ (.string (enc z1))).setCell ⟨w.heap.size, 2, none⟩ (.slice none 0 0)).setCell ⟨w.heap.size, 3, none⟩ (.slice none 0 0) = W' at *
    obtain ⟨x0, x1, x2, x3⟩ := HF.1.box
    refine bodyPost_ret (v := .agg #[.int .u8 4, .string (enc z1), (.slice none 0 0), (.slice none 0 0)]) (by simp [results, Tryd.results20, go_sem, x0, x1, x2, x3]) rfl ?_
    have hfin := HF.2
    rw [show x1r = (x1r.1, 0) from Prod.ext rfl h0]
    exact hfin
  · rename_i h0
    obtain ⟨rfl, h2, g2⟩ := ho
    exact ⟨rfl, outV_died h0 ⟨rfl, h2, grow_trans (grow_below HW.out _) (grow_trans (grow_drewN _ _ _) g2)⟩⟩

set_option maxRecDepth 100000 in
set_option maxHeartbeats 1000000 in
theorem bare_number (s : ByteArray) (v : Nat → VR) (d B p : Nat) (w : World) (hs : s.size ≤ 262144) (hd : d ≤ 64) (hv : d < 64 → VC s v (d + 1) B) (hvl : ∀ q, q ≤ s.size → Le s q (v q).2.1) (hp : p ≤ s.size) (n1 : ¬ J.pk s p = 110) (n2 : ¬ J.pk s p = 102) (n3 : ¬ J.pk s p = 116) (n4 : ¬ J.pk s p = 34) (n5 : ¬ J.pk s p = 91) (n6 : ¬ J.pk s p = 123) (hT : TB B w) (h : Rd s p d B w) :
    Calls Tryd.prog 20 #[.pointer (some ⟨B, 0, none⟩)] w (OutV ((3, s.extract p (J.nm s p 0).1, .nil, .nil), J.nm s p 0) s d B w) := by
  have hB := h.lt
  have hk := peek_any s p d B (Bx w) (by omega) hp (h.below (bx_below w))
  have hc := fun q hW => number_any s p d B ((Bx w).drewN q) (by omega) hp hW
  have hx : (s.extract p (J.nm s p 0).1).size ≤ s.size := by rw [ByteArray.size_extract]; omega
  have HB := Lib.hid (bx_box w)
  have HW := Lib.hid (bx_below w)
  have HZ := Lib.hid (bx_size w)
  have HR := Lib.hid (h.below (bx_below w))
  generalize s.extract p (J.nm s p 0).1 = tx at *
  generalize J.nm s p 0 = x1r at *
  generalize J.pk s p = c at *
  have e1 : ((c : Int) == 110) = false := by simp; omega
  have e2 : ((c : Int) == 102) = false := by simp; omega
  have e3 : ((c : Int) == 116) = false := by simp; omega
  have e4 : ((c : Int) == 34) = false := by simp; omega
  have e5 : ((c : Int) == 91) = false := by simp; omega
  have e6 : ((c : Int) == 123) = false := by simp; omega
  unfold Bx at hk hc HB HW HZ HR
  generalize hW0 : w.alloc (.cells #[.int .u8 0, .string ⟨#[]⟩, .slice none 0 0, .slice none 0 0] 25) = W0 at *
  go_enter Tryd.func20, Tryd.ntmps20
  go_wp2_with fail
  refine hk.mono ?_
  rintro en w1 ⟨rfl, q, rfl⟩
  have hc := hc q (HR.out.drewN q)
  go_wp2_with fail
  refine hc.mono ?_
  rintro en w3 ho
  unfold Out at ho
  split at ho
  · rename_i h0
    obtain ⟨rfl, h3, g3⟩ := ho
    have G3 := Lib.hid (grow_trans (grow_below HW.out (some B)) (grow_trans (grow_drewN _ q _) g3))
    have hb3 := HB.out.same (g3.block _ (by show w.heap.size < W0.heap.size; have := HZ.out; omega) (fun e => by have e := Option.some.inj e; omega))
    have HF := Lib.hid (bare_fin (k := 3) (x := tx) (l := .nil) (f := .nil) (v := (.slice none 0 0)) (u := (.slice none 0 0)) hB hb3 (hs_nil _ _ _) (hs_nil _ _ _) ⟨by decide, by omega, by decide⟩ h3 G3.out)
    obtain ⟨d0, d1, d2, d3⟩ := hb3.box
    have f0 := hb3.free 0
    have f1 := hb3.free 1
    have f2 := hb3.free 2
    have f3 := hb3.free 3
    clear hb3 h3 g3
    go_wp2_with fail
    have HF := HF.out
    generalize (((w3.setCell ⟨w.heap.size, 0, none⟩ (.int .u8 3)).setCell ⟨w.heap.size, 1, none⟩ (.string tx)).setCell ⟨w.heap.size, 2, none⟩ (.slice none 0 0)).setCell ⟨w.heap.size, 3, none⟩ (.slice none 0 0) = W' at *
    obtain ⟨x0, x1, x2, x3⟩ := HF.1.box
    refine bodyPost_ret (v := .agg #[.int .u8 3, .string tx, (.slice none 0 0), (.slice none 0 0)]) (by simp [results, Tryd.results20, go_sem, x0, x1, x2, x3]) rfl ?_
    have hfin := HF.2
    rw [show x1r = (x1r.1, 0) from Prod.ext rfl h0]
    exact hfin
  · rename_i h0
    obtain ⟨rfl, h2, g2⟩ := ho
    exact ⟨rfl, outV_died h0 ⟨rfl, h2, grow_trans (grow_below HW.out _) (grow_trans (grow_drewN _ _ _) g2)⟩⟩

set_option maxRecDepth 100000 in
set_option maxHeartbeats 1000000 in
theorem bare_null (s : ByteArray) (v : Nat → VR) (d B p : Nat) (w : World) (hs : s.size ≤ 262144) (hd : d ≤ 64) (hv : d < 64 → VC s v (d + 1) B) (hvl : ∀ q, q ≤ s.size → Le s q (v q).2.1) (hp : p ≤ s.size) (hpk : J.pk s p = 110) (hT : TB B w) (h : Rd s p d B w) :
    Calls Tryd.prog 20 #[.pointer (some ⟨B, 0, none⟩)] w (OutV ((0, ⟨#[]⟩, .nil, .nil), J.al s wn 4 (p, 0)) s d B w) := by
  have hB := h.lt
  have hk := peek_any s p d B (Bx w) (by omega) hp (h.below (bx_below w))
  have hc : ∀ q, Rd s p d B ((Bx w).drewN q) → Calls Tryd.prog 28 #[.pointer (some ⟨B, 0, none⟩), .string wn, .int .u8 0] ((Bx w).drewN q) (Out (.agg #[.int .u8 0, .string ⟨#[]⟩, .slice none 0 0, .slice none 0 0]) s (J.al s wn 4 (p, 0)) d B ((Bx w).drewN q)) :=
    fun q hW => word_any s wn p d 0 B ((Bx w).drewN q) (by omega) (by decide) (by decide) hp hW
  rw [hpk] at hk
  have HB := Lib.hid (bx_box w)
  have HW := Lib.hid (bx_below w)
  have HZ := Lib.hid (bx_size w)
  have HR := Lib.hid (h.below (bx_below w))
  generalize J.al s wn 4 (p, 0) = x1r at *
  unfold wn at hc
  unfold Bx at hk hc HB HW HZ HR
  generalize hW0 : w.alloc (.cells #[.int .u8 0, .string ⟨#[]⟩, .slice none 0 0, .slice none 0 0] 25) = W0 at *
  go_enter Tryd.func20, Tryd.ntmps20
  go_wp2_with fail
  refine hk.mono ?_
  rintro en w1 ⟨rfl, q, rfl⟩
  have hc := hc q (HR.out.drewN q)
  go_wp2_with fail
  refine hc.mono ?_
  rintro en w3 ho
  unfold Out at ho
  split at ho
  · rename_i h0
    obtain ⟨rfl, h3, g3⟩ := ho
    have G3 := Lib.hid (grow_trans (grow_below HW.out (some B)) (grow_trans (grow_drewN _ q _) g3))
    have hb3 := HB.out.same (g3.block _ (by show w.heap.size < W0.heap.size; have := HZ.out; omega) (fun e => by have e := Option.some.inj e; omega))
    have HF := Lib.hid (bare_fin (k := 0) (x := ⟨#[]⟩) (l := .nil) (f := .nil) (v := (.slice none 0 0)) (u := (.slice none 0 0)) hB hb3 (hs_nil _ _ _) (hs_nil _ _ _) ⟨by decide, by decide, by decide⟩ h3 G3.out)
    obtain ⟨d0, d1, d2, d3⟩ := hb3.box
    have f0 := hb3.free 0
    have f1 := hb3.free 1
    have f2 := hb3.free 2
    have f3 := hb3.free 3
    clear hb3 h3 g3
    go_wp2_with fail
    have HF := HF.out
    generalize (((w3.setCell ⟨w.heap.size, 0, none⟩ (.int .u8 0)).setCell ⟨w.heap.size, 1, none⟩ (.string ⟨#[]⟩)).setCell ⟨w.heap.size, 2, none⟩ (.slice none 0 0)).setCell ⟨w.heap.size, 3, none⟩ (.slice none 0 0) = W' at *
    obtain ⟨x0, x1, x2, x3⟩ := HF.1.box
    refine bodyPost_ret (v := .agg #[.int .u8 0, .string ⟨#[]⟩, (.slice none 0 0), (.slice none 0 0)]) (by simp [results, Tryd.results20, go_sem, x0, x1, x2, x3]) rfl ?_
    have hfin := HF.2
    rw [show x1r = (x1r.1, 0) from Prod.ext rfl h0]
    exact hfin
  · rename_i h0
    obtain ⟨rfl, h2, g2⟩ := ho
    exact ⟨rfl, outV_died h0 ⟨rfl, h2, grow_trans (grow_below HW.out _) (grow_trans (grow_drewN _ _ _) g2)⟩⟩

set_option maxRecDepth 100000 in
set_option maxHeartbeats 1000000 in
theorem bare_false (s : ByteArray) (v : Nat → VR) (d B p : Nat) (w : World) (hs : s.size ≤ 262144) (hd : d ≤ 64) (hv : d < 64 → VC s v (d + 1) B) (hvl : ∀ q, q ≤ s.size → Le s q (v q).2.1) (hp : p ≤ s.size) (hpk : J.pk s p = 102) (hT : TB B w) (h : Rd s p d B w) :
    Calls Tryd.prog 20 #[.pointer (some ⟨B, 0, none⟩)] w (OutV ((1, ⟨#[]⟩, .nil, .nil), J.al s wf 5 (p, 0)) s d B w) := by
  have hB := h.lt
  have hk := peek_any s p d B (Bx w) (by omega) hp (h.below (bx_below w))
  have hc : ∀ q, Rd s p d B ((Bx w).drewN q) → Calls Tryd.prog 28 #[.pointer (some ⟨B, 0, none⟩), .string wf, .int .u8 1] ((Bx w).drewN q) (Out (.agg #[.int .u8 1, .string ⟨#[]⟩, .slice none 0 0, .slice none 0 0]) s (J.al s wf 5 (p, 0)) d B ((Bx w).drewN q)) :=
    fun q hW => word_any s wf p d 1 B ((Bx w).drewN q) (by omega) (by decide) (by decide) hp hW
  rw [hpk] at hk
  have HB := Lib.hid (bx_box w)
  have HW := Lib.hid (bx_below w)
  have HZ := Lib.hid (bx_size w)
  have HR := Lib.hid (h.below (bx_below w))
  generalize J.al s wf 5 (p, 0) = x1r at *
  unfold wf at hc
  unfold Bx at hk hc HB HW HZ HR
  generalize hW0 : w.alloc (.cells #[.int .u8 0, .string ⟨#[]⟩, .slice none 0 0, .slice none 0 0] 25) = W0 at *
  go_enter Tryd.func20, Tryd.ntmps20
  go_wp2_with fail
  refine hk.mono ?_
  rintro en w1 ⟨rfl, q, rfl⟩
  have hc := hc q (HR.out.drewN q)
  go_wp2_with fail
  refine hc.mono ?_
  rintro en w3 ho
  unfold Out at ho
  split at ho
  · rename_i h0
    obtain ⟨rfl, h3, g3⟩ := ho
    have G3 := Lib.hid (grow_trans (grow_below HW.out (some B)) (grow_trans (grow_drewN _ q _) g3))
    have hb3 := HB.out.same (g3.block _ (by show w.heap.size < W0.heap.size; have := HZ.out; omega) (fun e => by have e := Option.some.inj e; omega))
    have HF := Lib.hid (bare_fin (k := 1) (x := ⟨#[]⟩) (l := .nil) (f := .nil) (v := (.slice none 0 0)) (u := (.slice none 0 0)) hB hb3 (hs_nil _ _ _) (hs_nil _ _ _) ⟨by decide, by decide, by decide⟩ h3 G3.out)
    obtain ⟨d0, d1, d2, d3⟩ := hb3.box
    have f0 := hb3.free 0
    have f1 := hb3.free 1
    have f2 := hb3.free 2
    have f3 := hb3.free 3
    clear hb3 h3 g3
    go_wp2_with fail
    have HF := HF.out
    generalize (((w3.setCell ⟨w.heap.size, 0, none⟩ (.int .u8 1)).setCell ⟨w.heap.size, 1, none⟩ (.string ⟨#[]⟩)).setCell ⟨w.heap.size, 2, none⟩ (.slice none 0 0)).setCell ⟨w.heap.size, 3, none⟩ (.slice none 0 0) = W' at *
    obtain ⟨x0, x1, x2, x3⟩ := HF.1.box
    refine bodyPost_ret (v := .agg #[.int .u8 1, .string ⟨#[]⟩, (.slice none 0 0), (.slice none 0 0)]) (by simp [results, Tryd.results20, go_sem, x0, x1, x2, x3]) rfl ?_
    have hfin := HF.2
    rw [show x1r = (x1r.1, 0) from Prod.ext rfl h0]
    exact hfin
  · rename_i h0
    obtain ⟨rfl, h2, g2⟩ := ho
    exact ⟨rfl, outV_died h0 ⟨rfl, h2, grow_trans (grow_below HW.out _) (grow_trans (grow_drewN _ _ _) g2)⟩⟩

set_option maxRecDepth 100000 in
set_option maxHeartbeats 1000000 in
theorem bare_true (s : ByteArray) (v : Nat → VR) (d B p : Nat) (w : World) (hs : s.size ≤ 262144) (hd : d ≤ 64) (hv : d < 64 → VC s v (d + 1) B) (hvl : ∀ q, q ≤ s.size → Le s q (v q).2.1) (hp : p ≤ s.size) (hpk : J.pk s p = 116) (hT : TB B w) (h : Rd s p d B w) :
    Calls Tryd.prog 20 #[.pointer (some ⟨B, 0, none⟩)] w (OutV ((2, ⟨#[]⟩, .nil, .nil), J.al s wt 4 (p, 0)) s d B w) := by
  have hB := h.lt
  have hk := peek_any s p d B (Bx w) (by omega) hp (h.below (bx_below w))
  have hc : ∀ q, Rd s p d B ((Bx w).drewN q) → Calls Tryd.prog 28 #[.pointer (some ⟨B, 0, none⟩), .string wt, .int .u8 2] ((Bx w).drewN q) (Out (.agg #[.int .u8 2, .string ⟨#[]⟩, .slice none 0 0, .slice none 0 0]) s (J.al s wt 4 (p, 0)) d B ((Bx w).drewN q)) :=
    fun q hW => word_any s wt p d 2 B ((Bx w).drewN q) (by omega) (by decide) (by decide) hp hW
  rw [hpk] at hk
  have HB := Lib.hid (bx_box w)
  have HW := Lib.hid (bx_below w)
  have HZ := Lib.hid (bx_size w)
  have HR := Lib.hid (h.below (bx_below w))
  generalize J.al s wt 4 (p, 0) = x1r at *
  unfold wt at hc
  unfold Bx at hk hc HB HW HZ HR
  generalize hW0 : w.alloc (.cells #[.int .u8 0, .string ⟨#[]⟩, .slice none 0 0, .slice none 0 0] 25) = W0 at *
  go_enter Tryd.func20, Tryd.ntmps20
  go_wp2_with fail
  refine hk.mono ?_
  rintro en w1 ⟨rfl, q, rfl⟩
  have hc := hc q (HR.out.drewN q)
  go_wp2_with fail
  refine hc.mono ?_
  rintro en w3 ho
  unfold Out at ho
  split at ho
  · rename_i h0
    obtain ⟨rfl, h3, g3⟩ := ho
    have G3 := Lib.hid (grow_trans (grow_below HW.out (some B)) (grow_trans (grow_drewN _ q _) g3))
    have hb3 := HB.out.same (g3.block _ (by show w.heap.size < W0.heap.size; have := HZ.out; omega) (fun e => by have e := Option.some.inj e; omega))
    have HF := Lib.hid (bare_fin (k := 2) (x := ⟨#[]⟩) (l := .nil) (f := .nil) (v := (.slice none 0 0)) (u := (.slice none 0 0)) hB hb3 (hs_nil _ _ _) (hs_nil _ _ _) ⟨by decide, by decide, by decide⟩ h3 G3.out)
    obtain ⟨d0, d1, d2, d3⟩ := hb3.box
    have f0 := hb3.free 0
    have f1 := hb3.free 1
    have f2 := hb3.free 2
    have f3 := hb3.free 3
    clear hb3 h3 g3
    go_wp2_with fail
    have HF := HF.out
    generalize (((w3.setCell ⟨w.heap.size, 0, none⟩ (.int .u8 2)).setCell ⟨w.heap.size, 1, none⟩ (.string ⟨#[]⟩)).setCell ⟨w.heap.size, 2, none⟩ (.slice none 0 0)).setCell ⟨w.heap.size, 3, none⟩ (.slice none 0 0) = W' at *
    obtain ⟨x0, x1, x2, x3⟩ := HF.1.box
    refine bodyPost_ret (v := .agg #[.int .u8 2, .string ⟨#[]⟩, (.slice none 0 0), (.slice none 0 0)]) (by simp [results, Tryd.results20, go_sem, x0, x1, x2, x3]) rfl ?_
    have hfin := HF.2
    rw [show x1r = (x1r.1, 0) from Prod.ext rfl h0]
    exact hfin
  · rename_i h0
    obtain ⟨rfl, h2, g2⟩ := ho
    exact ⟨rfl, outV_died h0 ⟨rfl, h2, grow_trans (grow_below HW.out _) (grow_trans (grow_drewN _ _ _) g2)⟩⟩

set_option maxRecDepth 100000 in
set_option maxHeartbeats 1000000 in
theorem bare_list (s : ByteArray) (v : Nat → VR) (d B p : Nat) (w : World) (hs : s.size ≤ 262144) (hd : d ≤ 64) (hv : d < 64 → VC s v (d + 1) B) (hvl : ∀ q, q ≤ s.size → Le s q (v q).2.1) (hp : p ≤ s.size) (hpk : J.pk s p = 91) (hT : TB B w) (h : Rd s p d B w) :
    Calls Tryd.prog 20 #[.pointer (some ⟨B, 0, none⟩)] w (OutV ((5, ⟨#[]⟩, (its s 93 (lo v) d p .nil).1, .nil), (its s 93 (lo v) d p .nil).2) s d B w) := by
  have hB := h.lt
  have hk := peek_any s p d B (Bx w) (by omega) hp (h.below (bx_below w))
  have hc := fun q hW => list_any s v d B p ((Bx w).drewN q) hs hd hv hvl (pk_lt_size hpk (by decide)) hpk ((hT.below (bx_below w)).grow (grow_drewN _ q _)) hW
  rw [hpk] at hk
  have HB := Lib.hid (bx_box w)
  have HW := Lib.hid (bx_below w)
  have HZ := Lib.hid (bx_size w)
  have HR := Lib.hid (h.below (bx_below w))
  generalize its s 93 (lo v) d p .nil = z at *
  obtain ⟨z1, x1r⟩ := z
  unfold Bx at hk hc HB HW HZ HR
  generalize hW0 : w.alloc (.cells #[.int .u8 0, .string ⟨#[]⟩, .slice none 0 0, .slice none 0 0] 25) = W0 at *
  go_enter Tryd.func20, Tryd.ntmps20
  go_wp2_with fail
  refine hk.mono ?_
  rintro en w1 ⟨rfl, q, rfl⟩
  have hc := hc q (HR.out.drewN q)
  go_wp2_with fail
  refine hc.mono ?_
  rintro en w3 ho
  unfold OutS at ho
  split at ho
  · rename_i h0
    obtain ⟨vv, rfl, hS, h3, g3⟩ := ho
    obtain ⟨p3, c3, rfl, -⟩ := hS.len
    have G3 := Lib.hid (grow_trans (grow_below HW.out (some B)) (grow_trans (grow_drewN _ q _) g3))
    have hb3 := HB.out.same (g3.block _ (by show w.heap.size < W0.heap.size; have := HZ.out; omega) (fun e => by have e := Option.some.inj e; omega))
    have HF := Lib.hid (bare_fin (k := 5) (x := ⟨#[]⟩) (l := z1) (f := .nil) (v := (.slice p3 z1.len c3)) (u := (.slice none 0 0)) hB hb3 (hS.mono (fun b hb _ => by show w.heap.size + 1 ≤ b; rw [← HZ.out]; exact hb)) (hs_nil _ _ _) ⟨by decide, by decide, by decide⟩ h3 G3.out)
    obtain ⟨d0, d1, d2, d3⟩ := hb3.box
    have f0 := hb3.free 0
    have f1 := hb3.free 1
    have f2 := hb3.free 2
    have f3 := hb3.free 3
    clear hb3 h3 g3
    go_wp2_with fail
    have HF := HF.out
    generalize (((w3.setCell ⟨w.heap.size, 0, none⟩ (.int .u8 5)).setCell ⟨w.heap.size, 1, none⟩ (.string ⟨#[]⟩)).setCell ⟨w.heap.size, 2, none⟩ (.slice p3 z1.len c3)).setCell ⟨w.heap.size, 3, none⟩ (.slice none 0 0) = W' at *
    obtain ⟨x0, x1, x2, x3⟩ := HF.1.box
    refine bodyPost_ret (v := .agg #[.int .u8 5, .string ⟨#[]⟩, (.slice p3 z1.len c3), (.slice none 0 0)]) (by simp [results, Tryd.results20, go_sem, x0, x1, x2, x3]) rfl ?_
    have hfin := HF.2
    rw [show x1r = (x1r.1, 0) from Prod.ext rfl h0]
    exact hfin
  · rename_i h0
    obtain ⟨rfl, h2, g2⟩ := ho
    exact ⟨rfl, outV_died h0 ⟨rfl, h2, grow_trans (grow_below HW.out _) (grow_trans (grow_drewN _ _ _) g2)⟩⟩

set_option maxRecDepth 100000 in
set_option maxHeartbeats 1000000 in
theorem bare_fields (s : ByteArray) (v : Nat → VR) (d B p : Nat) (w : World) (hs : s.size ≤ 262144) (hd : d ≤ 64) (hv : d < 64 → VC s v (d + 1) B) (hvl : ∀ q, q ≤ s.size → Le s q (v q).2.1) (hp : p ≤ s.size) (hpk : J.pk s p = 123) (hT : TB B w) (h : Rd s p d B w) :
    Calls Tryd.prog 20 #[.pointer (some ⟨B, 0, none⟩)] w (OutV ((6, ⟨#[]⟩, .nil, (its s 125 (fo s v) d p .nil).1), (its s 125 (fo s v) d p .nil).2) s d B w) := by
  have hB := h.lt
  have hk := peek_any s p d B (Bx w) (by omega) hp (h.below (bx_below w))
  have hc := fun q hW => fields_any s v d B p ((Bx w).drewN q) hs hd hv hvl (pk_lt_size hpk (by decide)) hpk ((hT.below (bx_below w)).grow (grow_drewN _ q _)) hW
  rw [hpk] at hk
  have HB := Lib.hid (bx_box w)
  have HW := Lib.hid (bx_below w)
  have HZ := Lib.hid (bx_size w)
  have HR := Lib.hid (h.below (bx_below w))
  generalize its s 125 (fo s v) d p .nil = z at *
  obtain ⟨z1, x1r⟩ := z
  unfold Bx at hk hc HB HW HZ HR
  generalize hW0 : w.alloc (.cells #[.int .u8 0, .string ⟨#[]⟩, .slice none 0 0, .slice none 0 0] 25) = W0 at *
  go_enter Tryd.func20, Tryd.ntmps20
  go_wp2_with fail
  refine hk.mono ?_
  rintro en w1 ⟨rfl, q, rfl⟩
  have hc := hc q (HR.out.drewN q)
  go_wp2_with fail
  refine hc.mono ?_
  rintro en w3 ho
  unfold OutS at ho
  split at ho
  · rename_i h0
    obtain ⟨vv, rfl, hS, h3, g3⟩ := ho
    obtain ⟨p3, c3, rfl, -⟩ := hS.len
    have G3 := Lib.hid (grow_trans (grow_below HW.out (some B)) (grow_trans (grow_drewN _ q _) g3))
    have hb3 := HB.out.same (g3.block _ (by show w.heap.size < W0.heap.size; have := HZ.out; omega) (fun e => by have e := Option.some.inj e; omega))
    have HF := Lib.hid (bare_fin (k := 6) (x := ⟨#[]⟩) (l := .nil) (f := z1) (v := (.slice none 0 0)) (u := (.slice p3 z1.len c3)) hB hb3 (hs_nil _ _ _) (hS.mono (fun b hb _ => by show w.heap.size + 1 ≤ b; rw [← HZ.out]; exact hb)) ⟨by decide, by decide, by decide⟩ h3 G3.out)
    obtain ⟨d0, d1, d2, d3⟩ := hb3.box
    have f0 := hb3.free 0
    have f1 := hb3.free 1
    have f2 := hb3.free 2
    have f3 := hb3.free 3
    clear hb3 h3 g3
    go_wp2_with fail
    have HF := HF.out
    generalize (((w3.setCell ⟨w.heap.size, 0, none⟩ (.int .u8 6)).setCell ⟨w.heap.size, 1, none⟩ (.string ⟨#[]⟩)).setCell ⟨w.heap.size, 2, none⟩ (.slice none 0 0)).setCell ⟨w.heap.size, 3, none⟩ (.slice p3 z1.len c3) = W' at *
    obtain ⟨x0, x1, x2, x3⟩ := HF.1.box
    refine bodyPost_ret (v := .agg #[.int .u8 6, .string ⟨#[]⟩, (.slice none 0 0), (.slice p3 z1.len c3)]) (by simp [results, Tryd.results20, go_sem, x0, x1, x2, x3]) rfl ?_
    have hfin := HF.2
    rw [show x1r = (x1r.1, 0) from Prod.ext rfl h0]
    exact hfin
  · rename_i h0
    obtain ⟨rfl, h2, g2⟩ := ho
    exact ⟨rfl, outV_died h0 ⟨rfl, h2, grow_trans (grow_below HW.out _) (grow_trans (grow_drewN _ _ _) g2)⟩⟩

theorem bare_any (s : ByteArray) (v : Nat → VR) (d B p : Nat) (w : World) (hs : s.size ≤ 262144) (hd : d ≤ 64) (hv : d < 64 → VC s v (d + 1) B) (hvl : ∀ q, q ≤ s.size → Le s q (v q).2.1) (hp : p ≤ s.size) (hT : TB B w) (h : Rd s p d B w) :
    Calls Tryd.prog 20 #[.pointer (some ⟨B, 0, none⟩)] w (OutV (br s d v p) s d B w) := by
  unfold br
  split
  · rename_i hk; exact bare_null s v d B p w hs hd hv hvl hp hk hT h
  · rename_i n1
    split
    · rename_i hk; exact bare_false s v d B p w hs hd hv hvl hp hk hT h
    · rename_i n2
      split
      · rename_i hk; exact bare_true s v d B p w hs hd hv hvl hp hk hT h
      · rename_i n3
        split
        · rename_i hk; exact bare_text s v d B p w hs hd hv hvl hp hk hT h
        · rename_i n4
          split
          · rename_i hk; exact bare_list s v d B p w hs hd hv hvl hp hk hT h
          · rename_i n5
            split
            · rename_i hk; exact bare_fields s v d B p w hs hd hv hvl hp hk hT h
            · rename_i n6
              exact bare_number s v d B p w hs hd hv hvl hp n1 n2 n3 n4 n5 n6 hT h
end Go.Proofs.YtbdpghmpdghnbaaDoor
