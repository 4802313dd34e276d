/- The program's reader of JSON: a value, at any depth. Conditions: a string of at most 2^18 bytes. -/
import Derived.Test.YtbkciiogkgndiaaGreatDoorMB23
import Derived.Recover
namespace Go.Proofs.YtbkciiogkgndiaaGreatDoor
open Go Go.RowKit Go.Lib

set_option maxRecDepth 100000 in
set_option maxHeartbeats 1000000 in
theorem value_step (s : ByteArray) (v : Nat → VR) (d B q : Nat) (w : World) (hs : s.size ≤ 262144) (hd : d ≤ 64) (hv : d < 64 → VC s v (d + 1) B) (hvl : ∀ q, q ≤ s.size → Le s q (v q).2.1) (hq : q ≤ s.size) (hT : TB B w) (h : Rd s q d B w) :
    Calls Tryz.prog 192 #[.pointer (some ⟨B, 0, none⟩)] w (OutV (ar s (br s d v (J.bl s q 0))) s d B w) := by
  have hs1 : s.size ≤ 1000000000000 := by omega
  have hB := h.lt
  have hq1 := (J.bl_le 0 hq).2
  have hb := fun W hT hW => bare_any s v d B (J.bl s q 0) W hs hd hv hvl hq1 hT hW
  have hle := br_le hvl d (J.bl s q 0) hq1
  generalize hr : br s d v (J.bl s q 0) = r at *
  have hX := fun W => skipAll_any s J.blk q d B W hs1 hq blanks0
  simp only [J.sa_bl] at hX
  clear hr
  generalize J.bl s q 0 = q1 at *
  have hY := fun W => skipAll_any s J.blk r.2.1 d B W hs1 hle.2 blanks0
  simp only [J.sa_bl] at hY
  have HT := Lib.hid (hT.below (bx_below w))
  have HB := Lib.hid (bx_box w)
  have HW := Lib.hid (bx_below w)
  have HZ := Lib.hid (bx_size w)
  have HR := Lib.hid (h.below (bx_below w))
  unfold Bx at HT HB HW HZ HR
  generalize hW0 : w.alloc (.cells #[.int .u8 0, .string ⟨#[]⟩, .slice none 0 0, .slice none 0 0] 25) = W0 at *
  by_cases he : r.2.2 = 0
  · rw [show ar s r = (r.1, J.bl s r.2.1 0, 0) from if_pos he]
    unfold OutV at hb
    simp only [if_pos he] at hb
    go_enter Tryz.func192, Tryz.ntmps192
    go_wp2_with fail
    refine (hX W0 HR.out).mono ?_
    rintro en w1 ⟨rfl, h1, g1⟩
    have T1 := HT.out.grow g1
    have B1 := HB.out.same (g1.block _ (by have := HZ.out; omega) (fun e => by have e := Option.some.inj e; omega))
    have G1 := Lib.hid (grow_trans (grow_below HW.out (some B)) g1)
    have S1 := Lib.hid (show w.heap.size + 1 ≤ w1.heap.size by have := HZ.out; have := g1.size; omega)
    have hb := hb w1 T1 h1
    clear h1 g1 T1
    go_wp2_with fail
    refine hb.mono ?_
    rintro en w2 ⟨v2, u2, rfl, hl2, hf2, hfit, h2r, g2⟩
    obtain ⟨p3, c3, rfl, -⟩ := hl2.len
    obtain ⟨p4, c4, rfl, -⟩ := hf2.len
    have B2 := B1.same (g2.block _ B1.lt (fun e => by have e := Option.some.inj e; omega))
    have B3 := B2.same ((Below.refl w2.heap.size w2).alloc (Nat.le_refl _) (.cells #[.int .u8 r.1.1, .string r.1.2.1, .slice p3 r.1.2.2.1.len c3, .slice p4 r.1.2.2.2.len c4] 25) |>.block _ B2.lt)
    have V3 : Blk4 _ w2.heap.size 25 _ _ _ _ := heap_alloc_new w2 (.cells #[.int .u8 r.1.1, .string r.1.2.1, .slice p3 r.1.2.2.1.len c3, .slice p4 r.1.2.2.2.len c4] 25)
    have h3r := h2r.alloc (.cells #[.int .u8 r.1.1, .string r.1.2.1, .slice p3 r.1.2.2.1.len c3, .slice p4 r.1.2.2.2.len c4] 25)
    have l3 := (hl2.mono (A' := fun b => w.heap.size + 1 ≤ b) (fun b hb _ => Nat.le_trans S1.out hb)).alloc (.cells #[.int .u8 r.1.1, .string r.1.2.1, .slice p3 r.1.2.2.1.len c3, .slice p4 r.1.2.2.2.len c4] 25)
    have f3 := (hf2.mono (A' := fun b => w.heap.size + 1 ≤ b) (fun b hb _ => Nat.le_trans S1.out hb)).alloc (.cells #[.int .u8 r.1.1, .string r.1.2.1, .slice p3 r.1.2.2.1.len c3, .slice p4 r.1.2.2.2.len c4] 25)
    have G3 := Lib.hid ((grow_trans G1.out g2).trans (World.grownBy_alloc w2 (.cells #[.int .u8 r.1.1, .string r.1.2.1, .slice p3 r.1.2.2.1.len c3, .slice p4 r.1.2.2.2.len c4] 25) (some B)))
    have hlt2 : w.heap.size < w2.heap.size := B2.lt
    have hY := hY _ h3r
    have H3 := Lib.hid (And.intro B3 (And.intro V3 (And.intro l3 (And.intro f3 hfit))))
    clear hl2 hf2 h2r g2 hb B1 B2 B3 V3 h3r l3 f3 hfit
    go_wp2_with fail
    refine hY.mono ?_
    rintro en w4 ⟨rfl, h4, g4⟩
    have B4 := H3.out.1.same (g4.block _ H3.out.1.lt (fun e => by have e := Option.some.inj e; omega))
    have V4 := H3.out.2.1.same (g4.block _ H3.out.2.1.lt (fun e => by have e := Option.some.inj e; omega))
    have l4 := H3.out.2.2.1.grown g4 (fun b hb e => by have e := Option.some.inj e; have hb : w.heap.size + 1 ≤ b := hb; omega)
    have f4 := H3.out.2.2.2.1.grown g4 (fun b hb e => by have e := Option.some.inj e; have hb : w.heap.size + 1 ≤ b := hb; omega)
    have HF := Lib.hid (bare_fin (k := r.1.1) (x := r.1.2.1) (l := r.1.2.2.1) (f := r.1.2.2.2) hB B4 l4 f4 H3.out.2.2.2.2 h4 (grow_trans G3.out g4))
    obtain ⟨d0, d1, d2, d3⟩ := B4.box
    obtain ⟨v0, v1, v2, v3⟩ := V4.box
    have r0 := B4.free 0
    have r1 := B4.free 1
    have r2 := B4.free 2
    have r3 := B4.free 3
    clear B4 V4 l4 f4 h4 g4 hY
    go_wp2_with fail
    have HF := HF.out
    generalize (((w4.setCell ⟨w.heap.size, 0, none⟩ (.int .u8 r.1.1)).setCell ⟨w.heap.size, 1, none⟩ (.string r.1.2.1)).setCell ⟨w.heap.size, 2, none⟩ (.slice p3 r.1.2.2.1.len c3)).setCell ⟨w.heap.size, 3, none⟩ (.slice p4 r.1.2.2.2.len c4) = W' at *
    obtain ⟨x0, x1, x2, x3⟩ := HF.1.box
    refine bodyPost_ret (v := .agg #[.int .u8 r.1.1, .string r.1.2.1, .slice p3 r.1.2.2.1.len c3, .slice p4 r.1.2.2.2.len c4]) (by simp [results, Tryz.results192, go_sem, x0, x1, x2, x3]) rfl ?_
    exact HF.2
  · rw [show ar s r = r from if_neg he]
    unfold OutV at hb
    simp only [if_neg he] at hb
    go_enter Tryz.func192, Tryz.ntmps192
    go_wp2_with fail
    refine (hX W0 HR.out).mono ?_
    rintro en w1 ⟨rfl, h1, g1⟩
    have T1 := HT.out.grow g1
    have hb := hb w1 T1 h1
    go_wp2_with fail
    refine hb.mono ?_
    rintro en w2 ⟨rfl, h2, g2⟩
    exact ⟨rfl, outV_died he ⟨rfl, h2, grow_trans (grow_below HW.out _) (grow_trans g1 g2)⟩⟩

/-- a value is read as it should be, at any depth -/
theorem vc_any (s : ByteArray) (B : Nat) (hs : s.size ≤ 262144) : ∀ n, n ≤ 64 → VC s (vl s n) (64 - n) B := by
  intro n
  induction n with
  | zero =>
    intro _ q W hq hT hW
    rw [vl_is s 0 q (by omega)]
    exact value_step s (inn s 0) 64 B q W hs (by omega) (fun h => absurd h (by omega)) (inn_le s 0) hq hT hW
  | succ n ih =>
    intro hn q W hq hT hW
    rw [vl_is s (n + 1) q hn]
    refine value_step s (inn s (n + 1)) (64 - (n + 1)) B q W hs (by omega) (fun _ => ?_) (inn_le s (n + 1)) hq hT hW
    have := ih (by omega)
    rw [show 64 - (n + 1) + 1 = 64 - n by omega]
    exact this
end Go.Proofs.YtbkciiogkgndiaaGreatDoor

namespace Go.Proofs.YtbkciiogkgndiaaGreatDoor
open Go Go.RowKit Go.Lib

set_option maxRecDepth 100000 in
theorem catch_idle (b : Nat) (w : World) :
    CallsD Tryz.prog 191 #[.pointer (some ⟨b + 3, 0, none⟩), .pointer (some ⟨b, 0, none⟩), .pointer (some ⟨b + 1, 0, none⟩), .pointer (some ⟨b + 2, 0, none⟩)] .returning w fun e u' w' => e = .returned (.tuple #[]) ∧ u' = .returning ∧ w' = w := by
  refine callsD_of_wpS Tryz.func191 rfl fun c₀ cs hu => ?_
  apply wpS_seq
  apply wpS_region
  simp [wpOpsS, go_sem, recoverD, hu, Tryz.ntmps191, Exit.thenS]
  simp only [Array.replicate_succ, Array.replicate_zero, List.push_toArray, List.append_toArray, List.nil_append, List.cons_append, List.setIfInBounds_toArray, List.set_cons_zero, List.set_cons_succ]
  refine wpS_of_wp ?_
  go_wp2_with fail
  cases c₀
  simp_all [bodyPostS, results, Tryz.results191]

theorem below_set {b b' o : Nat} {w W : World} (h : Below b w W) (hb : b ≤ b') (y : Value) : Below b w (W.setCell ⟨b', o, none⟩ y) :=
  ⟨h.os, h.tape, h.output, by simpa using h.size, fun k hk => (Below.heap_setCell W ⟨b', o, none⟩ y k (show k ≠ b' by omega)).trans (h.block k hk)⟩
theorem cell_set1 {w : World} {b : Nat} {a y : Value} {t : TypeId} (h : w.heap[b]? = some (.cells #[a] t (0, 0))) : (w.setCell ⟨b, 0, none⟩ y).heap[b]? = some (.cells #[y] t (0, 0)) := by
  obtain ⟨hlt, hk⟩ := Array.getElem?_eq_some_iff.1 h
  show (w.heap.modify b _)[b]? = _
  rw [Array.getElem?_eq_getElem (by rw [Array.size_modify]; exact hlt), Array.getElem_modify_self, hk]
  rfl
theorem catch_world {b p : Nat} {e : Int} {t0 t1 t2 : TypeId} {k x v u a1 a2 : Value} {w : World} (hb : Blk4 w b t0 k x v u) (h1 : w.heap[b + 1]? = some (.cells #[a1] t1 (0, 0))) (h2 : w.heap[b + 2]? = some (.cells #[a2] t2 (0, 0))) (Z W' : World)
    (hZ : Z = ((((((w.setCell ⟨b, 0, none⟩ (.int .u8 0)).setCell ⟨b, 1, none⟩ (.string ⟨#[]⟩)).setCell ⟨b, 2, none⟩ (.slice none 0 0)).setCell ⟨b, 3, none⟩ (.slice none 0 0)).setCell ⟨b + 1, 0, none⟩ (.int .i64 p)).setCell ⟨b + 2, 0, none⟩ (.int .i64 e))) (hW : W' = Z ∨ W' = Z.drew) :
    Below b w W' ∧ W'.cell? ⟨b, 0, none⟩ = some (.int .u8 0) ∧ W'.cell? ⟨b, 1, none⟩ = some (.string ⟨#[]⟩) ∧ W'.cell? ⟨b, 2, none⟩ = some (.slice none 0 0) ∧ W'.cell? ⟨b, 3, none⟩ = some (.slice none 0 0) ∧
        W'.cell? ⟨b + 1, 0, none⟩ = some (.int .i64 p) ∧ W'.cell? ⟨b + 2, 0, none⟩ = some (.int .i64 e) := by
  have hm : ∀ W1 : World, W1.heap = Z.heap → W1.cell? ⟨b, 0, none⟩ = some (.int .u8 0) ∧ W1.cell? ⟨b, 1, none⟩ = some (.string ⟨#[]⟩) ∧ W1.cell? ⟨b, 2, none⟩ = some (.slice none 0 0) ∧ W1.cell? ⟨b, 3, none⟩ = some (.slice none 0 0) ∧
        W1.cell? ⟨b + 1, 0, none⟩ = some (.int .i64 p) ∧ W1.cell? ⟨b + 2, 0, none⟩ = some (.int .i64 e) := by
    intro W1 hh
    rw [hZ] at hh
    clear hZ hW
    obtain ⟨e1, _, _⟩ := hb.all (.int .u8 0) (.string ⟨#[]⟩) (.slice none 0 0) (.slice none 0 0)
    have e4 := set4_else w b (.int .u8 0) (.string ⟨#[]⟩) (.slice none 0 0) (.slice none 0 0)
    generalize (((w.setCell ⟨b, 0, none⟩ (.int .u8 0)).setCell ⟨b, 1, none⟩ (.string ⟨#[]⟩)).setCell ⟨b, 2, none⟩ (.slice none 0 0)).setCell ⟨b, 3, none⟩ (.slice none 0 0) = W2 at *
    have k1 := cell_set1 (y := .int .i64 p) ((e4 (b + 1) (by omega)).trans h1)
    have k2 := (Below.heap_setCell W2 ⟨b + 1, 0, none⟩ (.int .i64 p) (b + 2) (show b + 2 ≠ b + 1 by omega)).trans ((e4 (b + 2) (by omega)).trans h2)
    have k0 : Blk4 (W2.setCell ⟨b + 1, 0, none⟩ (.int .i64 p)) b _ _ _ _ _ := e1.else (by omega)
    generalize W2.setCell ⟨b + 1, 0, none⟩ (.int .i64 p) = W3 at *
    have j0 : Blk4 (W3.setCell ⟨b + 2, 0, none⟩ (.int .i64 e)) b _ _ _ _ _ := k0.else (by omega)
    have j1 := (Below.heap_setCell W3 ⟨b + 2, 0, none⟩ (.int .i64 e) (b + 1) (show b + 1 ≠ b + 2 by omega)).trans k1
    have j2 := cell_set1 (y := .int .i64 e) k2
    rw [← hh] at j1 j2
    have j0' : Blk4 W1 b _ _ _ _ _ := j0.same (by rw [hh])
    obtain ⟨x0, x1, x2, x3⟩ := j0'.box
    exact ⟨x0, x1, x2, x3, by simp [World.cell?, j1], by simp [World.cell?, j2]⟩
  have hB := below_set (o := 0) (below_set (o := 0) (below_set (o := 3) (below_set (o := 2) (below_set (o := 1) (below_set (o := 0) (Below.refl b w) (Nat.le_refl b) (.int .u8 0)) (Nat.le_refl b) (.string ⟨#[]⟩)) (Nat.le_refl b) (.slice none 0 0)) (Nat.le_refl b) (.slice none 0 0)) (show b ≤ b + 1 by omega) (.int .i64 p)) (show b ≤ b + 2 by omega) (.int .i64 e)
  rw [← hZ] at hB
  clear hZ
  rcases hW with rfl | rfl
  · exact ⟨hB, hm _ rfl⟩
  · exact ⟨hB.drew, hm _ rfl⟩

set_option maxRecDepth 100000 in
set_option maxHeartbeats 1000000 in
theorem catch_panicking (b p : Nat) (e : Int) (t0 t1 t2 : TypeId) (k x v u a1 a2 : Value) (w : World) (s : ByteArray) (d : Nat) (hb : Blk4 w b t0 k x v u) (h1 : w.heap[b + 1]? = some (.cells #[a1] t1 (0, 0))) (h2 : w.heap[b + 2]? = some (.cells #[a2] t2 (0, 0))) (h3 : Rd s p d (b + 3) w) :
    CallsD Tryz.prog 191 #[.pointer (some ⟨b + 3, 0, none⟩), .pointer (some ⟨b, 0, none⟩), .pointer (some ⟨b + 1, 0, none⟩), .pointer (some ⟨b + 2, 0, none⟩)] (.panicking [{ v := .iface 28 (.int .i64 e), recovered := false }]) w fun en u' w' =>
      en = .returned (.tuple #[]) ∧ u' = .panicking [{ v := .iface 28 (.int .i64 e), recovered := true }] ∧ Below b w w' ∧ w'.cell? ⟨b, 0, none⟩ = some (.int .u8 0) ∧ w'.cell? ⟨b, 1, none⟩ = some (.string ⟨#[]⟩) ∧ w'.cell? ⟨b, 2, none⟩ = some (.slice none 0 0) ∧ w'.cell? ⟨b, 3, none⟩ = some (.slice none 0 0) ∧
        w'.cell? ⟨b + 1, 0, none⟩ = some (.int .i64 p) ∧ w'.cell? ⟨b + 2, 0, none⟩ = some (.int .i64 e) := by
  have c1 := h3.c1
  obtain ⟨d0, d1, d2, d3⟩ := hb.box
  have f0 := hb.free 0
  have f1 := hb.free 1
  have f2 := hb.free 2
  have f3 := hb.free 3
  have e1 : w.cell? ⟨b + 1, 0, none⟩ = some a1 := by simp [World.cell?, h1]
  have e2 : w.cell? ⟨b + 2, 0, none⟩ = some a2 := by simp [World.cell?, h2]
  have g1 : w.frozen? ⟨b + 1, 0, none⟩ = false := by simp [World.frozen?, h1]
  have g2 : w.frozen? ⟨b + 2, 0, none⟩ = false := by simp [World.frozen?, h2]
  have hta : ∀ W, (Instr.typeAssert (.iface 28 (.int .i64 e)) 20 28 false).run Tryz.prog W = .ok (.int .i64 e) W := fun W => by kernel_rfl
  refine callsD_of_wpS Tryz.func191 rfl fun c₀ cs hu => ?_
  apply wpS_seq
  apply wpS_region
  simp [wpOpsS, go_sem, recoverD, hu, Tryz.ntmps191, Exit.thenS]
  simp only [Array.replicate_succ, Array.replicate_zero, List.push_toArray, List.append_toArray, List.nil_append, List.cons_append, List.setIfInBounds_toArray, List.set_cons_zero, List.set_cons_succ]
  refine wpS_of_wp ?_
  go_wp2_with fail
  go_region_law (fail)
  all_goals
    refine ⟨rfl, _, rfl, .tuple #[], by simp [results, Tryz.results191], rfl, rfl, ?_⟩
    exact catch_world hb h1 h2 _ _ rfl (by first | (left; with_reducible rfl) | (right; with_reducible rfl))
end Go.Proofs.YtbkciiogkgndiaaGreatDoor

namespace Go.Proofs.YtbkciiogkgndiaaGreatDoor
open Go Go.RowKit Go.Lib

/-- a whole text: the value, or the wrong byte and the error -/
def prs (s : ByteArray) : VR :=
  if (vl s 64 0).2.2 = 0 then (if (vl s 64 0).2.1 < s.size then ((0, ⟨#[]⟩, .nil, .nil), (vl s 64 0).2.1, 30) else ((vl s 64 0).1, 0, 0)) else ((0, ⟨#[]⟩, .nil, .nil), (vl s 64 0).2)
/-- what Parse hands back -/
def ParseIs (r : VR) (w : World) (en : Ending) (w' : World) : Prop :=
  ∃ v u, en = .returned (.tuple #[.agg #[.int .u8 r.1.1, .string r.1.2.1, v, u], .int .i64 r.2.1, .int .i64 r.2.2]) ∧ HS w' (fun b => w.heap.size ≤ b) 0 v r.1.2.2.1 ∧ HS w' (fun b => w.heap.size ≤ b) 1 u r.1.2.2.2 ∧ Fit ⟨#[]⟩ r.1.1 r.1.2.1 ∧ Below w.heap.size w w'

/-- the four boxes: the value's, the place's, the error's, the reader's -/
def Four (s : ByteArray) (w : World) (tb te : TypeId) : World := (((w.alloc (.cells #[.int .u8 0, .string ⟨#[]⟩, .slice none 0 0, .slice none 0 0] 25)).alloc (.cells #[.int .i64 0] tb)).alloc (.cells #[.int .i64 0] te)).alloc (.cells #[.string s, .int .i64 0, .int .i64 0] 230)
def Boxes (s : ByteArray) (n p : Nat) (tb te : TypeId) (W : World) : Prop := Blk4 W n 25 (.int .u8 0) (.string ⟨#[]⟩) (.slice none 0 0) (.slice none 0 0) ∧ W.heap[n + 1]? = some (.cells #[.int .i64 0] tb (0, 0)) ∧ W.heap[n + 2]? = some (.cells #[.int .i64 0] te (0, 0)) ∧ ∃ d, Rd s p d (n + 3) W
theorem four_is (s : ByteArray) (w : World) (tb te : TypeId) : Boxes s w.heap.size 0 tb te (Four s w tb te) ∧ Rd s 0 0 (w.heap.size + 3) (Four s w tb te) ∧ Below w.heap.size w (Four s w tb te) ∧ (Four s w tb te).heap.size = w.heap.size + 4 := by
  unfold Four
  have z1 := World.size_alloc w (.cells #[.int .u8 0, .string ⟨#[]⟩, .slice none 0 0, .slice none 0 0] 25)
  have n1 := heap_alloc_new w (.cells #[.int .u8 0, .string ⟨#[]⟩, .slice none 0 0, .slice none 0 0] 25)
  have b1 := (Below.refl w.heap.size w).alloc (Nat.le_refl _) (.cells #[.int .u8 0, .string ⟨#[]⟩, .slice none 0 0, .slice none 0 0] 25)
  generalize w.alloc (.cells #[.int .u8 0, .string ⟨#[]⟩, .slice none 0 0, .slice none 0 0] 25) = W1 at *
  have z2 := World.size_alloc W1 (.cells #[.int .i64 0] tb)
  have n2 := heap_alloc_new W1 (.cells #[.int .i64 0] tb)
  have m1 := (Below.heap_alloc W1 (.cells #[.int .i64 0] tb) w.heap.size (by omega)).trans n1
  have b2 := b1.alloc b1.size (.cells #[.int .i64 0] tb)
  generalize W1.alloc (.cells #[.int .i64 0] tb) = W2 at *
  have z3 := World.size_alloc W2 (.cells #[.int .i64 0] te)
  have n3 := heap_alloc_new W2 (.cells #[.int .i64 0] te)
  have l1 := (Below.heap_alloc W2 (.cells #[.int .i64 0] te) w.heap.size (by omega)).trans m1
  rw [z1] at n2
  have l2 := (Below.heap_alloc W2 (.cells #[.int .i64 0] te) (w.heap.size + 1) (by omega)).trans n2
  have b3 := b2.alloc b2.size (.cells #[.int .i64 0] te)
  rw [z2, z1] at n3
  generalize W2.alloc (.cells #[.int .i64 0] te) = W3 at *
  have z4 := World.size_alloc W3 (.cells #[.string s, .int .i64 0, .int .i64 0] 230)
  have n4 := heap_alloc_new W3 (.cells #[.string s, .int .i64 0, .int .i64 0] 230)
  rw [z3, z2, z1] at n4
  have hr : Rd s 0 0 (w.heap.size + 3) (W3.alloc (.cells #[.string s, .int .i64 0, .int .i64 0] 230)) := n4
  exact ⟨⟨(Below.heap_alloc W3 _ _ (by omega)).trans l1, (Below.heap_alloc W3 _ _ (by omega)).trans l2, (Below.heap_alloc W3 _ _ (by omega)).trans n3, _, hr⟩, hr, b3.alloc b3.size _, by omega⟩
theorem Boxes.keep {s : ByteArray} {n p q : Nat} {tb te : TypeId} {W W' : World} (h : Boxes s n p tb te W) (g : W.grownBy W' (some (n + 3))) (hr : ∃ d, Rd s q d (n + 3) W') : Boxes s n q tb te W' := by
  obtain ⟨h0, h1, h2, h3⟩ := h
  have lt : ∀ {b : Nat} {o : Obj}, W.heap[b]? = some o → b < W.heap.size := fun h => (Array.getElem?_eq_some_iff.1 h).1
  exact ⟨h0.same (g.block _ h0.lt (fun e => by have e := Option.some.inj e; omega)), (g.block _ (lt h1) (fun e => by have e := Option.some.inj e; omega)).trans h1, (g.block _ (lt h2) (fun e => by have e := Option.some.inj e; omega)).trans h2, hr⟩
theorem died_is {s : ByteArray} {w W w' : World} {p e : Nat} (hB : Below w.heap.size w W) (hC : Below w.heap.size W w') : ParseIs ((0, ⟨#[]⟩, .nil, .nil), p, e) w (.returned (.tuple #[.agg #[.int .u8 0, .string ⟨#[]⟩, .slice none 0 0, .slice none 0 0], .int .i64 p, .int .i64 e])) w' :=
  ⟨_, _, rfl, hs_nil _ _ _, hs_nil _ _ _, ⟨(by decide : 0 < 256), (by decide : (⟨#[]⟩ : ByteArray).size ≤ 140737488355328), by decide⟩, hB.trans hC⟩

theorem ok_world {b : Nat} {p e : Int} {K X V U : Value} {t0 t1 t2 : TypeId} {k x v u a1 a2 : Value} {w : World} (hb : Blk4 w b t0 k x v u) (h1 : w.heap[b + 1]? = some (.cells #[a1] t1 (0, 0))) (h2 : w.heap[b + 2]? = some (.cells #[a2] t2 (0, 0))) (Z W' : World)
    (hZ : Z = ((((((w.setCell ⟨b, 0, none⟩ K).setCell ⟨b, 1, none⟩ X).setCell ⟨b, 2, none⟩ V).setCell ⟨b, 3, none⟩ U).setCell ⟨b + 1, 0, none⟩ (.int .i64 p)).setCell ⟨b + 2, 0, none⟩ (.int .i64 e))) (hW : W' = Z ∨ W' = Z.drew) :
    Below b w W' ∧ W'.cell? ⟨b, 0, none⟩ = some K ∧ W'.cell? ⟨b, 1, none⟩ = some X ∧ W'.cell? ⟨b, 2, none⟩ = some V ∧ W'.cell? ⟨b, 3, none⟩ = some U ∧
        W'.cell? ⟨b + 1, 0, none⟩ = some (.int .i64 p) ∧ W'.cell? ⟨b + 2, 0, none⟩ = some (.int .i64 e) := by
  have hm : ∀ W1 : World, W1.heap = Z.heap → W1.cell? ⟨b, 0, none⟩ = some K ∧ W1.cell? ⟨b, 1, none⟩ = some X ∧ W1.cell? ⟨b, 2, none⟩ = some V ∧ W1.cell? ⟨b, 3, none⟩ = some U ∧
        W1.cell? ⟨b + 1, 0, none⟩ = some (.int .i64 p) ∧ W1.cell? ⟨b + 2, 0, none⟩ = some (.int .i64 e) := by
    intro W1 hh
    rw [hZ] at hh
    clear hZ hW
    obtain ⟨e1, _, _⟩ := hb.all K X V U
    have e4 := set4_else w b K X V U
    generalize (((w.setCell ⟨b, 0, none⟩ K).setCell ⟨b, 1, none⟩ X).setCell ⟨b, 2, none⟩ V).setCell ⟨b, 3, none⟩ U = W2 at *
    have k1 := cell_set1 (y := .int .i64 p) ((e4 (b + 1) (by omega)).trans h1)
    have k2 := (Below.heap_setCell W2 ⟨b + 1, 0, none⟩ (.int .i64 p) (b + 2) (show b + 2 ≠ b + 1 by omega)).trans ((e4 (b + 2) (by omega)).trans h2)
    have k0 : Blk4 (W2.setCell ⟨b + 1, 0, none⟩ (.int .i64 p)) b _ _ _ _ _ := e1.else (by omega)
    generalize W2.setCell ⟨b + 1, 0, none⟩ (.int .i64 p) = W3 at *
    have j0 : Blk4 (W3.setCell ⟨b + 2, 0, none⟩ (.int .i64 e)) b _ _ _ _ _ := k0.else (by omega)
    have j1 := (Below.heap_setCell W3 ⟨b + 2, 0, none⟩ (.int .i64 e) (b + 1) (show b + 1 ≠ b + 2 by omega)).trans k1
    have j2 := cell_set1 (y := .int .i64 e) k2
    rw [← hh] at j1 j2
    have j0' : Blk4 W1 b _ _ _ _ _ := j0.same (by rw [hh])
    obtain ⟨x0, x1, x2, x3⟩ := j0'.box
    exact ⟨x0, x1, x2, x3, by simp [World.cell?, j1], by simp [World.cell?, j2]⟩
  have hB := below_set (o := 0) (below_set (o := 0) (below_set (o := 3) (below_set (o := 2) (below_set (o := 1) (below_set (o := 0) (Below.refl b w) (Nat.le_refl b) K) (Nat.le_refl b) X) (Nat.le_refl b) V) (Nat.le_refl b) U) (show b ≤ b + 1 by omega) (.int .i64 p)) (show b ≤ b + 2 by omega) (.int .i64 e)
  rw [← hZ] at hB
  clear hZ
  rcases hW with rfl | rfl
  · exact ⟨hB, hm _ rfl⟩
  · exact ⟨hB.drew, hm _ rfl⟩

set_option maxRecDepth 100000 in
set_option maxHeartbeats 1000000 in
theorem parse_any (s : ByteArray) (w : World) (hs : s.size ≤ 262144) (hT : Tabs w) : Calls Tryz.prog 148 #[.string s] w (ParseIs (prs s) w) := by
  have hmf : ∀ (fn : Fn) (first cap : Array Value) (w : World), (Instr.makeFunc fn first cap).run Tryz.prog w = .ok (.func fn first cap) w := fun _ _ _ _ => rfl
  have H4 := Lib.hid (four_is s w 3 28)
  have hv := vc_any s (w.heap.size + 3) hs 64 (Nat.le_refl _) 0 (Four s w 3 28) (Nat.zero_le _) ⟨w, hT, H4.out.2.2.1, by omega⟩ H4.out.2.1
  have hle := vl_le s 64 0 (Nat.zero_le _)
  have HP := Lib.hid (show prs s = if (vl s 64 0).2.2 = 0 then (if (vl s 64 0).2.1 < s.size then ((0, ⟨#[]⟩, .nil, .nil), (vl s 64 0).2.1, 30) else ((vl s 64 0).1, 0, 0)) else ((0, ⟨#[]⟩, .nil, .nil), (vl s 64 0).2) from rfl)
  generalize prs s = fin at *
  generalize vl s 64 0 = r at *
  unfold Four at hv H4
  by_cases he : r.2.2 = 0
  · unfold OutV at hv
    simp only [if_pos he] at hv
    have HE := Lib.hid (HP.out.trans (if_pos he))
    go_enter_defers Tryz.func148, Tryz.ntmps148
    go_wp2_with fail
    refine hv.mono ?_
    rintro en w1 ⟨v2, u2, rfl, hl, hf, hfit, h1, g1⟩
    obtain ⟨p3, c3, rfl, -⟩ := hl.len
    obtain ⟨p4, c4, rfl, -⟩ := hf.len
    obtain ⟨k0, k1, k2, -⟩ := H4.out.1.keep (q := r.2.1) g1 ⟨_, h1⟩
    obtain ⟨d0, d1, d2, d3⟩ := k0.box
    have f0 := k0.free 0
    have f1 := k0.free 1
    have f2 := k0.free 2
    have f3 := k0.free 3
    obtain ⟨e1, e2, e3⟩ := k0.all (.int .u8 r.1.1) (.string r.1.2.1) (.slice p3 r.1.2.2.1.len c3) (.slice p4 r.1.2.2.2.len c4)
    have e4 := set4_else w1 w.heap.size (.int .u8 r.1.1) (.string r.1.2.1) (.slice p3 r.1.2.2.1.len c3) (.slice p4 r.1.2.2.2.len c4)
    have gg := (((grow_set w1 w.heap.size 0 (.int .u8 r.1.1)).trans (grow_set _ w.heap.size 1 (.string r.1.2.1))).trans (grow_set _ w.heap.size 2 (.slice p3 r.1.2.2.1.len c3))).trans (grow_set _ w.heap.size 3 (.slice p4 r.1.2.2.2.len c4))
    have hend := end_any s r.2.1 0 (w.heap.size + 3) ((((w1.setCell ⟨w.heap.size, 0, none⟩ (.int .u8 r.1.1)).setCell ⟨w.heap.size, 1, none⟩ (.string r.1.2.1)).setCell ⟨w.heap.size, 2, none⟩ (.slice p3 r.1.2.2.1.len c3)).setCell ⟨w.heap.size, 3, none⟩ (.slice p4 r.1.2.2.2.len c4)) (by omega) hle.2 (h1.same (e4 _ (by omega)))
    have H5 := Lib.hid (show Blk4 ((((w1.setCell ⟨w.heap.size, 0, none⟩ (.int .u8 r.1.1)).setCell ⟨w.heap.size, 1, none⟩ (.string r.1.2.1)).setCell ⟨w.heap.size, 2, none⟩ (.slice p3 r.1.2.2.1.len c3)).setCell ⟨w.heap.size, 3, none⟩ (.slice p4 r.1.2.2.2.len c4)) w.heap.size 25 _ _ _ _ ∧ ((((w1.setCell ⟨w.heap.size, 0, none⟩ (.int .u8 r.1.1)).setCell ⟨w.heap.size, 1, none⟩ (.string r.1.2.1)).setCell ⟨w.heap.size, 2, none⟩ (.slice p3 r.1.2.2.1.len c3)).setCell ⟨w.heap.size, 3, none⟩ (.slice p4 r.1.2.2.2.len c4)).heap[w.heap.size + 1]? = some (.cells #[.int .i64 0] 3 (0, 0)) ∧ ((((w1.setCell ⟨w.heap.size, 0, none⟩ (.int .u8 r.1.1)).setCell ⟨w.heap.size, 1, none⟩ (.string r.1.2.1)).setCell ⟨w.heap.size, 2, none⟩ (.slice p3 r.1.2.2.1.len c3)).setCell ⟨w.heap.size, 3, none⟩ (.slice p4 r.1.2.2.2.len c4)).heap[w.heap.size + 2]? = some (.cells #[.int .i64 0] 28 (0, 0)) ∧ Below w.heap.size w ((((w1.setCell ⟨w.heap.size, 0, none⟩ (.int .u8 r.1.1)).setCell ⟨w.heap.size, 1, none⟩ (.string r.1.2.1)).setCell ⟨w.heap.size, 2, none⟩ (.slice p3 r.1.2.2.1.len c3)).setCell ⟨w.heap.size, 3, none⟩ (.slice p4 r.1.2.2.2.len c4)) from
      ⟨e1, (e4 _ (by omega)).trans k1, (e4 _ (by omega)).trans k2, H4.out.2.2.1.trans ((below_grow g1 (by omega) (by have := H4.out.2.2.2; omega)).trans (below_grow gg (Nat.le_refl _) (by have := g1.size; have := H4.out.2.2.2; omega)))⟩)
    have L5 := Lib.hid (show HS ((((w1.setCell ⟨w.heap.size, 0, none⟩ (.int .u8 r.1.1)).setCell ⟨w.heap.size, 1, none⟩ (.string r.1.2.1)).setCell ⟨w.heap.size, 2, none⟩ (.slice p3 r.1.2.2.1.len c3)).setCell ⟨w.heap.size, 3, none⟩ (.slice p4 r.1.2.2.2.len c4)) (fun b => w.heap.size + 4 ≤ b) 0 (.slice p3 r.1.2.2.1.len c3) r.1.2.2.1 ∧ HS ((((w1.setCell ⟨w.heap.size, 0, none⟩ (.int .u8 r.1.1)).setCell ⟨w.heap.size, 1, none⟩ (.string r.1.2.1)).setCell ⟨w.heap.size, 2, none⟩ (.slice p3 r.1.2.2.1.len c3)).setCell ⟨w.heap.size, 3, none⟩ (.slice p4 r.1.2.2.2.len c4)) (fun b => w.heap.size + 4 ≤ b) 1 (.slice p4 r.1.2.2.2.len c4) r.1.2.2.2 from
      ⟨hl.imp (fun b a _ => by rw [← H4.out.2.2.2]; exact a) (fun b a _ => e4 b (by have := H4.out.2.2.2; have a : _ ≤ b := a; omega)), hf.imp (fun b a _ => by rw [← H4.out.2.2.2]; exact a) (fun b a _ => e4 b (by have := H4.out.2.2.2; have a : _ ≤ b := a; omega))⟩)
    have g1s := g1.size
    clear e1 e2 e3 e4 gg k0 k1 k2 hl hf h1 g1
    have HS := Lib.hid (show w.heap.size + 4 ≤ ((((w1.setCell ⟨w.heap.size, 0, none⟩ (.int .u8 r.1.1)).setCell ⟨w.heap.size, 1, none⟩ (.string r.1.2.1)).setCell ⟨w.heap.size, 2, none⟩ (.slice p3 r.1.2.2.1.len c3)).setCell ⟨w.heap.size, 3, none⟩ (.slice p4 r.1.2.2.2.len c4)).heap.size by have := g1s; have := H4.out.2.2.2; simp; omega)
    by_cases hlt : r.2.1 < s.size
    · rw [if_pos hlt] at hend
      have HE := Lib.hid (HE.out.trans (if_pos hlt))
      go_wp2_with fail
      refine hend.mono ?_
      rintro en w6 ho
      unfold Out at ho
      rw [if_neg (show ¬ (r.2.1, 30).2 = 0 from (by decide : ¬ 30 = 0))] at ho
      obtain ⟨rfl, ⟨d, h6⟩, g6⟩ := ho
      have b0 := H5.out.1.same (g6.block _ H5.out.1.lt (fun e => by have e := Option.some.inj e; omega))
      have b1 := (g6.block _ (by have := HS.out; omega) (fun e => by have e := Option.some.inj e; omega)).trans H5.out.2.1
      have b2 := (g6.block _ (by have := HS.out; omega) (fun e => by have e := Option.some.inj e; omega)).trans H5.out.2.2.1
      refine leaves_cons (f := 191) (args := #[.pointer (some ⟨w.heap.size + 3, 0, none⟩), .pointer (some ⟨w.heap.size, 0, none⟩), .pointer (some ⟨w.heap.size + 1, 0, none⟩), .pointer (some ⟨w.heap.size + 2, 0, none⟩)]) (by simp) (by simp [go_sem]) ?_
      refine (catch_panicking w.heap.size r.2.1 30 _ _ _ _ _ _ _ _ _ w6 s d b0 b1 b2 h6).mono ?_
      rintro en u' w2 ⟨rfl, rfl, hB, c0, c1, c2, c3, c4, c5⟩
      have hd := died_is (s := s) (p := r.2.1) (e := 30) H5.out.2.2.2 ((below_grow g6 (by omega) (by have := HS.out; omega)).trans hB)
      rw [HE.out]
      simp [Leaves, settle, results, Tryz.results148, go_sem, c0, c1, c2, c3, c4, c5]
      exact hd
    · rw [if_neg hlt] at hend
      have HE := Lib.hid (HE.out.trans (if_neg hlt))
      go_wp2_with fail
      refine hend.mono ?_
      rintro en w6 ⟨rfl, h6, g6⟩
      have b0 := H5.out.1.same (g6.block _ H5.out.1.lt (fun e => by have e := Option.some.inj e; omega))
      have b1 := (g6.block _ (by have := HS.out; omega) (fun e => by have e := Option.some.inj e; omega)).trans H5.out.2.1
      have b2 := (g6.block _ (by have := HS.out; omega) (fun e => by have e := Option.some.inj e; omega)).trans H5.out.2.2.1
      have B6 := Lib.hid (H5.out.2.2.2.trans (below_grow g6 (by omega) (by have := HS.out; omega)))
      have l6 := L5.out.1.grown g6 (fun b hb e => by have e := Option.some.inj e; have hb : w.heap.size + 4 ≤ b := hb; omega)
      have m6 := L5.out.2.grown g6 (fun b hb e => by have e := Option.some.inj e; have hb : w.heap.size + 4 ≤ b := hb; omega)
      have OW := Lib.hid (fun W' => ok_world (p := 0) (e := 0) (K := .int .u8 r.1.1) (X := .string r.1.2.1) (V := .slice p3 r.1.2.2.1.len c3) (U := .slice p4 r.1.2.2.2.len c4) b0 b1 b2 _ W' rfl)
      have LM := Lib.hid (And.intro l6 m6)
      obtain ⟨i0, i1, i2, i3⟩ := b0.box
      have j0 := b0.free 0
      have j1 := b0.free 1
      have j2 := b0.free 2
      have j3 := b0.free 3
      have i4 : w6.cell? ⟨w.heap.size + 1, 0, none⟩ = some (.int .i64 0) := by simp [World.cell?, b1]
      have i5 : w6.cell? ⟨w.heap.size + 2, 0, none⟩ = some (.int .i64 0) := by simp [World.cell?, b2]
      have j4 : w6.frozen? ⟨w.heap.size + 1, 0, none⟩ = false := by simp [World.frozen?, b1]
      have j5 : w6.frozen? ⟨w.heap.size + 2, 0, none⟩ = false := by simp [World.frozen?, b2]
      clear b0 b1 b2 l6 m6 h6 g6 d0 d1 d2 d3 f0 f1 f2 f3
      have KZ := Lib.hid (show ∀ k, w.heap.size + 4 ≤ k → ((((((w6.setCell ⟨w.heap.size, 0, none⟩ (.int .u8 r.1.1)).setCell ⟨w.heap.size, 1, none⟩ (.string r.1.2.1)).setCell ⟨w.heap.size, 2, none⟩ (.slice p3 r.1.2.2.1.len c3)).setCell ⟨w.heap.size, 3, none⟩ (.slice p4 r.1.2.2.2.len c4)).setCell ⟨w.heap.size + 1, 0, none⟩ (.int .i64 0)).setCell ⟨w.heap.size + 2, 0, none⟩ (.int .i64 0)).heap[k]? = w6.heap[k]? from fun k hk => (Below.heap_setCell _ _ _ k (show k ≠ w.heap.size + 2 by omega)).trans ((Below.heap_setCell _ _ _ k (show k ≠ w.heap.size + 1 by omega)).trans (set4_else w6 w.heap.size _ _ _ _ k (by omega))))
      have OZ := Lib.hid (OW.out ((((((w6.setCell ⟨w.heap.size, 0, none⟩ (.int .u8 r.1.1)).setCell ⟨w.heap.size, 1, none⟩ (.string r.1.2.1)).setCell ⟨w.heap.size, 2, none⟩ (.slice p3 r.1.2.2.1.len c3)).setCell ⟨w.heap.size, 3, none⟩ (.slice p4 r.1.2.2.2.len c4)).setCell ⟨w.heap.size + 1, 0, none⟩ (.int .i64 0)).setCell ⟨w.heap.size + 2, 0, none⟩ (.int .i64 0)) (.inl rfl))
      go_wp2_with fail
      refine leaves_cons (f := 191) (args := #[.pointer (some ⟨w.heap.size + 3, 0, none⟩), .pointer (some ⟨w.heap.size, 0, none⟩), .pointer (some ⟨w.heap.size + 1, 0, none⟩), .pointer (some ⟨w.heap.size + 2, 0, none⟩)]) (by simp) (by simp [go_sem]) ?_
      refine (catch_idle w.heap.size _).mono ?_
      rintro en u' w2 ⟨rfl, rfl, rfl⟩
      obtain ⟨hB, x0, x1, x2, x3, x4, x5⟩ := OZ.out
      have hd : ParseIs (r.1, 0, 0) w (.returned (.tuple #[.agg #[.int .u8 r.1.1, .string r.1.2.1, .slice p3 r.1.2.2.1.len c3, .slice p4 r.1.2.2.2.len c4], .int .i64 0, .int .i64 0])) ((((((w6.setCell ⟨w.heap.size, 0, none⟩ (.int .u8 r.1.1)).setCell ⟨w.heap.size, 1, none⟩ (.string r.1.2.1)).setCell ⟨w.heap.size, 2, none⟩ (.slice p3 r.1.2.2.1.len c3)).setCell ⟨w.heap.size, 3, none⟩ (.slice p4 r.1.2.2.2.len c4)).setCell ⟨w.heap.size + 1, 0, none⟩ (.int .i64 0)).setCell ⟨w.heap.size + 2, 0, none⟩ (.int .i64 0)) :=
        ⟨_, _, rfl, LM.out.1.imp (fun b a _ => by show w.heap.size ≤ b; have a : w.heap.size + 4 ≤ b := a; omega) (fun b a _ => KZ.out b a), LM.out.2.imp (fun b a _ => by show w.heap.size ≤ b; have a : w.heap.size + 4 ≤ b := a; omega) (fun b a _ => KZ.out b a), hfit, B6.out.trans hB⟩
      rw [HE.out]
      clear KZ OZ OW
      generalize ((((((w6.setCell ⟨w.heap.size, 0, none⟩ (.int .u8 r.1.1)).setCell ⟨w.heap.size, 1, none⟩ (.string r.1.2.1)).setCell ⟨w.heap.size, 2, none⟩ (.slice p3 r.1.2.2.1.len c3)).setCell ⟨w.heap.size, 3, none⟩ (.slice p4 r.1.2.2.2.len c4)).setCell ⟨w.heap.size + 1, 0, none⟩ (.int .i64 0)).setCell ⟨w.heap.size + 2, 0, none⟩ (.int .i64 0)) = w7 at *
      simp [Leaves, settle, results, Tryz.results148, go_sem, x0, x1, x2, x3, x4, x5]
      exact hd
  · unfold OutV at hv
    simp only [if_neg he] at hv
    have HE := Lib.hid (HP.out.trans (if_neg he))
    go_enter_defers Tryz.func148, Tryz.ntmps148
    go_wp2_with fail
    refine hv.mono ?_
    rintro en w1 ⟨rfl, h1, g1⟩
    obtain ⟨k0, k1, k2, d, k3⟩ := H4.out.1.keep g1 h1
    refine leaves_cons (f := 191) (args := #[.pointer (some ⟨w.heap.size + 3, 0, none⟩), .pointer (some ⟨w.heap.size, 0, none⟩), .pointer (some ⟨w.heap.size + 1, 0, none⟩), .pointer (some ⟨w.heap.size + 2, 0, none⟩)]) (by simp) (by simp [go_sem]) ?_
    refine (catch_panicking w.heap.size r.2.1 r.2.2 _ _ _ _ _ _ _ _ _ w1 s d k0 k1 k2 k3).mono ?_
    rintro en u' w2 ⟨rfl, rfl, hB, c0, c1, c2, c3, c4, c5⟩
    have hd := died_is (s := s) (p := r.2.1) (e := r.2.2) H4.out.2.2.1 ((below_grow g1 (by omega) (by have := H4.out.2.2.2; omega)).trans hB)
    rw [HE.out]
    simp [Leaves, settle, results, Tryz.results148, go_sem, c0, c1, c2, c3, c4, c5]
    exact hd
end Go.Proofs.YtbkciiogkgndiaaGreatDoor
