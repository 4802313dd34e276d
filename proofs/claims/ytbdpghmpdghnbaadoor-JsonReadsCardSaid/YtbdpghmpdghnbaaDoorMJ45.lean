/- The program's reader of JSON: a value, at any depth. Conditions: a string of at most 2^18 bytes. -/
import Derived.Test.YtbdpghmpdghnbaaDoorMJ44
import Derived.Recover
namespace Go.Proofs.YtbdpghmpdghnbaaDoor
open Go Go.RowKit Go.Lib

set_option maxRecDepth 100000 in
set_option maxHeartbeats 1000000 in
theorem value_step (s : ByteArray) (v : Nat → VR) (d B q : Nat) (w : World) (hs : s.size ≤ 262144) (hd : d ≤ 64) (hv : d < 64 → VC s v (d + 1) B) (hvl : ∀ q, q ≤ s.size → Le s q (v q).2.1) (hq : q ≤ s.size) (hT : TB B w) (h : Rd s q d B w) :
    Calls Tryd.prog 11 #[.pointer (some ⟨B, 0, none⟩)] w (OutV (ar s (br s d v (J.bl s q 0))) s d B w) := by
  have hs1 : s.size ≤ 1000000000000 := by omega
  have hB := h.lt
  have hq1 := (J.bl_le 0 hq).2
  have hb := fun W hT hW => bare_any s v d B (J.bl s q 0) W hs hd hv hvl hq1 hT hW
  have hle := br_le hvl d (J.bl s q 0) hq1
  generalize hr : br s d v (J.bl s q 0) = r at *
  have hX := fun W => skipAll_any s J.blk q d B W hs1 hq blanks0
  simp only [J.sa_bl] at hX
  clear hr
  generalize J.bl s q 0 = q1 at *
  have hY := fun W => skipAll_any s J.blk r.2.1 d B W hs1 hle.2 blanks0
  simp only [J.sa_bl] at hY
  have HT := Lib.hid (hT.below (bx_below w))
  have HB := Lib.hid (bx_box w)
  have HW := Lib.hid (bx_below w)
  have HZ := Lib.hid (bx_size w)
  have HR := Lib.hid (h.below (bx_below w))
  unfold Bx at HT HB HW HZ HR
  generalize hW0 : w.alloc (.cells #[.int .u8 0, .string ⟨#[]⟩, .slice none 0 0, .slice none 0 0] 25) = W0 at *
  by_cases he : r.2.2 = 0
  · rw [show ar s r = (r.1, J.bl s r.2.1 0, 0) from if_pos he]
    unfold OutV at hb
    simp only [if_pos he] at hb
    go_enter Tryd.func11, Tryd.ntmps11
    go_wp2_with fail
    refine (hX W0 HR.out).mono ?_
    rintro en w1 ⟨rfl, h1, g1⟩
    have T1 := HT.out.grow g1
    have B1 := HB.out.same (g1.block _ (by have := HZ.out; omega) (fun e => by have e := Option.some.inj e; omega))
    have G1 := Lib.hid (grow_trans (grow_below HW.out (some B)) g1)
    have S1 := Lib.hid (show w.heap.size + 1 ≤ w1.heap.size by have := HZ.out; have := g1.size; omega)
    have hb := hb w1 T1 h1
    clear h1 g1 T1
    go_wp2_with fail
    refine hb.mono ?_
    rintro en w2 ⟨v2, u2, rfl, hl2, hf2, hfit, h2r, g2⟩
    obtain ⟨p3, c3, rfl, -⟩ := hl2.len
    obtain ⟨p4, c4, rfl, -⟩ := hf2.len
    have B2 := B1.same (g2.block _ B1.lt (fun e => by have e := Option.some.inj e; omega))
    have B3 := B2.same ((Below.refl w2.heap.size w2).alloc (Nat.le_refl _) (.cells #[.int .u8 r.1.1, .string r.1.2.1, .slice p3 r.1.2.2.1.len c3, .slice p4 r.1.2.2.2.len c4] 25) |>.block _ B2.lt)
    have V3 : Blk4 _ w2.heap.size 25 _ _ _ _ := heap_alloc_new w2 (.cells #[.int .u8 r.1.1, .string r.1.2.1, .slice p3 r.1.2.2.1.len c3, .slice p4 r.1.2.2.2.len c4] 25)
    have h3r := h2r.alloc (.cells #[.int .u8 r.1.1, .string r.1.2.1, .slice p3 r.1.2.2.1.len c3, .slice p4 r.1.2.2.2.len c4] 25)
    have l3 := (hl2.mono (A' := fun b => w.heap.size + 1 ≤ b) (fun b hb _ => Nat.le_trans S1.out hb)).alloc (.cells #[.int .u8 r.1.1, .string r.1.2.1, .slice p3 r.1.2.2.1.len c3, .slice p4 r.1.2.2.2.len c4] 25)
    have f3 := (hf2.mono (A' := fun b => w.heap.size + 1 ≤ b) (fun b hb _ => Nat.le_trans S1.out hb)).alloc (.cells #[.int .u8 r.1.1, .string r.1.2.1, .slice p3 r.1.2.2.1.len c3, .slice p4 r.1.2.2.2.len c4] 25)
    have G3 := Lib.hid ((grow_trans G1.out g2).trans (World.grownBy_alloc w2 (.cells #[.int .u8 r.1.1, .string r.1.2.1, .slice p3 r.1.2.2.1.len c3, .slice p4 r.1.2.2.2.len c4] 25) (some B)))
    have hlt2 : w.heap.size < w2.heap.size := B2.lt
    have hY := hY _ h3r
    have H3 := Lib.hid (And.intro B3 (And.intro V3 (And.intro l3 (And.intro f3 hfit))))
    clear hl2 hf2 h2r g2 hb B1 B2 B3 V3 h3r l3 f3 hfit
    go_wp2_with fail
    refine hY.mono ?_
    rintro en w4 ⟨rfl, h4, g4⟩
    have B4 := H3.out.1.same (g4.block _ H3.out.1.lt (fun e => by have e := Option.some.inj e; omega))
    have V4 := H3.out.2.1.same (g4.block _ H3.out.2.1.lt (fun e => by have e := Option.some.inj e; omega))
    have l4 := H3.out.2.2.1.grown g4 (fun b hb e => by have e := Option.some.inj e; have hb : w.heap.size + 1 ≤ b := hb; omega)
    have f4 := H3.out.2.2.2.1.grown g4 (fun b hb e => by have e := Option.some.inj e; have hb : w.heap.size + 1 ≤ b := hb; omega)
    have HF := Lib.hid (bare_fin (k := r.1.1) (x := r.1.2.1) (l := r.1.2.2.1) (f := r.1.2.2.2) hB B4 l4 f4 H3.out.2.2.2.2 h4 (grow_trans G3.out g4))
    obtain ⟨d0, d1, d2, d3⟩ := B4.box
    obtain ⟨v0, v1, v2, v3⟩ := V4.box
    have r0 := B4.free 0
    have r1 := B4.free 1
    have r2 := B4.free 2
    have r3 := B4.free 3
    clear B4 V4 l4 f4 h4 g4 hY
    go_wp2_with fail
    have HF := HF.out
    generalize (((w4.setCell ⟨w.heap.size, 0, none⟩ (.int .u8 r.1.1)).setCell ⟨w.heap.size, 1, none⟩ (.string r.1.2.1)).setCell ⟨w.heap.size, 2, none⟩ (.slice p3 r.1.2.2.1.len c3)).setCell ⟨w.heap.size, 3, none⟩ (.slice p4 r.1.2.2.2.len c4) = W' at *
    obtain ⟨x0, x1, x2, x3⟩ := HF.1.box
    refine bodyPost_ret (v := .agg #[.int .u8 r.1.1, .string r.1.2.1, .slice p3 r.1.2.2.1.len c3, .slice p4 r.1.2.2.2.len c4]) (by simp [results, Tryd.results11, go_sem, x0, x1, x2, x3]) rfl ?_
    exact HF.2
  · rw [show ar s r = r from if_neg he]
    unfold OutV at hb
    simp only [if_neg he] at hb
    go_enter Tryd.func11, Tryd.ntmps11
    go_wp2_with fail
    refine (hX W0 HR.out).mono ?_
    rintro en w1 ⟨rfl, h1, g1⟩
    have T1 := HT.out.grow g1
    have hb := hb w1 T1 h1
    go_wp2_with fail
    refine hb.mono ?_
    rintro en w2 ⟨rfl, h2, g2⟩
    exact ⟨rfl, outV_died he ⟨rfl, h2, grow_trans (grow_below HW.out _) (grow_trans g1 g2)⟩⟩

/-- a value is read as it should be, at any depth -/
theorem vc_any (s : ByteArray) (B : Nat) (hs : s.size ≤ 262144) : ∀ n, n ≤ 64 → VC s (vl s n) (64 - n) B := by
  intro n
  induction n with
  | zero =>
    intro _ q W hq hT hW
    rw [vl_is s 0 q (by omega)]
    exact value_step s (inn s 0) 64 B q W hs (by omega) (fun h => absurd h (by omega)) (inn_le s 0) hq hT hW
  | succ n ih =>
    intro hn q W hq hT hW
    rw [vl_is s (n + 1) q hn]
    refine value_step s (inn s (n + 1)) (64 - (n + 1)) B q W hs (by omega) (fun _ => ?_) (inn_le s (n + 1)) hq hT hW
    have := ih (by omega)
    rw [show 64 - (n + 1) + 1 = 64 - n by omega]
    exact this
end Go.Proofs.YtbdpghmpdghnbaaDoor

namespace Go.Proofs.YtbdpghmpdghnbaaDoor
open Go Go.RowKit Go.Lib

set_option maxRecDepth 100000 in
theorem catch_idle (b : Nat) (w : World) :
    CallsD Tryd.prog 10 #[.pointer (some ⟨b + 3, 0, none⟩), .pointer (some ⟨b, 0, none⟩), .pointer (some ⟨b + 1, 0, none⟩), .pointer (some ⟨b + 2, 0, none⟩)] .returning w fun e u' w' => e = .returned (.tuple #[]) ∧ u' = .returning ∧ w' = w := by
  refine callsD_of_wpS Tryd.func10 rfl fun c₀ cs hu => ?_
  apply wpS_seq
  apply wpS_region
  simp [wpOpsS, go_sem, recoverD, hu, Tryd.ntmps10, Exit.thenS]
  simp only [Array.replicate_succ, Array.replicate_zero, List.push_toArray, List.append_toArray, List.nil_append, List.cons_append, List.setIfInBounds_toArray, List.set_cons_zero, List.set_cons_succ]
  refine wpS_of_wp ?_
  go_wp2_with fail
  cases c₀
  simp_all [bodyPostS, results, Tryd.results10]

theorem below_set {b b' o : Nat} {w W : World} (h : Below b w W) (hb : b ≤ b') (y : Value) : Below b w (W.setCell ⟨b', o, none⟩ y) :=
  ⟨h.os, h.tape, h.output, by simpa using h.size, fun k hk => (Below.heap_setCell W ⟨b', o, none⟩ y k (show k ≠ b' by omega)).trans (h.block k hk)⟩
theorem cell_set1 {w : World} {b : Nat} {a y : Value} {t : TypeId} (h : w.heap[b]? = some (.cells #[a] t (0, 0))) : (w.setCell ⟨b, 0, none⟩ y).heap[b]? = some (.cells #[y] t (0, 0)) := by
  obtain ⟨hlt, hk⟩ := Array.getElem?_eq_some_iff.1 h
  show (w.heap.modify b _)[b]? = _
  rw [Array.getElem?_eq_getElem (by rw [Array.size_modify]; exact hlt), Array.getElem_modify_self, hk]
  rfl
theorem catch_world {b p : Nat} {e : Int} {t0 t1 t2 : TypeId} {k x v u a1 a2 : Value} {w : World} (hb : Blk4 w b t0 k x v u) (h1 : w.heap[b + 1]? = some (.cells #[a1] t1 (0, 0))) (h2 : w.heap[b + 2]? = some (.cells #[a2] t2 (0, 0))) (Z W' : World)
    (hZ : Z = ((((((w.setCell ⟨b, 0, none⟩ (.int .u8 0)).setCell ⟨b, 1, none⟩ (.string ⟨#[]⟩)).setCell ⟨b, 2, none⟩ (.slice none 0 0)).setCell ⟨b, 3, none⟩ (.slice none 0 0)).setCell ⟨b + 1, 0, none⟩ (.int .i64 p)).setCell ⟨b + 2, 0, none⟩ (.int .i64 e))) (hW : W' = Z ∨ W' = Z.drew) :
    Below b w W' ∧ W'.cell? ⟨b, 0, none⟩ = some (.int .u8 0) ∧ W'.cell? ⟨b, 1, none⟩ = some (.string ⟨#[]⟩) ∧ W'.cell? ⟨b, 2, none⟩ = some (.slice none 0 0) ∧ W'.cell? ⟨b, 3, none⟩ = some (.slice none 0 0) ∧
        W'.cell? ⟨b + 1, 0, none⟩ = some (.int .i64 p) ∧ W'.cell? ⟨b + 2, 0, none⟩ = some (.int .i64 e) := by
  have hm : ∀ W1 : World, W1.heap = Z.heap → W1.cell? ⟨b, 0, none⟩ = some (.int .u8 0) ∧ W1.cell? ⟨b, 1, none⟩ = some (.string ⟨#[]⟩) ∧ W1.cell? ⟨b, 2, none⟩ = some (.slice none 0 0) ∧ W1.cell? ⟨b, 3, none⟩ = some (.slice none 0 0) ∧
        W1.cell? ⟨b + 1, 0, none⟩ = some (.int .i64 p) ∧ W1.cell? ⟨b + 2, 0, none⟩ = some (.int .i64 e) := by
    intro W1 hh
    rw [hZ] at hh
    clear hZ hW
    obtain ⟨e1, _, _⟩ := hb.all (.int .u8 0) (.string ⟨#[]⟩) (.slice none 0 0) (.slice none 0 0)
    have e4 := set4_else w b (.int .u8 0) (.string ⟨#[]⟩) (.slice none 0 0) (.slice none 0 0)
    generalize (((w.setCell ⟨b, 0, none⟩ (.int .u8 0)).setCell ⟨b, 1, none⟩ (.string ⟨#[]⟩)).setCell ⟨b, 2, none⟩ (.slice none 0 0)).setCell ⟨b, 3, none⟩ (.slice none 0 0) = W2 at *
    have k1 := cell_set1 (y := .int .i64 p) ((e4 (b + 1) (by omega)).trans h1)
    have k2 := (Below.heap_setCell W2 ⟨b + 1, 0, none⟩ (.int .i64 p) (b + 2) (show b + 2 ≠ b + 1 by omega)).trans ((e4 (b + 2) (by omega)).trans h2)
    have k0 : Blk4 (W2.setCell ⟨b + 1, 0, none⟩ (.int .i64 p)) b _ _ _ _ _ := e1.else (by omega)
    generalize W2.setCell ⟨b + 1, 0, none⟩ (.int .i64 p) = W3 at *
    have j0 : Blk4 (W3.setCell ⟨b + 2, 0, none⟩ (.int .i64 e)) b _ _ _ _ _ := k0.else (by omega)
    have j1 := (Below.heap_setCell W3 ⟨b + 2, 0, none⟩ (.int .i64 e) (b + 1) (show b + 1 ≠ b + 2 by omega)).trans k1
    have j2 := cell_set1 (y := .int .i64 e) k2
    rw [← hh] at j1 j2
    have j0' : Blk4 W1 b _ _ _ _ _ := j0.same (by rw [hh])
    obtain ⟨x0, x1, x2, x3⟩ := j0'.box
    exact ⟨x0, x1, x2, x3, by simp [World.cell?, j1], by simp [World.cell?, j2]⟩
  have hB := below_set (o := 0) (below_set (o := 0) (below_set (o := 3) (below_set (o := 2) (below_set (o := 1) (below_set (o := 0) (Below.refl b w) (Nat.le_refl b) (.int .u8 0)) (Nat.le_refl b) (.string ⟨#[]⟩)) (Nat.le_refl b) (.slice none 0 0)) (Nat.le_refl b) (.slice none 0 0)) (show b ≤ b + 1 by omega) (.int .i64 p)) (show b ≤ b + 2 by omega) (.int .i64 e)
  rw [← hZ] at hB
  clear hZ
  rcases hW with rfl | rfl
  · exact ⟨hB, hm _ rfl⟩
  · exact ⟨hB.drew, hm _ rfl⟩

set_option maxRecDepth 100000 in
set_option maxHeartbeats 1000000 in
theorem catch_panicking (b p : Nat) (e : Int) (t0 t1 t2 : TypeId) (k x v u a1 a2 : Value) (w : World) (s : ByteArray) (d : Nat) (hb : Blk4 w b t0 k x v u) (h1 : w.heap[b + 1]? = some (.cells #[a1] t1 (0, 0))) (h2 : w.heap[b + 2]? = some (.cells #[a2] t2 (0, 0))) (h3 : Rd s p d (b + 3) w) :
    CallsD Tryd.prog 10 #[.pointer (some ⟨b + 3, 0, none⟩), .pointer (some ⟨b, 0, none⟩), .pointer (some ⟨b + 1, 0, none⟩), .pointer (some ⟨b + 2, 0, none⟩)] (.panicking [{ v := .iface 26 (.int .i64 e), recovered := false }]) w fun en u' w' =>
      en = .returned (.tuple #[]) ∧ u' = .panicking [{ v := .iface 26 (.int .i64 e), recovered := true }] ∧ Below b w w' ∧ w'.cell? ⟨b, 0, none⟩ = some (.int .u8 0) ∧ w'.cell? ⟨b, 1, none⟩ = some (.string ⟨#[]⟩) ∧ w'.cell? ⟨b, 2, none⟩ = some (.slice none 0 0) ∧ w'.cell? ⟨b, 3, none⟩ = some (.slice none 0 0) ∧
        w'.cell? ⟨b + 1, 0, none⟩ = some (.int .i64 p) ∧ w'.cell? ⟨b + 2, 0, none⟩ = some (.int .i64 e) := by
  have c1 := h3.c1
  obtain ⟨d0, d1, d2, d3⟩ := hb.box
  have f0 := hb.free 0
  have f1 := hb.free 1
  have f2 := hb.free 2
  have f3 := hb.free 3
  have e1 : w.cell? ⟨b + 1, 0, none⟩ = some a1 := by simp [World.cell?, h1]
  have e2 : w.cell? ⟨b + 2, 0, none⟩ = some a2 := by simp [World.cell?, h2]
  have g1 : w.frozen? ⟨b + 1, 0, none⟩ = false := by simp [World.frozen?, h1]
  have g2 : w.frozen? ⟨b + 2, 0, none⟩ = false := by simp [World.frozen?, h2]
  have hta : ∀ W, (Instr.typeAssert (.iface 26 (.int .i64 e)) 20 26 false).run Tryd.prog W = .ok (.int .i64 e) W := fun W => by kernel_rfl
  refine callsD_of_wpS Tryd.func10 rfl fun c₀ cs hu => ?_
  apply wpS_seq
  apply wpS_region
  simp [wpOpsS, go_sem, recoverD, hu, Tryd.ntmps10, Exit.thenS]
  simp only [Array.replicate_succ, Array.replicate_zero, List.push_toArray, List.append_toArray, List.nil_append, List.cons_append, List.setIfInBounds_toArray, List.set_cons_zero, List.set_cons_succ]
  refine wpS_of_wp ?_
  go_wp2_with fail
  go_region_law (fail)
  all_goals
    refine ⟨rfl, _, rfl, .tuple #[], by simp [results, Tryd.results10], rfl, rfl, ?_⟩
    exact catch_world hb h1 h2 _ _ rfl (by first | (left; with_reducible rfl) | (right; with_reducible rfl))
end Go.Proofs.YtbdpghmpdghnbaaDoor
