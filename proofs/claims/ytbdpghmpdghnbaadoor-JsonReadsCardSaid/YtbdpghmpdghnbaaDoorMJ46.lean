/- The program's reader of JSON: a whole text. Conditions: a string of at most 2^18 bytes; the library's tables of UTF-8 as its text lays them. -/
import Derived.Test.YtbdpghmpdghnbaaDoorMJ45
namespace Go.Proofs.YtbdpghmpdghnbaaDoor
open Go Go.RowKit Go.Lib

/-- a whole text: the value, or the wrong byte and the error -/
def prs (s : ByteArray) : VR :=
  if (vl s 64 0).2.2 = 0 then (if (vl s 64 0).2.1 < s.size then ((0, ⟨#[]⟩, .nil, .nil), (vl s 64 0).2.1, 30) else ((vl s 64 0).1, 0, 0)) else ((0, ⟨#[]⟩, .nil, .nil), (vl s 64 0).2)
/-- what Parse hands back -/
def ParseIs (r : VR) (w : World) (en : Ending) (w' : World) : Prop :=
  ∃ v u, en = .returned (.tuple #[.agg #[.int .u8 r.1.1, .string r.1.2.1, v, u], .int .i64 r.2.1, .int .i64 r.2.2]) ∧ HS w' (fun b => w.heap.size ≤ b) 0 v r.1.2.2.1 ∧ HS w' (fun b => w.heap.size ≤ b) 1 u r.1.2.2.2 ∧ Fit ⟨#[]⟩ r.1.1 r.1.2.1 ∧ Below w.heap.size w w'

/-- the four boxes: the value's, the place's, the error's, the reader's -/
def Four (s : ByteArray) (w : World) (tb te : TypeId) : World := (((w.alloc (.cells #[.int .u8 0, .string ⟨#[]⟩, .slice none 0 0, .slice none 0 0] 25)).alloc (.cells #[.int .i64 0] tb)).alloc (.cells #[.int .i64 0] te)).alloc (.cells #[.string s, .int .i64 0, .int .i64 0] 40)
def Boxes (s : ByteArray) (n p : Nat) (tb te : TypeId) (W : World) : Prop := Blk4 W n 25 (.int .u8 0) (.string ⟨#[]⟩) (.slice none 0 0) (.slice none 0 0) ∧ W.heap[n + 1]? = some (.cells #[.int .i64 0] tb (0, 0)) ∧ W.heap[n + 2]? = some (.cells #[.int .i64 0] te (0, 0)) ∧ ∃ d, Rd s p d (n + 3) W
theorem four_is (s : ByteArray) (w : World) (tb te : TypeId) : Boxes s w.heap.size 0 tb te (Four s w tb te) ∧ Rd s 0 0 (w.heap.size + 3) (Four s w tb te) ∧ Below w.heap.size w (Four s w tb te) ∧ (Four s w tb te).heap.size = w.heap.size + 4 := by
  unfold Four
  have z1 := World.size_alloc w (.cells #[.int .u8 0, .string ⟨#[]⟩, .slice none 0 0, .slice none 0 0] 25)
  have n1 := heap_alloc_new w (.cells #[.int .u8 0, .string ⟨#[]⟩, .slice none 0 0, .slice none 0 0] 25)
  have b1 := (Below.refl w.heap.size w).alloc (Nat.le_refl _) (.cells #[.int .u8 0, .string ⟨#[]⟩, .slice none 0 0, .slice none 0 0] 25)
  generalize w.alloc (.cells #[.int .u8 0, .string ⟨#[]⟩, .slice none 0 0, .slice none 0 0] 25) = W1 at *
  have z2 := World.size_alloc W1 (.cells #[.int .i64 0] tb)
  have n2 := heap_alloc_new W1 (.cells #[.int .i64 0] tb)
  have m1 := (Below.heap_alloc W1 (.cells #[.int .i64 0] tb) w.heap.size (by omega)).trans n1
  have b2 := b1.alloc b1.size (.cells #[.int .i64 0] tb)
  generalize W1.alloc (.cells #[.int .i64 0] tb) = W2 at *
  have z3 := World.size_alloc W2 (.cells #[.int .i64 0] te)
  have n3 := heap_alloc_new W2 (.cells #[.int .i64 0] te)
  have l1 := (Below.heap_alloc W2 (.cells #[.int .i64 0] te) w.heap.size (by omega)).trans m1
  rw [z1] at n2
  have l2 := (Below.heap_alloc W2 (.cells #[.int .i64 0] te) (w.heap.size + 1) (by omega)).trans n2
  have b3 := b2.alloc b2.size (.cells #[.int .i64 0] te)
  rw [z2, z1] at n3
  generalize W2.alloc (.cells #[.int .i64 0] te) = W3 at *
  have z4 := World.size_alloc W3 (.cells #[.string s, .int .i64 0, .int .i64 0] 40)
  have n4 := heap_alloc_new W3 (.cells #[.string s, .int .i64 0, .int .i64 0] 40)
  rw [z3, z2, z1] at n4
  have hr : Rd s 0 0 (w.heap.size + 3) (W3.alloc (.cells #[.string s, .int .i64 0, .int .i64 0] 40)) := n4
  exact ⟨⟨(Below.heap_alloc W3 _ _ (by omega)).trans l1, (Below.heap_alloc W3 _ _ (by omega)).trans l2, (Below.heap_alloc W3 _ _ (by omega)).trans n3, _, hr⟩, hr, b3.alloc b3.size _, by omega⟩
theorem Boxes.keep {s : ByteArray} {n p q : Nat} {tb te : TypeId} {W W' : World} (h : Boxes s n p tb te W) (g : W.grownBy W' (some (n + 3))) (hr : ∃ d, Rd s q d (n + 3) W') : Boxes s n q tb te W' := by
  obtain ⟨h0, h1, h2, h3⟩ := h
  have lt : ∀ {b : Nat} {o : Obj}, W.heap[b]? = some o → b < W.heap.size := fun h => (Array.getElem?_eq_some_iff.1 h).1
  exact ⟨h0.same (g.block _ h0.lt (fun e => by have e := Option.some.inj e; omega)), (g.block _ (lt h1) (fun e => by have e := Option.some.inj e; omega)).trans h1, (g.block _ (lt h2) (fun e => by have e := Option.some.inj e; omega)).trans h2, hr⟩
theorem died_is {s : ByteArray} {w W w' : World} {p e : Nat} (hB : Below w.heap.size w W) (hC : Below w.heap.size W w') : ParseIs ((0, ⟨#[]⟩, .nil, .nil), p, e) w (.returned (.tuple #[.agg #[.int .u8 0, .string ⟨#[]⟩, .slice none 0 0, .slice none 0 0], .int .i64 p, .int .i64 e])) w' :=
  ⟨_, _, rfl, hs_nil _ _ _, hs_nil _ _ _, ⟨(by decide : 0 < 256), (by decide : (⟨#[]⟩ : ByteArray).size ≤ 140737488355328), by decide⟩, hB.trans hC⟩

theorem ok_world {b : Nat} {p e : Int} {K X V U : Value} {t0 t1 t2 : TypeId} {k x v u a1 a2 : Value} {w : World} (hb : Blk4 w b t0 k x v u) (h1 : w.heap[b + 1]? = some (.cells #[a1] t1 (0, 0))) (h2 : w.heap[b + 2]? = some (.cells #[a2] t2 (0, 0))) (Z W' : World)
    (hZ : Z = ((((((w.setCell ⟨b, 0, none⟩ K).setCell ⟨b, 1, none⟩ X).setCell ⟨b, 2, none⟩ V).setCell ⟨b, 3, none⟩ U).setCell ⟨b + 1, 0, none⟩ (.int .i64 p)).setCell ⟨b + 2, 0, none⟩ (.int .i64 e))) (hW : W' = Z ∨ W' = Z.drew) :
    Below b w W' ∧ W'.cell? ⟨b, 0, none⟩ = some K ∧ W'.cell? ⟨b, 1, none⟩ = some X ∧ W'.cell? ⟨b, 2, none⟩ = some V ∧ W'.cell? ⟨b, 3, none⟩ = some U ∧
        W'.cell? ⟨b + 1, 0, none⟩ = some (.int .i64 p) ∧ W'.cell? ⟨b + 2, 0, none⟩ = some (.int .i64 e) := by
  have hm : ∀ W1 : World, W1.heap = Z.heap → W1.cell? ⟨b, 0, none⟩ = some K ∧ W1.cell? ⟨b, 1, none⟩ = some X ∧ W1.cell? ⟨b, 2, none⟩ = some V ∧ W1.cell? ⟨b, 3, none⟩ = some U ∧
        W1.cell? ⟨b + 1, 0, none⟩ = some (.int .i64 p) ∧ W1.cell? ⟨b + 2, 0, none⟩ = some (.int .i64 e) := by
    intro W1 hh
    rw [hZ] at hh
    clear hZ hW
    obtain ⟨e1, _, _⟩ := hb.all K X V U
    have e4 := set4_else w b K X V U
    generalize (((w.setCell ⟨b, 0, none⟩ K).setCell ⟨b, 1, none⟩ X).setCell ⟨b, 2, none⟩ V).setCell ⟨b, 3, none⟩ U = W2 at *
    have k1 := cell_set1 (y := .int .i64 p) ((e4 (b + 1) (by omega)).trans h1)
    have k2 := (Below.heap_setCell W2 ⟨b + 1, 0, none⟩ (.int .i64 p) (b + 2) (show b + 2 ≠ b + 1 by omega)).trans ((e4 (b + 2) (by omega)).trans h2)
    have k0 : Blk4 (W2.setCell ⟨b + 1, 0, none⟩ (.int .i64 p)) b _ _ _ _ _ := e1.else (by omega)
    generalize W2.setCell ⟨b + 1, 0, none⟩ (.int .i64 p) = W3 at *
    have j0 : Blk4 (W3.setCell ⟨b + 2, 0, none⟩ (.int .i64 e)) b _ _ _ _ _ := k0.else (by omega)
    have j1 := (Below.heap_setCell W3 ⟨b + 2, 0, none⟩ (.int .i64 e) (b + 1) (show b + 1 ≠ b + 2 by omega)).trans k1
    have j2 := cell_set1 (y := .int .i64 e) k2
    rw [← hh] at j1 j2
    have j0' : Blk4 W1 b _ _ _ _ _ := j0.same (by rw [hh])
    obtain ⟨x0, x1, x2, x3⟩ := j0'.box
    exact ⟨x0, x1, x2, x3, by simp [World.cell?, j1], by simp [World.cell?, j2]⟩
  have hB := below_set (o := 0) (below_set (o := 0) (below_set (o := 3) (below_set (o := 2) (below_set (o := 1) (below_set (o := 0) (Below.refl b w) (Nat.le_refl b) K) (Nat.le_refl b) X) (Nat.le_refl b) V) (Nat.le_refl b) U) (show b ≤ b + 1 by omega) (.int .i64 p)) (show b ≤ b + 2 by omega) (.int .i64 e)
  rw [← hZ] at hB
  clear hZ
  rcases hW with rfl | rfl
  · exact ⟨hB, hm _ rfl⟩
  · exact ⟨hB.drew, hm _ rfl⟩

set_option maxRecDepth 100000 in
set_option maxHeartbeats 1000000 in
theorem parse_any (s : ByteArray) (w : World) (hs : s.size ≤ 262144) (hT : Tabs w) : Calls Tryd.prog 7 #[.string s] w (ParseIs (prs s) w) := by
  have hmf : ∀ (fn : Fn) (first cap : Array Value) (w : World), (Instr.makeFunc fn first cap).run Tryd.prog w = .ok (.func fn first cap) w := fun _ _ _ _ => rfl
  have H4 := Lib.hid (four_is s w 3 26)
  have hv := vc_any s (w.heap.size + 3) hs 64 (Nat.le_refl _) 0 (Four s w 3 26) (Nat.zero_le _) ⟨w, hT, H4.out.2.2.1, by omega⟩ H4.out.2.1
  have hle := vl_le s 64 0 (Nat.zero_le _)
  have HP := Lib.hid (show prs s = if (vl s 64 0).2.2 = 0 then (if (vl s 64 0).2.1 < s.size then ((0, ⟨#[]⟩, .nil, .nil), (vl s 64 0).2.1, 30) else ((vl s 64 0).1, 0, 0)) else ((0, ⟨#[]⟩, .nil, .nil), (vl s 64 0).2) from rfl)
  generalize prs s = fin at *
  generalize vl s 64 0 = r at *
  unfold Four at hv H4
  by_cases he : r.2.2 = 0
  · unfold OutV at hv
    simp only [if_pos he] at hv
    have HE := Lib.hid (HP.out.trans (if_pos he))
    go_enter_defers Tryd.func7, Tryd.ntmps7
    go_wp2_with fail
    refine hv.mono ?_
    rintro en w1 ⟨v2, u2, rfl, hl, hf, hfit, h1, g1⟩
    obtain ⟨p3, c3, rfl, -⟩ := hl.len
    obtain ⟨p4, c4, rfl, -⟩ := hf.len
    obtain ⟨k0, k1, k2, -⟩ := H4.out.1.keep (q := r.2.1) g1 ⟨_, h1⟩
    obtain ⟨d0, d1, d2, d3⟩ := k0.box
    have f0 := k0.free 0
    have f1 := k0.free 1
    have f2 := k0.free 2
    have f3 := k0.free 3
    obtain ⟨e1, e2, e3⟩ := k0.all (.int .u8 r.1.1) (.string r.1.2.1) (.slice p3 r.1.2.2.1.len c3) (.slice p4 r.1.2.2.2.len c4)
    have e4 := set4_else w1 w.heap.size (.int .u8 r.1.1) (.string r.1.2.1) (.slice p3 r.1.2.2.1.len c3) (.slice p4 r.1.2.2.2.len c4)
    have gg := (((grow_set w1 w.heap.size 0 (.int .u8 r.1.1)).trans (grow_set _ w.heap.size 1 (.string r.1.2.1))).trans (grow_set _ w.heap.size 2 (.slice p3 r.1.2.2.1.len c3))).trans (grow_set _ w.heap.size 3 (.slice p4 r.1.2.2.2.len c4))
    have hend := end_any s r.2.1 0 (w.heap.size + 3) ((((w1.setCell ⟨w.heap.size, 0, none⟩ (.int .u8 r.1.1)).setCell ⟨w.heap.size, 1, none⟩ (.string r.1.2.1)).setCell ⟨w.heap.size, 2, none⟩ (.slice p3 r.1.2.2.1.len c3)).setCell ⟨w.heap.size, 3, none⟩ (.slice p4 r.1.2.2.2.len c4)) (by omega) hle.2 (h1.same (e4 _ (by omega)))
    have H5 := Lib.hid (show Blk4 ((((w1.setCell ⟨w.heap.size, 0, none⟩ (.int .u8 r.1.1)).setCell ⟨w.heap.size, 1, none⟩ (.string r.1.2.1)).setCell ⟨w.heap.size, 2, none⟩ (.slice p3 r.1.2.2.1.len c3)).setCell ⟨w.heap.size, 3, none⟩ (.slice p4 r.1.2.2.2.len c4)) w.heap.size 25 _ _ _ _ ∧ ((((w1.setCell ⟨w.heap.size, 0, none⟩ (.int .u8 r.1.1)).setCell ⟨w.heap.size, 1, none⟩ (.string r.1.2.1)).setCell ⟨w.heap.size, 2, none⟩ (.slice p3 r.1.2.2.1.len c3)).setCell ⟨w.heap.size, 3, none⟩ (.slice p4 r.1.2.2.2.len c4)).heap[w.heap.size + 1]? = some (.cells #[.int .i64 0] 3 (0, 0)) ∧ ((((w1.setCell ⟨w.heap.size, 0, none⟩ (.int .u8 r.1.1)).setCell ⟨w.heap.size, 1, none⟩ (.string r.1.2.1)).setCell ⟨w.heap.size, 2, none⟩ (.slice p3 r.1.2.2.1.len c3)).setCell ⟨w.heap.size, 3, none⟩ (.slice p4 r.1.2.2.2.len c4)).heap[w.heap.size + 2]? = some (.cells #[.int .i64 0] 26 (0, 0)) ∧ Below w.heap.size w ((((w1.setCell ⟨w.heap.size, 0, none⟩ (.int .u8 r.1.1)).setCell ⟨w.heap.size, 1, none⟩ (.string r.1.2.1)).setCell ⟨w.heap.size, 2, none⟩ (.slice p3 r.1.2.2.1.len c3)).setCell ⟨w.heap.size, 3, none⟩ (.slice p4 r.1.2.2.2.len c4)) from
      ⟨e1, (e4 _ (by omega)).trans k1, (e4 _ (by omega)).trans k2, H4.out.2.2.1.trans ((below_grow g1 (by omega) (by have := H4.out.2.2.2; omega)).trans (below_grow gg (Nat.le_refl _) (by have := g1.size; have := H4.out.2.2.2; omega)))⟩)
    have L5 := Lib.hid (show HS ((((w1.setCell ⟨w.heap.size, 0, none⟩ (.int .u8 r.1.1)).setCell ⟨w.heap.size, 1, none⟩ (.string r.1.2.1)).setCell ⟨w.heap.size, 2, none⟩ (.slice p3 r.1.2.2.1.len c3)).setCell ⟨w.heap.size, 3, none⟩ (.slice p4 r.1.2.2.2.len c4)) (fun b => w.heap.size + 4 ≤ b) 0 (.slice p3 r.1.2.2.1.len c3) r.1.2.2.1 ∧ HS ((((w1.setCell ⟨w.heap.size, 0, none⟩ (.int .u8 r.1.1)).setCell ⟨w.heap.size, 1, none⟩ (.string r.1.2.1)).setCell ⟨w.heap.size, 2, none⟩ (.slice p3 r.1.2.2.1.len c3)).setCell ⟨w.heap.size, 3, none⟩ (.slice p4 r.1.2.2.2.len c4)) (fun b => w.heap.size + 4 ≤ b) 1 (.slice p4 r.1.2.2.2.len c4) r.1.2.2.2 from
      ⟨hl.imp (fun b a _ => by rw [← H4.out.2.2.2]; exact a) (fun b a _ => e4 b (by have := H4.out.2.2.2; have a : _ ≤ b := a; omega)), hf.imp (fun b a _ => by rw [← H4.out.2.2.2]; exact a) (fun b a _ => e4 b (by have := H4.out.2.2.2; have a : _ ≤ b := a; omega))⟩)
    have g1s := g1.size
    clear e1 e2 e3 e4 gg k0 k1 k2 hl hf h1 g1
    have HS := Lib.hid (show w.heap.size + 4 ≤ ((((w1.setCell ⟨w.heap.size, 0, none⟩ (.int .u8 r.1.1)).setCell ⟨w.heap.size, 1, none⟩ (.string r.1.2.1)).setCell ⟨w.heap.size, 2, none⟩ (.slice p3 r.1.2.2.1.len c3)).setCell ⟨w.heap.size, 3, none⟩ (.slice p4 r.1.2.2.2.len c4)).heap.size by have := g1s; have := H4.out.2.2.2; simp; omega)
    by_cases hlt : r.2.1 < s.size
    · rw [if_pos hlt] at hend
      have HE := Lib.hid (HE.out.trans (if_pos hlt))
      go_wp2_with fail
      refine hend.mono ?_
      rintro en w6 ho
      unfold Out at ho
      rw [if_neg (show ¬ (r.2.1, 30).2 = 0 from (by decide : ¬ 30 = 0))] at ho
      obtain ⟨rfl, ⟨d, h6⟩, g6⟩ := ho
      have b0 := H5.out.1.same (g6.block _ H5.out.1.lt (fun e => by have e := Option.some.inj e; omega))
      have b1 := (g6.block _ (by have := HS.out; omega) (fun e => by have e := Option.some.inj e; omega)).trans H5.out.2.1
      have b2 := (g6.block _ (by have := HS.out; omega) (fun e => by have e := Option.some.inj e; omega)).trans H5.out.2.2.1
      refine leaves_cons (f := 10) (args := #[.pointer (some ⟨w.heap.size + 3, 0, none⟩), .pointer (some ⟨w.heap.size, 0, none⟩), .pointer (some ⟨w.heap.size + 1, 0, none⟩), .pointer (some ⟨w.heap.size + 2, 0, none⟩)]) (by simp) (by simp [go_sem]) ?_
      refine (catch_panicking w.heap.size r.2.1 30 _ _ _ _ _ _ _ _ _ w6 s d b0 b1 b2 h6).mono ?_
      rintro en u' w2 ⟨rfl, rfl, hB, c0, c1, c2, c3, c4, c5⟩
      have hd := died_is (s := s) (p := r.2.1) (e := 30) H5.out.2.2.2 ((below_grow g6 (by omega) (by have := HS.out; omega)).trans hB)
      rw [HE.out]
      simp [Leaves, settle, results, Tryd.results7, go_sem, c0, c1, c2, c3, c4, c5]
      exact hd
    · rw [if_neg hlt] at hend
      have HE := Lib.hid (HE.out.trans (if_neg hlt))
      go_wp2_with fail
      refine hend.mono ?_
      rintro en w6 ⟨rfl, h6, g6⟩
      have b0 := H5.out.1.same (g6.block _ H5.out.1.lt (fun e => by have e := Option.some.inj e; omega))
      have b1 := (g6.block _ (by have := HS.out; omega) (fun e => by have e := Option.some.inj e; omega)).trans H5.out.2.1
      have b2 := (g6.block _ (by have := HS.out; omega) (fun e => by have e := Option.some.inj e; omega)).trans H5.out.2.2.1
      have B6 := Lib.hid (H5.out.2.2.2.trans (below_grow g6 (by omega) (by have := HS.out; omega)))
      have l6 := L5.out.1.grown g6 (fun b hb e => by have e := Option.some.inj e; have hb : w.heap.size + 4 ≤ b := hb; omega)
      have m6 := L5.out.2.grown g6 (fun b hb e => by have e := Option.some.inj e; have hb : w.heap.size + 4 ≤ b := hb; omega)
      have OW := Lib.hid (fun W' => ok_world (p := 0) (e := 0) (K := .int .u8 r.1.1) (X := .string r.1.2.1) (V := .slice p3 r.1.2.2.1.len c3) (U := .slice p4 r.1.2.2.2.len c4) b0 b1 b2 _ W' rfl)
      have LM := Lib.hid (And.intro l6 m6)
      obtain ⟨i0, i1, i2, i3⟩ := b0.box
      have j0 := b0.free 0
      have j1 := b0.free 1
      have j2 := b0.free 2
      have j3 := b0.free 3
      have i4 : w6.cell? ⟨w.heap.size + 1, 0, none⟩ = some (.int .i64 0) := by simp [World.cell?, b1]
      have i5 : w6.cell? ⟨w.heap.size + 2, 0, none⟩ = some (.int .i64 0) := by simp [World.cell?, b2]
      have j4 : w6.frozen? ⟨w.heap.size + 1, 0, none⟩ = false := by simp [World.frozen?, b1]
      have j5 : w6.frozen? ⟨w.heap.size + 2, 0, none⟩ = false := by simp [World.frozen?, b2]
      clear b0 b1 b2 l6 m6 h6 g6 d0 d1 d2 d3 f0 f1 f2 f3
      have KZ := Lib.hid (show ∀ k, w.heap.size + 4 ≤ k → ((((((w6.setCell ⟨w.heap.size, 0, none⟩ (.int .u8 r.1.1)).setCell ⟨w.heap.size, 1, none⟩ (.string r.1.2.1)).setCell ⟨w.heap.size, 2, none⟩ (.slice p3 r.1.2.2.1.len c3)).setCell ⟨w.heap.size, 3, none⟩ (.slice p4 r.1.2.2.2.len c4)).setCell ⟨w.heap.size + 1, 0, none⟩ (.int .i64 0)).setCell ⟨w.heap.size + 2, 0, none⟩ (.int .i64 0)).heap[k]? = w6.heap[k]? from fun k hk => (Below.heap_setCell _ _ _ k (show k ≠ w.heap.size + 2 by omega)).trans ((Below.heap_setCell _ _ _ k (show k ≠ w.heap.size + 1 by omega)).trans (set4_else w6 w.heap.size _ _ _ _ k (by omega))))
      have OZ := Lib.hid (OW.out ((((((w6.setCell ⟨w.heap.size, 0, none⟩ (.int .u8 r.1.1)).setCell ⟨w.heap.size, 1, none⟩ (.string r.1.2.1)).setCell ⟨w.heap.size, 2, none⟩ (.slice p3 r.1.2.2.1.len c3)).setCell ⟨w.heap.size, 3, none⟩ (.slice p4 r.1.2.2.2.len c4)).setCell ⟨w.heap.size + 1, 0, none⟩ (.int .i64 0)).setCell ⟨w.heap.size + 2, 0, none⟩ (.int .i64 0)) (.inl rfl))
      go_wp2_with fail
      refine leaves_cons (f := 10) (args := #[.pointer (some ⟨w.heap.size + 3, 0, none⟩), .pointer (some ⟨w.heap.size, 0, none⟩), .pointer (some ⟨w.heap.size + 1, 0, none⟩), .pointer (some ⟨w.heap.size + 2, 0, none⟩)]) (by simp) (by simp [go_sem]) ?_
      refine (catch_idle w.heap.size _).mono ?_
      rintro en u' w2 ⟨rfl, rfl, rfl⟩
      obtain ⟨hB, x0, x1, x2, x3, x4, x5⟩ := OZ.out
      have hd : ParseIs (r.1, 0, 0) w (.returned (.tuple #[.agg #[.int .u8 r.1.1, .string r.1.2.1, .slice p3 r.1.2.2.1.len c3, .slice p4 r.1.2.2.2.len c4], .int .i64 0, .int .i64 0])) ((((((w6.setCell ⟨w.heap.size, 0, none⟩ (.int .u8 r.1.1)).setCell ⟨w.heap.size, 1, none⟩ (.string r.1.2.1)).setCell ⟨w.heap.size, 2, none⟩ (.slice p3 r.1.2.2.1.len c3)).setCell ⟨w.heap.size, 3, none⟩ (.slice p4 r.1.2.2.2.len c4)).setCell ⟨w.heap.size + 1, 0, none⟩ (.int .i64 0)).setCell ⟨w.heap.size + 2, 0, none⟩ (.int .i64 0)) :=
        ⟨_, _, rfl, LM.out.1.imp (fun b a _ => by show w.heap.size ≤ b; have a : w.heap.size + 4 ≤ b := a; omega) (fun b a _ => KZ.out b a), LM.out.2.imp (fun b a _ => by show w.heap.size ≤ b; have a : w.heap.size + 4 ≤ b := a; omega) (fun b a _ => KZ.out b a), hfit, B6.out.trans hB⟩
      rw [HE.out]
      clear KZ OZ OW
      generalize ((((((w6.setCell ⟨w.heap.size, 0, none⟩ (.int .u8 r.1.1)).setCell ⟨w.heap.size, 1, none⟩ (.string r.1.2.1)).setCell ⟨w.heap.size, 2, none⟩ (.slice p3 r.1.2.2.1.len c3)).setCell ⟨w.heap.size, 3, none⟩ (.slice p4 r.1.2.2.2.len c4)).setCell ⟨w.heap.size + 1, 0, none⟩ (.int .i64 0)).setCell ⟨w.heap.size + 2, 0, none⟩ (.int .i64 0)) = w7 at *
      simp [Leaves, settle, results, Tryd.results7, go_sem, x0, x1, x2, x3, x4, x5]
      exact hd
  · unfold OutV at hv
    simp only [if_neg he] at hv
    have HE := Lib.hid (HP.out.trans (if_neg he))
    go_enter_defers Tryd.func7, Tryd.ntmps7
    go_wp2_with fail
    refine hv.mono ?_
    rintro en w1 ⟨rfl, h1, g1⟩
    obtain ⟨k0, k1, k2, d, k3⟩ := H4.out.1.keep g1 h1
    refine leaves_cons (f := 10) (args := #[.pointer (some ⟨w.heap.size + 3, 0, none⟩), .pointer (some ⟨w.heap.size, 0, none⟩), .pointer (some ⟨w.heap.size + 1, 0, none⟩), .pointer (some ⟨w.heap.size + 2, 0, none⟩)]) (by simp) (by simp [go_sem]) ?_
    refine (catch_panicking w.heap.size r.2.1 r.2.2 _ _ _ _ _ _ _ _ _ w1 s d k0 k1 k2 k3).mono ?_
    rintro en u' w2 ⟨rfl, rfl, hB, c0, c1, c2, c3, c4, c5⟩
    have hd := died_is (s := s) (p := r.2.1) (e := r.2.2) H4.out.2.2.1 ((below_grow g1 (by omega) (by have := H4.out.2.2.2; omega)).trans hB)
    rw [HE.out]
    simp [Leaves, settle, results, Tryd.results7, go_sem, c0, c1, c2, c3, c4, c5]
    exact hd
end Go.Proofs.YtbdpghmpdghnbaaDoor

namespace Go.Proofs.YtbdpghmpdghnbaaDoor
open Go Go.RowKit Go.Lib

def prsAll (s : ByteArray) : VR := if 262144 < s.size then ((0, ⟨#[]⟩, .nil, .nil), 0, 3) else prs s

set_option maxRecDepth 100000 in
set_option maxHeartbeats 1000000 in
theorem Parse_any (s : ByteArray) (w : World) (hs : s.size ≤ 1000000000000) (hT : Tabs w) : Calls Tryd.prog 4 #[.string s] w (ParseIs (prsAll s) w) := by
  unfold prsAll
  have HB := Lib.hid (bx_box w)
  have HW := Lib.hid (bx_below w)
  have HZ := Lib.hid (bx_size w)
  have hp := fun h => parse_any s (Bx w) h (tabs_below hT (bx_below w))
  unfold Bx at hp HB HW HZ
  generalize hW0 : w.alloc (.cells #[.int .u8 0, .string ⟨#[]⟩, .slice none 0 0, .slice none 0 0] 25) = W0 at *
  by_cases h : 262144 < s.size
  · rw [if_pos h]
    obtain ⟨d0, d1, d2, d3⟩ := HB.out.box
    have f0 := HB.out.free 0
    have f1 := HB.out.free 1
    have f2 := HB.out.free 2
    have f3 := HB.out.free 3
    clear hp
    go_enter Tryd.func4, Tryd.ntmps4
    go_wp2_with fail
    obtain ⟨e1, e2, e3⟩ := HB.out.all (.int .u8 0) (.string ⟨#[]⟩) (.slice none 0 0) (.slice none 0 0)
    have hB := HW.out.trans (below_set (o := 3) (below_set (o := 2) (below_set (o := 1) (below_set (o := 0) (Below.refl w.heap.size W0) (Nat.le_refl _) (.int .u8 0)) (Nat.le_refl _) (.string ⟨#[]⟩)) (Nat.le_refl _) (.slice none 0 0)) (Nat.le_refl _) (.slice none 0 0))
    generalize (((W0.setCell ⟨w.heap.size, 0, none⟩ (.int .u8 0)).setCell ⟨w.heap.size, 1, none⟩ (.string ⟨#[]⟩)).setCell ⟨w.heap.size, 2, none⟩ (.slice none 0 0)).setCell ⟨w.heap.size, 3, none⟩ (.slice none 0 0) = W' at *
    obtain ⟨x0, x1, x2, x3⟩ := e1.box
    refine bodyPost_ret (v := .tuple #[.agg #[.int .u8 0, .string ⟨#[]⟩, .slice none 0 0, .slice none 0 0], .int .i64 0, .int .i64 3]) (by simp [results, Tryd.results4, go_sem, x0, x1, x2, x3]) rfl ?_
    exact died_is (s := s) (p := 0) (e := 3) (Below.refl _ _) hB
  · rw [if_neg h]
    have hp := hp (by omega)
    generalize prs s = r at *
    go_enter Tryd.func4, Tryd.ntmps4
    go_wp2_with fail
    refine hp.mono ?_
    rintro en w1 ⟨v, u, rfl, hl, hf, hfit, hB⟩
    obtain ⟨p3, c3, rfl, -⟩ := hl.len
    obtain ⟨p4, c4, rfl, -⟩ := hf.len
    have B1 := HB.out.same (hB.block _ (by have := HZ.out; omega))
    obtain ⟨d0, d1, d2, d3⟩ := B1.box
    have f0 := B1.free 0
    have f1 := B1.free 1
    have f2 := B1.free 2
    have f3 := B1.free 3
    have HL := Lib.hid (And.intro hl (And.intro hf hfit))
    have HN := Lib.hid (And.intro B1 hB)
    clear hl hf hfit hB B1 hp
    go_wp2_with fail
    obtain ⟨e1, e2, e3⟩ := HN.out.1.all (.int .u8 r.1.1) (.string r.1.2.1) (.slice p3 r.1.2.2.1.len c3) (.slice p4 r.1.2.2.2.len c4)
    have e4 := set4_else w1 w.heap.size (.int .u8 r.1.1) (.string r.1.2.1) (.slice p3 r.1.2.2.1.len c3) (.slice p4 r.1.2.2.2.len c4)
    have hB := HW.out.trans ((HN.out.2.mono (by have := HZ.out; omega)).trans (below_set (o := 3) (below_set (o := 2) (below_set (o := 1) (below_set (o := 0) (Below.refl w.heap.size w1) (Nat.le_refl _) (.int .u8 r.1.1)) (Nat.le_refl _) (.string r.1.2.1)) (Nat.le_refl _) (.slice p3 r.1.2.2.1.len c3)) (Nat.le_refl _) (.slice p4 r.1.2.2.2.len c4)))
    generalize (((w1.setCell ⟨w.heap.size, 0, none⟩ (.int .u8 r.1.1)).setCell ⟨w.heap.size, 1, none⟩ (.string r.1.2.1)).setCell ⟨w.heap.size, 2, none⟩ (.slice p3 r.1.2.2.1.len c3)).setCell ⟨w.heap.size, 3, none⟩ (.slice p4 r.1.2.2.2.len c4) = W' at *
    obtain ⟨x0, x1, x2, x3⟩ := e1.box
    refine bodyPost_ret (v := .tuple #[.agg #[.int .u8 r.1.1, .string r.1.2.1, .slice p3 r.1.2.2.1.len c3, .slice p4 r.1.2.2.2.len c4], .int .i64 r.2.1, .int .i64 r.2.2]) (by simp [results, Tryd.results4, go_sem, x0, x1, x2, x3]) rfl ?_
    exact ⟨_, _, rfl, HL.out.1.imp (fun b a _ => by have a : _ ≤ b := a; have := HZ.out; show w.heap.size ≤ b; omega) (fun b a _ => e4 b (by have a : _ ≤ b := a; have := HZ.out; omega)), HL.out.2.1.imp (fun b a _ => by have a : _ ≤ b := a; have := HZ.out; show w.heap.size ≤ b; omega) (fun b a _ => e4 b (by have a : _ ≤ b := a; have := HZ.out; omega)), HL.out.2.2, hB⟩
end Go.Proofs.YtbdpghmpdghnbaaDoor
