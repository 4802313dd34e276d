/- The program's reader of JSON: what is deferred: an error that was raised is handed back. Conditions: none. -/
import Derived.Test.YtkehpmbafjelpaaDoorJpValue
import Derived.Recover
namespace Go.Proofs.YtkehpmbafjelpaaDoor
open Go Go.RowKit Go.Lib

set_option maxRecDepth 100000 in
theorem catch_idle (b : Nat) (w : World) :
    CallsD Tryd.prog 42 #[.pointer (some ⟨b + 3, 0, none⟩), .pointer (some ⟨b, 0, none⟩), .pointer (some ⟨b + 1, 0, none⟩), .pointer (some ⟨b + 2, 0, none⟩)] .returning w fun e u' w' => e = .returned (.tuple #[]) ∧ u' = .returning ∧ w' = w := by
  refine callsD_of_wpS Tryd.func42 rfl fun c₀ cs hu => ?_
  apply wpS_seq
  apply wpS_region
  simp [wpOpsS, go_sem, recoverD, hu, Tryd.ntmps42, Exit.thenS]
  simp only [Array.replicate_succ, Array.replicate_zero, List.push_toArray, List.append_toArray, List.nil_append, List.cons_append, List.setIfInBounds_toArray, List.set_cons_zero, List.set_cons_succ]
  refine wpS_of_wp ?_
  go_wp2_with fail
  cases c₀
  simp_all [bodyPostS, results, Tryd.results42]

theorem below_set {b b' o : Nat} {w W : World} (h : Below b w W) (hb : b ≤ b') (y : Value) : Below b w (W.setCell ⟨b', o, none⟩ y) :=
  ⟨h.os, h.tape, h.output, by simpa using h.size, fun k hk => (Below.heap_setCell W ⟨b', o, none⟩ y k (show k ≠ b' by omega)).trans (h.block k hk)⟩
theorem cell_set1 {w : World} {b : Nat} {a y : Value} {t : TypeId} (h : w.heap[b]? = some (.cells #[a] t (0, 0))) : (w.setCell ⟨b, 0, none⟩ y).heap[b]? = some (.cells #[y] t (0, 0)) := by
  obtain ⟨hlt, hk⟩ := Array.getElem?_eq_some_iff.1 h
  show (w.heap.modify b _)[b]? = _
  rw [Array.getElem?_eq_getElem (by rw [Array.size_modify]; exact hlt), Array.getElem_modify_self, hk]
  rfl
theorem catch_world {b p : Nat} {e : Int} {t0 t1 t2 : TypeId} {k x v u a1 a2 : Value} {w : World} (hb : Blk4 w b t0 k x v u) (h1 : w.heap[b + 1]? = some (.cells #[a1] t1 (0, 0))) (h2 : w.heap[b + 2]? = some (.cells #[a2] t2 (0, 0))) (Z W' : World)
    (hZ : Z = ((((((w.setCell ⟨b, 0, none⟩ (.int .u8 0)).setCell ⟨b, 1, none⟩ (.string ⟨#[]⟩)).setCell ⟨b, 2, none⟩ (.slice none 0 0)).setCell ⟨b, 3, none⟩ (.slice none 0 0)).setCell ⟨b + 1, 0, none⟩ (.int .i64 p)).setCell ⟨b + 2, 0, none⟩ (.int .i64 e))) (hW : W' = Z ∨ W' = Z.drew) :
    Below b w W' ∧ W'.cell? ⟨b, 0, none⟩ = some (.int .u8 0) ∧ W'.cell? ⟨b, 1, none⟩ = some (.string ⟨#[]⟩) ∧ W'.cell? ⟨b, 2, none⟩ = some (.slice none 0 0) ∧ W'.cell? ⟨b, 3, none⟩ = some (.slice none 0 0) ∧
        W'.cell? ⟨b + 1, 0, none⟩ = some (.int .i64 p) ∧ W'.cell? ⟨b + 2, 0, none⟩ = some (.int .i64 e) := by
  have hm : ∀ W1 : World, W1.heap = Z.heap → W1.cell? ⟨b, 0, none⟩ = some (.int .u8 0) ∧ W1.cell? ⟨b, 1, none⟩ = some (.string ⟨#[]⟩) ∧ W1.cell? ⟨b, 2, none⟩ = some (.slice none 0 0) ∧ W1.cell? ⟨b, 3, none⟩ = some (.slice none 0 0) ∧
        W1.cell? ⟨b + 1, 0, none⟩ = some (.int .i64 p) ∧ W1.cell? ⟨b + 2, 0, none⟩ = some (.int .i64 e) := by
    intro W1 hh
    rw [hZ] at hh
    clear hZ hW
    obtain ⟨e1, _, _⟩ := hb.all (.int .u8 0) (.string ⟨#[]⟩) (.slice none 0 0) (.slice none 0 0)
    have e4 := set4_else w b (.int .u8 0) (.string ⟨#[]⟩) (.slice none 0 0) (.slice none 0 0)
    generalize (((w.setCell ⟨b, 0, none⟩ (.int .u8 0)).setCell ⟨b, 1, none⟩ (.string ⟨#[]⟩)).setCell ⟨b, 2, none⟩ (.slice none 0 0)).setCell ⟨b, 3, none⟩ (.slice none 0 0) = W2 at *
    have k1 := cell_set1 (y := .int .i64 p) ((e4 (b + 1) (by omega)).trans h1)
    have k2 := (Below.heap_setCell W2 ⟨b + 1, 0, none⟩ (.int .i64 p) (b + 2) (show b + 2 ≠ b + 1 by omega)).trans ((e4 (b + 2) (by omega)).trans h2)
    have k0 : Blk4 (W2.setCell ⟨b + 1, 0, none⟩ (.int .i64 p)) b _ _ _ _ _ := e1.else (by omega)
    generalize W2.setCell ⟨b + 1, 0, none⟩ (.int .i64 p) = W3 at *
    have j0 : Blk4 (W3.setCell ⟨b + 2, 0, none⟩ (.int .i64 e)) b _ _ _ _ _ := k0.else (by omega)
    have j1 := (Below.heap_setCell W3 ⟨b + 2, 0, none⟩ (.int .i64 e) (b + 1) (show b + 1 ≠ b + 2 by omega)).trans k1
    have j2 := cell_set1 (y := .int .i64 e) k2
    rw [← hh] at j1 j2
    have j0' : Blk4 W1 b _ _ _ _ _ := j0.same (by rw [hh])
    obtain ⟨x0, x1, x2, x3⟩ := j0'.box
    exact ⟨x0, x1, x2, x3, by simp [World.cell?, j1], by simp [World.cell?, j2]⟩
  have hB := below_set (o := 0) (below_set (o := 0) (below_set (o := 3) (below_set (o := 2) (below_set (o := 1) (below_set (o := 0) (Below.refl b w) (Nat.le_refl b) (.int .u8 0)) (Nat.le_refl b) (.string ⟨#[]⟩)) (Nat.le_refl b) (.slice none 0 0)) (Nat.le_refl b) (.slice none 0 0)) (show b ≤ b + 1 by omega) (.int .i64 p)) (show b ≤ b + 2 by omega) (.int .i64 e)
  rw [← hZ] at hB
  clear hZ
  rcases hW with rfl | rfl
  · exact ⟨hB, hm _ rfl⟩
  · exact ⟨hB.drew, hm _ rfl⟩

set_option maxRecDepth 100000 in
set_option maxHeartbeats 1000000 in
theorem catch_panicking (b p : Nat) (e : Int) (t0 t1 t2 : TypeId) (k x v u a1 a2 : Value) (w : World) (s : ByteArray) (d : Nat) (hb : Blk4 w b t0 k x v u) (h1 : w.heap[b + 1]? = some (.cells #[a1] t1 (0, 0))) (h2 : w.heap[b + 2]? = some (.cells #[a2] t2 (0, 0))) (h3 : Rd s p d (b + 3) w) :
    CallsD Tryd.prog 42 #[.pointer (some ⟨b + 3, 0, none⟩), .pointer (some ⟨b, 0, none⟩), .pointer (some ⟨b + 1, 0, none⟩), .pointer (some ⟨b + 2, 0, none⟩)] (.panicking [{ v := .iface 26 (.int .i64 e), recovered := false }]) w fun en u' w' =>
      en = .returned (.tuple #[]) ∧ u' = .panicking [{ v := .iface 26 (.int .i64 e), recovered := true }] ∧ Below b w w' ∧ w'.cell? ⟨b, 0, none⟩ = some (.int .u8 0) ∧ w'.cell? ⟨b, 1, none⟩ = some (.string ⟨#[]⟩) ∧ w'.cell? ⟨b, 2, none⟩ = some (.slice none 0 0) ∧ w'.cell? ⟨b, 3, none⟩ = some (.slice none 0 0) ∧
        w'.cell? ⟨b + 1, 0, none⟩ = some (.int .i64 p) ∧ w'.cell? ⟨b + 2, 0, none⟩ = some (.int .i64 e) := by
  have c1 := h3.c1
  obtain ⟨d0, d1, d2, d3⟩ := hb.box
  have f0 := hb.free 0
  have f1 := hb.free 1
  have f2 := hb.free 2
  have f3 := hb.free 3
  have e1 : w.cell? ⟨b + 1, 0, none⟩ = some a1 := by simp [World.cell?, h1]
  have e2 : w.cell? ⟨b + 2, 0, none⟩ = some a2 := by simp [World.cell?, h2]
  have g1 : w.frozen? ⟨b + 1, 0, none⟩ = false := by simp [World.frozen?, h1]
  have g2 : w.frozen? ⟨b + 2, 0, none⟩ = false := by simp [World.frozen?, h2]
  have hta : ∀ W, (Instr.typeAssert (.iface 26 (.int .i64 e)) 20 26 false).run Tryd.prog W = .ok (.int .i64 e) W := fun W => by kernel_rfl
  refine callsD_of_wpS Tryd.func42 rfl fun c₀ cs hu => ?_
  apply wpS_seq
  apply wpS_region
  simp [wpOpsS, go_sem, recoverD, hu, Tryd.ntmps42, Exit.thenS]
  simp only [Array.replicate_succ, Array.replicate_zero, List.push_toArray, List.append_toArray, List.nil_append, List.cons_append, List.setIfInBounds_toArray, List.set_cons_zero, List.set_cons_succ]
  refine wpS_of_wp ?_
  go_wp2_with fail
  go_region_law (fail)
  all_goals
    refine ⟨rfl, _, rfl, .tuple #[], by simp [results, Tryd.results42], rfl, rfl, ?_⟩
    exact catch_world hb h1 h2 _ _ rfl (by first | (left; with_reducible rfl) | (right; with_reducible rfl))
end Go.Proofs.YtkehpmbafjelpaaDoor
