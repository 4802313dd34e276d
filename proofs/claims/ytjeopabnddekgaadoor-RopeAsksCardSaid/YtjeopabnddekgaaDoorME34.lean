/- The program's Line answers line n's span and true, or a zero span and false. Conditions: a string of at most 10^12 bytes. -/
import Derived.Test.YtjeopabnddekgaaDoorME07
namespace Go.Proofs.YtjeopabnddekgaaDoor
open Go Go.RowKit Go.Shelf Go.Lib

attribute [local go_sem] Oper.semAt_some

/-- a box of two cells -/
def Boxed2 (W : World) (B : Nat) (t : TypeId) (u v : Value) : Prop := W.heap[B]? = some (.cells #[u, v] t (0, 0))
theorem Boxed2.lt {W : World} {B : Nat} {t : TypeId} {u v : Value} (h : Boxed2 W B t u v) : B < W.heap.size := (Array.getElem?_eq_some_iff.1 h).1
theorem Boxed2.cell0 {W : World} {B : Nat} {t : TypeId} {u v : Value} (h : Boxed2 W B t u v) : W.cell? ⟨B, 0, none⟩ = some u := by simp [World.cell?, show W.heap[B]? = _ from h]
theorem Boxed2.cell1 {W : World} {B : Nat} {t : TypeId} {u v : Value} (h : Boxed2 W B t u v) : W.cell? ⟨B, 1, none⟩ = some v := by simp [World.cell?, show W.heap[B]? = _ from h]
theorem Boxed2.frozen0 {W : World} {B : Nat} {t : TypeId} {u v : Value} (h : Boxed2 W B t u v) : W.frozen? ⟨B, 0, none⟩ = false := by simp [World.frozen?, show W.heap[B]? = _ from h]
theorem Boxed2.frozen1 {W : World} {B : Nat} {t : TypeId} {u v : Value} (h : Boxed2 W B t u v) : W.frozen? ⟨B, 1, none⟩ = false := by simp [World.frozen?, show W.heap[B]? = _ from h]
theorem Boxed2.new (W : World) (t : TypeId) (u v : Value) : Boxed2 (W.alloc (.cells #[u, v] t)) W.heap.size t u v := World.alloc_heap_new W _
theorem Boxed2.kept {W W' : World} {row : Option Nat} {B : Nat} {t : TypeId} {u v : Value} (h : Boxed2 W B t u v) (hg : W.grownBy W' row) (hne : some B ≠ row) : Boxed2 W' B t u v := (hg.block B h.lt hne).trans h
theorem Boxed2.alloc {W : World} {B : Nat} {t : TypeId} {u v : Value} (h : Boxed2 W B t u v) (o : Obj) : Boxed2 (W.alloc o) B t u v := h.kept (World.grownBy_alloc W o none) (by simp)
theorem boxed2_own {β : Type} (B : Nat) (t : TypeId) (f g : β → Value) : Own (fun s W => Boxed2 W B t (f s) (g s)) := fun s X Y row hs hg hrow =>
  hs.kept hg (fun e' => by obtain ⟨o, ho, hc⟩ := hrow B e'.symm; rw [show X.heap[B]? = _ from hs] at ho; cases ho; cases hc)

theorem grownBy_setCellO (W : World) (b o : Nat) (v : Value) : W.grownBy (W.setCell ⟨b, o, none⟩ v) (some b) :=
  ⟨rfl, rfl, rfl, (KeepsWalks.setCell W _ v).size, fun k _ hk => Below.heap_setCell _ _ _ k (fun e => hk (by rw [e]))⟩
theorem Boxed2.other {W : World} {B B' o : Nat} {t : TypeId} {u v : Value} (h : Boxed2 W B t u v) (hne : B ≠ B') (x : Value) : Boxed2 (W.setCell ⟨B', o, none⟩ x) B t u v := h.kept (grownBy_setCellO W B' o x) (fun e => hne (by cases e; rfl))
theorem boxed_other {W : World} {B B' o : Nat} {t : TypeId} {u : Value} (h : Boxed W B t u) (hne : B ≠ B') (x : Value) : Boxed (W.setCell ⟨B', o, none⟩ x) B t u := h.kept (grownBy_setCellO W B' o x) (fun e => hne (by cases e; rfl))
theorem Boxed2.set0 {W : World} {B : Nat} {t : TypeId} {u v : Value} (h : Boxed2 W B t u v) (x : Value) : Boxed2 (W.setCell ⟨B, 0, none⟩ x) B t x v := by
  obtain ⟨hlt, hk⟩ := Array.getElem?_eq_some_iff.1 h
  show (W.heap.modify B _)[B]? = _
  rw [Array.getElem?_eq_getElem (by rw [Array.size_modify]; exact hlt), Array.getElem_modify_self, hk]
  rfl
theorem Boxed2.set1 {W : World} {B : Nat} {t : TypeId} {u v : Value} (h : Boxed2 W B t u v) (x : Value) : Boxed2 (W.setCell ⟨B, 1, none⟩ x) B t u x := by
  obtain ⟨hlt, hk⟩ := Array.getElem?_eq_some_iff.1 h
  show (W.heap.modify B _)[B]? = _
  rw [Array.getElem?_eq_getElem (by rw [Array.size_modify]; exact hlt), Array.getElem_modify_self, hk]
  rfl
theorem lineX_own (s : ByteArray) (n : Int) (B B1 B2 : Nat) (c : Code) : OwnFrom B (fun (pre : List Nat) W => c = .ret ∧ ∃ ini k, pre = ini ++ [k] ∧ n = ((k : Nat) : Int) ∧ Boxed2 W B1 74 (.int .i64 (L.fr s k)) (.int .i64 (L.to s k)) ∧ Boxed W B2 4 (.bool true)) := fun pre X Y row hs hg hr => by
  obtain ⟨hc, ini, k, e1, e2, e3, e4⟩ := hs
  exact ⟨hc, ini, k, e1, e2, boxed2_own B1 _ (fun _ => _) (fun _ => _) () X Y row e3 hg (fun r e => (hr r e).2), boxed_own B2 _ (fun _ => _) () X Y row e4 hg (fun r e => (hr r e).2)⟩

set_option maxRecDepth 100000 in
set_option maxHeartbeats 1000000 in
theorem line_any (s : ByteArray) (n : Int) (w : World) (hs : s.size ≤ 1000000000000) :
    Calls Tryd.prog 52 #[.string s, .int .i64 n] w fun e w' => ((∃ k : Nat, n = k ∧ k < L.mny s ∧ e = .returned (.tuple #[span s k, .bool true])) ∨ ((n < 0 ∨ (L.mny s : Int) ≤ n) ∧ e = .returned (.tuple #[.agg #[.int .i64 0, .int .i64 0], .bool false]))) ∧ Below w.heap.size w w' := by
  have hm2 := L.mny_le s
  refine (callsIn_wide (n := 5)).1 ?_
  refine callsIn_of_wp_marks Tryd.func52 rfl trivial ?_ rfl
  simp only [Tryd.ntmps52, List.size_toArray, List.length_cons, List.length_nil, Nat.reduceAdd, Nat.reduceSub, Array.replicate_succ, Array.replicate_zero, List.push_toArray, List.append_toArray, List.nil_append, List.cons_append]
  gi_wp2
  refine ⟨trivial, (callsIn_wide.2 (each_any s _)).mono ?_⟩
  rintro e w' ⟨rfl, rfl⟩
  gi_wp2
  have bN := (((Boxed.new w 3 (.int .i64 n)).alloc (.cells #[.int .i64 0, .int .i64 0] 74)).alloc (.cells #[.bool false] 4)).alloc (.cells #[.string s] 9)
  have bR := ((Boxed2.new (w.alloc (.cells #[.int .i64 n] 3)) 74 (.int .i64 0) (.int .i64 0)).alloc (.cells #[.bool false] 4)).alloc (.cells #[.string s] 9)
  have bO := (Boxed.new ((w.alloc (.cells #[.int .i64 n] 3)).alloc (.cells #[.int .i64 0, .int .i64 0] 74)) 4 (.bool false)).alloc (.cells #[.string s] 9)
  have bS := Boxed.new (((w.alloc (.cells #[.int .i64 n] 3)).alloc (.cells #[.int .i64 0, .int .i64 0] 74)).alloc (.cells #[.bool false] 4)) 9 (.string s)
  simp only [World.size_alloc] at bR bO bS
  have hB0 : Below w.heap.size w ((((w.alloc (.cells #[.int .i64 n] 3)).alloc (.cells #[.int .i64 0, .int .i64 0] 74)).alloc (.cells #[.bool false] 4)).alloc (.cells #[.string s] 9)) := ((((Below.refl _ w).alloc (Nat.le_refl _) _).alloc (by simp) _).alloc (by simp; omega) _).alloc (by simp; omega) _
  have hsz : ((((w.alloc (.cells #[.int .i64 n] 3)).alloc (.cells #[.int .i64 0, .int .i64 0] 74)).alloc (.cells #[.bool false] 4)).alloc (.cells #[.string s] 9)).heap.size = w.heap.size + 4 := by simp
  obtain ⟨W0, hW0⟩ : ∃ W0, (((w.alloc (.cells #[.int .i64 n] 3)).alloc (.cells #[.int .i64 0, .int .i64 0] 74)).alloc (.cells #[.bool false] 4)).alloc (.cells #[.string s] 9) = W0 := ⟨_, rfl⟩
  rw [hW0] at bN bR bO bS hB0 hsz ⊢
  clear hW0
  refine wpIn_rangeFunc_ownH rfl (by decide) (gf := 98) (lb := #[.pointer (some ⟨w.heap.size + 1 + 1 + 1, 0, none⟩)]) rfl trivial (enters_of Tryd.func98 (by kernel_rfl) rfl)
    (each_stops (5 - 1) (w.heap.size + 1 + 1 + 1) (by decide) s hs W0 (by omega) bS.cell) keepS_t (fun W l o o' _ h ho _ => keepS_b W l o o' h ho) (Below.refl _ _) (fun _ => rfl)
    (fun pre W => ((∀ y ∈ pre, ((y : Nat) : Int) ≠ n) ∧ (Boxed W w.heap.size 3 (.int .i64 n) ∧ Boxed2 W (w.heap.size + 1) 74 (.int .i64 0) (.int .i64 0)) ∧ (Boxed W (w.heap.size + 1 + 1) 4 (.bool false) ∧ Boxed W (w.heap.size + 1 + 1 + 1) 9 (.string s))) ∧ Below w.heap.size w W)
    (fun c pre W => (c = .ret ∧ ∃ ini k, pre = ini ++ [k] ∧ n = ((k : Nat) : Int) ∧ Boxed2 W (w.heap.size + 1) 74 (.int .i64 (L.fr s k)) (.int .i64 (L.to s k)) ∧ Boxed W (w.heap.size + 1 + 1) 4 (.bool true)) ∧ Below w.heap.size w W)
    (OwnFrom.and (OwnFrom.and (ownFrom_pure _ _) (OwnFrom.and (OwnFrom.and (Own.from (boxed_own _ _ _) _) (Own.from (boxed2_own _ _ _ _) _)) (OwnFrom.and (Own.from (boxed_own _ _ _) _) (Own.from (boxed_own _ _ _) _)))) (ownFrom_below (Nat.le_refl _) (by omega)))
    (fun c => OwnFrom.and (lineX_own s n _ _ _ c) (ownFrom_below (Nat.le_refl _) (by omega)))
    ⟨⟨(fun y hy => by cases hy), ⟨bN, bR⟩, bO, bS⟩, hB0⟩
    (fun k a' W => ∃ B, w.heap.size + 1 + 1 + 1 < B ∧ Boxed2 W B 74 (.int .i64 (L.fr s k)) (.int .i64 (L.to s k)) ∧ a' = { tmps := #[.string s, .int .i64 n, undef, .pointer (some ⟨w.heap.size, 0, none⟩), .pointer (some ⟨w.heap.size + 1, 0, none⟩), .pointer (some ⟨w.heap.size + 1 + 1, 0, none⟩), .int .i64 k, .pointer (some ⟨B, 0, none⟩), .string s, .func (.func 98) #[] #[.pointer (some ⟨w.heap.size + 1 + 1 + 1, 0, none⟩)], .int .i64 k, .agg #[.int .i64 (L.fr s k), .int .i64 (L.to s k)], undef, undef, undef, undef, undef], defers := [] })
    (fun k a' _ X Y row hs hg hr => by obtain ⟨B, h1, h2, h3⟩ := hs; exact ⟨B, h1, boxed2_own B _ (fun _ => _) (fun _ => _) () X Y row h2 hg (fun r e => (hr r e).2), h3⟩)
    ?assign ?body ?done ?stop
  case assign =>
    rintro l pre x W K ⟨⟨hp, ⟨b1, b2⟩, b3, b4⟩, hB⟩ hK
    unfold span
    gi_wp2
    exact hK _ _ ((KeepsOthers.alloc _ _).from _) (fun _ => (b4.alloc _).cell) ⟨⟨hp, ⟨b1.alloc _, b2.alloc _⟩, b3.alloc _, b4.alloc _⟩, hB.alloc hB.size _⟩ ⟨W.heap.size, b4.lt, Boxed2.new W _ _ _, rfl⟩
  case body =>
    rintro l pre x a' W hl ⟨r, hr⟩ ⟨⟨hp, ⟨b1, b2⟩, b3, b4⟩, hB⟩ ⟨B, hBx, bX, rfl⟩ hlt
    have c1 := b1.cell
    have c2 := b2.cell0
    have f2 := b2.frozen0
    have c2' := b2.cell1
    have f2' := b2.frozen1
    have c3 := b3.cell
    have f3 := b3.frozen
    have cX := bX.cell0
    have cX' := bX.cell1
    gi_wp2
    · rename_i hx
      have hx : n = (x : Int) := (eq_of_beq hx).symm
      exact ⟨(((KeepsOthers.setCell _ _ _).trans (KeepsOthers.setCell _ _ _)).trans (KeepsOthers.setCell _ _ _)).from _, ⟨rfl, pre, x, rfl, hx, Boxed2.other ((b2.set0 _).set1 _) (by omega) _, Boxed.set _ (boxed_other (boxed_other b3 (by omega) _) (by omega) _)⟩,
        ((hB.setCell (p := ⟨w.heap.size + 1, 0, none⟩) (by simp) _).setCell (p := ⟨w.heap.size + 1, 1, none⟩) (by simp) _).setCell (p := ⟨w.heap.size + 1 + 1, 0, none⟩) (by simp; omega) _⟩
    · rename_i hx
      have hx : (x : Int) ≠ n := fun e => by rw [e] at hx; simp at hx
      exact ⟨KeepsFrom.refl _ _, fun c => c, ⟨fun y hy => (List.mem_append.1 hy).elim (hp y) (fun e => by simp at e; subst e; exact hx), ⟨b1, b2⟩, b3, b4⟩, hB⟩
  case done =>
    rintro D ys W hD rfl ⟨⟨hp, ⟨b1, b2⟩, b3, b4⟩, hB⟩ hK
    have c2 := b2.cell0
    have f2 := b2.frozen0
    have c2' := b2.cell1
    have f2' := b2.frozen1
    have c3 := b3.cell
    have f3 := b3.frozen
    gi_wp2
    have b2' := Boxed2.other (o := 0) ((b2.set0 (.int .i64 0)).set1 (.int .i64 0)) (show w.heap.size + 1 ≠ w.heap.size + 1 + 1 by omega) (.bool false)
    have b3' := Boxed.set (.bool false) (boxed_other (o := 1) (boxed_other (o := 0) b3 (show w.heap.size + 1 + 1 ≠ w.heap.size + 1 by omega) (.int .i64 0)) (show w.heap.size + 1 + 1 ≠ w.heap.size + 1 by omega) (.int .i64 0))
    have hB' := ((hB.setCell (p := ⟨w.heap.size + 1, 0, none⟩) (by simp) (.int .i64 0)).setCell (p := ⟨w.heap.size + 1, 1, none⟩) (by simp) (.int .i64 0)).setCell (p := ⟨w.heap.size + 1 + 1, 0, none⟩) (by simp; omega) (.bool false)
    have hK' := (((KeepsOthers.setCell W ⟨w.heap.size + 1, 0, none⟩ (.int .i64 0)).trans (KeepsOthers.setCell _ ⟨w.heap.size + 1, 1, none⟩ (.int .i64 0))).trans (KeepsOthers.setCell _ ⟨w.heap.size + 1 + 1, 0, none⟩ (.bool false))).same D _ hK rfl
    generalize ((W.setCell ⟨w.heap.size + 1, 0, none⟩ (.int .i64 0)).setCell ⟨w.heap.size + 1, 1, none⟩ (.int .i64 0)).setCell ⟨w.heap.size + 1 + 1, 0, none⟩ (.bool false) = W' at *
    refine ⟨by simp, .inl ⟨_, _, rfl, run_takeDeferred hK', ?_⟩⟩
    have k0 := cell_kept b2'.cell0 (grownBy_putObj' _ D (.deferred none)) (fun r e => by cases e; exact ⟨_, hK', rfl⟩)
    have k1 := cell_kept b2'.cell1 (grownBy_putObj' _ D (.deferred none)) (fun r e => by cases e; exact ⟨_, hK', rfl⟩)
    have k2 := cell_kept b3'.cell (grownBy_putObj' _ D (.deferred none)) (fun r e => by cases e; exact ⟨_, hK', rfl⟩)
    refine ⟨.tuple #[.agg #[.int .i64 0, .int .i64 0], .bool false], ?_, .inr ⟨?_, rfl⟩, hB'.trans (belowK_b (w := w) (Nat.le_refl _) _ D _ _ (by omega) hK' rfl rfl)⟩
    · simp [results, Tryd.results52, go_sem, k0, k1, k2]
    · by_cases h0 : n < 0
      · exact .inl h0
      · refine .inr ?_
        by_cases h1 : (L.mny s : Int) ≤ n
        · exact h1
        · exact absurd (show ((n.toNat : Nat) : Int) = n by omega) (hp n.toNat (by simp; omega))
  case stop =>
    rintro D c pre W hD ⟨k, hk, rfl⟩ ⟨⟨rfl, ini, k', e1, e2, bR1, bO1⟩, hB⟩ hK
    rw [List.range_succ] at e1
    obtain ⟨rfl, e5⟩ := List.append_inj' e1 rfl
    obtain rfl : k = k' := by simpa using e5
    clear e1 e5
    gi_wp2
    refine ⟨by simp, .inl ⟨_, _, rfl, run_takeDeferred hK, ?_⟩⟩
    have k0 := cell_kept bR1.cell0 (grownBy_putObj' _ D (.deferred none)) (fun r e => by cases e; exact ⟨_, hK, rfl⟩)
    have k1 := cell_kept bR1.cell1 (grownBy_putObj' _ D (.deferred none)) (fun r e => by cases e; exact ⟨_, hK, rfl⟩)
    have k2 := cell_kept bO1.cell (grownBy_putObj' _ D (.deferred none)) (fun r e => by cases e; exact ⟨_, hK, rfl⟩)
    refine ⟨.tuple #[span s k, .bool true], ?_, .inl ⟨k, e2, hk, rfl⟩, hB.trans (belowK_b (w := w) (Nat.le_refl _) W D _ _ (by omega) hK rfl rfl)⟩
    unfold span
    simp [results, Tryd.results52, go_sem, k0, k1, k2]
end Go.Proofs.YtjeopabnddekgaaDoor
