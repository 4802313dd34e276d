/- The next stretches. Conditions: none. -/
import Derived.Test.YtglanajglhneeaaMX42
namespace Go.Proofs.Ytglanajglhneeaa
open Go Go.RowKit Go.Lib

def EdRow (w : World) (b : Nat) (x y : Int) : Prop := w.heap[b]? = some (.cells #[.int .i64 x, .int .i64 y] 32 (0, 0))
theorem info_edspan : (Try.prog.info? 32).map (·.size) = some 2 := by kernel_rfl
theorem one_edspan (x y : Int) : (#[Value.int .i64 x, Value.int .i64 y].all (·.oneCell')) = true := by simp [Value.oneCell']
theorem EdRow.set {w : World} {b : Nat} {x y : Int} (h : EdRow w b x y) (x' y' : Int) : EdRow (w.setRow b #[.int .i64 x', .int .i64 y']) b x' y' := by
  unfold EdRow at *
  simp [World.setRow, Array.getElem?_modify, h]
theorem EdRow.other {w : World} {b g : Nat} {x y : Int} (h : EdRow w b x y) (c : Array Value) (hne : b ≠ g) : EdRow (w.setRow g c) b x y := by
  unfold EdRow at *
  simp [World.setRow, Array.getElem?_modify, h, Ne.symm hne]
theorem EdRow.below {w w' : World} {b : Nat} {x y : Int} (h : EdRow w b x y) (hB : Below w.heap.size w w') : EdRow w' b x y := (hB.block b (Array.getElem?_eq_some_iff.1 h).1).trans h
theorem EdRow.cell0 {w : World} {b : Nat} {x y : Int} (h : EdRow w b x y) : w.cell? ⟨b, 0, none⟩ = some (.int .i64 x) := by rw [Lib.cell_of_heap h]; rfl
theorem EdRow.cell1 {w : World} {b : Nat} {x y : Int} (h : EdRow w b x y) : w.cell? ⟨b, 1, none⟩ = some (.int .i64 y) := by rw [Lib.cell_of_heap h]; rfl
theorem edspan_ret2 {fn : Func} {p q : Tmp} (h : fn.results = #[.cell p 32, .cell q 32]) {Q : Ending → World → Prop} (a : Act) (w : World) (g g2 : Nat) (x y x2 y2 : Int) (hp : a.tmps.getD p undef = .pointer (some ⟨g, 0, none⟩)) (hq : a.tmps.getD q undef = .pointer (some ⟨g2, 0, none⟩)) (hd : a.defers = []) (hg : EdRow w g x y) (hg2 : EdRow w g2 x2 y2) (hQ : Q (.returned (.tuple #[.agg #[.int .i64 x, .int .i64 y], .agg #[.int .i64 x2, .int .i64 y2]])) w) : bodyPost Try.prog fn Q .ret a w := by
  have hp' : a.tmps[p]?.getD undef = .pointer (some ⟨g, 0, none⟩) := by simpa using hp
  have hq' : a.tmps[q]?.getD undef = .pointer (some ⟨g2, 0, none⟩) := by simpa using hq
  refine bodyPost_ret (v := .tuple #[.agg #[.int .i64 x, .int .i64 y], .agg #[.int .i64 x2, .int .i64 y2]]) ?_ hd hQ
  simp [results, h, hp', hq', asAddr, run_loadVar_row w g _ _ _ (0, 0) _ hg Try.underlying32 rfl info_edspan, run_loadVar_row w g2 _ _ _ (0, 0) _ hg2 Try.underlying32 rfl info_edspan]
theorem edspan_ret3 {fn : Func} {p q r : Tmp} (h : fn.results = #[.cell p 32, .cell q 32, .tmp r]) {Q : Ending → World → Prop} (a : Act) (w : World) (g g2 : Nat) (x y x2 y2 : Int) (z : Value) (hp : a.tmps.getD p undef = .pointer (some ⟨g, 0, none⟩)) (hq : a.tmps.getD q undef = .pointer (some ⟨g2, 0, none⟩)) (hr : a.tmps.getD r undef = z) (hd : a.defers = []) (hg : EdRow w g x y) (hg2 : EdRow w g2 x2 y2) (hQ : Q (.returned (.tuple #[.agg #[.int .i64 x, .int .i64 y], .agg #[.int .i64 x2, .int .i64 y2], z])) w) : bodyPost Try.prog fn Q .ret a w := by
  have hp' : a.tmps[p]?.getD undef = .pointer (some ⟨g, 0, none⟩) := by simpa using hp
  have hq' : a.tmps[q]?.getD undef = .pointer (some ⟨g2, 0, none⟩) := by simpa using hq
  have hr' : a.tmps[r]?.getD undef = z := by simpa using hr
  refine bodyPost_ret (v := .tuple #[.agg #[.int .i64 x, .int .i64 y], .agg #[.int .i64 x2, .int .i64 y2], z]) ?_ hd hQ
  simp [results, h, hp', hq', hr', asAddr, run_loadVar_row w g _ _ _ (0, 0) _ hg Try.underlying32 rfl info_edspan, run_loadVar_row w g2 _ _ _ (0, 0) _ hg2 Try.underlying32 rfl info_edspan]
theorem five_new (w : World) (a b c d e : Obj) : (((((w.alloc a).alloc b).alloc c).alloc d).alloc e).heap[w.heap.size]? = some a ∧ (((((w.alloc a).alloc b).alloc c).alloc d).alloc e).heap[w.heap.size + 1]? = some b ∧ (((((w.alloc a).alloc b).alloc c).alloc d).alloc e).heap[w.heap.size + 1 + 1]? = some c ∧ (((((w.alloc a).alloc b).alloc c).alloc d).alloc e).heap[w.heap.size + 1 + 1 + 1]? = some d ∧ (((((w.alloc a).alloc b).alloc c).alloc d).alloc e).heap[w.heap.size + 1 + 1 + 1 + 1]? = some e ∧ (((((w.alloc a).alloc b).alloc c).alloc d).alloc e).heap.size = w.heap.size + 1 + 1 + 1 + 1 + 1 := by
  have h : (((((w.alloc a).alloc b).alloc c).alloc d).alloc e).heap = ((((w.heap.push a).push b).push c).push d).push e := rfl
  rw [h]
  refine ⟨?_, ?_, ?_, ?_, ?_, by simp⟩ <;> simp only [Array.getElem?_push, Array.size_push] <;> (repeat (first | rw [if_pos rfl] | rw [if_pos trivial] | rw [if_neg (by omega)]))
set_option maxHeartbeats 4000000 in
set_option maxRecDepth 100000 in
theorem widened_any (a b a2 c : Int) (e : EdE) (w : World) : Calls Try.prog 42 #[.agg #[.int .i64 a, .int .i64 b], .agg #[.int .i64 a2, .int .i64 c], .agg #[.int .i64 e.f, .int .i64 e.k, .string e.s]] w
    (fun en w' => en = .returned (.tuple #[.agg #[.int .i64 (min a2 e.f), .int .i64 (Ed.wr (Ed.wr (b + max c e.k) - c))], .agg #[.int .i64 (min a2 e.f), .int .i64 (Ed.wr (max c e.k + Ed.wr ((e.s.size : Int) - Ed.wr (e.k - e.f))))]]) ∧ Below w.heap.size w w') := by
  obtain ⟨M, hM⟩ : ∃ M, min a2 e.f = M := ⟨_, rfl⟩
  obtain ⟨X, hX⟩ : ∃ X, max c e.k = X := ⟨_, rfl⟩
  rw [hM, hX]
  have HM := Lib.hid (show (M = a2 ∧ a2 ≤ e.f) ∨ (M = e.f ∧ e.f < a2) by omega)
  have HX := Lib.hid (show (X = c ∧ e.k ≤ c) ∨ (X = e.k ∧ c < e.k) by omega)
  have hB5 : Below w.heap.size w (((((w.alloc (.cells #[.int .i64 a, .int .i64 b] 32)).alloc (.cells #[.int .i64 a2, .int .i64 c] 32)).alloc (.cells #[.int .i64 e.f, .int .i64 e.k, .string e.s] 48)).alloc (.cells #[.int .i64 0, .int .i64 0] 32)).alloc (.cells #[.int .i64 0, .int .i64 0] 32)) :=
    below_al (below_al (below_al (below_al (below_al (Below.refl _ _) _) _) _) _) _
  have hR : EdRow (((((w.alloc (.cells #[.int .i64 a, .int .i64 b] 32)).alloc (.cells #[.int .i64 a2, .int .i64 c] 32)).alloc (.cells #[.int .i64 e.f, .int .i64 e.k, .string e.s] 48)).alloc (.cells #[.int .i64 0, .int .i64 0] 32)).alloc (.cells #[.int .i64 0, .int .i64 0] 32)) w.heap.size a b ∧ EdRow (((((w.alloc (.cells #[.int .i64 a, .int .i64 b] 32)).alloc (.cells #[.int .i64 a2, .int .i64 c] 32)).alloc (.cells #[.int .i64 e.f, .int .i64 e.k, .string e.s] 48)).alloc (.cells #[.int .i64 0, .int .i64 0] 32)).alloc (.cells #[.int .i64 0, .int .i64 0] 32)) (w.heap.size + 1) a2 c ∧ ((((((w.alloc (.cells #[.int .i64 a, .int .i64 b] 32)).alloc (.cells #[.int .i64 a2, .int .i64 c] 32)).alloc (.cells #[.int .i64 e.f, .int .i64 e.k, .string e.s] 48)).alloc (.cells #[.int .i64 0, .int .i64 0] 32)).alloc (.cells #[.int .i64 0, .int .i64 0] 32))).heap[w.heap.size + 1 + 1]? = some (.cells #[.int .i64 e.f, .int .i64 e.k, .string e.s] 48 (0, 0)) ∧ EdRow (((((w.alloc (.cells #[.int .i64 a, .int .i64 b] 32)).alloc (.cells #[.int .i64 a2, .int .i64 c] 32)).alloc (.cells #[.int .i64 e.f, .int .i64 e.k, .string e.s] 48)).alloc (.cells #[.int .i64 0, .int .i64 0] 32)).alloc (.cells #[.int .i64 0, .int .i64 0] 32)) (w.heap.size + 1 + 1 + 1) 0 0 ∧ EdRow (((((w.alloc (.cells #[.int .i64 a, .int .i64 b] 32)).alloc (.cells #[.int .i64 a2, .int .i64 c] 32)).alloc (.cells #[.int .i64 e.f, .int .i64 e.k, .string e.s] 48)).alloc (.cells #[.int .i64 0, .int .i64 0] 32)).alloc (.cells #[.int .i64 0, .int .i64 0] 32)) (w.heap.size + 1 + 1 + 1 + 1) 0 0 ∧ ((((((w.alloc (.cells #[.int .i64 a, .int .i64 b] 32)).alloc (.cells #[.int .i64 a2, .int .i64 c] 32)).alloc (.cells #[.int .i64 e.f, .int .i64 e.k, .string e.s] 48)).alloc (.cells #[.int .i64 0, .int .i64 0] 32)).alloc (.cells #[.int .i64 0, .int .i64 0] 32))).heap.size = w.heap.size + 1 + 1 + 1 + 1 + 1 := five_new w _ _ _ _ _
  have H0 := Lib.hid (And.intro hB5 hR)
  clear hB5 hR hM hX
  go_enter Try.func42, Try.ntmps42
  go_upto_region 1 with fail
  generalize (((((w.alloc (.cells #[.int .i64 a, .int .i64 b] 32)).alloc (.cells #[.int .i64 a2, .int .i64 c] 32)).alloc (.cells #[.int .i64 e.f, .int .i64 e.k, .string e.s] 48)).alloc (.cells #[.int .i64 0, .int .i64 0] 32)).alloc (.cells #[.int .i64 0, .int .i64 0] 32)) = W0 at *
  have KEEP := Lib.hid (fun w' (hB : Below W0.heap.size W0 w') => (show (w'.cell? ⟨w.heap.size + 1, 0, none⟩ = some (.int .i64 a2) ∧ w'.cell? ⟨w.heap.size + 1, 1, none⟩ = some (.int .i64 c)) ∧ w'.cell? ⟨w.heap.size + 1 + 1, 0, none⟩ = some (.int .i64 e.f) ∧ w'.cell? ⟨w.heap.size + 1 + 1, 1, none⟩ = some (.int .i64 e.k) from by
    obtain ⟨-, -, r1, r2, -, -, hz⟩ := H0.out
    have k1 := (hB.block (w.heap.size + 1) (by omega)).trans r1
    have k2 := (hB.block (w.heap.size + 1 + 1) (by omega)).trans r2
    refine ⟨⟨?_, ?_⟩, ?_, ?_⟩ <;> first | (rw [Lib.cell_of_heap k1]; rfl) | (rw [Lib.cell_of_heap k2]; rfl)))
  obtain ⟨⟨x0, x1⟩, x2, x3⟩ := KEEP.out W0 (Below.refl _ _)
  go_region_held3 (fun w' => (w'.cell? ⟨w.heap.size + 1, 0, none⟩ = some (.int .i64 a2) ∧ w'.cell? ⟨w.heap.size + 1, 1, none⟩ = some (.int .i64 c)) ∧ w'.cell? ⟨w.heap.size + 1 + 1, 0, none⟩ = some (.int .i64 e.f) ∧ w'.cell? ⟨w.heap.size + 1 + 1, 1, none⟩ = some (.int .i64 e.k))
    (first | exact KEEP.out _ (Below.refl _ _).drew | exact KEEP.out _ (Below.refl _ _))
    (fail)
  all_goals
    clear KEEP x0 x1 x2 x3
    obtain ⟨-, r0, r1, r2, r3, r4, hz⟩ := H0.out
    have y0 : W0.cell? ⟨w.heap.size, 1, none⟩ = some (.int .i64 b) := by rw [Lib.cell_of_heap r0]; rfl
    have y1 : W0.cell? ⟨w.heap.size + 1, 1, none⟩ = some (.int .i64 c) := by rw [Lib.cell_of_heap r1]; rfl
    have y2 : W0.cell? ⟨w.heap.size + 1 + 1, 0, none⟩ = some (.int .i64 e.f) := by rw [Lib.cell_of_heap r2]; rfl
    have y3 : W0.cell? ⟨w.heap.size + 1 + 1, 1, none⟩ = some (.int .i64 e.k) := by rw [Lib.cell_of_heap r2]; rfl
    have y4 : W0.cell? ⟨w.heap.size + 1 + 1, 2, none⟩ = some (.string e.s) := by rw [Lib.cell_of_heap r2]; rfl
    clear r0 r1 r2
    have HFin := Lib.hid (fun p q : Int => (show EdRow ((W0.drew.setRow (w.heap.size + 1 + 1 + 1) #[.int .i64 M, .int .i64 p]).setRow (w.heap.size + 1 + 1 + 1 + 1) #[.int .i64 M, .int .i64 q]) (w.heap.size + 1 + 1 + 1) M p ∧ EdRow ((W0.drew.setRow (w.heap.size + 1 + 1 + 1) #[.int .i64 M, .int .i64 p]).setRow (w.heap.size + 1 + 1 + 1 + 1) #[.int .i64 M, .int .i64 q]) (w.heap.size + 1 + 1 + 1 + 1) M q ∧ Below w.heap.size w ((W0.drew.setRow (w.heap.size + 1 + 1 + 1) #[.int .i64 M, .int .i64 p]).setRow (w.heap.size + 1 + 1 + 1 + 1) #[.int .i64 M, .int .i64 q]) from
      ⟨(EdRow.set (w := W0.drew) r3 M p).other _ (by omega), EdRow.set (EdRow.other (w := W0.drew) r4 _ (by omega)) M q, (below_setRow (below_setRow H0.out.1.drew (by omega) _) (by omega) _)⟩))
    rcases HM.out with ⟨rfl, hm2⟩ | ⟨rfl, hm2⟩ <;> rcases HX.out with ⟨rfl, hx2⟩ | ⟨rfl, hx2⟩
    · have HFn := Lib.hid (HFin.out (Ed.wr (Ed.wr (b + X) - X)) (Ed.wr (X + Ed.wr ((e.s.size : Int) - Ed.wr (e.k - e.f)))))
      go_wp2_with (first
        | (refine wpList_store_row rfl 32 _ _ rfl (w.heap.size + 1 + 1 + 1) #[.int .i64 M, .int .i64 (Ed.wr (Ed.wr (b + X) - X))] (by rfl) (by rfl) 32 _ r3 info_edspan rfl (one_edspan _ _) ?_)
        | (refine wpList_store_row rfl 32 _ _ rfl (w.heap.size + 1 + 1 + 1 + 1) #[.int .i64 M, .int .i64 (Ed.wr (X + Ed.wr ((e.s.size : Int) - Ed.wr (e.k - e.f))))] (by rfl) (by rfl) 32 _ (EdRow.other (w := W0.drew) r4 _ (by omega)) info_edspan rfl (one_edspan _ _) ?_))
      exact edspan_ret2 (by rfl) _ _ (w.heap.size + 1 + 1 + 1) (w.heap.size + 1 + 1 + 1 + 1) _ _ _ _ (by rfl) (by rfl) rfl HFn.out.1 HFn.out.2.1 ⟨rfl, HFn.out.2.2⟩
    · have HFn := Lib.hid (HFin.out (Ed.wr (Ed.wr (b + e.k) - c)) (Ed.wr (e.k + Ed.wr ((e.s.size : Int) - Ed.wr (e.k - e.f)))))
      go_wp2_with (first
        | (refine wpList_store_row rfl 32 _ _ rfl (w.heap.size + 1 + 1 + 1) #[.int .i64 M, .int .i64 (Ed.wr (Ed.wr (b + e.k) - c))] (by rfl) (by rfl) 32 _ r3 info_edspan rfl (one_edspan _ _) ?_)
        | (refine wpList_store_row rfl 32 _ _ rfl (w.heap.size + 1 + 1 + 1 + 1) #[.int .i64 M, .int .i64 (Ed.wr (e.k + Ed.wr ((e.s.size : Int) - Ed.wr (e.k - e.f))))] (by rfl) (by rfl) 32 _ (EdRow.other (w := W0.drew) r4 _ (by omega)) info_edspan rfl (one_edspan _ _) ?_))
      exact edspan_ret2 (by rfl) _ _ (w.heap.size + 1 + 1 + 1) (w.heap.size + 1 + 1 + 1 + 1) _ _ _ _ (by rfl) (by rfl) rfl HFn.out.1 HFn.out.2.1 ⟨rfl, HFn.out.2.2⟩
    · have HFn := Lib.hid (HFin.out (Ed.wr (Ed.wr (b + X) - X)) (Ed.wr (X + Ed.wr ((e.s.size : Int) - Ed.wr (e.k - e.f)))))
      go_wp2_with (first
        | (refine wpList_store_row rfl 32 _ _ rfl (w.heap.size + 1 + 1 + 1) #[.int .i64 e.f, .int .i64 (Ed.wr (Ed.wr (b + X) - X))] (by rfl) (by rfl) 32 _ r3 info_edspan rfl (one_edspan _ _) ?_)
        | (refine wpList_store_row rfl 32 _ _ rfl (w.heap.size + 1 + 1 + 1 + 1) #[.int .i64 e.f, .int .i64 (Ed.wr (X + Ed.wr ((e.s.size : Int) - Ed.wr (e.k - e.f))))] (by rfl) (by rfl) 32 _ (EdRow.other (w := W0.drew) r4 _ (by omega)) info_edspan rfl (one_edspan _ _) ?_))
      exact edspan_ret2 (by rfl) _ _ (w.heap.size + 1 + 1 + 1) (w.heap.size + 1 + 1 + 1 + 1) _ _ _ _ (by rfl) (by rfl) rfl HFn.out.1 HFn.out.2.1 ⟨rfl, HFn.out.2.2⟩
    · have HFn := Lib.hid (HFin.out (Ed.wr (Ed.wr (b + e.k) - c)) (Ed.wr (e.k + Ed.wr ((e.s.size : Int) - Ed.wr (e.k - e.f)))))
      go_wp2_with (first
        | (refine wpList_store_row rfl 32 _ _ rfl (w.heap.size + 1 + 1 + 1) #[.int .i64 e.f, .int .i64 (Ed.wr (Ed.wr (b + e.k) - c))] (by rfl) (by rfl) 32 _ r3 info_edspan rfl (one_edspan _ _) ?_)
        | (refine wpList_store_row rfl 32 _ _ rfl (w.heap.size + 1 + 1 + 1 + 1) #[.int .i64 e.f, .int .i64 (Ed.wr (e.k + Ed.wr ((e.s.size : Int) - Ed.wr (e.k - e.f))))] (by rfl) (by rfl) 32 _ (EdRow.other (w := W0.drew) r4 _ (by omega)) info_edspan rfl (one_edspan _ _) ?_))
      exact edspan_ret2 (by rfl) _ _ (w.heap.size + 1 + 1 + 1) (w.heap.size + 1 + 1 + 1 + 1) _ _ _ _ (by rfl) (by rfl) rfl HFn.out.1 HFn.out.2.1 ⟨rfl, HFn.out.2.2⟩
end Go.Proofs.Ytglanajglhneeaa
