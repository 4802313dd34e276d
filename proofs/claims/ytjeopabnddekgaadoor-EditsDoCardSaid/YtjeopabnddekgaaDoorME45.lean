/- The loop's end: results are put into their boxes, in whatever order. Conditions: none. -/
import Derived.Test.YtjeopabnddekgaaDoorME44
namespace Go.Proofs.YtjeopabnddekgaaDoor
open Go Go.RowKit Go.Lib

/-- but for two boxes, which hold what they did or what comes back, all is as it was -/
structure Rl3 (w : World) (v u : Value) (W W' : World) : Prop where
  bel : Below w.heap.size W W'
  els : ∀ b : Nat, b ≠ w.heap.size → b ≠ w.heap.size + 1 → W'.heap[b]? = W.heap[b]?
  b1 : W'.heap[w.heap.size]? = W.heap[w.heap.size]? ∨ Boxed W' w.heap.size 24 v
  b2 : W'.heap[w.heap.size + 1]? = W.heap[w.heap.size + 1]? ∨ Boxed W' (w.heap.size + 1) 55 u
theorem Rl3.refl (w : World) (v u : Value) (W : World) : Rl3 w v u W W := ⟨Below.refl _ _, fun _ _ _ => rfl, .inl rfl, .inl rfl⟩
theorem Rl3.drew (w : World) (v u : Value) (W : World) : Rl3 w v u W W.drew := ⟨(Below.refl _ _).drew, fun _ _ _ => rfl, .inl rfl, .inl rfl⟩
theorem Rl3.trans {w : World} {v u : Value} {A B C : World} (h : Rl3 w v u A B) (k : Rl3 w v u B C) : Rl3 w v u A C := by
  refine ⟨h.bel.trans k.bel, fun b h1 h2 => (k.els b h1 h2).trans (h.els b h1 h2), ?_, ?_⟩
  · rcases k.b1 with e | e
    · rcases h.b1 with e' | e'
      · exact .inl (e.trans e')
      · exact .inr (e.trans e')
    · exact .inr e
  · rcases k.b2 with e | e
    · rcases h.b2 with e' | e'
      · exact .inl (e.trans e')
      · exact .inr (e.trans e')
    · exact .inr e
theorem Rl3.set1 {w : World} {v u : Value} {W : World} {x : Value} (h : Boxed W w.heap.size 24 x) : Rl3 w v u W (W.setCell ⟨w.heap.size, 0, none⟩ v) :=
  ⟨(Below.refl _ _).setCell (p := ⟨w.heap.size, 0, none⟩) (Nat.le_refl _) _, fun b h1 _ => Below.heap_setCell W ⟨w.heap.size, 0, none⟩ v b h1, .inr (h.set v), .inl (Below.heap_setCell W ⟨w.heap.size, 0, none⟩ v _ (by show w.heap.size + 1 ≠ w.heap.size; omega))⟩
theorem Rl3.set2 {w : World} {v u : Value} {W : World} {x : Value} (h : Boxed W (w.heap.size + 1) 55 x) : Rl3 w v u W (W.setCell ⟨w.heap.size + 1, 0, none⟩ u) :=
  ⟨(Below.refl _ _).setCell (p := ⟨w.heap.size + 1, 0, none⟩) (Nat.le_succ _) _, fun b _ h2 => Below.heap_setCell W ⟨w.heap.size + 1, 0, none⟩ u b h2, .inl (Below.heap_setCell W ⟨w.heap.size + 1, 0, none⟩ u _ (by show w.heap.size ≠ w.heap.size + 1; omega)), .inr (h.set u)⟩
theorem Rl3.at1 {w : World} {v u : Value} {W W' : World} {x : Value} (h : Rl3 w v u W W') (hx : Boxed W w.heap.size 24 x) : ∃ y, Boxed W' w.heap.size 24 y := by
  rcases h.b1 with e | e
  · exact ⟨x, e.trans hx⟩
  · exact ⟨v, e⟩
theorem Rl3.at2 {w : World} {v u : Value} {W W' : World} {x : Value} (h : Rl3 w v u W W') (hx : Boxed W (w.heap.size + 1) 55 x) : ∃ y, Boxed W' (w.heap.size + 1) 55 y := by
  rcases h.b2 with e | e
  · exact ⟨x, e.trans hx⟩
  · exact ⟨u, e⟩
theorem Rl3.else {w : World} {v u : Value} {W W' : World} {B : Nat} {T : TypeId} {x : Value} (h : Rl3 w v u W W') (hx : Boxed W B T x) (h1 : B ≠ w.heap.size) (h2 : B ≠ w.heap.size + 1) : Boxed W' B T x := (h.els B h1 h2).trans hx
theorem Rl3.keep1 {w : World} {v u : Value} {W W' : World} (h : Rl3 w v u W W') (hx : Boxed W w.heap.size 24 v) : Boxed W' w.heap.size 24 v := by
  rcases h.b1 with e | e
  · exact e.trans hx
  · exact e
theorem Rl3.keep2 {w : World} {v u : Value} {W W' : World} (h : Rl3 w v u W W') (hx : Boxed W (w.heap.size + 1) 55 u) : Boxed W' (w.heap.size + 1) 55 u := by
  rcases h.b2 with e | e
  · exact e.trans hx
  · exact e
def FEn (w : World) (v u : Value) : Nat → Value → World → Prop
  | 0, y, _ => y = v
  | 1, y, _ => y = u
  | 2, _, W => Boxed W w.heap.size 24 v
  | 3, _, W => Boxed W (w.heap.size + 1) 55 u
  | _, _, _ => True
theorem FEn.on {w : World} {v u : Value} {i : Nat} {y : Value} {W W' : World} (h : FEn w v u i y W) (k : Rl3 w v u W W') : FEn w v u i y W' := by
  unfold FEn at h ⊢
  split at h
  · exact h
  · exact h
  · exact k.keep1 h
  · exact k.keep2 h
  · trivial
/-- what comes back -/
theorem do_fin {w : World} {B9 B1 B2 : Nat} {z : Option Addr} {cap : Nat} {L : List ChE} {x : ByteArray} {W W' : World} {D : Nat} {v u : Value} {t : R.T} (h : DoI w B9 B1 B2 z cap L x L.length W) (k : Rl3 w v u W W') (hR : RopeAt W v t) (hu : W.ownsRow (w.heap.size + 1 + 1 + 1 + 1) 63 3 u L.length (edCells (Ed.runD x (L.take L.length)).es))
    (hK : W'.heap[D]? = some (.deferred (some []))) (hD : w.heap.size + 1 + 1 < D) (r3 : Boxed W' (w.heap.size + 1 + 1) 25 (.int .i64 0)) :
    Below w.heap.size w ((W'.setCell ⟨w.heap.size + 1 + 1, 0, none⟩ (.int .i64 0)).putObj D (.deferred none)) ∧ RopeAt ((W'.setCell ⟨w.heap.size + 1 + 1, 0, none⟩ (.int .i64 0)).putObj D (.deferred none)) v t ∧ ((W'.setCell ⟨w.heap.size + 1 + 1, 0, none⟩ (.int .i64 0)).putObj D (.deferred none)).ownsRow w.heap.size 63 3 u L.length (edCells (Ed.runD x (L.take L.length)).es) := by
  have hK3 : (W'.setCell ⟨w.heap.size + 1 + 1, 0, none⟩ (.int .i64 0)).heap[D]? = some (.deferred (some [])) := (Below.heap_setCell W' ⟨w.heap.size + 1 + 1, 0, none⟩ _ D (by show D ≠ w.heap.size + 1 + 1; omega)).trans hK
  have hck : CK (W'.setCell ⟨w.heap.size + 1 + 1, 0, none⟩ (.int .i64 0)) ((W'.setCell ⟨w.heap.size + 1 + 1, 0, none⟩ (.int .i64 0)).putObj D (.deferred none)) := CK.own (grownBy_putObj' _ D _) (fun r e => by cases e; exact ⟨_, hK3, rfl⟩)
  have hrk : RK W W' := ⟨k.bel.size, fun b c tt hb ht => by
    have n1 : b ≠ w.heap.size := fun e => by
      subst e
      rw [show W.heap[w.heap.size]? = _ from h.r1] at hb
      cases hb
      rcases ht with e | e | e <;> exact absurd e (by decide)
    have n2 : b ≠ w.heap.size + 1 := fun e => by
      subst e
      rw [show W.heap[w.heap.size + 1]? = _ from h.r2] at hb
      cases hb
      rcases ht with e | e | e <;> exact absurd e (by decide)
    exact (k.els b n1 n2).trans hb⟩
  have hrow : W'.ownsRow w.heap.size 63 3 u L.length (edCells (Ed.runD x (L.take L.length)).es) := by
    rcases hu with ⟨hl, ⟨e, h0⟩ | ⟨g, cap', cur, e, hbg, hg, rest⟩⟩
    · exact ⟨hl, .inl ⟨e, h0⟩⟩
    · exact ⟨hl, .inr ⟨g, cap', cur, e, by omega, (k.els g (by omega) (by omega)).trans hg, rest⟩⟩
  refine ⟨?_, hR.rk ((hrk.trans (RK.set r3 (by decide) (by decide) (by decide) _)).trans hck.rk), owns_ck (owns_set hrow r3 (by decide) _) hck⟩
  exact below_own (Nat.le_refl _) (Nat.le_refl _) ((h.bel.trans k.bel).setCell (p := ⟨w.heap.size + 1 + 1, 0, none⟩) (by show w.heap.size ≤ w.heap.size + 1 + 1; omega) (.int .i64 0)) (grownBy_putObj' _ D (.deferred none)) (fun r e => by cases e; exact ⟨by omega, _, hK3, rfl⟩)
end Go.Proofs.YtjeopabnddekgaaDoor
