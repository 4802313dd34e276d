/- A range over a function whose rounds hang on what the rounds before have left: the statement's meaning. Conditions: none. -/
import Derived.Test.YtjeopabnddekgaaDoorME42
namespace Go.Proofs.YtjeopabnddekgaaDoor
open Go Go.RowKit

/-- how a round may end -/
def RoundS (B : Nat) (I Ix : World → Prop) (W : World) : Exit → Act → World → Prop
  | .normal, _, W' => KeepsFrom B W W' ∧ I W'
  | .ret, _, W' => KeepsFrom B W W' ∧ Ix W'
  | _, _, _ => False
section
variable {F : Fence} {n : Nat} {P : Program}
/-- the loop's record -/
def recS (fn : FuncId) (a : Act) (ps : Array Tmp) (assign body : Code) (D : Nat) (st : LoopState) (pe : Option Code) : Loop := { state := st, pending := pe, fn, tmps := a.tmps, params := ps, assign, body, defers := D }
theorem wpIn_range_st {g : Operand} {ps : Array Tmp} {assign body : Code} {Q : Exit → Act → World → Prop} {a : Act} {w : World}
    (hro : F.round = none) (h1 : 1 ≤ n) {gf : Nat} {lb : Array Value} (hg : a.eval g = .func (.func gf) #[] lb) (hFg : F.fn gf) (eg : ∀ args w, (callFunc gf args).run P w = .ok (.enter gf args) w)
    (hps : ps.size = 2) (m : Nat) (Hd : World → Prop) (CI : Nat → World → (Value → Value → World → Prop) → Prop)
    (hseq : ∀ (l : Nat) (J : Nat → World → Prop) (Jx : World → Prop) (W : World), (∀ i W, J i W → Hd W) → (∀ i W o, J i W → J i (W.alloc o)) →
      (∀ i W, i < m → J i W → CI i W fun d er W1 => YieldAt F (n - 1 - 1) P l #[d, er] W1 fun e W' => (e = .returned (.bool true) ∧ J (i + 1) W') ∨ (e = .returned (.bool false) ∧ Jx W')) →
      J 0 W → CallsIn F (n - 1) P gf (#[.func (.yield l) #[] #[]] ++ lb) W fun e W' => (∃ v, e = .returned v) ∧ (J m W' ∨ Jx W'))
    (hCI : ∀ i W (R R' : Value → Value → World → Prop), (∀ d er W1, R d er W1 → R' d er W1) → CI i W R → CI i W R')
    (I : Nat → World → Prop) (Ix : World → Prop) (hI : OwnFrom w.heap.size I) (hIx : OwnFrom w.heap.size (fun (_ : Unit) W => Ix W)) (hHd : ∀ i W, I i W → Hd W) (h0 : I 0 w)
    (Iy : Nat → Value → Value → World → Prop) (hcall : ∀ i W, i < m → I i W → CI i W fun d er W1 => Iy i d er W1 ∧ Below W.heap.size W W1)
    (Iz : Nat → Act → World → Prop) (hIz : ∀ i a', OwnFrom w.heap.size (fun (_ : Unit) W => Iz i a' W))
    (hassign : ∀ (l i : Nat) (d er : Value) (W : World) (K : Act → World → Prop), i < m → w.heap.size < W.heap.size → Iy i d er W → (∀ a' W', KeepsFrom w.heap.size W W' → Iz i a' W' → K a' W') → assign.wpIn (F.inRound l) (n - 1 - 1) P (Exit.then K (fun _ _ _ => False)) { tmps := (ps.zip #[d, er]).foldl (fun t (p, v) => t.setIfInBounds p v) a.tmps, defers := [] } W)
    (hbody : ∀ (l i : Nat) (a' : Act) (W : World), i < m → w.heap.size < W.heap.size → Iz i a' W → body.wpIn (F.inRound l) (n - 1 - 1) P (RoundS w.heap.size (I (i + 1)) Ix W) a' W)
    (hdone : ∀ (D : Nat) (W : World), w.heap.size ≤ D → I m W → W.heap[D]? = some (.deferred (some [])) → Q .normal { a with defers := { target := .collected D, args := #[] } :: a.defers } W)
    (hstop : ∀ (D : Nat) (W : World), w.heap.size ≤ D → Ix W → W.heap[D]? = some (.deferred (some [])) → Code.ret.wpIn F n P Q { a with defers := { target := .collected D, args := #[] } :: a.defers } W) :
    (Code.rangeFunc g ps assign body).wpIn F n P Q a w := by
  refine wpIn_rangeFunc fun fn hfn => ?_
  rw [hro]
  let R := recS fn a ps assign body w.heap.size
  let w1 := (w.alloc (.deferred (some []))).alloc (.loop (R .ready none))
  have k1 : w1.heap[w.heap.size + 1]? = some (.loop (R .ready none)) := by
    have := World.alloc_heap_new (w.alloc (.deferred (some []))) (.loop (R .ready none)); rwa [World.size_alloc] at this
  have k0 : w1.heap[w.heap.size]? = some (.deferred (some [])) := (Below.heap_alloc _ _ _ (by simp)).trans (World.alloc_heap_new w _)
  refine ⟨w.heap.size + 1, [{ target := .collected w.heap.size, args := #[] }], w1, { target := .fn (.func gf) lb, args := #[.func (.yield (w.heap.size + 1)) #[] #[]] }, w1, gf, #[.func (.yield (w.heap.size + 1)) #[] #[]] ++ lb, w1,
    run_enterLoop_outer _ _ _ _ _, ?_, ?_, ?_, fun _ => h1, ?_⟩
  · simp only [resolve, hg]
    simp [go_sem]
  · intro f' hf'
    simp [Target.leads] at hf'
    subst hf'
    exact hFg
  · simp [invoke, go_sem, eg]
  let J := fun (i : Nat) (W : World) => I i W ∧ W.heap[w.heap.size + 1]? = some (.loop (R .ready none)) ∧ W.heap[w.heap.size]? = some (.deferred (some []))
  let Jx := fun (W : World) => Ix W ∧ W.heap[w.heap.size + 1]? = some (.loop (R .done (some .ret))) ∧ W.heap[w.heap.size]? = some (.deferred (some []))
  have hJA : ∀ i W o, J i W → J i (W.alloc o) := fun i W o h => ⟨hI.alloc o h.1, (Below.heap_alloc W o _ (Array.getElem?_eq_some_iff.1 h.2.1).1).trans h.2.1, (Below.heap_alloc W o _ (Array.getElem?_eq_some_iff.1 h.2.2).1).trans h.2.2⟩
  refine (hseq (w.heap.size + 1) J Jx w1 (fun i W h => hHd i W h.1) hJA ?_ ⟨hI.alloc _ (hI.alloc _ h0), k1, k0⟩).mono ?_
  · rintro i W0 hi ⟨hI0, hl0, hk0⟩
    refine hCI i W0 _ _ ?_ (hcall i W0 hi hI0)
    rintro d er W ⟨hy1, hB⟩
    have hl := (hB.block _ (Array.getElem?_eq_some_iff.1 hl0).1).trans hl0
    have hk := (hB.block _ (Array.getElem?_eq_some_iff.1 hk0).1).trans hk0
    have hy := run_yield (P := P) (args := #[d, er]) hl (by rw [show (R .ready none).params = ps from rfl, hps]; rfl)
    refine ⟨fn, _, assign, body, hy, roundIn_of_wpIn hfn (hassign _ i d er W _ hi (Array.getElem?_eq_some_iff.1 hk).1 hy1 (fun a' W' hKp hz => ⟨_, run_beginRound (hKp.same _ _ (by omega) hl rfl) rfl, ?_⟩))⟩
    have hl' := hKp.same _ _ (by omega) hl rfl
    have hk' := hKp.same _ _ (Nat.le_refl _) hk rfl
    have hlt : w.heap.size + 1 < W'.heap.size := (Array.getElem?_eq_some_iff.1 hl').1
    have hl2 : (W'.putObj (w.heap.size + 1) (.loop { R .ready none with state := .busy })).heap[w.heap.size + 1]? = some (.loop { R .ready none with state := .busy }) := World.putObj_heap_same hlt
    have hk2 : (W'.putObj (w.heap.size + 1) (.loop { R .ready none with state := .busy })).heap[w.heap.size]? = some (.deferred (some [])) := (World.putObj_heap_other (by omega)).trans hk'
    refine wpIn_mono (hbody _ i a' _ hi (Array.getElem?_eq_some_iff.1 hk2).1 ((hIz i a').putObj (s := ()) _ hz (by omega) hl' rfl)) ?_
    intro e a3 W3 hp
    cases e with
    | normal =>
      obtain ⟨hk3, hi3⟩ := hp
      have hl3 := hk3.same _ _ (by omega) hl2 rfl
      exact ⟨_, _, run_endRound (P := P) none hl3, .inl ⟨rfl, hI.putObj _ hi3 (by omega) hl3 rfl, World.putObj_heap_same (Array.getElem?_eq_some_iff.1 hl3).1, (World.putObj_heap_other (by omega)).trans (hk3.same _ _ (Nat.le_refl _) hk2 rfl)⟩⟩
    | ret =>
      obtain ⟨hk3, hi3⟩ := hp
      have hl3 := hk3.same _ _ (by omega) hl2 rfl
      exact ⟨_, _, run_endRound (P := P) (some .ret) hl3, .inr ⟨rfl, hIx.putObj (s := ()) _ hi3 (by omega) hl3 rfl, World.putObj_heap_same (Array.getElem?_eq_some_iff.1 hl3).1, (World.putObj_heap_other (by omega)).trans (hk3.same _ _ (Nat.le_refl _) hk2 rfl)⟩⟩
    | exit id => exact hp.elim
    | goto t => exact hp.elim
    | panic ch => exact hp.elim
    | outgrown => exact hp.elim
  · rintro e W2 ⟨⟨v, rfl⟩, (⟨hi, hl, hk⟩ | ⟨hi, hl, hk⟩)⟩
    · exact ⟨none, _, run_endLoop (P := P) hl (fun h => by cases h), hdone _ _ (Nat.le_refl _) (hI.putObj _ hi (by omega) hl rfl) ((World.putObj_heap_other (by omega)).trans hk)⟩
    · exact ⟨some .ret, _, run_endLoop (P := P) hl (fun h => by cases h), hstop _ _ (Nat.le_refl _) (hIx.putObj (s := ()) _ hi (by omega) hl rfl) ((World.putObj_heap_other (by omega)).trans hk)⟩
end
end Go.Proofs.YtjeopabnddekgaaDoor
