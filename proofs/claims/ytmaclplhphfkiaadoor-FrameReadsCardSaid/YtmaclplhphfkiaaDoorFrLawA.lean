/- A slice's bytes are fed; the arguments of the laws, as they read; two readers apart. Conditions: such lengths as memory bears. -/
import Derived.Test.YtmaclplhphfkiaaDoorFrAwake
namespace Go.Proofs.YtmaclplhphfkiaaDoor
open Go Go.RowKit Go.Lib F

def SaysYes (w : World) (e : Ending) (w' : World) : Prop := e = .returned (.bool true) ∧ Below w.heap.size w w'
/-- bytes are fed to a reader that lives -/
def FedE (A : Nat → Prop) (R : Nat) (st : St) (x : Rs) (w : World) (e : Ending) (w' : World) : Prop :=
  (∃ v, e = .returned (.int .i64 v) ∧ (st.err = 0 → v = (x.1.err : Nat))) ∧ Alt A w w' ∧ RdAt w' (Grow A w) R x.1 x.2
set_option maxRecDepth 100000 in
set_option maxHeartbeats 400000 in
theorem feed_nil (R : Nat) (st : St) (out : List Bs) (A : Nat → Prop) (w : World) (hR : RdAt w A R st out) (h0 : st.err = 0) :
    Calls Tryd.prog 21 #[.pointer (some ⟨R, 0, none⟩), .slice none 0 0] w (Stay (.int .i64 0) w) := by
  obtain ⟨part, bodies, size, hb, -, -, -, -⟩ := hR
  have hm := isMade_yes R _ _ _ _ _ w hb
  obtain ⟨-, -, -, -, -, c5⟩ := hb.cells
  rw [h0] at c5
  change w.cell? ⟨R, 5, none⟩ = some (.int .i64 0) at c5
  clear hb
  go_enter Tryd.func21, Tryd.ntmps21
  go_wp2_with fail
  refine hm.mono ?_
  rintro e w' ⟨rfl, rfl⟩
  clear hm
  go_wp2_with fail
  go_loopw [1] (fun v wr => v = .slice none 0 0 ∧ wr = w) (fun _ _ => 0)
  case atStart => exact ⟨rfl, rfl⟩
  case round =>
    obtain ⟨rfl, rfl⟩ := hrel
    go_wp2_with fail
    go_ret
    exact ⟨rfl, rfl⟩
theorem feed_tail (R : Nat) (v : Value) (st : St) (l : Bs) (out : List Bs) (A : Nat → Prop) (w : World) (hR : RdAt w A R st out) (hst : st.ok) (hT : Tail w 5 v (c8 l)) (hg : ∀ b, v.ownBlock = some b → ¬ A b) (hl : l.length ≤ 1000000000)
    (ho : out.length ≤ 100000000000) (hE : Env A w) : Calls Tryd.prog 21 #[.pointer (some ⟨R, 0, none⟩), v] w (FedE A R st (run (st, out) l) w) := by
  by_cases h0 : st.err = 0
  · rcases hT with ⟨rfl, hx⟩ | ⟨g, off, cap, cur, rfl, hh, h1, h2, h3, h4⟩
    · have : l = [] := by cases l with | nil => rfl | cons _ _ => cases hx
      subst this
      refine (feed_nil R st out A w hR h0).mono fun e w' h => ?_
      obtain ⟨he, rfl⟩ := h
      exact ⟨⟨_, he, fun _ => by show (0 : Int) = ((run (st, out) []).1.err : Nat); rw [run_nil, h0]; rfl⟩, Alt.refl _ _, hR.imp fun b _ h => .inl h⟩
    · rw [c8_len] at h1 ⊢
      refine (feed_any bsOk R g off cap st l out A w hR hst h0 h1 (by unfold maxLen at h2; omega) hl ho (fun j x hj => ?_) (fun _ => hg g rfl) hE).mono fun e w' h => ⟨⟨_, h.1, fun _ => rfl⟩, h.2⟩
      rw [cell_of_row w g (off + j) cur 5 (0, 0) hh]
      exact h4 j _ (c8_at hj)
  · cases st with
    | head p => exact absurd rfl h0
    | body n p => exact absurd rfl h0
    | dead E =>
      refine (feed_dead R E _ out A w hR h0).mono fun e w' h => ?_
      obtain ⟨he, rfl⟩ := h
      refine ⟨⟨_, he, fun h => absurd h h0⟩, Alt.refl _ _, ?_⟩
      rw [run_dead]
      exact hR.imp fun b _ h => .inl h
/-- a row reads as these bytes -/
def RdB (w : World) (z : Option Addr) (l : Bs) : Prop := ∀ j x, l[j]? = some x → ∃ g off, z = some ⟨g, off, none⟩ ∧ w.cell? ⟨g, off + j, none⟩ = some (.int .u8 (x.toNat : Int))
/-- a slice reads as these bytes -/
def ArgB (w : World) (v : Value) (l : Bs) : Prop := ∃ z cap, v = .slice z l.length cap ∧ l.length ≤ cap ∧ cap ≤ 1000000000000000 ∧ RdB w z l
theorem RdB.below {w w' : World} {z : Option Addr} {l : Bs} (h : RdB w z l) (hB : Below w.heap.size w w') : RdB w' z l := fun j x hj => by
  obtain ⟨g, off, rfl, hcell⟩ := h j x hj
  exact ⟨g, off, rfl, cell_block hcell (hB.block _ (World.block_lt_of_cell? w _ hcell))⟩
/-- what an append of them asks -/
theorem RdB.news {w : World} {z : Option Addr} {l : Bs} (h : RdB w z l) : ∀ j u, (c8 l)[j]? = some u → ∃ a, z = some a ∧ w.cell? (a.add j) = some u := fun j u hj => by
  obtain ⟨x, hx, rfl⟩ := c8_get hj
  obtain ⟨g, off, hz, hc⟩ := h j x hx
  refine ⟨_, hz, ?_⟩
  have e : (⟨g, off, none⟩ : Addr).add j = ⟨g, off + j, none⟩ := by unfold Addr.add; split <;> simp_all
  rw [e]; exact hc
/-- an empty row, laid just now -/
theorem tail_empty (W : World) (e : TypeId) : Tail (W.alloc (.cells #[] e)) e (.slice (some ⟨W.heap.size, 0, none⟩) 0 0) [] :=
  .inr ⟨W.heap.size, 0, 0, #[], rfl, heap_alloc_new W _, Nat.le_refl _, Nat.zero_le _, Nat.zero_le _, fun j u h => by simp at h⟩
/-- behind an append to an empty row that was laid just now -/
structure Fresh (W w' : World) (v : Value) (l : Bs) : Prop where
  tail : Tail w' 5 v (c8 l)
  below : Below W.heap.size W w'
  own : ∀ b, v.ownBlock = some b → W.heap.size ≤ b
theorem fresh_of {W w' : World} {z : Option Addr} {n c : Nat} {l : Bs} {e : TypeId} (hT : Tail w' 5 (.slice z n c) (c8 l)) (hg : (W.alloc (.cells #[] e)).grownBy w' (some W.heap.size)) (hat : (Value.slice z n c).ownBlock = some W.heap.size ∨ (Value.slice z n c).ownBlock = some (W.heap.size + 1)) : Fresh W w' (.slice z n c) l :=
  ⟨hT, (((Below.refl _ W).alloc (Nat.le_refl _) _).grown hg (by simp) (fun k hk => by cases hk; exact Nat.le_refl _)), fun b hb => by rcases hat with h | h <;> (rw [hb] at h; cases h) <;> omega⟩
theorem fresh_more {W w1 w2 : World} {v v' : Value} {l m : Bs} (h : Fresh W w1 v l) (hT : Tail w2 5 v' (c8 l ++ c8 m)) (hg : w1.grownBy w2 v.ownBlock) (hat : v'.ownBlock = v.ownBlock ∨ v'.ownBlock = some w1.heap.size) : Fresh W w2 v' (l ++ m) :=
  ⟨by rw [c8_append]; exact hT, h.below.grown hg h.below.size (fun k hk => h.own k hk), fun b hb => by
    have hs := h.below.size
    rcases hat with e | e
    · exact h.own b (e ▸ hb)
    · rw [hb] at e; cases e; exact hs⟩
/-- one block, and those between two marks -/
def Own3 (R lo hi b : Nat) : Prop := b = R ∨ (lo ≤ b ∧ b < hi)
theorem rd_own {W w : World} {A : Nat → Prop} {R : Nat} {st : St} {out : List Bs} (h : RdAt w (Grow A W) R st out) (hA : ∀ b, A b → b = R) : RdAt w (Own3 R W.heap.size w.heap.size) R st out := h.imp fun b hb ha => by
  rcases ha with ha | ha
  · exact .inl (hA b ha)
  · exact .inr ⟨ha, hb⟩
theorem RdAt.below {w w' : World} {A : Nat → Prop} {R : Nat} {st : St} {out : List Bs} (h : RdAt w A R st out) (hB : Below w.heap.size w w') : RdAt w' A R st out := h.other (B := fun _ => False) (Alt.of_below hB) (fun _ _ _ h => h)
theorem alt_below {A : Nat → Prop} {w W W' : World} (hB : Below w.heap.size w W) (hA : Alt A W W') (h : ∀ b, A b → w.heap.size ≤ b) : Below w.heap.size w W' := hB.trans (hA.below (fun b hb _ => h b hb) hB.size)
theorem below_drewN {n : Nat} {w W : World} (h : Below n w W) (q : Nat) : Below n w (W.drewN q) := ⟨h.os, h.tape, h.output, h.size, h.block⟩
theorem run_more (lb lm : Bs) (x : Rs) : (run x (lb ++ lm)) = run (run x lb) lm := run_append x lb lm
/-- behind bytes that leave the reader alive: what it has told it keeps -/
theorem run_keep (x : Rs) (l : Bs) : ∃ t, (run x l).2 = x.2 ++ t := by
  obtain ⟨st, o⟩ := x
  exact ⟨(run (st, []) l).2, by rw [run_out]⟩
end Go.Proofs.YtmaclplhphfkiaaDoor
