/- The document's own reader of JSON: what it gives back, and the row of values that grows. Conditions: none. -/
import Derived.Test.YtbdpghmpdghnbaaDoorMJ25
import Derived.Test.YtbdpghmpdghnbaaDoorMJ28
import Derived.Test.YtbdpghmpdghnbaaDoorMJ30
namespace Go.Proofs.YtbdpghmpdghnbaaDoor
open Go Go.RowKit Go.Lib

/-- a value comes of reading, in memory of its own; without an error it is the one that is told -/
def RV (r : VR) (s : ByteArray) (B : Nat) (w : World) (en : Ending) (w' : World) : Prop :=
  ∃ (k : Nat) (x : ByteArray) (l f : V.T) (v u : Value), en = .returned (.agg #[.int .u8 k, .string x, v, u]) ∧ HS w' (fun b => w.heap.size ≤ b) 0 v l ∧ HS w' (fun b => w.heap.size ≤ b) 1 u f ∧ Fit ⟨#[]⟩ k x ∧
    St s r.2.1 r.2.2 B w' ∧ w.grownBy w' (some B) ∧ (r.2.2 = 0 → (k, x, l, f) = r.1)
theorem St.same {s : ByteArray} {p e B : Nat} {W W' : World} (h : St s p e B W) (hk : W'.heap[B]? = W.heap[B]?) : St s p e B W' := hk.trans h
theorem St.lt {s : ByteArray} {p e B : Nat} {W : World} (h : St s p e B W) : B < W.heap.size := (Array.getElem?_eq_some_iff.1 h).1
/-- what a loop of the reader keeps: its two boxes, where it stands -/
structure LB (s : ByteArray) (B n0 q e : Nat) (k a b : Value) (w W : World) : Prop where
  res : Blk4 W n0 25 (.int .u8 0) (.string ⟨#[]⟩) (.slice none 0 0) (.slice none 0 0)
  out : Blk4 W (n0 + 1) 25 k (.string ⟨#[]⟩) a b
  size : n0 + 2 ≤ W.heap.size
  st : St s q e B W
  grown : w.grownBy W (some B)
/-- a step of the reader that leaves the boxes -/
theorem LB.step {s : ByteArray} {B n0 q e q' e' : Nat} {k a b : Value} {w W W' : World} (h : LB s B n0 q e k a b w W) (hB : B < n0) (hs : St s q' e' B W') (g : W.grownBy W' (some B)) : LB s B n0 q' e' k a b w W' :=
  ⟨h.res.same (g.block _ h.res.lt (fun e => by cases e; omega)), h.out.same (g.block _ h.out.lt (fun e => by cases e; omega)), Nat.le_trans h.size g.size, hs, grown_trans h.grown g⟩
/-- values in a row of one's own -/
def VRw (base : Nat) (Rw : Value) (t : V.T) (W : World) : Prop := ∃ xs, W.ownsRow base 25 4 Rw t.len xs ∧ RP W (Aside base Rw) 0 t t.len xs
theorem VRw.keep {base B : Nat} {Rw : Value} {t : V.T} {W W' : World} (h : VRw base Rw t W) (hB : B < base) (g : W.grownBy W' (some B)) : VRw base Rw t W' := by
  obtain ⟨xs, ho, hr⟩ := h
  exact ⟨xs, ownsRow_keep ho hB g, hr.keep hB g⟩
theorem own_slice {w : World} {base : Nat} {e : TypeId} {size n : Nat} {v : Value} {xs : List Value} (h : w.ownsRow base e size v n xs) : ∃ p c, v = .slice p n c ∧ n ≤ c ∧ c ≤ maxLen := by
  rcases h.2 with ⟨e1, e2⟩ | ⟨k, cap, cur, e1, _, _, h1, h2, _⟩
  · exact ⟨none, 0, by rw [e1, e2], by omega, Nat.zero_le _⟩
  · exact ⟨_, cap, e1, h1, h2⟩
/-- the row behind an append, the box behind the store -/
theorem VRw.append {s : ByteArray} {B n0 q e q1 e1 : Nat} {kv b : Value} {w W w1 w2 : World} {Rw v2 u2 : Value} {t l f : V.T} {x : ByteArray} {k : Nat} {xs : List Value} {g cap : Nat} {O : Obj}
    (hB : B < n0) (hn : w.heap.size ≤ n0) (h : LB s B n0 q e kv Rw b w W) (ho : W.ownsRow (n0 + 2) 25 4 Rw t.len xs) (hr : RP W (Aside (n0 + 2) Rw) 0 t t.len xs)
    (g1 : W.grownBy w1 (some B)) (h1 : St s q1 e1 B w1) (hl : HS w1 (fun b => W.heap.size ≤ b) 0 v2 l) (hf : HS w1 (fun b => W.heap.size ≤ b) 1 u2 f) (hfit : Fit ⟨#[]⟩ k x)
    (ho2 : w2.ownsRow (n0 + 2) 25 4 (.slice (some ⟨g, 0, none⟩) (t.len + 1) cap) (t.len + 1) (xs ++ [.int .u8 k, .string x, v2, u2])) (g2 : (w1.alloc O).grownBy w2 Rw.ownBlock) (hat : Rw.ownBlock = some g ∨ g = w1.heap.size + 1) :
    LB s B n0 q1 e1 kv (.slice (some ⟨g, 0, none⟩) (t.len + 1) cap) b w (w2.setCell ⟨n0 + 1, 2, none⟩ (.slice (some ⟨g, 0, none⟩) (t.len + 1) cap)) ∧ VRw (n0 + 2) (.slice (some ⟨g, 0, none⟩) (t.len + 1) cap) (t.snoc ⟨#[]⟩ k x l f) (w2.setCell ⟨n0 + 1, 2, none⟩ (.slice (some ⟨g, 0, none⟩) (t.len + 1) cap)) := by
  have hab : ∀ j, Rw.ownBlock = some j → n0 + 2 ≤ j := fun j hj => (ho.lt j hj).1
  have ga := Below.heap_alloc w1 O
  have keep : ∀ j, j < w1.heap.size → j < n0 + 2 → w2.heap[j]? = w1.heap[j]? := fun j hj hn =>
    (g2.block j (by rw [World.size_alloc]; omega) (fun e => by have := hab j e.symm; omega)).trans (ga j hj)
  have kset : ∀ j, j ≠ n0 + 1 → (w2.setCell ⟨n0 + 1, 2, none⟩ (.slice (some ⟨g, 0, none⟩) (t.len + 1) cap)).heap[j]? = w2.heap[j]? := fun j hj => Below.heap_setCell _ _ _ j hj
  have z1 := g1.size
  have z2 := g2.size
  rw [World.size_alloc] at z2
  have z0 := h.size
  have zs : (w2.setCell ⟨n0 + 1, 2, none⟩ (.slice (some ⟨g, 0, none⟩) (t.len + 1) cap)).heap.size = w2.heap.size := by simp
  refine ⟨⟨?_, ?_, ?_, ?_, ?_⟩, ?_⟩
  · exact h.res.same ((kset _ (by omega)).trans ((keep _ (by omega) (by omega)).trans (g1.block _ (by omega) (fun e => by cases e; omega))))
  · exact (h.out.same ((keep _ (by omega) (by omega)).trans (g1.block _ (by omega) (fun e => by cases e; omega)))).set2 _
  · rw [zs]; omega
  · exact h1.same ((kset _ (by omega)).trans (keep _ h1.lt (by omega)))
  · refine ⟨?_, ?_, ?_, ?_, fun j hj hne => ?_⟩
    · exact g2.os.trans (g1.os.trans h.grown.os)
    · exact g2.tape.trans (g1.tape.trans h.grown.tape)
    · exact g2.output.trans (g1.output.trans h.grown.output)
    · rw [zs]; have := h.grown.size; omega
    · have := h.grown.size
      exact (kset j (by omega)).trans ((keep j (by omega) (by omega)).trans ((g1.block j (by omega) hne).trans (h.grown.block j hj hne)))
  · have r1 : RP (w1.alloc O) (Aside (n0 + 2) Rw) 0 t t.len xs := (hr.keep (by omega) g1).imp (fun _ a _ => a) (fun b _ hb => ga b hb)
    have l1 := ((hl.aside ho z0).alloc O).appended (n := t.len + 1) (cap := cap) g2 (by simpa using hat)
    have f1 := ((hf.aside ho z0).alloc O).appended (n := t.len + 1) (cap := cap) g2 (by simpa using hat)
    have r2 := ((r1.appended (n := t.len + 1) (cap := cap) g2 (by simpa using hat)).more ⟨#[]⟩ k x l f).snoc0 (V.T.snoc_new ..) rfl l1 f1 hfit
    refine ⟨xs ++ [.int .u8 k, .string x, v2, u2], ?_, ?_⟩
    · rw [V.T.snoc_len]; exact ownsRow_setCell_below ho2 (show n0 + 1 < n0 + 2 by omega) _
    · rw [V.T.snoc_len]
      exact r2.imp (fun _ a _ => a) (fun b a _ => kset b (by have := a.1; omega))
/-- the value of a box is given back -/
theorem LB.fin {s : ByteArray} {B n0 q e : Nat} {k : Nat} {a b : Value} {w W : World} {r : VR} {l f : V.T} (h : LB s B n0 q e (.int .u8 k) a b w W) (hB : B < n0) (hn : w.heap.size = n0) (hk : k < 256) (ha : HS W (fun j => n0 ≤ j ∧ j ≠ n0) 0 a l) (hb : HS W (fun j => n0 ≤ j ∧ j ≠ n0) 1 b f)
    (hr : r.2 = (q, e)) (h1 : r.2.2 = 0 → (k, (⟨#[]⟩ : ByteArray), l, f) = r.1) :
    RV r s B w (.returned (.agg #[.int .u8 k, .string ⟨#[]⟩, a, b])) ((((W.setCell ⟨n0, 0, none⟩ (.int .u8 k)).setCell ⟨n0, 1, none⟩ (.string ⟨#[]⟩)).setCell ⟨n0, 2, none⟩ a).setCell ⟨n0, 3, none⟩ b) := by
  have g4 := set4_else W n0 (.int .u8 k) (.string ⟨#[]⟩) a b
  have gg := (((grow_set W n0 0 (.int .u8 k)).trans (grow_set _ n0 1 (.string ⟨#[]⟩))).trans (grow_set _ n0 2 a)).trans (grow_set _ n0 3 b)
  refine ⟨k, ⟨#[]⟩, l, f, a, b, rfl, ha.imp (fun j hj _ => by omega) (fun j hj _ => g4 j hj.2), hb.imp (fun j hj _ => by omega) (fun j hj _ => g4 j hj.2), ⟨hk, by decide, by decide⟩, ?_, grow_new2 h.grown gg (by omega), h1⟩
  rw [hr]
  exact h.st.same (g4 B (by omega))
end Go.Proofs.YtbdpghmpdghnbaaDoor
