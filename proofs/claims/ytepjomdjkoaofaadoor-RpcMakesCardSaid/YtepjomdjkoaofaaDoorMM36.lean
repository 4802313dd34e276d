/- The law RpcMakes: what it starts from. Conditions: such as Go can hold. -/
import Derived.Test.YtepjomdjkoaofaaDoorMM05
import Derived.Test.YtepjomdjkoaofaaDoorMM08
import Derived.Test.YtepjomdjkoaofaaDoorMM10
import Derived.Test.YtepjomdjkoaofaaDoorMM34
import Derived.Test.YtepjomdjkoaofaaDoorMM31
import Derived.Test.YtepjomdjkoaofaaDoorMM35
import Derived.Test.YtepjomdjkoaofaaDoorMM28
import Derived.Test.YtepjomdjkoaofaaDoorMM24
import Derived.Test.YtepjomdjkoaofaaDoorMM06
namespace Go.Proofs.YtepjomdjkoaofaaDoor
open Go Go.RowKit Go.Lib

/-- the arguments, boxed -/
structure MkA (w : World) (k : Nat) (x : ByteArray) (v u : Value) (l f : V.T) (k2 : Nat) (x2 : ByteArray) (v2 u2 : Value) (l2 f2 : V.T) (W : World) : Prop where
  below : Below w.heap.size w W
  size : w.heap.size + 2 ≤ W.heap.size
  b0 : Blk4 W w.heap.size 25 (.int .u8 k) (.string x) v u
  b1 : Blk4 W (w.heap.size + 1) 25 (.int .u8 k2) (.string x2) v2 u2
  l : HS W (fun b => b < w.heap.size) 0 v l
  f : HS W (fun b => b < w.heap.size) 1 u f
  l2 : HS W (fun b => b < w.heap.size) 0 v2 l2
  f2 : HS W (fun b => b < w.heap.size) 1 u2 f2
theorem MkA.on {w : World} {k : Nat} {x : ByteArray} {v u : Value} {l f : V.T} {k2 : Nat} {x2 : ByteArray} {v2 u2 : Value} {l2 f2 : V.T} {W W' : World} (h : MkA w k x v u l f k2 x2 v2 u2 l2 f2 W) (hB : Below W.heap.size W W') : MkA w k x v u l f k2 x2 v2 u2 l2 f2 W' :=
  ⟨h.below.trans (hB.mono h.below.size), Nat.le_trans h.size hB.size, h.b0.same (hB.block _ h.b0.lt), h.b1.same (hB.block _ h.b1.lt), h.l.below hB, h.f.below hB, h.l2.below hB, h.f2.below hB⟩
/-- what lies below stays -/
theorem MkA.low {w : World} {k : Nat} {x : ByteArray} {v u : Value} {l f : V.T} {k2 : Nat} {x2 : ByteArray} {v2 u2 : Value} {l2 f2 : V.T} {W W' : World} {N : Nat} (h : MkA w k x v u l f k2 x2 v2 u2 l2 f2 W) (hN : w.heap.size + 2 ≤ N) (hB : Below N W W') : MkA w k x v u l f k2 x2 v2 u2 l2 f2 W' :=
  ⟨h.below.trans (hB.mono (by omega)), Nat.le_trans h.size hB.size, h.b0.same (hB.block _ (by omega)), h.b1.same (hB.block _ (by omega)), h.l.imp (fun _ a _ => a) (fun b hb _ => hB.block b (by omega)), h.f.imp (fun _ a _ => a) (fun b hb _ => hB.block b (by omega)), h.l2.imp (fun _ a _ => a) (fun b hb _ => hB.block b (by omega)), h.f2.imp (fun _ a _ => a) (fun b hb _ => hB.block b (by omega))⟩
theorem MkA.start {w : World} {A A2 : Nat → Prop} {k : Nat} {x : ByteArray} {v u : Value} {l f : V.T} {k2 : Nat} {x2 : ByteArray} {v2 u2 : Value} {l2 f2 : V.T} (hl : HS w A 0 v l) (hf : HS w A 1 u f) (hl2 : HS w A2 0 v2 l2) (hf2 : HS w A2 1 u2 f2) :
    MkA w k x v u l f k2 x2 v2 u2 l2 f2 ((w.alloc (.cells #[.int .u8 k, .string x, v, u] 25)).alloc (.cells #[.int .u8 k2, .string x2, v2, u2] 25)) := by
  have hb := two_below w (.cells #[.int .u8 k, .string x, v, u] 25) (.cells #[.int .u8 k2, .string x2, v2, u2] 25)
  have hz := two_size w (.cells #[.int .u8 k, .string x, v, u] 25) (.cells #[.int .u8 k2, .string x2, v2, u2] 25)
  have h2 := two_new w (.cells #[.int .u8 k, .string x, v, u] 25) (.cells #[.int .u8 k2, .string x2, v2, u2] 25)
  exact ⟨hb, by rw [hz]; exact Nat.le_refl _, h2.1, h2.2, (hl.mono (fun _ _ h => h)).below hb, (hf.mono (fun _ _ h => h)).below hb, (hl2.mono (fun _ _ h => h)).below hb, (hf2.mono (fun _ _ h => h)).below hb⟩
/-- what a call made: a value in blocks from lo to hi -/
def AR (lo hi : Nat) (_ : World) (b : Nat) : Prop := lo ≤ b ∧ b < hi
def RKV (A : Nat → Nat → World → Nat → Prop) (K : Nat → Nat) (X : Nat → ByteArray) (L F : Nat → V.T) (j : Nat) (v : Value) (lo hi : Nat) (W : World) : Prop :=
  ∃ p q, v = .agg #[.int .u8 (K j), .string (X j), p, q] ∧ HS W (A lo hi W) 0 p (L j) ∧ HS W (A lo hi W) 1 q (F j)
theorem rkv_keep {A : Nat → Nat → World → Nat → Prop} (hA : ∀ lo hi W W' b, A lo hi W b → W'.heap[b]? = W.heap[b]? → A lo hi W' b) (hA2 : ∀ lo hi W b, A lo hi W b → lo ≤ b ∧ b < hi) (K : Nat → Nat) (X : Nat → ByteArray) (L F : Nat → V.T) : RKeep (RKV A K X L F) := by
  rintro j v lo hi W W' ⟨p, q, h1, h2, h3⟩ hk
  exact ⟨p, q, h1, h2.imp (fun b hb _ => hA _ _ _ _ _ hb (hk b (hA2 _ _ _ _ hb).1 (hA2 _ _ _ _ hb).2)) (fun b hb _ => hk b (hA2 _ _ _ _ hb).1 (hA2 _ _ _ _ hb).2), h3.imp (fun b hb _ => hA _ _ _ _ _ hb (hk b (hA2 _ _ _ _ hb).1 (hA2 _ _ _ _ hb).2)) (fun b hb _ => hk b (hA2 _ _ _ _ hb).1 (hA2 _ _ _ _ hb).2)⟩
theorem ar_keep (K : Nat → Nat) (X : Nat → ByteArray) (L F : Nat → V.T) : RKeep (RKV AR K X L F) := rkv_keep (fun _ _ _ _ _ h _ => h) (fun _ _ _ _ h => h) K X L F
theorem sa_keep (K : Nat → Nat) (X : Nat → ByteArray) (L F : Nat → V.T) : RKeep (RKV SA K X L F) :=
  rkv_keep (fun _ _ W W' b h hk => ⟨h.1, h.2.1, fun j => (World.frozen?_of_block (w := W) (w' := W') (a := ⟨b, j, none⟩) hk).trans (h.2.2 j)⟩) (fun _ _ _ _ h => ⟨h.1, h.2.1⟩) K X L F
theorem rkv_own {K : Nat → Nat} {X : Nat → ByteArray} {L F : Nat → V.T} {j : Nat} {e : Ending} {w w' : World} (h : Own4 (K j) (X j) (L j) (F j) w e w') : ∃ v, e = .returned v ∧ RKV AR K X L F j v w.heap.size w'.heap.size w' ∧ Below w.heap.size w w' := by
  obtain ⟨p, q, rfl, h1, h2, hB⟩ := h
  exact ⟨_, rfl, ⟨p, q, rfl, h1.mono (fun _ a b => ⟨a, b⟩), h2.mono (fun _ a b => ⟨a, b⟩)⟩, hB⟩
theorem rkv_ownG {K : Nat → Nat} {X : Nat → ByteArray} {L F : Nat → V.T} {j : Nat} {e : Ending} {w w' : World} (h : Own4G (K j) (X j) (L j) (F j) w e w') : ∃ v, e = .returned v ∧ RKV SA K X L F j v w.heap.size w'.heap.size w' ∧ Below w.heap.size w w' := by
  obtain ⟨p, q, rfl, h1, h2, hB⟩ := h
  exact ⟨_, rfl, ⟨p, q, rfl, h1.mono (fun _ a b => ⟨a.1, b, a.2⟩), h2.mono (fun _ a b => ⟨a.1, b, a.2⟩)⟩, hB⟩
theorem msg_own {T : V.T} {w : World} {e : Ending} {w' : World} (h : MsgIs T w e w') : Own4 6 ⟨#[]⟩ .nil T w e w' := by
  obtain ⟨es, g, n, cap, rfl, rfl, rfl, h0, hn, hL, ho, hg, hB⟩ := h
  exact ⟨_, _, rfl, HS.nil _ _ _, hL.hs (fun e he => (ho e he).mono (fun b hb _ => hb.1)) (fun b hb => by cases hb; exact hg) (by omega), hB⟩
theorem two8_new (W : World) (k : Nat) (x : ByteArray) (v u : Value) (k2 : Nat) (x2 : ByteArray) (v2 u2 : Value) : Two8 W.heap.size k x v u k2 x2 v2 u2 (W.alloc (.cells #[.int .u8 k, .string x, v, u, .int .u8 k2, .string x2, v2, u2] 25)) := by
  have h := heap_alloc_new W (.cells #[.int .u8 k, .string x, v, u, .int .u8 k2, .string x2, v2, u2] 25)
  have hc := fun j => cell_of_row _ W.heap.size j _ _ (0, 0) h
  exact ⟨by rw [World.size_alloc]; exact Nat.lt_succ_self _, ⟨(hc 0).trans rfl, (hc 1).trans rfl, (hc 2).trans rfl, (hc 3).trans rfl⟩, (hc 4).trans rfl, (hc 5).trans rfl, (hc 6).trans rfl, (hc 7).trans rfl⟩
end Go.Proofs.YtepjomdjkoaofaaDoor
