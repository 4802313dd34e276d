/- The law RpcMakes: its boxes, and what is written over. Conditions: such as Go can hold. -/
import Derived.Test.YtepjomdjkoaofaaDoorMM36
namespace Go.Proofs.YtepjomdjkoaofaaDoor
open Go Go.RowKit Go.Lib

def twoJ {α : Type} (a b : α) (j : Nat) : α := if j = 0 then a else b
def fourJ {α : Type} (a b c d : α) (j : Nat) : α := if j = 0 then a else if j = 1 then b else if j = 2 then c else d
/-- the arguments, and twins of them, boxed; all of it ahead of N -/
structure MkB (w : World) (N : Nat) (k : Nat) (x : ByteArray) (v u : Value) (l f : V.T) (k2 : Nat) (x2 : ByteArray) (v2 u2 : Value) (l2 f2 : V.T) (m9 m10 : Nat) (vm um vo uo : Value) (W : World) : Prop where
  a : MkA w k x v u l f k2 x2 v2 u2 l2 f2 W
  wn : w.heap.size + 2 ≤ N
  n9 : m9 < N
  n10 : m10 < N
  size : N ≤ W.heap.size
  b9 : Blk4 W m9 25 (.int .u8 k2) (.string x2) vm um
  b10 : Blk4 W m10 25 (.int .u8 k) (.string x) vo uo
  lm : HS W (fun b => b < N) 0 vm l2
  fm : HS W (fun b => b < N) 1 um f2
  lo : HS W (fun b => b < N) 0 vo l
  fo : HS W (fun b => b < N) 1 uo f
theorem MkB.low {w : World} {N : Nat} {k : Nat} {x : ByteArray} {v u : Value} {l f : V.T} {k2 : Nat} {x2 : ByteArray} {v2 u2 : Value} {l2 f2 : V.T} {m9 m10 : Nat} {vm um vo uo : Value} {W W' : World} (h : MkB w N k x v u l f k2 x2 v2 u2 l2 f2 m9 m10 vm um vo uo W) (hB : Below N W W') : MkB w N k x v u l f k2 x2 v2 u2 l2 f2 m9 m10 vm um vo uo W' :=
  ⟨h.a.low h.wn hB, h.wn, h.n9, h.n10, Nat.le_trans h.size hB.size, h.b9.same (hB.block _ h.n9), h.b10.same (hB.block _ h.n10), h.lm.imp (fun _ a _ => a) (fun b hb _ => hB.block b hb), h.fm.imp (fun _ a _ => a) (fun b hb _ => hB.block b hb), h.lo.imp (fun _ a _ => a) (fun b hb _ => hB.block b hb), h.fo.imp (fun _ a _ => a) (fun b hb _ => hB.block b hb)⟩
theorem MkB.on {w : World} {N : Nat} {k : Nat} {x : ByteArray} {v u : Value} {l f : V.T} {k2 : Nat} {x2 : ByteArray} {v2 u2 : Value} {l2 f2 : V.T} {m9 m10 : Nat} {vm um vo uo : Value} {W W' : World} (h : MkB w N k x v u l f k2 x2 v2 u2 l2 f2 m9 m10 vm um vo uo W) (hB : Below W.heap.size W W') : MkB w N k x v u l f k2 x2 v2 u2 l2 f2 m9 m10 vm um vo uo W' := h.low (hB.mono h.size)
/-- behind the twins -/
theorem MkB.start {w W2 W : World} {N0 : Nat} {k : Nat} {x : ByteArray} {v u : Value} {l f : V.T} {k2 : Nat} {x2 : ByteArray} {v2 u2 : Value} {l2 f2 : V.T} {xx : Nat → Bool} {r : Nat → Value} {b lo hi : Nat → Nat} {ct : Nat → C4}
    (hA : MkA w k x v u l f k2 x2 v2 u2 l2 f2 W2) (hN : N0 = W2.heap.size) (h : BxSt W2 N0 (RKV AR (twoJ k2 k) (twoJ x2 x) (twoJ l2 l) (twoJ f2 f)) 2 xx r b lo hi ct W) (h0 : xx 0 = true) (h1 : xx 1 = true) {vm um vo uo : Value}
    (e0 : r 0 = .agg #[.int .u8 k2, .string x2, vm, um]) (e1 : r 1 = .agg #[.int .u8 k, .string x, vo, uo]) (c0 : ct 0 = ⟨.int .u8 k2, .string x2, vm, um⟩) (c1 : ct 1 = ⟨.int .u8 k, .string x, vo, uo⟩) :
    MkB w W.heap.size k x v u l f k2 x2 v2 u2 l2 f2 (b 0) (b 1) vm um vo uo W := by
  subst hN
  obtain ⟨p1, b9, -⟩ := h.box 0 h0
  obtain ⟨p2, b10, -⟩ := h.box 1 h1
  rw [c0] at b9
  rw [c1] at b10
  obtain ⟨⟨p, q, e, h2, h3⟩, -, -, h4⟩ := h.res 0 (by decide)
  obtain ⟨⟨p', q', e', h5, h6⟩, -, -, h7⟩ := h.res 1 (by decide)
  rw [e0] at e
  rw [e1] at e'
  have a1 : MkA w k x v u l f k2 x2 v2 u2 l2 f2 W := hA.on h.below
  obtain ⟨_, _, rfl, rfl⟩ : k2 = k2 ∧ x2 = x2 ∧ vm = p ∧ um = q := by
    have := congrArg (fun v => match v with | .agg a => a.toList | _ => []) e
    simp at this
    exact ⟨rfl, rfl, this.2.2.1, this.2.2.2⟩
  obtain ⟨_, _, rfl, rfl⟩ : k = k ∧ x = x ∧ vo = p' ∧ uo = q' := by
    have := congrArg (fun v => match v with | .agg a => a.toList | _ => []) e'
    simp at this
    exact ⟨rfl, rfl, this.2.2.1, this.2.2.2⟩
  exact ⟨a1, Nat.le_trans hA.size h.base, b9.lt, b10.lt, Nat.le_refl _, b9, b10, h2.mono (fun _ _ h => h), h3.mono (fun _ _ h => h), h5.mono (fun _ _ h => h), h6.mono (fun _ _ h => h)⟩
/-- what does not hang on the world: where things lie -/
structure Lay4 (N : Nat) (b lo hi : Nat → Nat) : Prop where
  n : ∀ k, k < 4 → N ≤ lo k ∧ lo k ≤ hi k
  ord : ∀ k k', k < k' → k' < 4 → hi k ≤ lo k'
  apart : ∀ m, m < 4 → ∀ k, k < 4 → b m < lo k ∨ hi k ≤ b m
/-- the messages that are as they were made -/
structure MkD (N : Nat) (J : Nat → Bool) (TT : Nat → V.T) (r : Nat → Value) (b lo hi : Nat → Nat) (ct : Nat → C4) (W : World) : Prop where
  box : ∀ m, m < 4 → J m = true → Blk4 W (b m) 25 (ct m).k (ct m).x (ct m).v (ct m).u
  res : ∀ k, k < 4 → J k = true → RKV SA (fun _ => 6) (fun _ => ⟨#[]⟩) (fun _ => .nil) TT k (r k) (lo k) (hi k) W ∧ hi k ≤ W.heap.size
theorem MkD.on {N : Nat} {J : Nat → Bool} {TT : Nat → V.T} {r : Nat → Value} {b lo hi : Nat → Nat} {ct : Nat → C4} {W W' : World} (h : MkD N J TT r b lo hi ct W) (hB : Below W.heap.size W W') : MkD N J TT r b lo hi ct W' :=
  ⟨fun m hm hJ => (h.box m hm hJ).same (hB.block _ (h.box m hm hJ).lt), fun k hk hJ => ⟨sa_keep _ _ _ _ _ _ _ _ _ _ (h.res k hk hJ).1 (fun j _ hj => hB.block j (Nat.lt_of_lt_of_le hj (h.res k hk hJ).2)), Nat.le_trans (h.res k hk hJ).2 hB.size⟩⟩
theorem MkD.sp {N : Nat} {J : Nat → Bool} {TT : Nat → V.T} {r : Nat → Value} {b lo hi : Nat → Nat} {ct : Nat → C4} {W W' : World} (h : MkD N J TT r b lo hi ct W) (hL : Lay4 N b lo hi) {i : Nat} (hi' : i < 4) (hS : Sp (lo i) (hi i) W W') : MkD N (upd J i false) TT r b lo hi ct W' := by
  have same : ∀ j, j < W.heap.size → j < lo i ∨ hi i ≤ j → W'.heap[j]? = W.heap[j]? := fun j hj h => by
    rcases h with h | h
    · exact hS.below.block j h
    · exact hS.keep j h hj
  refine ⟨fun m hm hJ => ?_, fun k hk hJ => ?_⟩
  · by_cases e : m = i
    · subst e; rw [upd_same] at hJ; cases hJ
    · rw [upd_else _ _ _ e] at hJ
      exact (h.box m hm hJ).same (same _ (h.box m hm hJ).lt (hL.apart m hm i hi'))
  · by_cases e : k = i
    · subst e; rw [upd_same] at hJ; cases hJ
    · rw [upd_else _ _ _ e] at hJ
      obtain ⟨h1, h2⟩ := h.res k hk hJ
      refine ⟨sa_keep _ _ _ _ _ _ _ _ _ _ h1 (fun j hj1 hj2 => same j (by omega) ?_), Nat.le_trans h2 hS.below.size⟩
      rcases Nat.lt_or_ge k i with hlt | hge
      · have := hL.ord k i hlt hi'; omega
      · have := hL.ord i k (by omega) hk; omega
theorem mkD_start {W4 W : World} {N : Nat} {TT : Nat → V.T} {xx : Nat → Bool} {r : Nat → Value} {b lo hi : Nat → Nat} {ct : Nat → C4} (h : BxSt W4 N (RKV SA (fun _ => 6) (fun _ => ⟨#[]⟩) (fun _ => .nil) TT) 4 xx r b lo hi ct W) (hx : ∀ m, m < 4 → xx m = true) :
    MkD N (fun _ => true) TT r b lo hi ct W ∧ Lay4 N b lo hi :=
  ⟨⟨fun m hm _ => (h.box m (hx m hm)).2.1, fun k hk _ => ⟨(h.res k hk).1, (h.res k hk).2.2.2⟩⟩, ⟨fun k hk => ⟨(h.res k hk).2.1, (h.res k hk).2.2.1⟩, h.ord, fun m hm k hk => (h.box m (hx m hm)).2.2 k hk⟩⟩
/-- one message: its box, and how it lies -/
theorem MkD.at {N : Nat} {J : Nat → Bool} {TT : Nat → V.T} {r : Nat → Value} {b lo hi : Nat → Nat} {ct : Nat → C4} {W : World} (h : MkD N J TT r b lo hi ct W) {k : Nat} (hk : k < 4) (hJ : J k = true) {p q : Value} {T : V.T} (e : r k = .agg #[.int .u8 6, .string ⟨#[]⟩, p, q]) (c : ct k = ⟨.int .u8 6, .string ⟨#[]⟩, p, q⟩) (ht : TT k = T) :
    Blk4 W (b k) 25 (.int .u8 6) (.string ⟨#[]⟩) p q ∧ HS W (SA (lo k) (hi k) W) 0 p .nil ∧ HS W (SA (lo k) (hi k) W) 1 q T ∧ hi k ≤ W.heap.size := by
  have hb := h.box k hk hJ
  obtain ⟨⟨p', q', e', h1, h2⟩, h3⟩ := h.res k hk hJ
  rw [c] at hb
  rw [e] at e'
  obtain ⟨rfl, rfl⟩ : p = p' ∧ q = q' := by
    have := congrArg (fun v => match v with | .agg a => a.toList | _ => []) e'
    simp at this
    exact this
  subst ht
  exact ⟨hb, h1, h2, h3⟩
/-- what the six boxes hold that the law compares -/
theorem mk_cells {w W : World} {N : Nat} {k : Nat} {x : ByteArray} {v u : Value} {l f : V.T} {k2 : Nat} {x2 : ByteArray} {v2 u2 : Value} {l2 f2 : V.T} {m9 m10 : Nat} {vm um vo uo : Value} {TT : Nat → V.T} {r : Nat → Value} {b lo hi : Nat → Nat} {ct : Nat → C4}
    (hb : MkB w N k x v u l f k2 x2 v2 u2 l2 f2 m9 m10 vm um vo uo W) (h : MkD N (fun _ => true) TT r b lo hi ct W) {p0 q0 p1 q1 p2 q2 p3 q3 : Value} (e0 : r 0 = .agg #[.int .u8 6, .string ⟨#[]⟩, p0, q0]) (e1 : r 1 = .agg #[.int .u8 6, .string ⟨#[]⟩, p1, q1]) (e2 : r 2 = .agg #[.int .u8 6, .string ⟨#[]⟩, p2, q2]) (e3 : r 3 = .agg #[.int .u8 6, .string ⟨#[]⟩, p3, q3])
    (c0 : ct 0 = ⟨.int .u8 6, .string ⟨#[]⟩, p0, q0⟩) (c1 : ct 1 = ⟨.int .u8 6, .string ⟨#[]⟩, p1, q1⟩) (c2 : ct 2 = ⟨.int .u8 6, .string ⟨#[]⟩, p2, q2⟩) (c3 : ct 3 = ⟨.int .u8 6, .string ⟨#[]⟩, p3, q3⟩) :
    W.cell? ⟨w.heap.size, 0, none⟩ = some (.int .u8 k) ∧ W.cell? ⟨w.heap.size, 1, none⟩ = some (.string x) ∧ W.cell? ⟨w.heap.size, 2, none⟩ = some v ∧ W.cell? ⟨w.heap.size, 3, none⟩ = some u ∧
    W.cell? ⟨w.heap.size + 1, 0, none⟩ = some (.int .u8 k2) ∧ W.cell? ⟨w.heap.size + 1, 1, none⟩ = some (.string x2) ∧ W.cell? ⟨w.heap.size + 1, 2, none⟩ = some v2 ∧ W.cell? ⟨w.heap.size + 1, 3, none⟩ = some u2 ∧
    W.cell? ⟨b 0, 0, none⟩ = some (.int .u8 6) ∧ W.cell? ⟨b 0, 1, none⟩ = some (.string ⟨#[]⟩) ∧ W.cell? ⟨b 0, 2, none⟩ = some p0 ∧ W.cell? ⟨b 0, 3, none⟩ = some q0 ∧
    W.cell? ⟨b 1, 0, none⟩ = some (.int .u8 6) ∧ W.cell? ⟨b 1, 1, none⟩ = some (.string ⟨#[]⟩) ∧ W.cell? ⟨b 1, 2, none⟩ = some p1 ∧ W.cell? ⟨b 1, 3, none⟩ = some q1 ∧
    W.cell? ⟨b 2, 0, none⟩ = some (.int .u8 6) ∧ W.cell? ⟨b 2, 1, none⟩ = some (.string ⟨#[]⟩) ∧ W.cell? ⟨b 2, 2, none⟩ = some p2 ∧ W.cell? ⟨b 2, 3, none⟩ = some q2 ∧
    W.cell? ⟨b 3, 0, none⟩ = some (.int .u8 6) ∧ W.cell? ⟨b 3, 1, none⟩ = some (.string ⟨#[]⟩) ∧ W.cell? ⟨b 3, 2, none⟩ = some p3 ∧ W.cell? ⟨b 3, 3, none⟩ = some q3 := by
  obtain ⟨a0, a1, a2, a3⟩ := hb.a.b0.box
  obtain ⟨b0, b1, b2, b3⟩ := hb.a.b1.box
  obtain ⟨d0, d1, d2, d3⟩ := (h.at (k := 0) (by decide) rfl e0 c0 rfl).1.box
  obtain ⟨f0, f1, f2, f3⟩ := (h.at (k := 1) (by decide) rfl e1 c1 rfl).1.box
  obtain ⟨g0, g1, g2, g3⟩ := (h.at (k := 2) (by decide) rfl e2 c2 rfl).1.box
  obtain ⟨i0, i1, i2, i3⟩ := (h.at (k := 3) (by decide) rfl e3 c3 rfl).1.box
  exact ⟨a0, a1, a2, a3, b0, b1, b2, b3, d0, d1, d2, d3, f0, f1, f2, f3, g0, g1, g2, g3, i0, i1, i2, i3⟩
/-- behind what was written over -/
structure MkG (w : World) (N : Nat) (k : Nat) (x : ByteArray) (v u : Value) (l f : V.T) (k2 : Nat) (x2 : ByteArray) (v2 u2 : Value) (l2 f2 : V.T) (m9 m10 : Nat) (vm um vo uo : Value) (m12 m14 : Nat) (p1 q1 p3 q3 : Value) (T1 T3 : V.T) (W : World) : Prop where
  b : MkB w N k x v u l f k2 x2 v2 u2 l2 f2 m9 m10 vm um vo uo W
  b12 : Blk4 W m12 25 (.int .u8 6) (.string ⟨#[]⟩) p1 q1
  b14 : Blk4 W m14 25 (.int .u8 6) (.string ⟨#[]⟩) p3 q3
  l1 : HS W (fun _ => True) 0 p1 .nil
  f1 : HS W (fun _ => True) 1 q1 T1
  l3 : HS W (fun _ => True) 0 p3 .nil
  f3 : HS W (fun _ => True) 1 q3 T3
theorem MkG.on {w : World} {N : Nat} {k : Nat} {x : ByteArray} {v u : Value} {l f : V.T} {k2 : Nat} {x2 : ByteArray} {v2 u2 : Value} {l2 f2 : V.T} {m9 m10 : Nat} {vm um vo uo : Value} {m12 m14 : Nat} {p1 q1 p3 q3 : Value} {T1 T3 : V.T} {W W' : World} (h : MkG w N k x v u l f k2 x2 v2 u2 l2 f2 m9 m10 vm um vo uo m12 m14 p1 q1 p3 q3 T1 T3 W) (hB : Below W.heap.size W W') : MkG w N k x v u l f k2 x2 v2 u2 l2 f2 m9 m10 vm um vo uo m12 m14 p1 q1 p3 q3 T1 T3 W' :=
  ⟨h.b.on hB, h.b12.same (hB.block _ h.b12.lt), h.b14.same (hB.block _ h.b14.lt), h.l1.below hB, h.f1.below hB, h.l3.below hB, h.f3.below hB⟩
theorem MkG.cells {w : World} {N : Nat} {k : Nat} {x : ByteArray} {v u : Value} {l f : V.T} {k2 : Nat} {x2 : ByteArray} {v2 u2 : Value} {l2 f2 : V.T} {m9 m10 : Nat} {vm um vo uo : Value} {m12 m14 : Nat} {p1 q1 p3 q3 : Value} {T1 T3 : V.T} {W : World} (h : MkG w N k x v u l f k2 x2 v2 u2 l2 f2 m9 m10 vm um vo uo m12 m14 p1 q1 p3 q3 T1 T3 W) :
    W.cell? ⟨w.heap.size, 0, none⟩ = some (.int .u8 k) ∧ W.cell? ⟨w.heap.size, 1, none⟩ = some (.string x) ∧ W.cell? ⟨w.heap.size, 2, none⟩ = some v ∧ W.cell? ⟨w.heap.size, 3, none⟩ = some u ∧
    W.cell? ⟨w.heap.size + 1, 0, none⟩ = some (.int .u8 k2) ∧ W.cell? ⟨w.heap.size + 1, 1, none⟩ = some (.string x2) ∧ W.cell? ⟨w.heap.size + 1, 2, none⟩ = some v2 ∧ W.cell? ⟨w.heap.size + 1, 3, none⟩ = some u2 ∧
    W.cell? ⟨m9, 0, none⟩ = some (.int .u8 k2) ∧ W.cell? ⟨m9, 1, none⟩ = some (.string x2) ∧ W.cell? ⟨m9, 2, none⟩ = some vm ∧ W.cell? ⟨m9, 3, none⟩ = some um ∧
    W.cell? ⟨m10, 0, none⟩ = some (.int .u8 k) ∧ W.cell? ⟨m10, 1, none⟩ = some (.string x) ∧ W.cell? ⟨m10, 2, none⟩ = some vo ∧ W.cell? ⟨m10, 3, none⟩ = some uo ∧
    W.cell? ⟨m12, 0, none⟩ = some (.int .u8 6) ∧ W.cell? ⟨m12, 1, none⟩ = some (.string ⟨#[]⟩) ∧ W.cell? ⟨m12, 2, none⟩ = some p1 ∧ W.cell? ⟨m12, 3, none⟩ = some q1 ∧
    W.cell? ⟨m14, 0, none⟩ = some (.int .u8 6) ∧ W.cell? ⟨m14, 1, none⟩ = some (.string ⟨#[]⟩) ∧ W.cell? ⟨m14, 2, none⟩ = some p3 ∧ W.cell? ⟨m14, 3, none⟩ = some q3 := by
  obtain ⟨a0, a1, a2, a3⟩ := h.b.a.b0.box
  obtain ⟨b0, b1, b2, b3⟩ := h.b.a.b1.box
  obtain ⟨d0, d1, d2, d3⟩ := h.b.b9.box
  obtain ⟨f0, f1, f2, f3⟩ := h.b.b10.box
  obtain ⟨g0, g1, g2, g3⟩ := h.b12.box
  obtain ⟨i0, i1, i2, i3⟩ := h.b14.box
  exact ⟨a0, a1, a2, a3, b0, b1, b2, b3, d0, d1, d2, d3, f0, f1, f2, f3, g0, g1, g2, g3, i0, i1, i2, i3⟩
theorem MkD.g {w W : World} {N : Nat} {k : Nat} {x : ByteArray} {v u : Value} {l f : V.T} {k2 : Nat} {x2 : ByteArray} {v2 u2 : Value} {l2 f2 : V.T} {m9 m10 : Nat} {vm um vo uo : Value} {TT : Nat → V.T} {r : Nat → Value} {b lo hi : Nat → Nat} {ct : Nat → C4} {J : Nat → Bool}
    (hb : MkB w N k x v u l f k2 x2 v2 u2 l2 f2 m9 m10 vm um vo uo W) (h : MkD N J TT r b lo hi ct W) (h1 : J 1 = true) (h3 : J 3 = true) {p1 q1 p3 q3 : Value} {T1 T3 : V.T} (e1 : r 1 = .agg #[.int .u8 6, .string ⟨#[]⟩, p1, q1]) (e3 : r 3 = .agg #[.int .u8 6, .string ⟨#[]⟩, p3, q3])
    (c1 : ct 1 = ⟨.int .u8 6, .string ⟨#[]⟩, p1, q1⟩) (c3 : ct 3 = ⟨.int .u8 6, .string ⟨#[]⟩, p3, q3⟩) (t1 : TT 1 = T1) (t3 : TT 3 = T3) : MkG w N k x v u l f k2 x2 v2 u2 l2 f2 m9 m10 vm um vo uo (b 1) (b 3) p1 q1 p3 q3 T1 T3 W := by
  obtain ⟨a1, a2, a3, -⟩ := h.at (k := 1) (by decide) h1 e1 c1 t1
  obtain ⟨b1, b2, b3, -⟩ := h.at (k := 3) (by decide) h3 e3 c3 t3
  exact ⟨hb, a1, b1, a2.mono (fun _ _ _ => trivial), a3.mono (fun _ _ _ => trivial), b2.mono (fun _ _ _ => trivial), b3.mono (fun _ _ _ => trivial)⟩
end Go.Proofs.YtepjomdjkoaofaaDoor
