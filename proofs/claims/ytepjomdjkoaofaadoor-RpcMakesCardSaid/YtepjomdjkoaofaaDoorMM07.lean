/- What is written over: which cells may become what, and what stays. Conditions: none. -/
import Derived.Test.YtepjomdjkoaofaaDoorMM06
import Derived.Test.YtepjomdjkoaofaaDoorMM04
namespace Go.Proofs.YtepjomdjkoaofaaDoor
open Go Go.RowKit Go.Lib

/-- what may become of a cell -/
def OkCh (u u' : Value) : Prop := u' = u ∨ ((∃ s, u = .string s) ∧ ∃ s', u' = .string s') ∨ ((∃ k : Nat, u = .int .u8 k) ∧ u' = .int .u8 0) ∨ ((∃ p n c, u = .slice p n c) ∧ u' = .slice none 0 0)
theorem OkCh.string {s : ByteArray} {u : Value} (h : OkCh (.string s) u) : ∃ s', u = .string s' := by
  rcases h with e | ⟨_, h⟩ | ⟨⟨_, e⟩, _⟩ | ⟨⟨_, _, _, e⟩, _⟩
  · exact ⟨s, e⟩
  · exact h
  · cases e
  · cases e
theorem OkCh.int {k : Nat} {u : Value} (h : OkCh (.int .u8 k) u) : ∃ k' : Nat, u = .int .u8 k' := by
  rcases h with e | ⟨⟨_, e⟩, _⟩ | ⟨_, e⟩ | ⟨⟨_, _, _, e⟩, _⟩
  · exact ⟨k, e⟩
  · cases e
  · exact ⟨0, e⟩
  · cases e
theorem OkCh.slice {p : Option Addr} {n c : Nat} {u : Value} (h : OkCh (.slice p n c) u) : u = .slice p n c ∨ u = .slice none 0 0 := by
  rcases h with e | ⟨⟨_, e⟩, _⟩ | ⟨⟨_, e⟩, _⟩ | ⟨_, e⟩
  · exact .inl e
  · cases e
  · cases e
  · exact .inr e
theorem OkCh.trans {a b c : Value} (h : OkCh a b) (g : OkCh b c) : OkCh a c := by
  rcases h with rfl | ⟨h1, s', rfl⟩ | ⟨⟨k, rfl⟩, rfl⟩ | ⟨⟨p, n, d, rfl⟩, rfl⟩
  · exact g
  · exact .inr (.inl ⟨h1, g.string⟩)
  · obtain ⟨k', rfl⟩ := OkCh.int (k := 0) g
    rcases g with e | ⟨⟨_, e⟩, _⟩ | ⟨_, e⟩ | ⟨⟨_, _, _, e⟩, _⟩
    · exact .inr (.inr (.inl ⟨⟨k, rfl⟩, e⟩))
    · cases e
    · exact .inr (.inr (.inl ⟨⟨k, rfl⟩, e⟩))
    · cases e
  · rcases g.slice with rfl | rfl
    · exact .inr (.inr (.inr ⟨⟨p, n, d, rfl⟩, rfl⟩))
    · exact .inr (.inr (.inr ⟨⟨p, n, d, rfl⟩, rfl⟩))
/-- only blocks from lo on, and ahead of hi, are written over -/
structure Sp (lo hi : Nat) (w w' : World) : Prop where
  below : Below lo w w'
  keep : ∀ b, hi ≤ b → b < w.heap.size → w'.heap[b]? = w.heap[b]?
  fro : ∀ b j, b < w.heap.size → w'.frozen? ⟨b, j, none⟩ = w.frozen? ⟨b, j, none⟩
  cell : ∀ b o u, w.cell? ⟨b, o, none⟩ = some u → ∃ u', w'.cell? ⟨b, o, none⟩ = some u' ∧ OkCh u u'
theorem Sp.refl (lo hi : Nat) (w : World) : Sp lo hi w w := ⟨Below.refl _ _, fun _ _ _ => rfl, fun _ _ _ => rfl, fun _ _ u h => ⟨u, h, .inl rfl⟩⟩
theorem Sp.trans {lo hi : Nat} {a b c : World} (h : Sp lo hi a b) (g : Sp lo hi b c) : Sp lo hi a c := by
  refine ⟨h.below.trans g.below, fun k hk hlt => (g.keep k hk (Nat.lt_of_lt_of_le hlt h.below.size)).trans (h.keep k hk hlt), fun k j hlt => (g.fro k j (Nat.lt_of_lt_of_le hlt h.below.size)).trans (h.fro k j hlt), fun k o u hu => ?_⟩
  obtain ⟨u1, h1, h2⟩ := h.cell k o u hu
  obtain ⟨u2, h3, h4⟩ := g.cell k o u1 h1
  exact ⟨u2, h3, h2.trans h4⟩
theorem Sp.of_below {lo hi : Nat} {w w' : World} (h : Below w.heap.size w w') (hl : lo ≤ w.heap.size) : Sp lo hi w w' :=
  ⟨h.mono hl, fun b _ hlt => h.block b hlt, fun b j hlt => h.frozen (p := ⟨b, j, none⟩) hlt, fun b o u hu => ⟨u, bcellv h hu, .inl rfl⟩⟩
theorem Sp.set {lo hi b o : Nat} {w : World} {u y : Value} (hu : w.cell? ⟨b, o, none⟩ = some u) (hy : OkCh u y) (hl : lo ≤ b) (hh : b < hi) : Sp lo hi w (w.setCell ⟨b, o, none⟩ y) := by
  refine ⟨(Below.refl _ _).setCell hl _, fun k hk _ => Below.heap_setCell _ _ _ k (by show k ≠ b; omega), fun k j _ => World.frozen?_setCell _ _ _ _, fun k j v hv => ?_⟩
  by_cases he : (⟨b, o, none⟩ : Addr) = ⟨k, j, none⟩
  · cases he
    rw [hv] at hu
    cases hu
    exact ⟨y, World.cell?_setCell_same _ _ _ hv, hy⟩
  · exact ⟨v, (World.cell?_setCell_other _ _ _ _ he).trans hv, .inl rfl⟩
/-- an element written over -/
theorem Sp.set4 {lo hi b o : Nat} {w : World} {k : Nat} {x : ByteArray} {p : Option Addr} {n c : Nat} {q : Option Addr} {m d : Nat} {s : ByteArray} (h0 : w.cell? ⟨b, o, none⟩ = some (.int .u8 k)) (h1 : w.cell? ⟨b, o + 1, none⟩ = some (.string x)) (h2 : w.cell? ⟨b, o + 2, none⟩ = some (.slice p n c)) (h3 : w.cell? ⟨b, o + 3, none⟩ = some (.slice q m d)) (hl : lo ≤ b) (hh : b < hi) :
    Sp lo hi w ((((w.setCell ⟨b, o, none⟩ (.int .u8 0)).setCell ⟨b, o + 1, none⟩ (.string s)).setCell ⟨b, o + 2, none⟩ (.slice none 0 0)).setCell ⟨b, o + 3, none⟩ (.slice none 0 0)) := by
  have n01 : (⟨b, o, none⟩ : Addr) ≠ ⟨b, o + 1, none⟩ := fun e => by have := congrArg Addr.off e; simp at this
  have n02 : (⟨b, o, none⟩ : Addr) ≠ ⟨b, o + 2, none⟩ := fun e => by have := congrArg Addr.off e; simp at this
  have n03 : (⟨b, o, none⟩ : Addr) ≠ ⟨b, o + 3, none⟩ := fun e => by have := congrArg Addr.off e; simp at this
  have n12 : (⟨b, o + 1, none⟩ : Addr) ≠ ⟨b, o + 2, none⟩ := fun e => by have := congrArg Addr.off e; simp at this
  have n13 : (⟨b, o + 1, none⟩ : Addr) ≠ ⟨b, o + 3, none⟩ := fun e => by have := congrArg Addr.off e; simp at this
  have n23 : (⟨b, o + 2, none⟩ : Addr) ≠ ⟨b, o + 3, none⟩ := fun e => by have := congrArg Addr.off e; simp at this
  refine (((Sp.set h0 (.inr (.inr (.inl ⟨⟨k, rfl⟩, rfl⟩))) hl hh).trans (Sp.set (u := .string x) ?_ (.inr (.inl ⟨⟨x, rfl⟩, s, rfl⟩)) hl hh)).trans (Sp.set (u := .slice p n c) ?_ (.inr (.inr (.inr ⟨⟨p, n, c, rfl⟩, rfl⟩))) hl hh)).trans (Sp.set (u := .slice q m d) ?_ (.inr (.inr (.inr ⟨⟨q, m, d, rfl⟩, rfl⟩))) hl hh)
  · rw [World.cell?_setCell_other _ _ _ _ n01]; exact h1
  · rw [World.cell?_setCell_other _ _ _ _ n12, World.cell?_setCell_other _ _ _ _ n02]; exact h2
  · rw [World.cell?_setCell_other _ _ _ _ n23, World.cell?_setCell_other _ _ _ _ n13, World.cell?_setCell_other _ _ _ _ n03]; exact h3
/-- one element, whose slices may be written over n levels deep -/
structure SE (w : World) (A : Nat → Prop) (Q : Nat → Value → Prop) (d b o : Nat) : Prop where
  mem : A b
  name : d = 1 → ∃ nm, w.cell? ⟨b, o, none⟩ = some (.string nm)
  kind : ∃ k : Nat, w.cell? ⟨b, o + d, none⟩ = some (.int .u8 k)
  text : ∃ x, w.cell? ⟨b, o + d + 1, none⟩ = some (.string x)
  list : ∃ v, w.cell? ⟨b, o + d + 2, none⟩ = some v ∧ Q 0 v
  fields : ∃ v, w.cell? ⟨b, o + d + 3, none⟩ = some v ∧ Q 1 v
/-- a slice that may be written over, n levels deep -/
def Sd (w : World) (A : Nat → Prop) : Nat → Nat → Value → Prop
  | 0, _, v => ∃ p c, v = .slice p 0 c ∧ c ≤ 9223372036854775807
  | n + 1, d, v => ∃ p m c, v = .slice p m c ∧ m ≤ 2000000000000 ∧ m ≤ c ∧ c ≤ 9223372036854775807 ∧ (0 < m → ∃ b o, p = some ⟨b, o, none⟩ ∧ ∀ i, i < m → SE w A (Sd w A n) d b (o + i * (4 + d)))
theorem Sd.nil (w : World) (A : Nat → Prop) (n d : Nat) : Sd w A n d (.slice none 0 0) := by
  cases n
  · exact ⟨none, 0, rfl, by decide⟩
  · exact ⟨none, 0, 0, rfl, by decide, by decide, by decide, fun h => absurd h (by decide)⟩
theorem Sd.shape {w : World} {A : Nat → Prop} {n d : Nat} {v : Value} (h : Sd w A n d v) : ∃ p m c, v = .slice p m c ∧ m ≤ 2000000000000 ∧ m ≤ c ∧ c ≤ 9223372036854775807 := by
  cases n
  · obtain ⟨p, c, e, hc⟩ := h
    exact ⟨p, 0, c, e, by decide, Nat.zero_le _, hc⟩
  · obtain ⟨p, m, c, e, h1, h2, h3, _⟩ := h
    exact ⟨p, m, c, e, h1, h2, h3⟩
theorem Sd.sp {lo hi : Nat} {w w' : World} {A A' : Nat → Prop} (hs : Sp lo hi w w') (hA : ∀ b, A b → b < w.heap.size → A' b) : ∀ (n d : Nat) (v : Value), Sd w A n d v → Sd w' A' n d v
  | 0, _, _, h => h
  | n + 1, d, v, h => by
    obtain ⟨p, m, c, e, h1, h2, h3, h4⟩ := h
    refine ⟨p, m, c, e, h1, h2, h3, fun hm => ?_⟩
    obtain ⟨b, o, e2, h5⟩ := h4 hm
    refine ⟨b, o, e2, fun i hi => ?_⟩
    have s := h5 i hi
    obtain ⟨k, hk⟩ := s.kind
    obtain ⟨x, hx⟩ := s.text
    obtain ⟨l, hl, ql⟩ := s.list
    obtain ⟨f, hf, qf⟩ := s.fields
    have hb := World.block_lt_of_cell? w _ hk
    have sub : ∀ (d' : Nat) (o' : Nat) (v' : Value), w.cell? ⟨b, o', none⟩ = some v' → Sd w A n d' v' → ∃ v'', w'.cell? ⟨b, o', none⟩ = some v'' ∧ Sd w' A' n d' v'' := fun d' o' v' hc hd => by
      obtain ⟨u', hu, hch⟩ := hs.cell _ _ _ hc
      obtain ⟨p', m', c', rfl, _⟩ := hd.shape
      rcases hch.slice with rfl | rfl
      · exact ⟨_, hu, Sd.sp hs hA n d' _ hd⟩
      · exact ⟨_, hu, Sd.nil _ _ _ _⟩
    refine ⟨hA b s.mem hb, fun e => ?_, ?_, ?_, sub _ _ _ hl ql, sub _ _ _ hf qf⟩
    · obtain ⟨nm, hn⟩ := s.name e
      obtain ⟨u', hu, hch⟩ := hs.cell _ _ _ hn
      obtain ⟨s', rfl⟩ := hch.string
      exact ⟨s', hu⟩
    · obtain ⟨u', hu, hch⟩ := hs.cell _ _ _ hk
      obtain ⟨k', rfl⟩ := hch.int
      exact ⟨k', hu⟩
    · obtain ⟨u', hu, hch⟩ := hs.cell _ _ _ hx
      obtain ⟨s', rfl⟩ := hch.string
      exact ⟨s', hu⟩
theorem deep_nil {t : V.T} (h : t.deep = 0) : t = .nil := by
  cases t with
  | nil => rfl
  | cons nm k x l f tl => exact absurd h (by show ¬ max (max l.deep f.deep + 1) tl.deep = 0; omega)
theorem HS.sd {w : World} {A : Nat → Prop} : ∀ (n d : Nat) (v : Value) (t : V.T), t.deep ≤ n → HS w A d v t → Sd w A n d v
  | 0, d, v, t, hn, h => by
    obtain rfl := deep_nil (Nat.le_zero.1 hn)
    obtain ⟨p, c, e, _, _, h3⟩ := h.len
    exact ⟨p, c, e, h3⟩
  | n + 1, d, v, t, hn, h => by
    obtain ⟨p, c, rfl, h1, h2, h3⟩ := h.len
    refine ⟨p, _, c, rfl, h1, h2, h3, fun hm => ?_⟩
    obtain ⟨nm0, k0, x0, l0, f0, tl0, hd0⟩ := V.T.drop_some (t := t) (i := 0) hm
    obtain ⟨b, o, v0, u0, rfl, _⟩ := h.elem hm hd0
    refine ⟨b, o, rfl, fun i hi => ?_⟩
    obtain ⟨nm, k, x, l, f, tl, hd⟩ := V.T.drop_some (t := t) (i := i) hi
    obtain ⟨b', o', v1, u1, e, E⟩ := h.elem hi hd
    cases e
    have hdp := V.T.drop_deep hd
    exact ⟨E.mem, fun e => ⟨nm, E.name e⟩, ⟨k, E.kind⟩, ⟨x, E.text⟩, ⟨v1, E.list, HS.sd n 0 v1 l (by omega) E.hl⟩, ⟨u1, E.fields, HS.sd n 1 u1 f (by omega) E.hf⟩⟩
end Go.Proofs.YtepjomdjkoaofaaDoor
