/- A row of values or fields that the call itself builds, element by element. Conditions: none. -/
import Derived.Test.YtbdpghmpdghnbaaDoorMJ04
import Derived.Laws.OwnMore
namespace Go.Proofs.YtbdpghmpdghnbaaDoor
open Go Go.RowKit

/-- the first k elements of t lie in xs, one behind the other -/
def RP (w : World) (A : Nat → Prop) (d : Nat) (t : V.T) (k : Nat) (xs : List Value) : Prop :=
  xs.length = k * (4 + d) ∧ ∀ i, i < k → ∃ nm kk x l f tl v u, t.drop i = .cons nm kk x l f tl ∧ (d = 0 → nm = ⟨#[]⟩) ∧ (d = 1 → xs[i * (4 + d)]? = some (.string nm)) ∧
    xs[i * (4 + d) + d]? = some (.int .u8 kk) ∧ xs[i * (4 + d) + d + 1]? = some (.string x) ∧ xs[i * (4 + d) + d + 2]? = some v ∧ xs[i * (4 + d) + d + 3]? = some u ∧
    HS w A 0 v l ∧ HS w A 1 u f ∧ Fit nm kk x
theorem RP.nil (w : World) (A : Nat → Prop) (d : Nat) (t : V.T) : RP w A d t 0 [] := ⟨by simp, fun i h => absurd h (Nat.not_lt_zero i)⟩
theorem RP.imp {w w' : World} {A A' : Nat → Prop} {d : Nat} {t : V.T} {k : Nat} {xs : List Value} (h : RP w A d t k xs) (hA : ∀ b, A b → b < w.heap.size → A' b) (hk : ∀ b, A b → b < w.heap.size → w'.heap[b]? = w.heap[b]?) : RP w' A' d t k xs := by
  refine ⟨h.1, fun i hi => ?_⟩
  obtain ⟨nm, kk, x, l, f, tl, v, u, h1, h2, h3, h4, h5, h6, h7, h8, h9, h10⟩ := h.2 i hi
  exact ⟨nm, kk, x, l, f, tl, v, u, h1, h2, h3, h4, h5, h6, h7, h8.imp hA hk, h9.imp hA hk, h10⟩
theorem RP.snoc0 {w : World} {A : Nat → Prop} {t : V.T} {k : Nat} {xs : List Value} {nm : ByteArray} {kk : Nat} {x : ByteArray} {l f tl : V.T} {v u : Value} (h : RP w A 0 t k xs)
    (hd : t.drop k = .cons nm kk x l f tl) (hnm : nm = ⟨#[]⟩) (hl : HS w A 0 v l) (hf : HS w A 1 u f) (hkk : Fit nm kk x) : RP w A 0 t (k + 1) (xs ++ [.int .u8 kk, .string x, v, u]) := by
  have hlen : xs.length = k * 4 := h.1
  refine ⟨by simp [hlen]; omega, fun i hi => ?_⟩
  by_cases hik : i < k
  · obtain ⟨nm, kk, x, l, f, tl, v, u, h1, h2, h3, h4, h5, h6, h7, h8, h9, h10⟩ := h.2 i hik
    refine ⟨nm, kk, x, l, f, tl, v, u, h1, h2, (fun e => by cases e), ?_, ?_, ?_, ?_, h8, h9, h10⟩
    · rw [List.getElem?_append_left (by omega)]; exact h4
    · rw [List.getElem?_append_left (by omega)]; exact h5
    · rw [List.getElem?_append_left (by omega)]; exact h6
    · rw [List.getElem?_append_left (by omega)]; exact h7
  · obtain rfl : i = k := by omega
    refine ⟨nm, kk, x, l, f, tl, v, u, hd, (fun _ => hnm), (fun e => by cases e), ?_, ?_, ?_, ?_, hl, hf, hkk⟩
    · rw [List.getElem?_append_right (by omega), hlen, show i * (4 + 0) + 0 - i * 4 = 0 by omega]; rfl
    · rw [List.getElem?_append_right (by omega), hlen, show i * (4 + 0) + 0 + 1 - i * 4 = 1 by omega]; rfl
    · rw [List.getElem?_append_right (by omega), hlen, show i * (4 + 0) + 0 + 2 - i * 4 = 2 by omega]; rfl
    · rw [List.getElem?_append_right (by omega), hlen, show i * (4 + 0) + 0 + 3 - i * 4 = 3 by omega]; rfl
theorem RP.snoc1 {w : World} {A : Nat → Prop} {t : V.T} {k : Nat} {xs : List Value} {nm : ByteArray} {kk : Nat} {x : ByteArray} {l f tl : V.T} {v u : Value} (h : RP w A 1 t k xs)
    (hd : t.drop k = .cons nm kk x l f tl) (hl : HS w A 0 v l) (hf : HS w A 1 u f) (hkk : Fit nm kk x) : RP w A 1 t (k + 1) (xs ++ [.string nm, .int .u8 kk, .string x, v, u]) := by
  have hlen : xs.length = k * 5 := h.1
  refine ⟨by simp [hlen]; omega, fun i hi => ?_⟩
  by_cases hik : i < k
  · obtain ⟨nm, kk, x, l, f, tl, v, u, h1, h2, h3, h4, h5, h6, h7, h8, h9, h10⟩ := h.2 i hik
    refine ⟨nm, kk, x, l, f, tl, v, u, h1, h2, (fun _ => ?_), ?_, ?_, ?_, ?_, h8, h9, h10⟩
    · rw [List.getElem?_append_left (by omega)]; exact h3 rfl
    · rw [List.getElem?_append_left (by omega)]; exact h4
    · rw [List.getElem?_append_left (by omega)]; exact h5
    · rw [List.getElem?_append_left (by omega)]; exact h6
    · rw [List.getElem?_append_left (by omega)]; exact h7
  · obtain rfl : i = k := by omega
    refine ⟨nm, kk, x, l, f, tl, v, u, hd, (fun e => by cases e), (fun _ => ?_), ?_, ?_, ?_, ?_, hl, hf, hkk⟩
    · rw [List.getElem?_append_right (by omega), hlen, show i * (4 + 1) - i * 5 = 0 by omega]; rfl
    · rw [List.getElem?_append_right (by omega), hlen, show i * (4 + 1) + 1 - i * 5 = 1 by omega]; rfl
    · rw [List.getElem?_append_right (by omega), hlen, show i * (4 + 1) + 1 + 1 - i * 5 = 2 by omega]; rfl
    · rw [List.getElem?_append_right (by omega), hlen, show i * (4 + 1) + 1 + 2 - i * 5 = 3 by omega]; rfl
    · rw [List.getElem?_append_right (by omega), hlen, show i * (4 + 1) + 1 + 3 - i * 5 = 4 by omega]; rfl
/-- the whole row, in the block that it owns -/
theorem RP.row {w : World} {A : Nat → Prop} {d : Nat} {t : V.T} {xs : List Value} {g : Nat} (h : RP w A d t t.len xs) (hg : A g) (hc : ∀ j u, xs[j]? = some u → w.cell? ⟨g, j, none⟩ = some u) (n i : Nat) (hn : t.len = i + n) : HR w A d g (i * (4 + d)) (t.drop i) := by
  induction n generalizing i with
  | zero => rw [show i = t.len by omega, V.T.drop_len]; trivial
  | succ n ih =>
    obtain ⟨nm, kk, x, l, f, tl, v, u, h1, h2, h3, h4, h5, h6, h7, h8, h9, h10⟩ := h.2 i (by omega)
    have hnext := ih (i + 1) (by omega)
    rw [V.T.drop_step h1] at hnext
    rw [h1]
    refine ⟨hg, h2, fun e => hc _ _ (h3 e), hc _ _ h4, hc _ _ h5, ⟨v, hc _ _ h6, h8⟩, ⟨u, hc _ _ h7, h9⟩, h10, ?_⟩
    rw [show i * (4 + d) + (4 + d) = (i + 1) * (4 + d) by rw [Nat.succ_mul]]
    exact hnext
/-- blocks from B on, but for the one that v owns -/
def Aside (B : Nat) (v : Value) (b : Nat) : Prop := B ≤ b ∧ v.ownBlock ≠ some b
theorem RP.slice {w : World} {B base : Nat} {e : TypeId} {d : Nat} {t : V.T} {v : Value} {xs : List Value} (h : RP w (Aside B v) d t t.len xs) (ho : w.ownsRow base e (4 + d) v t.len xs) (hB : B ≤ base) (hl : t.len ≤ 2000000000000) : HS w (fun b => B ≤ b) d v t := by
  rcases ho.2 with ⟨hv, hn⟩ | ⟨g, cap, cur, hv, hb, hg, h1, h2, h3, h4⟩
  · exact .inl ⟨hv, hn⟩
  · refine .inr (.inr ⟨g, 0, cap, hv, h1, ⟨h2, hl⟩, ?_⟩)
    have hc := ho.cells (g := g) (by rw [hv]; rfl)
    have h5 : RP w (fun b => B ≤ b) d t t.len xs := h.imp (fun b hb _ => hb.1) (fun _ _ _ => rfl)
    have h6 := RP.row h5 (g := g) (by show B ≤ g; omega) (fun j u hj => by have := hc j u hj; rwa [show (⟨g, 0, none⟩ : Addr).add j = ⟨g, j, none⟩ by unfold Addr.add; simp; exact fun h => h.symm] at this) t.len 0 (by omega)
    rw [V.T.drop_zero, Nat.zero_mul] at h6
    exact h6
/-- behind an append -/
theorem RP.appended {w w' : World} {B : Nat} {d : Nat} {t : V.T} {k : Nat} {v : Value} {xs : List Value} {g n cap : Nat} (h : RP w (Aside B v) d t k xs) (hg : w.grownBy w' v.ownBlock) (hat : v.ownBlock = some g ∨ g = w.heap.size) : RP w' (Aside B (.slice (some ⟨g, 0, none⟩) n cap)) d t k xs :=
  h.imp (fun b hb hlt => ⟨hb.1, fun e => by
    have e' : g = b := by simpa [Value.ownBlock] using e
    rcases hat with h1 | h1
    · exact hb.2 (by rw [h1, e'])
    · omega⟩) (fun b hb hlt => hg.block b hlt (fun e => hb.2 e.symm))
theorem HS.aside {w w1 : World} {B base : Nat} {e : TypeId} {size n : Nat} {d : Nat} {t : V.T} {v u : Value} {xs : List Value} (h : HS w1 (fun b => w.heap.size ≤ b) d u t) (ho : w.ownsRow base e size v n xs) (hB : B ≤ w.heap.size) : HS w1 (Aside B v) d u t :=
  h.mono fun b hb _ => ⟨Nat.le_trans hB hb, fun e' => by have := (ho.lt b e').2; omega⟩
theorem HS.appended {w w' : World} {B : Nat} {d : Nat} {t : V.T} {v u : Value} {g n cap : Nat} (h : HS w (Aside B v) d u t) (hg : w.grownBy w' v.ownBlock) (hat : v.ownBlock = some g ∨ g = w.heap.size) : HS w' (Aside B (.slice (some ⟨g, 0, none⟩) n cap)) d u t :=
  h.imp (fun b hb hlt => ⟨hb.1, fun e => by
    have e' : g = b := by simpa [Value.ownBlock] using e
    rcases hat with h1 | h1
    · exact hb.2 (by rw [h1, e'])
    · omega⟩) (fun b hb hlt => hg.block b hlt (fun e => hb.2 e.symm))
/-- a block of four cells, none of them frozen -/
def Blk4 (w : World) (b : Nat) (t : TypeId) (k x v u : Value) : Prop := w.heap[b]? = some (.cells #[k, x, v, u] t (0, 0))
theorem Blk4.lt {w : World} {b : Nat} {t : TypeId} {k x v u : Value} (h : Blk4 w b t k x v u) : b < w.heap.size := (Array.getElem?_eq_some_iff.1 h).1
theorem Blk4.box {w : World} {b : Nat} {t : TypeId} {k x v u : Value} (h : Blk4 w b t k x v u) : Box4 w b k x v u := Box4.mk' h
theorem Blk4.free {w : World} {b : Nat} {t : TypeId} {k x v u : Value} (h : Blk4 w b t k x v u) (o : Nat) : w.frozen? ⟨b, o, none⟩ = false := by simp [World.frozen?, show w.heap[b]? = _ from h]
theorem Blk4.same {w w' : World} {b : Nat} {t : TypeId} {k x v u : Value} (h : Blk4 w b t k x v u) (hk : w'.heap[b]? = w.heap[b]?) : Blk4 w' b t k x v u := hk.trans h
theorem Blk4.set2 {w : World} {b : Nat} {t : TypeId} {k x v u : Value} (h : Blk4 w b t k x v u) (y : Value) : Blk4 (w.setCell ⟨b, 2, none⟩ y) b t k x y u := by
  obtain ⟨hlt, hk⟩ := Array.getElem?_eq_some_iff.1 h
  show (w.heap.modify b _)[b]? = _
  rw [Array.getElem?_eq_getElem (by rw [Array.size_modify]; exact hlt), Array.getElem_modify_self, hk]
  rfl
theorem Blk4.set0 {w : World} {b : Nat} {t : TypeId} {k x v u : Value} (h : Blk4 w b t k x v u) (y : Value) : Blk4 (w.setCell ⟨b, 0, none⟩ y) b t y x v u := by
  obtain ⟨hlt, hk⟩ := Array.getElem?_eq_some_iff.1 h
  show (w.heap.modify b _)[b]? = _
  rw [Array.getElem?_eq_getElem (by rw [Array.size_modify]; exact hlt), Array.getElem_modify_self, hk]
  rfl
theorem Blk4.set1 {w : World} {b : Nat} {t : TypeId} {k x v u : Value} (h : Blk4 w b t k x v u) (y : Value) : Blk4 (w.setCell ⟨b, 1, none⟩ y) b t k y v u := by
  obtain ⟨hlt, hk⟩ := Array.getElem?_eq_some_iff.1 h
  show (w.heap.modify b _)[b]? = _
  rw [Array.getElem?_eq_getElem (by rw [Array.size_modify]; exact hlt), Array.getElem_modify_self, hk]
  rfl
theorem Blk4.set3 {w : World} {b : Nat} {t : TypeId} {k x v u : Value} (h : Blk4 w b t k x v u) (y : Value) : Blk4 (w.setCell ⟨b, 3, none⟩ y) b t k x v y := by
  obtain ⟨hlt, hk⟩ := Array.getElem?_eq_some_iff.1 h
  show (w.heap.modify b _)[b]? = _
  rw [Array.getElem?_eq_getElem (by rw [Array.size_modify]; exact hlt), Array.getElem_modify_self, hk]
  rfl
/-- a whole value is stored -/
theorem Blk4.all {w : World} {b : Nat} {t : TypeId} {k x v u : Value} (h : Blk4 w b t k x v u) (k' x' v' u' : Value) :
    Blk4 ((((w.setCell ⟨b, 0, none⟩ k').setCell ⟨b, 1, none⟩ x').setCell ⟨b, 2, none⟩ v').setCell ⟨b, 3, none⟩ u') b t k' x' v' u' ∧
    w.heap.size = ((((w.setCell ⟨b, 0, none⟩ k').setCell ⟨b, 1, none⟩ x').setCell ⟨b, 2, none⟩ v').setCell ⟨b, 3, none⟩ u').heap.size ∧
    ∀ B, B ≤ b → Below B w ((((w.setCell ⟨b, 0, none⟩ k').setCell ⟨b, 1, none⟩ x').setCell ⟨b, 2, none⟩ v').setCell ⟨b, 3, none⟩ u') :=
  ⟨(((h.set0 k').set1 x').set2 v').set3 u', by simp, fun B hB => ((((Below.refl B w).setCell hB _).setCell hB _).setCell hB _).setCell hB _⟩
theorem set4_else (w : World) (b : Nat) (k' x' v' u' : Value) (j : Nat) (hj : j ≠ b) : ((((w.setCell ⟨b, 0, none⟩ k').setCell ⟨b, 1, none⟩ x').setCell ⟨b, 2, none⟩ v').setCell ⟨b, 3, none⟩ u').heap[j]? = w.heap[j]? :=
  (Below.heap_setCell _ _ _ j hj).trans ((Below.heap_setCell _ _ _ j hj).trans ((Below.heap_setCell _ _ _ j hj).trans (Below.heap_setCell _ _ _ j hj)))
theorem Blk4.else {w : World} {b b' o : Nat} {t : TypeId} {k x v u y : Value} (h : Blk4 w b t k x v u) (hne : b ≠ b') : Blk4 (w.setCell ⟨b', o, none⟩ y) b t k x v u := h.same (Below.heap_setCell _ _ _ b hne)
theorem ownsRow_below {w w' : World} {base : Nat} {e : TypeId} {size n : Nat} {v : Value} {xs : List Value} (h : w.ownsRow base e size v n xs) (hB : Below w.heap.size w w') : w'.ownsRow base e size v n xs := by
  refine ⟨h.1, ?_⟩
  rcases h.2 with hn | ⟨g, cap, cur, rfl, hb, hg, rest⟩
  · exact .inl hn
  · exact .inr ⟨g, cap, cur, rfl, hb, (hB.block g (Array.getElem?_eq_some_iff.1 hg).1).trans hg, rest⟩
/-- a value of its own memory is handed back -/
def Own4 (k : Nat) (x : ByteArray) (l f : V.T) (w : World) (en : Ending) (w' : World) : Prop :=
  ∃ v u, en = .returned (.agg #[.int .u8 k, .string x, v, u]) ∧ HS w' (fun b => w.heap.size ≤ b) 0 v l ∧ HS w' (fun b => w.heap.size ≤ b) 1 u f ∧ Below w.heap.size w w'
/-- the block of a slice is one from B on, and no cell of it is frozen -/
def SlFree (B : Nat) (w : World) (v : Value) : Prop := ∀ b, v.ownBlock = some b → B ≤ b ∧ b < w.heap.size ∧ ∀ j, w.frozen? ⟨b, j, none⟩ = false
theorem SlFree.nil (B : Nat) (w : World) : SlFree B w (.slice none 0 0) := fun b h => by cases h
theorem SlFree.imp {B B' : Nat} {w w' : World} {v : Value} (h : SlFree B w v) (hB : B' ≤ B) (hs : w.heap.size ≤ w'.heap.size) (hk : ∀ b, B ≤ b → b < w.heap.size → w'.heap[b]? = w.heap[b]?) : SlFree B' w' v := fun b hb =>
  ⟨Nat.le_trans hB (h b hb).1, Nat.lt_of_lt_of_le (h b hb).2.1 hs, fun j => (World.frozen?_of_block (w := w) (w' := w') (a := ⟨b, j, none⟩) (hk b (h b hb).1 (h b hb).2.1)).trans ((h b hb).2.2 j)⟩
/-- a block from lo on, no cell of which is frozen -/
def Fre (lo : Nat) (w : World) (b : Nat) : Prop := lo ≤ b ∧ ∀ j, w.frozen? ⟨b, j, none⟩ = false
theorem Fre.imp {lo lo' : Nat} {w w' : World} {b : Nat} (h : Fre lo w b) (hl : lo' ≤ b) (hk : w'.heap[b]? = w.heap[b]?) : Fre lo' w' b := ⟨hl, fun j => (World.frozen?_of_block (w := w) (w' := w') (a := ⟨b, j, none⟩) hk).trans (h.2 j)⟩
theorem HS.fre {w w' : World} {lo lo' d : Nat} {v : Value} {t : V.T} (h : HS w (Fre lo w) d v t) (hl : ∀ b, lo ≤ b → lo' ≤ b) (hk : ∀ b, lo ≤ b → b < w.heap.size → w'.heap[b]? = w.heap[b]?) : HS w' (Fre lo' w') d v t :=
  h.imp (fun b hb hlt => hb.imp (hl b hb.1) (hk b hb.1 hlt)) (fun b hb hlt => hk b hb.1 hlt)
theorem HS.old {w : World} {lo d : Nat} {v : Value} {t : V.T} (h : HS w (Fre lo w) d v t) : HS w (fun b => lo ≤ b) d v t := h.mono fun _ hb _ => hb.1
/-- likewise, its slices such as may be written, at every depth -/
def Own4F (k : Nat) (x : ByteArray) (l f : V.T) (w : World) (en : Ending) (w' : World) : Prop :=
  ∃ v u, en = .returned (.agg #[.int .u8 k, .string x, v, u]) ∧ HS w' (Fre w.heap.size w') 0 v l ∧ HS w' (Fre w.heap.size w') 1 u f ∧ SlFree w.heap.size w' v ∧ SlFree w.heap.size w' u ∧ Below w.heap.size w w'
/-- a value of its own memory, which may be written at every depth -/
def Own4G (k : Nat) (x : ByteArray) (l f : V.T) (w : World) (en : Ending) (w' : World) : Prop :=
  ∃ v u, en = .returned (.agg #[.int .u8 k, .string x, v, u]) ∧ HS w' (Fre w.heap.size w') 0 v l ∧ HS w' (Fre w.heap.size w') 1 u f ∧ Below w.heap.size w w'
theorem Own4G.own {k : Nat} {x : ByteArray} {l f : V.T} {w : World} {en : Ending} {w' : World} (h : Own4G k x l f w en w') : Own4 k x l f w en w' := by
  obtain ⟨v, u, h1, h2, h3, h4⟩ := h
  exact ⟨v, u, h1, h2.old, h3.old, h4⟩
/-- a field of its own memory is handed back -/
def Own5 (nm : ByteArray) (k : Nat) (x : ByteArray) (l f : V.T) (w : World) (en : Ending) (w' : World) : Prop :=
  ∃ v u, en = .returned (.agg #[.string nm, .int .u8 k, .string x, v, u]) ∧ HS w' (Fre w.heap.size w') 0 v l ∧ HS w' (Fre w.heap.size w') 1 u f ∧ Below w.heap.size w w'
/-- likewise, whether it may be written or not -/
def Own5T (nm : ByteArray) (k : Nat) (x : ByteArray) (l f : V.T) (w : World) (en : Ending) (w' : World) : Prop :=
  ∃ v u, en = .returned (.agg #[.string nm, .int .u8 k, .string x, v, u]) ∧ HS w' (fun b => w.heap.size ≤ b) 0 v l ∧ HS w' (fun b => w.heap.size ≤ b) 1 u f ∧ Below w.heap.size w w'
/-- a slice of its own memory is handed back -/
def OwnS (d : Nat) (t : V.T) (w : World) (en : Ending) (w' : World) : Prop := ∃ v, en = .returned v ∧ HS w' (Fre w.heap.size w') d v t ∧ SlFree w.heap.size w' v ∧ Below w.heap.size w w'
/-- a row of cells, none of them frozen -/
def Row (w : World) (g : Nat) (t : TypeId) (cur : Array Value) : Prop := w.heap[g]? = some (.cells cur t (0, 0))
theorem Row.lt {w : World} {g : Nat} {t : TypeId} {cur : Array Value} (h : Row w g t cur) : g < w.heap.size := (Array.getElem?_eq_some_iff.1 h).1
theorem Row.cell {w : World} {g : Nat} {t : TypeId} {cur : Array Value} (h : Row w g t cur) {j : Nat} (hj : j < cur.size) : w.cell? ⟨g, j, none⟩ = some cur[j] := (cell_of_row w g j cur t (0, 0) h).trans (Array.getElem?_eq_getElem hj)
theorem Row.free {w : World} {g : Nat} {t : TypeId} {cur : Array Value} (h : Row w g t cur) (j : Nat) : w.frozen? ⟨g, j, none⟩ = false := by simp [World.frozen?, show w.heap[g]? = _ from h]
theorem Row.same {w w' : World} {g : Nat} {t : TypeId} {cur : Array Value} (h : Row w g t cur) (hk : w'.heap[g]? = w.heap[g]?) : Row w' g t cur := hk.trans h
theorem Row.set {w : World} {g : Nat} {t : TypeId} {cur : Array Value} (h : Row w g t cur) (j : Nat) (y : Value) : Row (w.setCell ⟨g, j, none⟩ y) g t (cur.setIfInBounds j y) := by
  obtain ⟨hlt, hk⟩ := Array.getElem?_eq_some_iff.1 h
  show (w.heap.modify g _)[g]? = _
  rw [Array.getElem?_eq_getElem (by rw [Array.size_modify]; exact hlt), Array.getElem_modify_self, hk]
  rfl
theorem take_set4 (l : List Value) (j : Nat) (a b c d : Value) (h : j + 4 ≤ l.length) : ((((l.set j a).set (j + 1) b).set (j + 2) c).set (j + 3) d).take (j + 4) = l.take j ++ [a, b, c, d] := by
  apply List.ext_getElem?
  intro i
  by_cases h1 : i < j
  · rw [List.getElem?_take_of_lt (by omega), List.getElem?_set_ne (by omega), List.getElem?_set_ne (by omega), List.getElem?_set_ne (by omega), List.getElem?_set_ne (by omega), List.getElem?_append_left (by simp; omega), List.getElem?_take_of_lt h1]
  · rw [List.getElem?_append_right (by simp; omega)]
    simp only [List.length_take]
    rw [show min j l.length = j by omega]
    by_cases h2 : i < j + 4
    · rw [List.getElem?_take_of_lt h2]
      have : i = j ∨ i = j + 1 ∨ i = j + 2 ∨ i = j + 3 := by omega
      rcases this with rfl | rfl | rfl | rfl
      · rw [List.getElem?_set_ne (by omega), List.getElem?_set_ne (by omega), List.getElem?_set_ne (by omega), List.getElem?_set_self (by omega), show i - i = 0 by omega]; rfl
      · rw [List.getElem?_set_ne (by omega), List.getElem?_set_ne (by omega), List.getElem?_set_self (by simp; omega), show j + 1 - j = 1 by omega]; rfl
      · rw [List.getElem?_set_ne (by omega), List.getElem?_set_self (by simp; omega), show j + 2 - j = 2 by omega]; rfl
      · rw [List.getElem?_set_self (by simp; omega), show j + 3 - j = 3 by omega]; rfl
    · rw [List.getElem?_take_eq_none (by omega), List.getElem?_eq_none (by simp; omega)]
theorem take_set5 (l : List Value) (j : Nat) (a b c d e : Value) (h : j + 5 ≤ l.length) : (((((l.set j a).set (j + 1) b).set (j + 2) c).set (j + 3) d).set (j + 4) e).take (j + 5) = l.take j ++ [a, b, c, d, e] := by
  have h4 := take_set4 l j a b c d (by omega)
  apply List.ext_getElem?
  intro i
  by_cases h1 : i < j + 4
  · rw [List.getElem?_take_of_lt (by omega), List.getElem?_set_ne (by omega)]
    have := congrArg (fun (x : List Value) => x[i]?) h4
    rw [List.getElem?_take_of_lt h1] at this
    rw [this]
    by_cases h2 : i < j
    · rw [List.getElem?_append_left (by simp; omega), List.getElem?_append_left (by simp; omega)]
    · rw [List.getElem?_append_right (by simp; omega), List.getElem?_append_right (by simp; omega)]
      simp only [List.length_take]
      rw [show min j l.length = j by omega]
      have : i = j ∨ i = j + 1 ∨ i = j + 2 ∨ i = j + 3 := by omega
      rcases this with rfl | rfl | rfl | rfl
      · rw [show i - i = 0 by omega]; rfl
      · rw [show j + 1 - j = 1 by omega]; rfl
      · rw [show j + 2 - j = 2 by omega]; rfl
      · rw [show j + 3 - j = 3 by omega]; rfl
  · rw [List.getElem?_append_right (by simp; omega)]
    simp only [List.length_take]
    rw [show min j l.length = j by omega]
    by_cases h2 : i < j + 5
    · obtain rfl : i = j + 4 := by omega
      rw [List.getElem?_take_of_lt h2, List.getElem?_set_self (by simp; omega), show j + 4 - j = 4 by omega]; rfl
    · rw [List.getElem?_take_eq_none (by omega), List.getElem?_eq_none (by simp; omega)]
/-- m cells lie at an address -/
def Cells (w : World) (b o m : Nat) : Prop := ∀ j, j < m → (w.cell? ⟨b, o + j, none⟩).isSome = true
theorem HR.cells {w : World} {A : Nat → Prop} {d : Nat} (hd : d = 0 ∨ d = 1) : ∀ (t : V.T) (b o : Nat), HR w A d b o t → Cells w b o (t.len * (4 + d))
  | .nil, _, _, _, j, hj => by simp [V.T.len] at hj
  | .cons nm k x l f tl, b, o, h, j, hj => by
    obtain ⟨_, _, h3, h4, h5, ⟨v, h6, _⟩, ⟨u, h7, _⟩, _, h8⟩ := h
    have hj' : j < (tl.len + 1) * (4 + d) := hj
    rw [Nat.succ_mul] at hj'
    by_cases h9 : j < 4 + d
    · rcases hd with rfl | rfl
      · have : j = 0 ∨ j = 1 ∨ j = 2 ∨ j = 3 := by omega
        rcases this with rfl | rfl | rfl | rfl
        · exact Option.isSome_iff_exists.2 ⟨_, h4⟩
        · exact Option.isSome_iff_exists.2 ⟨_, h5⟩
        · exact Option.isSome_iff_exists.2 ⟨_, h6⟩
        · exact Option.isSome_iff_exists.2 ⟨_, h7⟩
      · have : j = 0 ∨ j = 1 ∨ j = 2 ∨ j = 3 ∨ j = 4 := by omega
        rcases this with rfl | rfl | rfl | rfl | rfl
        · exact Option.isSome_iff_exists.2 ⟨_, h3 rfl⟩
        · exact Option.isSome_iff_exists.2 ⟨_, h4⟩
        · exact Option.isSome_iff_exists.2 ⟨_, h5⟩
        · exact Option.isSome_iff_exists.2 ⟨_, h6⟩
        · exact Option.isSome_iff_exists.2 ⟨_, h7⟩
    · have h10 := HR.cells hd tl b (o + (4 + d)) h8 (j - (4 + d)) (by omega)
      rw [show o + (4 + d) + (j - (4 + d)) = o + j by omega] at h10
      exact h10
theorem Cells.set {w : World} {b o m : Nat} (h : Cells w b o m) (a : Addr) (y : Value) : Cells (w.setCell a y) b o m := fun j hj => by
  obtain ⟨v, hv⟩ := Option.isSome_iff_exists.1 (h j hj)
  obtain ⟨v', hv'⟩ := cell?_setCell_some (p := a) (x := y) hv
  exact Option.isSome_iff_exists.2 ⟨v', hv'⟩
end Go.Proofs.YtbdpghmpdghnbaaDoor
