/- The program's reader of JSON: an element of a list is read and put behind the others. Conditions: a string of at most 2^18 bytes; a value that is read as it should be. -/
import Derived.Test.YtbdpghmpdghnbaaDoorMJ19
import Derived.Test.YtbdpghmpdghnbaaDoorMJ05
import Derived.Test.YtbdpghmpdghnbaaDoorMJ20
import Derived.Deep.AppendLies
namespace Go.Proofs.YtbdpghmpdghnbaaDoor
open Go Go.RowKit Go.Lib

/-- a value comes of reading, in memory of its own, or an error -/
def OutV (r : VR) (s : ByteArray) (d B : Nat) (w : World) (en : Ending) (w' : World) : Prop :=
  if r.2.2 = 0 then ∃ v u, en = .returned (.agg #[.int .u8 r.1.1, .string r.1.2.1, v, u]) ∧ HS w' (fun b => w.heap.size ≤ b) 0 v r.1.2.2.1 ∧ HS w' (fun b => w.heap.size ≤ b) 1 u r.1.2.2.2 ∧ Fit ⟨#[]⟩ r.1.1 r.1.2.1 ∧ Rd s r.2.1 d B w' ∧ w.grownBy w' (some B)
  else Died r.2.2 s r.2.1 B w en w'
/-- a box of one cell -/
def Blk1 (w : World) (b : Nat) (v : Value) : Prop := ∃ t, w.heap[b]? = some (.cells #[v] t (0, 0))
theorem Blk1.cell {w : World} {b : Nat} {v : Value} (h : Blk1 w b v) : w.cell? ⟨b, 0, none⟩ = some v := by obtain ⟨t, h⟩ := h; simp [World.cell?, h]
theorem Blk1.free {w : World} {b : Nat} {v : Value} (h : Blk1 w b v) : w.frozen? ⟨b, 0, none⟩ = false := by obtain ⟨t, h⟩ := h; simp [World.frozen?, h]
theorem Blk1.lt {w : World} {b : Nat} {v : Value} (h : Blk1 w b v) : b < w.heap.size := by obtain ⟨t, h⟩ := h; exact (Array.getElem?_eq_some_iff.1 h).1
theorem Blk1.same {w w' : World} {b : Nat} {v : Value} (h : Blk1 w b v) (hk : w'.heap[b]? = w.heap[b]?) : Blk1 w' b v := by obtain ⟨t, h⟩ := h; exact ⟨t, hk.trans h⟩
theorem Blk1.set {w : World} {b : Nat} {v : Value} (h : Blk1 w b v) (y : Value) : Blk1 (w.setCell ⟨b, 0, none⟩ y) b y := by
  obtain ⟨t, h⟩ := h
  refine ⟨t, ?_⟩
  obtain ⟨hlt, hk⟩ := Array.getElem?_eq_some_iff.1 h
  show (w.heap.modify b _)[b]? = _
  rw [Array.getElem?_eq_getElem (by rw [Array.size_modify]; exact hlt), Array.getElem_modify_self, hk]
  rfl
/-- the list so far: two boxes (the reader's, the list's), the row -/
def LI (s : ByteArray) (B n0 : Nat) (t : V.T) (W : World) : Prop :=
  t.len ≤ s.size + 1 ∧ B < n0 ∧ n0 + 2 ≤ W.heap.size ∧ ∃ v xs, Blk1 W n0 (.pointer (some ⟨B, 0, none⟩)) ∧ Blk1 W (n0 + 1) v ∧ W.ownsRow (n0 + 2) 25 4 v t.len xs ∧ RP W (Aside (n0 + 2) v) 0 t t.len xs
theorem ownsRow_keep {w w' : World} {base B : Nat} {e : TypeId} {size n : Nat} {v : Value} {xs : List Value} (h : w.ownsRow base e size v n xs) (hB : B < base) (g : w.grownBy w' (some B)) : w'.ownsRow base e size v n xs := by
  refine ⟨h.1, ?_⟩
  rcases h.2 with hn | ⟨k, cap, cur, rfl, hb, hg, rest⟩
  · exact .inl hn
  · exact .inr ⟨k, cap, cur, rfl, hb, (g.block k (Array.getElem?_eq_some_iff.1 hg).1 (fun e => by cases e; omega)).trans hg, rest⟩
theorem RP.keep {w w' : World} {base B : Nat} {d : Nat} {t : V.T} {k : Nat} {v : Value} {xs : List Value} (h : RP w (Aside base v) d t k xs) (hB : B < base) (g : w.grownBy w' (some B)) : RP w' (Aside base v) d t k xs :=
  h.imp (fun _ a _ => a) (fun b a hlt => g.block b hlt (fun e => by cases e; have := a.1; omega))
theorem LI.keep {s : ByteArray} {B n0 : Nat} {t : V.T} {W W' : World} (h : LI s B n0 t W) (g : W.grownBy W' (some B)) : LI s B n0 t W' := by
  obtain ⟨h1, h2, h3, v, xs, b0, b1, ho, hr⟩ := h
  exact ⟨h1, h2, Nat.le_trans h3 g.size, v, xs, b0.same (g.block _ b0.lt (fun e => by cases e; omega)), b1.same (g.block _ b1.lt (fun e => by cases e; omega)), ownsRow_keep ho (by omega) g, hr.keep (by omega) g⟩
theorem grow_new2 {w w1 w2 : World} {B b : Nat} (g : w.grownBy w1 (some B)) (h : w1.grownBy w2 (some b)) (hb : w.heap.size ≤ b) : w.grownBy w2 (some B) :=
  ⟨h.os.trans g.os, h.tape.trans g.tape, h.output.trans g.output, Nat.le_trans g.size h.size, fun k hk hne => (h.block k (Nat.lt_of_lt_of_le hk g.size) (fun e => by cases e; omega)).trans (g.block k hk hne)⟩
/-- what reading a value does, so deep, at any place -/
def VC (s : ByteArray) (v : Nat → VR) (d B : Nat) : Prop := ∀ q W, q ≤ s.size → TB B W → Rd s q d B W → Calls Tryd.prog 11 #[.pointer (some ⟨B, 0, none⟩)] W (OutV (v q) s d B W)

/-- behind the value and the element that is laid for it -/
def L3 (s : ByteArray) (r : VR) (W W3 : World) (d B zb : Nat) (v2 u2 : Value) : Prop :=
  W.grownBy W3 (some B) ∧ W3.heap[zb]? = some (.cells #[.int .u8 0, .string ⟨#[]⟩, .slice none 0 0, .slice none 0 0] 25 (0, 0)) ∧ HS W3 (fun b => W.heap.size ≤ b) 0 v2 r.1.2.2.1 ∧ HS W3 (fun b => W.heap.size ≤ b) 1 u2 r.1.2.2.2 ∧ Fit ⟨#[]⟩ r.1.1 r.1.2.1 ∧ Rd s r.2.1 d B W3

/-- behind the append -/
def L4 (s : ByteArray) (r : VR) (W w4 : World) (d B n0 : Nat) (t : V.T) (v0 v2 u2 : Value) (xs : List Value) (gg cap : Nat) : Prop :=
  Blk1 w4 n0 (.pointer (some ⟨B, 0, none⟩)) ∧ Blk1 w4 (n0 + 1) v0 ∧ w4.ownsRow (n0 + 2) 25 4 (.slice (some ⟨gg, 0, none⟩) (t.len + 1) cap) (t.len + 1) (xs ++ [.int .u8 0, .string ⟨#[]⟩, .slice none 0 0, .slice none 0 0]) ∧
    RP w4 (Aside (n0 + 2) (.slice (some ⟨gg, 0, none⟩) (t.len + 1) cap)) 0 t t.len xs ∧ HS w4 (Aside (n0 + 2) (.slice (some ⟨gg, 0, none⟩) (t.len + 1) cap)) 0 v2 r.1.2.2.1 ∧ HS w4 (Aside (n0 + 2) (.slice (some ⟨gg, 0, none⟩) (t.len + 1) cap)) 1 u2 r.1.2.2.2 ∧
    Fit ⟨#[]⟩ r.1.1 r.1.2.1 ∧ Rd s r.2.1 d B w4 ∧ (∀ w : World, w.heap.size = n0 → w.grownBy W (some B) → w.grownBy w4 (some B)) ∧ n0 + 2 ≤ w4.heap.size
theorem L4.of {s : ByteArray} {r : VR} {W W3 w4 : World} {d B n0 zb : Nat} {t : V.T} {v0 v2 u2 : Value} {xs : List Value} {gg cap : Nat} (ho : W.ownsRow (n0 + 2) 25 4 v0 t.len xs) (hr : RP W (Aside (n0 + 2) v0) 0 t t.len xs) (h3 : n0 + 2 ≤ W.heap.size) (hB : B < n0)
    (b0 : Blk1 W n0 (.pointer (some ⟨B, 0, none⟩))) (b1 : Blk1 W (n0 + 1) v0) (h : L3 s r W W3 d B zb v2 u2)
    (hown : w4.ownsRow (n0 + 2) 25 4 (.slice (some ⟨gg, 0, none⟩) (t.len + 1) cap) (t.len + 1) (xs ++ [.int .u8 0, .string ⟨#[]⟩, .slice none 0 0, .slice none 0 0])) (hg : W3.grownBy w4 v0.ownBlock) (hat : v0.ownBlock = some gg ∨ gg = W3.heap.size) :
    L4 s r W w4 d B n0 t v0 v2 u2 xs gg cap := by
  obtain ⟨g3, hz, hl, hf, hfit, hrd⟩ := h
  have hab : ∀ k, v0.ownBlock = some k → n0 + 2 ≤ k := fun k hk => (ho.lt k hk).1
  have keep : ∀ b, b < W.heap.size → b < n0 + 2 → b ≠ B → w4.heap[b]? = W.heap[b]? := fun b hb h2 hne =>
    (hg.block b (Nat.lt_of_lt_of_le hb g3.size) (fun e => by have := hab b e.symm; omega)).trans (g3.block b hb (fun e => hne (by cases e; rfl)))
  refine ⟨b0.same (keep _ (by omega) (by omega) (by omega)), b1.same (keep _ (by omega) (by omega) (by omega)), hown, (hr.keep (by omega) g3).appended hg hat, (hl.aside ho h3).appended hg hat, (hf.aside ho h3).appended hg hat, hfit,
    hrd.own hg (fun b hb => by have := hab b hb; omega), fun w hw g => grow_own (grow_trans g g3) hg (fun b hb => by have := hab b hb; omega), Nat.le_trans h3 (Nat.le_trans g3.size hg.size)⟩

/-- behind the store of the list -/
def L5 (s : ByteArray) (r : VR) (W w4 : World) (d B n0 : Nat) (t : V.T) (v2 u2 : Value) (xs : List Value) (gg cap : Nat) : Prop :=
  L4 s r W w4 d B n0 t (.slice (some ⟨gg, 0, none⟩) (t.len + 1) cap) v2 u2 xs gg cap
theorem L4.set1 {s : ByteArray} {r : VR} {W w4 : World} {d B n0 : Nat} {t : V.T} {v0 v2 u2 : Value} {xs : List Value} {gg cap : Nat} (h : L4 s r W w4 d B n0 t v0 v2 u2 xs gg cap) (hB : B < n0) :
    L5 s r W (w4.setCell ⟨n0 + 1, 0, none⟩ (.slice (some ⟨gg, 0, none⟩) (t.len + 1) cap)) d B n0 t v2 u2 xs gg cap := by
  obtain ⟨h0, h1, h2, h3, h4, h5, h6, h7, h8, h9⟩ := h
  have g := grow_set w4 (n0 + 1) 0 (.slice (some ⟨gg, 0, none⟩) (t.len + 1) cap)
  refine ⟨h0.same (g.block _ h0.lt (fun e => by cases e)), h1.set _, ownsRow_keep h2 (by omega) g, h3.keep (by omega) g, ?_, ?_, h6, h7.same (g.block _ h7.lt (fun e => by cases e; omega)), fun w hw hg => ?_, Nat.le_trans h9 g.size⟩
  · exact h4.imp (fun _ a _ => a) (fun b a hlt => g.block b hlt (fun e => by cases e; have := a.1; omega))
  · exact h5.imp (fun _ a _ => a) (fun b a hlt => g.block b hlt (fun e => by cases e; have := a.1; omega))
  · exact grow_new2 (h8 w hw hg) g (by omega)
theorem L4.cells {s : ByteArray} {r : VR} {W w4 : World} {d B n0 : Nat} {t : V.T} {v0 v2 u2 : Value} {xs : List Value} {gg cap : Nat} (h : L4 s r W w4 d B n0 t v0 v2 u2 xs gg cap) (hx : xs.length = t.len * 4) :
    w4.cell? ⟨gg, t.len * 4, none⟩ = some (.int .u8 0) ∧ w4.cell? ⟨gg, t.len * 4 + 1, none⟩ = some (.string ⟨#[]⟩) ∧ w4.cell? ⟨gg, t.len * 4 + 2, none⟩ = some (.slice none 0 0) ∧ w4.cell? ⟨gg, t.len * 4 + 3, none⟩ = some (.slice none 0 0) ∧
      w4.frozen? ⟨gg, t.len * 4, none⟩ = false ∧ w4.frozen? ⟨gg, t.len * 4 + 1, none⟩ = false ∧ w4.frozen? ⟨gg, t.len * 4 + 2, none⟩ = false ∧ w4.frozen? ⟨gg, t.len * 4 + 3, none⟩ = false := by
  obtain ⟨_, _, h2, _⟩ := h
  have hc := fun j u hj => h2.cells (g := gg) rfl j u hj
  have hadd : ∀ j, (⟨gg, 0, none⟩ : Addr).add j = ⟨gg, j, none⟩ := fun j => by cases j <;> simp [Addr.add]
  have hf : ∀ j, w4.frozen? ⟨gg, j, none⟩ = false := fun j => by
    rcases h2.2 with ⟨e, _⟩ | ⟨k, c, cur, e, _, hg, _⟩
    · cases e
    · cases e
      simp [World.frozen?, hg]
  have e : ∀ i, (xs ++ [.int .u8 0, .string ⟨#[]⟩, .slice none 0 0, .slice none 0 0])[t.len * 4 + i]? = ([.int .u8 0, .string ⟨#[]⟩, .slice none 0 0, .slice none 0 0] : List Value)[i]? := fun i => by
    rw [List.getElem?_append_right (by omega), hx, Nat.add_sub_cancel_left]
  refine ⟨?_, ?_, ?_, ?_, hf _, hf _, hf _, hf _⟩
  · have := hc (t.len * 4 + 0) _ (e 0); rwa [hadd] at this
  · have := hc _ _ (e 1); rwa [hadd] at this
  · have := hc _ _ (e 2); rwa [hadd] at this
  · have := hc _ _ (e 3); rwa [hadd] at this

theorem own_set4 {w : World} {base : Nat} {e : TypeId} {n g cap : Nat} {xs zs : List Value} (h : w.ownsRow base e 4 (.slice (some ⟨g, 0, none⟩) (n + 1) cap) (n + 1) (xs ++ zs)) (hx : xs.length = n * 4) (a b c d : Value) :
    ((((w.setCell ⟨g, n * 4, none⟩ a).setCell ⟨g, n * 4 + 1, none⟩ b).setCell ⟨g, n * 4 + 2, none⟩ c).setCell ⟨g, n * 4 + 3, none⟩ d).ownsRow base e 4 (.slice (some ⟨g, 0, none⟩) (n + 1) cap) (n + 1) (xs ++ [a, b, c, d]) := by
  refine ⟨by simp [hx]; omega, ?_⟩
  rcases h.2 with ⟨e1, _⟩ | ⟨k, cp, cur, e1, hb, hg, hn, hc, hs, ht⟩
  · cases e1
  · cases e1
    have hr : Row w g e cur := hg
    have hr4 := (((hr.set (n * 4) a).set (n * 4 + 1) b).set (n * 4 + 2) c).set (n * 4 + 3) d
    refine .inr ⟨g, cap, _, rfl, hb, hr4, hn, hc, by simp [hs], ?_⟩
    have hl : n * 4 + 4 ≤ cur.toList.length := by simp; omega
    have h1 := take_set4 cur.toList (n * 4) a b c d hl
    have h2 := congrArg (List.take (n * 4)) ht
    rw [List.take_take, Nat.min_eq_left (by omega), List.take_left' hx] at h2
    rw [show (n + 1) * 4 = n * 4 + 4 by omega]
    simp only [Array.toList_setIfInBounds]
    rw [h1, h2]
theorem RP.more {w : World} {A : Nat → Prop} {d : Nat} {t : V.T} {k : Nat} {xs : List Value} (h : RP w A d t k xs) (nm : ByteArray) (kk : Nat) (x : ByteArray) (l f : V.T) : RP w A d (t.snoc nm kk x l f) k xs := by
  refine ⟨h.1, fun i hi => ?_⟩
  obtain ⟨nm', kk', x', l', f', tl, v, u, h1, h2⟩ := h.2 i hi
  exact ⟨nm', kk', x', l', f', _, v, u, V.T.snoc_old h1 nm kk x l f, h2⟩
theorem L5.fin {s : ByteArray} {r : VR} {w W w5 : World} {d B : Nat} {t : V.T} {v2 u2 : Value} {xs : List Value} {gg cap : Nat} (h : L5 s r W w5 d B w.heap.size t v2 u2 xs gg cap) (hB : B < w.heap.size) (hx : RP W (Aside (w.heap.size + 2) v2) 0 t t.len xs ∨ xs.length = t.len * 4) (hl : t.len + 1 ≤ s.size + 1) (hg : w.grownBy W (some B)) :
    OutI (LI s B w.heap.size) s (t.snoc ⟨#[]⟩ r.1.1 r.1.2.1 r.1.2.2.1 r.1.2.2.2, r.2.1, 0) d B w (.returned (.tuple #[]))
      ((((w5.setCell ⟨gg, t.len * 4, none⟩ (.int .u8 r.1.1)).setCell ⟨gg, t.len * 4 + 1, none⟩ (.string r.1.2.1)).setCell ⟨gg, t.len * 4 + 2, none⟩ v2).setCell ⟨gg, t.len * 4 + 3, none⟩ u2) := by
  obtain ⟨h0, h1, h2, h3, h4, h5, h6, h7, h8, h9⟩ := h
  have hx : xs.length = t.len * 4 := by rcases hx with hx | hx; exact hx.1; exact hx
  have hgg := h2.lt gg rfl
  have ho := own_set4 h2 hx (.int .u8 r.1.1) (.string r.1.2.1) v2 u2
  have g := (((grow_set w5 gg (t.len * 4) (.int .u8 r.1.1)).trans (grow_set _ gg (t.len * 4 + 1) (.string r.1.2.1))).trans (grow_set _ gg (t.len * 4 + 2) v2)).trans (grow_set _ gg (t.len * 4 + 3) u2)
  generalize (((w5.setCell ⟨gg, t.len * 4, none⟩ (.int .u8 r.1.1)).setCell ⟨gg, t.len * 4 + 1, none⟩ (.string r.1.2.1)).setCell ⟨gg, t.len * 4 + 2, none⟩ v2).setCell ⟨gg, t.len * 4 + 3, none⟩ u2 = W6 at *
  have keep : ∀ b, b < w5.heap.size → b ≠ gg → W6.heap[b]? = w5.heap[b]? := fun b hb hne => g.block b hb (fun e => hne (by cases e; rfl))
  have hA : ∀ b, Aside (w.heap.size + 2) (.slice (some ⟨gg, 0, none⟩) (t.len + 1) cap) b → b ≠ gg := fun b hb e => hb.2 (by rw [e]; rfl)
  refine outI_ok ⟨rfl, ⟨by rw [V.T.snoc_len]; exact hl, hB, Nat.le_trans h9 g.size, .slice (some ⟨gg, 0, none⟩) (t.len + 1) cap, xs ++ [.int .u8 r.1.1, .string r.1.2.1, v2, u2], h0.same (keep _ h0.lt (by omega)), h1.same (keep _ h1.lt (by omega)), ?_, ?_⟩, h7.same (keep _ h7.lt (by omega)), grow_new2 (h8 w rfl hg) g (by omega)⟩
  · rw [V.T.snoc_len]; exact ho
  · rw [V.T.snoc_len]
    exact ((h3.more _ _ _ _ _).imp (fun _ a _ => a) (fun b a hb => keep b hb (hA b a))).snoc0 (V.T.snoc_new ..) rfl (h4.imp (fun _ a _ => a) (fun b a hb => keep b hb (hA b a))) (h5.imp (fun _ a _ => a) (fun b a hb => keep b hb (hA b a))) h6

theorem setCell_comm (w : World) (a b : Addr) (x y : Value) (h : a.block ≠ b.block) : (w.setCell a x).setCell b y = (w.setCell b y).setCell a x := by
  have e : ∀ (f g : Obj → Obj), (w.heap.modify a.block f).modify b.block g = (w.heap.modify b.block g).modify a.block f := fun f g => by
    apply Array.ext
    · simp
    · intro i h1 h2
      simp only [Array.getElem_modify]
      by_cases ha : a.block = i
      · have hb : ¬ b.block = i := fun e => h (ha.trans e.symm)
        simp [ha, hb]
      · simp [ha]
  unfold World.setCell
  simp only []
  rw [e]
theorem box_set4 {s : ByteArray} {r : VR} {W w4 : World} {d B n0 : Nat} {t : V.T} {v0 v2 u2 : Value} {xs : List Value} {gg cap : Nat} (h : L4 s r W w4 d B n0 t v0 v2 u2 xs gg cap) (a b c e : Value) :
    Blk1 ((((w4.setCell ⟨gg, t.len * 4, none⟩ a).setCell ⟨gg, t.len * 4 + 1, none⟩ b).setCell ⟨gg, t.len * 4 + 2, none⟩ c).setCell ⟨gg, t.len * 4 + 3, none⟩ e) (n0 + 1) v0 := by
  have hgg := h.2.2.1.lt gg rfl
  have g := (((grow_set w4 gg (t.len * 4) a).trans (grow_set _ gg (t.len * 4 + 1) b)).trans (grow_set _ gg (t.len * 4 + 2) c)).trans (grow_set _ gg (t.len * 4 + 3) e)
  exact h.2.1.same (g.block _ h.2.1.lt (fun e => by cases e; omega))
theorem set4_box (w4 : World) (gg n b : Nat) (hne : gg ≠ b) (x a0 a1 a2 a3 : Value) :
    ((((w4.setCell ⟨gg, n, none⟩ a0).setCell ⟨gg, n + 1, none⟩ a1).setCell ⟨gg, n + 2, none⟩ a2).setCell ⟨gg, n + 3, none⟩ a3).setCell ⟨b, 0, none⟩ x =
      ((((w4.setCell ⟨b, 0, none⟩ x).setCell ⟨gg, n, none⟩ a0).setCell ⟨gg, n + 1, none⟩ a1).setCell ⟨gg, n + 2, none⟩ a2).setCell ⟨gg, n + 3, none⟩ a3 := by
  rw [setCell_comm _ _ _ _ _ hne, setCell_comm _ _ ⟨b, 0, none⟩ _ _ hne, setCell_comm _ _ ⟨b, 0, none⟩ _ _ hne, setCell_comm _ _ ⟨b, 0, none⟩ _ _ hne]

set_option maxRecDepth 100000 in
set_option maxHeartbeats 4000000 in
theorem list1_any (s : ByteArray) (v : Nat → VR) (d B q : Nat) (t : V.T) (w W : World) (hs : s.size ≤ 262144) (hv : VC s v d B) (hvl : ∀ q, q ≤ s.size → Le s q (v q).2.1) (hq : q ≤ s.size) (hP : t.len ≤ q)
    (hT : TB B W) (hI : LI s B w.heap.size t W) (h : Rd s q d B W) (hg : w.grownBy W (some B)) :
    Calls Tryd.prog 39 #[.pointer (some ⟨w.heap.size + 1, 0, none⟩), .pointer (some ⟨w.heap.size, 0, none⟩)] W (OutI (LI s B w.heap.size) s (lo v q t) d B w) := by
  obtain ⟨h1, h2, h3, v0, xs, b0, b1, ho, hr⟩ := hI
  obtain ⟨i0, hi0, hz0, hz1, hz2⟩ := info_parts infoValue
  have hX0 := Lib.hid (show Below W.heap.size W W.drew from (Below.refl _ _).drew)
  have hX1 := Lib.hid (show ∀ o, Below W.heap.size W (W.alloc o).drew from fun o => ((Below.refl _ W).alloc (Nat.le_refl _) o).drew)
  have hval := fun X (hX : Below W.heap.size W X) => hv q X hq (hT.below hX) (h.below hX)
  have c0 := b0.cell
  have c1 := b1.cell
  have HK := Lib.hid (show ∀ X, Below W.heap.size W X → X.cell? ⟨w.heap.size, 0, none⟩ = some (.pointer (some ⟨B, 0, none⟩)) ∧ X.cell? ⟨w.heap.size + 1, 0, none⟩ = some v0 from fun X hX => ⟨bcellv hX c0, bcellv hX c1⟩)
  obtain ⟨pv0, cv0, rfl⟩ : ∃ p c, v0 = .slice p t.len c := by
    rcases ho.2 with ⟨e, e2⟩ | ⟨k, cap, cur, e, _⟩
    · exact ⟨_, _, by rw [e, e2]⟩
    · exact ⟨_, _, e⟩
  by_cases he : (v q).2.2 = 0
  · unfold OutV at hval
    simp only [if_pos he] at hval
    have HE := Lib.hid (show lo v q t = (t.snoc ⟨#[]⟩ (v q).1.1 (v q).1.2.1 (v q).1.2.2.1 (v q).1.2.2.2, (v q).2.1, 0) from if_pos he)
    have HL := Lib.hid (hvl q hq)
    have HC := Lib.hid (show ∀ X, W.grownBy X (some B) → X.cell? ⟨w.heap.size, 0, none⟩ = some (.pointer (some ⟨B, 0, none⟩)) ∧ X.cell? ⟨w.heap.size + 1, 0, none⟩ = some (.slice pv0 t.len cv0) from fun X g => ⟨(b0.same (g.block _ b0.lt (fun e => by cases e; omega))).cell, (b1.same (g.block _ b1.lt (fun e => by cases e; omega))).cell⟩)
    have hBw := b0.lt
    generalize v q = r at *
    have HG := Lib.hid hg
    clear hg
    go_enter Tryd.func39, Tryd.ntmps39
    go_wp2_with fail
    have HS0 := Lib.hid (HK.out _ hX0.out)
    refine wp_region_late (S := fun X => X.cell? ⟨w.heap.size, 0, none⟩ = some (.pointer (some ⟨B, 0, none⟩)) ∧ X.cell? ⟨w.heap.size + 1, 0, none⟩ = some (.slice pv0 t.len cv0)) (zs := [8, 6, 7]) (by kernel_rfl) ?_
    refine wpAnyL_take (v := ?_) 0 rfl (by kernel_rfl) (by kernel_rfl) (by kernel_rfl) (fun _ _ _ h => h) (by kernel_rfl) (by kernel_rfl) HS0.out (by rfl) (fun X hX => ?_) ?_
    rotate_left
    · obtain ⟨s0, s1⟩ := hX
      go_simp
      try with_reducible rfl
    try simp only [Act.put, List.setIfInBounds_toArray, List.set_cons_zero, List.set_cons_succ]
    refine wpAnyL_take (v := ?_) 1 rfl (by kernel_rfl) (by kernel_rfl) (by kernel_rfl) (fun _ _ _ h => h) (by kernel_rfl) (by kernel_rfl) HS0.out (by rfl) (fun X hX => ?_) ?_
    rotate_left
    · obtain ⟨s0, s1⟩ := hX
      go_simp
      try with_reducible rfl
    try simp only [Act.put, List.setIfInBounds_toArray, List.set_cons_zero, List.set_cons_succ]
    refine wpAnyL_take (v := ?_) 3 rfl (by kernel_rfl) (by kernel_rfl) (by kernel_rfl) (fun _ _ _ h => h) (by kernel_rfl) (by kernel_rfl) HS0.out (by rfl) (fun X hX => ?_) ?_
    rotate_left
    · obtain ⟨s0, s1⟩ := hX
      go_simp
      try with_reducible rfl
    try simp only [Act.put, List.setIfInBounds_toArray, List.set_cons_zero, List.set_cons_succ]
    refine wpAnyL_two 2 4 (by kernel_rfl) rfl rfl (fun K hK => ?_) (fun K hK => ?_)
    · go_simp
      go_at_call 11
      (with_reducible refine (hval _ hX0.out).mono ?_)
      rintro e w2 ⟨v2, u2, rfl, hl2, hf2, hfit, h2r, g2⟩
      obtain ⟨p3, c3, rfl, -⟩ := hl2.len
      obtain ⟨p4, c4', rfl, -⟩ := hf2.len
      have g3 := grow_trans (grow_below hX0.out (some B)) g2
      refine hK.out _ _ (fun _ => HC.out _ g3) ?_
      try simp only [Act.put, List.setIfInBounds_toArray, List.set_cons_zero, List.set_cons_succ]
      clear hK K
      refine wpAnyL_op 4 (by kernel_rfl) rfl (fun K hK => ?_)
      go_simp
      refine hK.out _ _ (fun _ => HC.out _ (g3.trans (World.grownBy_alloc _ _ _))) ?_
      try simp only [Act.put, List.setIfInBounds_toArray, List.set_cons_zero, List.set_cons_succ]
      clear hK K
      have H3 := Lib.hid (show L3 s r W (w2.alloc (.cells #[.int .u8 0, .string ⟨#[]⟩, .slice none 0 0, .slice none 0 0] 25)) d B w2.heap.size (.slice p3 r.1.2.2.1.len c3) (.slice p4 r.1.2.2.2.len c4') from
        ⟨g3.trans (World.grownBy_alloc _ _ _), heap_alloc_new _ _, (hl2.mono (fun b hb _ => hb)).alloc _, (hf2.mono (fun b hb _ => hb)).alloc _, hfit, h2r.alloc _⟩)
      generalize w2.alloc (.cells #[.int .u8 0, .string ⟨#[]⟩, .slice none 0 0, .slice none 0 0] 25) = W3 at *
      generalize w2.heap.size = zb at *
      clear hl2 hf2 hfit h2r g2 g3
      have hown3 := ownsRow_keep ho (by omega) H3.out.1
      refine wpAnyL_op 5 (by kernel_rfl) rfl (fun K hK => ?_)
      refine step_append_lies _ (by rfl) _ _ _ (by rfl) (w.heap.size + 2) 25 i0 _ 4 72 Tryd.underlying22 hi0 hz0 hz1 hz2 rfl (by omega) (.slice pv0 t.len cv0) t.len xs (by rfl) hown3 ⟨zb, 0, none⟩ 1 1 [.int .u8 0, .string ⟨#[]⟩, .slice none 0 0, .slice none 0 0] (by rfl) (by rfl) (World.news_of_block (cs := #[.int .u8 0, .string ⟨#[]⟩, .slice none 0 0, .slice none 0 0]) (t := 25) (fr := (0, 0)) H3.out.2.1) (by simp [Value.oneCell']) (by omega) (by unfold maxLen; omega) (by omega) (Nat.le_trans h3 H3.out.1.size) W3.heap.size rfl ?_
      intro gg cap w4 hown4 hgrow4 hat hlt4
      have H4 := Lib.hid (L4.of ho hr h3 h2 b0 b1 H3.out hown4 hgrow4 hat)
      have c4 := H4.out.1.cell
      have d4 := H4.out.2.1.cell
      have f4 := H4.out.2.1.free
      refine hK.out _ _ (fun _ => ⟨c4, d4⟩) ?_
      try simp only [Act.put, List.setIfInBounds_toArray, List.set_cons_zero, List.set_cons_succ]
      clear hK K
      have H5 := Lib.hid (H4.out.set1 h2)
      have KC := Lib.hid (H4.out.cells hr.1)
      have KD := Lib.hid (L4.cells H5.out hr.1)
      have hlt1 : ((t.len : Nat) : Int) < (t.len : Int) + 1 := by omega
      have HB6 := Lib.hid (box_set4 H4.out (.int .u8 r.1.1) (.string r.1.2.1) (.slice p3 r.1.2.2.1.len c3) (.slice p4 r.1.2.2.2.len c4'))
      have HQ := Lib.hid (set4_box w4 gg (t.len * 4) (w.heap.size + 1) (fun e => by have := (H4.out.2.2.1.lt gg rfl).1; omega) (.slice (some ⟨gg, 0, none⟩) (t.len + 1) cap) (.int .u8 r.1.1) (.string r.1.2.1) (.slice p3 r.1.2.2.1.len c3) (.slice p4 r.1.2.2.2.len c4'))
      refine wpAnyL_two 6 8 (by kernel_rfl) rfl rfl (fun K hK => ?_) (fun K hK => ?_)
      · go_simp
        refine hK.out _ _ (fun e => absurd e (by decide)) ?_
        try simp only [Act.put, List.setIfInBounds_toArray, List.set_cons_zero, List.set_cons_succ]
        clear hK K
        refine wpAnyL_two 7 8 (by kernel_rfl) rfl rfl (fun K hK => ?_) (fun K hK => ?_)
        · obtain ⟨k0, k1, k2, k3, l0, l1, l2, l3⟩ := KC.out
          go_simp
          refine hK.out _ _ (fun e => absurd e (by decide)) ?_
          try simp only [Act.put, List.setIfInBounds_toArray, List.set_cons_zero, List.set_cons_succ]
          clear hK K
          have c6 := HB6.out.cell
          have f6 := HB6.out.free
          generalize hW6 : (((w4.setCell ⟨gg, t.len * 4, none⟩ (.int .u8 r.1.1)).setCell ⟨gg, t.len * 4 + 1, none⟩ (.string r.1.2.1)).setCell ⟨gg, t.len * 4 + 2, none⟩ (.slice p3 r.1.2.2.1.len c3)).setCell ⟨gg, t.len * 4 + 3, none⟩ (.slice p4 r.1.2.2.2.len c4') = w6 at *
          refine wpAnyL_op 8 (by kernel_rfl) rfl (fun K hK => ?_)
          go_simp
          refine hK.out _ _ (fun e => absurd e (by decide)) ?_
          try simp only [Act.put, List.setIfInBounds_toArray, List.set_cons_zero, List.set_cons_succ]
          clear hK K
          refine wpAnyL_end (by kernel_rfl) ?_
          go_end0
          rw [HE.out, HQ.out]
          exact H5.out.fin h2 (.inr hr.1) (by omega) HG.out
        · go_simp
          refine hK.out _ _ (fun e => absurd e (by decide)) ?_
          try simp only [Act.put, List.setIfInBounds_toArray, List.set_cons_zero, List.set_cons_succ]
          clear hK K
          obtain ⟨k0, k1, k2, k3, l0, l1, l2, l3⟩ := KD.out
          generalize w4.setCell ⟨w.heap.size + 1, 0, none⟩ (.slice (some ⟨gg, 0, none⟩) (t.len + 1) cap) = w5 at *
          refine wpAnyL_op 7 (by kernel_rfl) rfl (fun K hK => ?_)
          go_simp
          refine hK.out _ _ (fun e => absurd e (by decide)) ?_
          try simp only [Act.put, List.setIfInBounds_toArray, List.set_cons_zero, List.set_cons_succ]
          clear hK K
          refine wpAnyL_end (by kernel_rfl) ?_
          go_end0
          rw [HE.out]
          exact H5.out.fin h2 (.inr hr.1) (by omega) HG.out
      · go_simp
        refine hK.out _ _ (fun e => absurd e (by decide)) ?_
        try simp only [Act.put, List.setIfInBounds_toArray, List.set_cons_zero, List.set_cons_succ]
        clear hK K
        obtain ⟨k0, k1, k2, k3, l0, l1, l2, l3⟩ := KD.out
        generalize w4.setCell ⟨w.heap.size + 1, 0, none⟩ (.slice (some ⟨gg, 0, none⟩) (t.len + 1) cap) = w5 at *
        refine wpAnyL_op 6 (by kernel_rfl) rfl (fun K hK => ?_)
        go_simp
        refine hK.out _ _ (fun e => absurd e (by decide)) ?_
        try simp only [Act.put, List.setIfInBounds_toArray, List.set_cons_zero, List.set_cons_succ]
        clear hK K
        refine wpAnyL_op 7 (by kernel_rfl) rfl (fun K hK => ?_)
        go_simp
        refine hK.out _ _ (fun e => absurd e (by decide)) ?_
        try simp only [Act.put, List.setIfInBounds_toArray, List.set_cons_zero, List.set_cons_succ]
        clear hK K
        refine wpAnyL_end (by kernel_rfl) ?_
        go_end0
        rw [HE.out]
        exact H5.out.fin h2 (.inr hr.1) (by omega) HG.out
    · go_simp
      refine hK.out _ _ (fun _ => HK.out _ (hX1.out _)) ?_
      try simp only [Act.put, List.setIfInBounds_toArray, List.set_cons_zero, List.set_cons_succ]
      clear hK K
      refine wpAnyL_op 2 (by kernel_rfl) rfl (fun K hK => ?_)
      go_simp
      go_at_call 11
      (with_reducible refine (hval _ (hX1.out _)).mono ?_)
      rintro e W3 ⟨v2, u2, rfl, hl2, hf2, hfit, h2r, g2⟩
      obtain ⟨p3, c3, rfl, -⟩ := hl2.len
      obtain ⟨p4, c4', rfl, -⟩ := hf2.len
      have g3 := grow_trans (grow_below (hX1.out _) (some B)) g2
      refine hK.out _ _ (fun _ => HC.out _ g3) ?_
      try simp only [Act.put, List.setIfInBounds_toArray, List.set_cons_zero, List.set_cons_succ]
      clear hK K
      have H3 := Lib.hid (show L3 s r W W3 d B W.heap.size (.slice p3 r.1.2.2.1.len c3) (.slice p4 r.1.2.2.2.len c4') from
        ⟨g3, (g2.block _ (by simp) (fun e => by cases e; omega)).trans (heap_alloc_new W _), hl2.mono (fun b hb _ => Nat.le_trans (by simp) hb), hf2.mono (fun b hb _ => Nat.le_trans (by simp) hb), hfit, h2r⟩)
      have hown3 := ownsRow_keep ho (by omega) H3.out.1
      refine wpAnyL_op 5 (by kernel_rfl) rfl (fun K hK => ?_)
      refine step_append_lies _ (by rfl) _ _ _ (by rfl) (w.heap.size + 2) 25 i0 _ 4 72 Tryd.underlying22 hi0 hz0 hz1 hz2 rfl (by omega) (.slice pv0 t.len cv0) t.len xs (by rfl) hown3 ⟨W.heap.size, 0, none⟩ 1 1 [.int .u8 0, .string ⟨#[]⟩, .slice none 0 0, .slice none 0 0] (by rfl) (by rfl) (World.news_of_block (cs := #[.int .u8 0, .string ⟨#[]⟩, .slice none 0 0, .slice none 0 0]) (t := 25) (fr := (0, 0)) H3.out.2.1) (by simp [Value.oneCell']) (by omega) (by unfold maxLen; omega) (by omega) (Nat.le_trans h3 H3.out.1.size) W3.heap.size rfl ?_
      intro gg cap w4 hown4 hgrow4 hat hlt4
      have H4 := Lib.hid (L4.of ho hr h3 h2 b0 b1 H3.out hown4 hgrow4 hat)
      have c4 := H4.out.1.cell
      have d4 := H4.out.2.1.cell
      have f4 := H4.out.2.1.free
      refine hK.out _ _ (fun _ => ⟨c4, d4⟩) ?_
      try simp only [Act.put, List.setIfInBounds_toArray, List.set_cons_zero, List.set_cons_succ]
      clear hK K
      have H5 := Lib.hid (H4.out.set1 h2)
      have KC := Lib.hid (H4.out.cells hr.1)
      have KD := Lib.hid (L4.cells H5.out hr.1)
      have hlt1 : ((t.len : Nat) : Int) < (t.len : Int) + 1 := by omega
      have HB6 := Lib.hid (box_set4 H4.out (.int .u8 r.1.1) (.string r.1.2.1) (.slice p3 r.1.2.2.1.len c3) (.slice p4 r.1.2.2.2.len c4'))
      have HQ := Lib.hid (set4_box w4 gg (t.len * 4) (w.heap.size + 1) (fun e => by have := (H4.out.2.2.1.lt gg rfl).1; omega) (.slice (some ⟨gg, 0, none⟩) (t.len + 1) cap) (.int .u8 r.1.1) (.string r.1.2.1) (.slice p3 r.1.2.2.1.len c3) (.slice p4 r.1.2.2.2.len c4'))
      refine wpAnyL_two 6 8 (by kernel_rfl) rfl rfl (fun K hK => ?_) (fun K hK => ?_)
      · go_simp
        refine hK.out _ _ (fun e => absurd e (by decide)) ?_
        try simp only [Act.put, List.setIfInBounds_toArray, List.set_cons_zero, List.set_cons_succ]
        clear hK K
        refine wpAnyL_two 7 8 (by kernel_rfl) rfl rfl (fun K hK => ?_) (fun K hK => ?_)
        · obtain ⟨k0, k1, k2, k3, l0, l1, l2, l3⟩ := KC.out
          go_simp
          refine hK.out _ _ (fun e => absurd e (by decide)) ?_
          try simp only [Act.put, List.setIfInBounds_toArray, List.set_cons_zero, List.set_cons_succ]
          clear hK K
          have c6 := HB6.out.cell
          have f6 := HB6.out.free
          generalize hW6 : (((w4.setCell ⟨gg, t.len * 4, none⟩ (.int .u8 r.1.1)).setCell ⟨gg, t.len * 4 + 1, none⟩ (.string r.1.2.1)).setCell ⟨gg, t.len * 4 + 2, none⟩ (.slice p3 r.1.2.2.1.len c3)).setCell ⟨gg, t.len * 4 + 3, none⟩ (.slice p4 r.1.2.2.2.len c4') = w6 at *
          refine wpAnyL_op 8 (by kernel_rfl) rfl (fun K hK => ?_)
          go_simp
          refine hK.out _ _ (fun e => absurd e (by decide)) ?_
          try simp only [Act.put, List.setIfInBounds_toArray, List.set_cons_zero, List.set_cons_succ]
          clear hK K
          refine wpAnyL_end (by kernel_rfl) ?_
          go_end0
          rw [HE.out, HQ.out]
          exact H5.out.fin h2 (.inr hr.1) (by omega) HG.out
        · go_simp
          refine hK.out _ _ (fun e => absurd e (by decide)) ?_
          try simp only [Act.put, List.setIfInBounds_toArray, List.set_cons_zero, List.set_cons_succ]
          clear hK K
          obtain ⟨k0, k1, k2, k3, l0, l1, l2, l3⟩ := KD.out
          generalize w4.setCell ⟨w.heap.size + 1, 0, none⟩ (.slice (some ⟨gg, 0, none⟩) (t.len + 1) cap) = w5 at *
          refine wpAnyL_op 7 (by kernel_rfl) rfl (fun K hK => ?_)
          go_simp
          refine hK.out _ _ (fun e => absurd e (by decide)) ?_
          try simp only [Act.put, List.setIfInBounds_toArray, List.set_cons_zero, List.set_cons_succ]
          clear hK K
          refine wpAnyL_end (by kernel_rfl) ?_
          go_end0
          rw [HE.out]
          exact H5.out.fin h2 (.inr hr.1) (by omega) HG.out
      · go_simp
        refine hK.out _ _ (fun e => absurd e (by decide)) ?_
        try simp only [Act.put, List.setIfInBounds_toArray, List.set_cons_zero, List.set_cons_succ]
        clear hK K
        obtain ⟨k0, k1, k2, k3, l0, l1, l2, l3⟩ := KD.out
        generalize w4.setCell ⟨w.heap.size + 1, 0, none⟩ (.slice (some ⟨gg, 0, none⟩) (t.len + 1) cap) = w5 at *
        refine wpAnyL_op 6 (by kernel_rfl) rfl (fun K hK => ?_)
        go_simp
        refine hK.out _ _ (fun e => absurd e (by decide)) ?_
        try simp only [Act.put, List.setIfInBounds_toArray, List.set_cons_zero, List.set_cons_succ]
        clear hK K
        refine wpAnyL_op 7 (by kernel_rfl) rfl (fun K hK => ?_)
        go_simp
        refine hK.out _ _ (fun e => absurd e (by decide)) ?_
        try simp only [Act.put, List.setIfInBounds_toArray, List.set_cons_zero, List.set_cons_succ]
        clear hK K
        refine wpAnyL_end (by kernel_rfl) ?_
        go_end0
        rw [HE.out]
        exact H5.out.fin h2 (.inr hr.1) (by omega) HG.out
  · have HE := Lib.hid (show lo v q t = (t, (v q).2) from if_neg he)
    unfold OutV at hval
    simp only [if_neg he] at hval
    generalize v q = r at *
    have HG := Lib.hid hg
    clear hg
    have HD := Lib.hid (show ∀ X w2, Below W.heap.size W X → (∃ d, Rd s r.2.1 d B w2) → X.grownBy w2 (some B) → OutI (LI s B w.heap.size) s (lo v q t) d B w (.panicked [{ v := .iface 26 (.int .i64 r.2.2), recovered := false }]) w2 from by
      intro X w2 hX h2 g2
      rw [HE.out]
      exact outI_died he ⟨rfl, h2, grow_trans HG.out (grow_trans (grow_below hX _) g2)⟩)
    go_enter Tryd.func39, Tryd.ntmps39
    go_wp2_with fail
    have HS0 := Lib.hid (HK.out _ hX0.out)
    refine wp_region_late (S := fun X => X.cell? ⟨w.heap.size, 0, none⟩ = some (.pointer (some ⟨B, 0, none⟩)) ∧ X.cell? ⟨w.heap.size + 1, 0, none⟩ = some (.slice pv0 t.len cv0)) (zs := [8, 6, 7]) (by kernel_rfl) ?_
    refine wpAnyL_take (v := ?_) 0 rfl (by kernel_rfl) (by kernel_rfl) (by kernel_rfl) (fun _ _ _ h => h) (by kernel_rfl) (by kernel_rfl) HS0.out (by rfl) (fun X hX => ?_) ?_
    rotate_left
    · obtain ⟨s0, s1⟩ := hX
      go_simp
      try with_reducible rfl
    try simp only [Act.put, List.setIfInBounds_toArray, List.set_cons_zero, List.set_cons_succ]
    refine wpAnyL_take (v := ?_) 1 rfl (by kernel_rfl) (by kernel_rfl) (by kernel_rfl) (fun _ _ _ h => h) (by kernel_rfl) (by kernel_rfl) HS0.out (by rfl) (fun X hX => ?_) ?_
    rotate_left
    · obtain ⟨s0, s1⟩ := hX
      go_simp
      try with_reducible rfl
    try simp only [Act.put, List.setIfInBounds_toArray, List.set_cons_zero, List.set_cons_succ]
    refine wpAnyL_take (v := ?_) 3 rfl (by kernel_rfl) (by kernel_rfl) (by kernel_rfl) (fun _ _ _ h => h) (by kernel_rfl) (by kernel_rfl) HS0.out (by rfl) (fun X hX => ?_) ?_
    rotate_left
    · obtain ⟨s0, s1⟩ := hX
      go_simp
      try with_reducible rfl
    try simp only [Act.put, List.setIfInBounds_toArray, List.set_cons_zero, List.set_cons_succ]
    refine wpAnyL_two 2 4 (by kernel_rfl) rfl rfl (fun K hK => ?_) (fun K hK => ?_)
    · go_simp
      go_at_call 11
      (with_reducible refine (hval _ hX0.out).mono ?_)
      rintro e w2 ⟨rfl, h2, g2⟩
      exact ⟨rfl, HD.out _ _ hX0.out h2 g2⟩
    · go_simp
      refine hK.out _ _ (fun _ => HK.out _ (hX1.out _)) ?_
      try simp only [Act.put, List.setIfInBounds_toArray, List.set_cons_zero, List.set_cons_succ]
      clear hK K
      refine wpAnyL_op 2 (by kernel_rfl) rfl (fun K hK => ?_)
      go_simp
      go_at_call 11
      (with_reducible refine (hval _ (hX1.out _)).mono ?_)
      rintro e w2 ⟨rfl, h2, g2⟩
      exact ⟨rfl, HD.out _ _ (hX1.out _) h2 g2⟩
end Go.Proofs.YtbdpghmpdghnbaaDoor
