/- The program's reader of JSON: a field is read and put among the others. Conditions: a string of at most 2^18 bytes; a value that is read as it should be. -/
import Derived.Test.YtbdpghmpdghnbaaDoorMJ23
namespace Go.Proofs.YtbdpghmpdghnbaaDoor
open Go Go.RowKit Go.Lib
attribute [local go_sem] Oper.semAt_some

/-- the fields so far: three boxes (the reader's, the fields', the places'), the map, the row -/
def FI (s : ByteArray) (B n0 : Nat) (t : V.T) (W : World) : Prop :=
  t.len ≤ s.size + 1 ∧ B < n0 ∧ n0 + 4 ≤ W.heap.size ∧ ∃ v xs D, Blk1 W n0 (.pointer (some ⟨B, 0, none⟩)) ∧ Blk1 W (n0 + 1) v ∧ Blk1 W (n0 + 3) (.map (some (n0 + 2))) ∧
    W.ownsMap Tryd.prog 9 (plainElem Tryd.prog 3) (n0 + 2) t.len D ∧ MapIs D t ∧ W.ownsRow (n0 + 4) 38 5 v t.len xs ∧ RP W (Aside (n0 + 4) v) 1 t t.len xs
theorem FI.keep {s : ByteArray} {B n0 : Nat} {t : V.T} {W W' : World} (h : FI s B n0 t W) (g : W.grownBy W' (some B)) : FI s B n0 t W' := by
  obtain ⟨h1, h2, h3, v, xs, D, b0, b1, b3, hm, hD, ho, hr⟩ := h
  exact ⟨h1, h2, Nat.le_trans h3 g.size, v, xs, D, b0.same (g.block _ b0.lt (fun e => by cases e; omega)), b1.same (g.block _ b1.lt (fun e => by cases e; omega)), b3.same (g.block _ b3.lt (fun e => by cases e; omega)),
    hm.kept g (fun e => by cases e; omega), hD, ownsRow_keep ho (by omega) g, hr.keep (by omega) g⟩

theorem ptx_len (s : ByteArray) : ∀ (f q : Nat) (L : List Nat), q ≤ s.size → L.length ≤ q → (ptx s f q L).1.length ≤ s.size
  | 0, q, L, _, _ => Nat.zero_le _
  | f + 1, q, L, h, hL => by
    unfold ptx
    split
    · show L.length ≤ s.size
      omega
    · split
      · rename_i he
        have h1 := cr_go he
        have h2 := cr_le h
        have h3 := joi_len L (cr s q).1
        exact ptx_len s f _ _ h2.2 (by omega)
      · exact Nat.zero_le _
theorem enc_size (L : List Nat) : (enc L).size ≤ 4 * L.length := by
  have := runesBytes_size_le (L.map fun (c : Nat) => (c : Int))
  rw [List.length_map] at this
  exact this
theorem ptw_size (s : ByteArray) (p : Nat) : (enc (ptw s p).1).size ≤ 4 * s.size := by
  have h := enc_size (ptw s p).1
  have h2 : (ptw s p).1.length ≤ s.size := by
    unfold ptw
    split
    · rename_i hi
      exact ptx_len s _ _ _ (J.of_is hi).2.1 (Nat.zero_le _)
    · exact Nat.zero_le _
  omega
theorem nmc_size (s : ByteArray) (q : Nat) : (nmc s q).1.size ≤ 4 * s.size := by
  unfold nmc
  split
  · split
    · exact ptw_size s _
    · exact Nat.zero_le _
  · exact Nat.zero_le _
theorem law_string : Maps.Keyed Tryd.prog 9 := Maps.string_keyed (by kernel_rfl)
theorem zero_int (w : World) : (zeroValue 3).run Tryd.prog w = .ok (.int .i64 0) w := by kernel_rfl

def xs4 (l : List Value) (j : Nat) (a b c d : Value) : List Value := (((l.set j a).set (j + 1) b).set (j + 2) c).set (j + 3) d
theorem xs4_len (l : List Value) (j : Nat) (a b c d : Value) : (xs4 l j a b c d).length = l.length := by simp [xs4]
theorem xs4_else {l : List Value} {j k : Nat} (a b c d : Value) (h : k < j ∨ j + 4 ≤ k) : (xs4 l j a b c d)[k]? = l[k]? := by
  unfold xs4
  rw [List.getElem?_set_ne (by omega), List.getElem?_set_ne (by omega), List.getElem?_set_ne (by omega), List.getElem?_set_ne (by omega)]
theorem xs4_at {l : List Value} {j : Nat} (a b c d : Value) (h : j + 4 ≤ l.length) : (xs4 l j a b c d)[j]? = some a ∧ (xs4 l j a b c d)[j + 1]? = some b ∧ (xs4 l j a b c d)[j + 2]? = some c ∧ (xs4 l j a b c d)[j + 3]? = some d := by
  unfold xs4
  refine ⟨?_, ?_, ?_, ?_⟩
  · rw [List.getElem?_set_ne (by omega), List.getElem?_set_ne (by omega), List.getElem?_set_ne (by omega), List.getElem?_set_self (by omega)]
  · rw [List.getElem?_set_ne (by omega), List.getElem?_set_ne (by omega), List.getElem?_set_self (by simp; omega)]
  · rw [List.getElem?_set_ne (by omega), List.getElem?_set_self (by simp; omega)]
  · rw [List.getElem?_set_self (by simp; omega)]
theorem RP.put {w : World} {A : Nat → Prop} {t : V.T} {xs : List Value} {nm : ByteArray} {i k : Nat} {x : ByteArray} {l f : V.T} {v u : Value} (h : RP w A 1 t t.len xs) (hi : t.idx nm = some i) (hl : HS w A 0 v l) (hf : HS w A 1 u f) (hk : Fit nm k x) :
    RP w A 1 (t.put nm k x l f) (t.put nm k x l f).len (xs4 xs (i * 5 + 1) (.int .u8 k) (.string x) v u) := by
  have hil := V.T.idx_lt hi
  have hlen : xs.length = t.len * 5 := h.1
  refine ⟨by rw [xs4_len, V.T.put_len_old hi]; exact h.1, fun j hj => ?_⟩
  rw [V.T.put_len_old hi] at hj
  obtain ⟨nm', k', x', l', f', tl, v', u', h1, h2, h3, h4, h5, h6, h7, h8, h9, h10⟩ := h.2 j hj
  by_cases e : j = i
  · subst e
    obtain ⟨tl', ht⟩ := V.T.put_at hi k x l f
    obtain ⟨a0, a1, a2, a3⟩ := xs4_at (l := xs) (j := j * 5 + 1) (.int .u8 k) (.string x) v u (by omega)
    obtain ⟨k2, x2, l2, f2, tl2, hn⟩ := V.T.idx_name hi
    rw [h1] at hn
    cases hn
    exact ⟨nm, k, x, l, f, tl', v, u, ht, (fun e => by cases e), (fun _ => by rw [xs4_else _ _ _ _ (by omega)]; exact h3 rfl), a0, a1, a2, a3, hl, hf, hk⟩
  · obtain ⟨tl', ht⟩ := V.T.put_else hi e h1 k x l f
    have hne : ∀ m, m < 5 → (xs4 xs (i * 5 + 1) (.int .u8 k) (.string x) v u)[j * (4 + 1) + m]? = xs[j * (4 + 1) + m]? := fun m hm => xs4_else _ _ _ _ (by omega)
    exact ⟨nm', k', x', l', f', tl', v', u', ht, (fun e => by cases e), (fun _ => (hne 0 (by omega)).trans (h3 rfl)), (hne 1 (by omega)).trans h4, (hne 2 (by omega)).trans h5, (hne 3 (by omega)).trans h6, (hne 4 (by omega)).trans h7, h8, h9, h10⟩
theorem own_xs4 {w : World} {base : Nat} {e : TypeId} {size n g cap j : Nat} {xs : List Value} (h : w.ownsRow base e size (.slice (some ⟨g, 0, none⟩) n cap) n xs) (a b c d : Value) :
    ((((w.setCell ⟨g, j, none⟩ a).setCell ⟨g, j + 1, none⟩ b).setCell ⟨g, j + 2, none⟩ c).setCell ⟨g, j + 3, none⟩ d).ownsRow base e size (.slice (some ⟨g, 0, none⟩) n cap) n (xs4 xs j a b c d) := by
  refine ⟨by rw [xs4_len]; exact h.1, ?_⟩
  rcases h.2 with ⟨e1, _⟩ | ⟨k, cp, cur, e1, hb, hg, hn, hc, hs, ht⟩
  · cases e1
  · cases e1
    have hr : Row w g e cur := hg
    have hr4 := (((hr.set j a).set (j + 1) b).set (j + 2) c).set (j + 3) d
    refine .inr ⟨g, cap, _, rfl, hb, hr4, hn, hc, by simp [hs], ?_⟩
    simp only [Array.toList_setIfInBounds, List.take_set, ht, xs4]
/-- a field of that name is there: its value is set -/
theorem FI.old {s : ByteArray} {r : VR} {w W Wn : World} {d B i g cv : Nat} {t : V.T} {nm : ByteArray} {v2 u2 : Value} {xs : List Value} {D : DataW Nat} (h1 : t.len ≤ s.size + 1) (h2 : B < w.heap.size) (h3 : w.heap.size + 4 ≤ W.heap.size) (b0 : Blk1 W w.heap.size (.pointer (some ⟨B, 0, none⟩))) (b1 : Blk1 W (w.heap.size + 1) (.slice (some ⟨g, 0, none⟩) t.len cv)) (b3 : Blk1 W (w.heap.size + 3) (.map (some (w.heap.size + 2))))
    (hm : W.ownsMap Tryd.prog 9 (plainElem Tryd.prog 3) (w.heap.size + 2) t.len D) (hD : MapIs D t) (ho : W.ownsRow (w.heap.size + 4) 38 5 (.slice (some ⟨g, 0, none⟩) t.len cv) t.len xs) (hr : RP W (Aside (w.heap.size + 4) (.slice (some ⟨g, 0, none⟩) t.len cv)) 1 t t.len xs)
    (hi : t.idx nm = some i) (hnm : nm.size ≤ 140737488355328) (hg : w.grownBy W (some B)) (g3 : W.grownBy Wn (some B)) (hl : HS Wn (fun b => W.heap.size ≤ b) 0 v2 r.1.2.2.1) (hf : HS Wn (fun b => W.heap.size ≤ b) 1 u2 r.1.2.2.2) (hfit : Fit ⟨#[]⟩ r.1.1 r.1.2.1) (hrd : Rd s r.2.1 d B Wn) :
    OutI (FI s B w.heap.size) s (t.put nm r.1.1 r.1.2.1 r.1.2.2.1 r.1.2.2.2, r.2.1, 0) d B w (.returned (.tuple #[]))
      ((((Wn.setCell ⟨g, i * 5 + 1, none⟩ (.int .u8 r.1.1)).setCell ⟨g, i * 5 + 1 + 1, none⟩ (.string r.1.2.1)).setCell ⟨g, i * 5 + 1 + 2, none⟩ v2).setCell ⟨g, i * 5 + 1 + 3, none⟩ u2) := by
  have hgg := (ho.lt g rfl)
  have hBg : B < w.heap.size + 4 := by omega
  have ho2 := own_xs4 (j := i * 5 + 1) (ownsRow_keep ho hBg g3) (.int .u8 r.1.1) (.string r.1.2.1) v2 u2
  have gg := (((grow_set Wn g (i * 5 + 1) (.int .u8 r.1.1)).trans (grow_set _ g (i * 5 + 1 + 1) (.string r.1.2.1))).trans (grow_set _ g (i * 5 + 1 + 2) v2)).trans (grow_set _ g (i * 5 + 1 + 3) u2)
  generalize (((Wn.setCell ⟨g, i * 5 + 1, none⟩ (.int .u8 r.1.1)).setCell ⟨g, i * 5 + 1 + 1, none⟩ (.string r.1.2.1)).setCell ⟨g, i * 5 + 1 + 2, none⟩ v2).setCell ⟨g, i * 5 + 1 + 3, none⟩ u2 = W6 at *
  have keep : ∀ b, b < Wn.heap.size → b ≠ g → W6.heap[b]? = Wn.heap[b]? := fun b hb hne => gg.block b hb (fun e => hne (by cases e; rfl))
  have hA : ∀ b, Aside (w.heap.size + 4) (.slice (some ⟨g, 0, none⟩) t.len cv) b → b ≠ g := fun b hb e => hb.2 (by rw [e]; rfl)
  have far : ∀ b, b < W.heap.size → b < w.heap.size + 4 → b ≠ B → W6.heap[b]? = W.heap[b]? := fun b hb h4 hne => (keep b (Nat.lt_of_lt_of_le hb g3.size) (by omega)).trans (g3.block b hb (fun e => hne (by cases e; rfl)))
  have hr6 := RP.put (nm := nm) (i := i) (k := r.1.1) (x := r.1.2.1) ((hr.keep hBg g3).imp (A' := Aside (w.heap.size + 4) (.slice (some ⟨g, 0, none⟩) t.len cv)) (w' := W6) (fun _ a _ => a) (fun b a hb => keep b hb (hA b a))) hi ((hl.aside ho h3).imp (fun _ a _ => a) (fun b a hb => keep b hb (hA b a))) ((hf.aside ho h3).imp (fun _ a _ => a) (fun b a hb => keep b hb (hA b a))) ⟨hfit.1, hfit.2.1, hnm⟩
  have hlen := V.T.put_len_old hi r.1.1 r.1.2.1 r.1.2.2.1 r.1.2.2.2
  refine outI_ok ⟨rfl, ⟨by rw [hlen]; exact h1, h2, Nat.le_trans h3 (Nat.le_trans g3.size gg.size), _, _, D, b0.same (far _ b0.lt (by omega) (by omega)), b1.same (far _ b1.lt (by omega) (by omega)), b3.same (far _ b3.lt (by omega) (by omega)), ?_, hD.old hi _ _ _ _, ?_, hr6⟩, hrd.same (keep _ hrd.lt (by omega)), grow_new2 (grow_trans hg g3) gg (by omega)⟩
  · rw [hlen]; exact (hm.kept g3 (fun e => by cases e; omega)).kept gg (fun e => by cases e; omega)
  · rw [hlen]; exact ho2

/-- behind the append of a field -/
def F4 (s : ByteArray) (r : VR) (w4 : World) (d B n0 : Nat) (w : World) (t : V.T) (v0 v2 u2 : Value) (xs : List Value) (gg cap : Nat) (D' : DataW Nat) : Prop :=
  Blk1 w4 n0 (.pointer (some ⟨B, 0, none⟩)) ∧ Blk1 w4 (n0 + 1) v0 ∧ Blk1 w4 (n0 + 3) (.map (some (n0 + 2))) ∧ w4.ownsMap Tryd.prog 9 (plainElem Tryd.prog 3) (n0 + 2) (t.len + 1) D' ∧
    w4.ownsRow (n0 + 4) 38 5 (.slice (some ⟨gg, 0, none⟩) (t.len + 1) cap) (t.len + 1) (xs ++ [.string ⟨#[]⟩, .int .u8 0, .string ⟨#[]⟩, .slice none 0 0, .slice none 0 0]) ∧ RP w4 (Aside (n0 + 4) (.slice (some ⟨gg, 0, none⟩) (t.len + 1) cap)) 1 t t.len xs ∧ HS w4 (Aside (n0 + 4) (.slice (some ⟨gg, 0, none⟩) (t.len + 1) cap)) 0 v2 r.1.2.2.1 ∧ HS w4 (Aside (n0 + 4) (.slice (some ⟨gg, 0, none⟩) (t.len + 1) cap)) 1 u2 r.1.2.2.2 ∧
    Rd s r.2.1 d B w4 ∧ w.grownBy w4 (some B) ∧ n0 + 4 ≤ w4.heap.size
theorem F4.of {s : ByteArray} {r : VR} {w W Wn w6 w4 : World} {d B : Nat} {t : V.T} {v0 v2 u2 : Value} {xs : List Value} {gg cap : Nat} {D' : DataW Nat} (ho : W.ownsRow (w.heap.size + 4) 38 5 v0 t.len xs) (hr : RP W (Aside (w.heap.size + 4) v0) 1 t t.len xs) (h3 : w.heap.size + 4 ≤ W.heap.size) (hB : B < w.heap.size)
    (b0 : Blk1 W w.heap.size (.pointer (some ⟨B, 0, none⟩))) (b1 : Blk1 W (w.heap.size + 1) v0) (b3 : Blk1 W (w.heap.size + 3) (.map (some (w.heap.size + 2)))) (hg : w.grownBy W (some B)) (g3 : W.grownBy Wn (some B)) (g5 : Wn.grownBy w6 (some (w.heap.size + 2)))
    (hl : HS Wn (fun b => W.heap.size ≤ b) 0 v2 r.1.2.2.1) (hf : HS Wn (fun b => W.heap.size ≤ b) 1 u2 r.1.2.2.2) (hrd : Rd s r.2.1 d B Wn) (hm6 : w6.ownsMap Tryd.prog 9 (plainElem Tryd.prog 3) (w.heap.size + 2) (t.len + 1) D')
    (hown : w4.ownsRow (w.heap.size + 4) 38 5 (.slice (some ⟨gg, 0, none⟩) (t.len + 1) cap) (t.len + 1) (xs ++ [.string ⟨#[]⟩, .int .u8 0, .string ⟨#[]⟩, .slice none 0 0, .slice none 0 0])) (hg4 : w6.grownBy w4 v0.ownBlock) (hat : v0.ownBlock = some gg ∨ gg = w6.heap.size) :
    F4 s r w4 d B w.heap.size w t v0 v2 u2 xs gg cap D' := by
  have hab : ∀ k, v0.ownBlock = some k → w.heap.size + 4 ≤ k := fun k hk => (ho.lt k hk).1
  have far : ∀ b, b < Wn.heap.size → b < w.heap.size + 4 → b ≠ w.heap.size + 2 → w4.heap[b]? = Wn.heap[b]? := fun b hb h4 hne =>
    (hg4.block b (Nat.lt_of_lt_of_le hb g5.size) (fun e => by have := hab b e.symm; omega)).trans (g5.block b hb (fun e => hne (by cases e; rfl)))
  have keep : ∀ b, b < W.heap.size → b < w.heap.size + 4 → b ≠ B → b ≠ w.heap.size + 2 → w4.heap[b]? = W.heap[b]? := fun b hb h4 hne hne2 =>
    (far b (Nat.lt_of_lt_of_le hb g3.size) h4 hne2).trans (g3.block b hb (fun e => hne (by cases e; rfl)))
  have hm2 : ∀ b, W.heap.size ≤ b → b < Wn.heap.size → w6.heap[b]? = Wn.heap[b]? := fun b hb hlt => g5.block b hlt (fun e => by cases e; omega)
  have hrB : RP w6 (Aside (w.heap.size + 4) v0) 1 t t.len xs := (hr.keep (by omega) g3).keep (by omega) g5
  refine ⟨b0.same (keep _ b0.lt (by omega) (by omega) (by omega)), b1.same (keep _ b1.lt (by omega) (by omega) (by omega)), b3.same (keep _ b3.lt (by omega) (by omega) (by omega)), hm6.kept hg4 (fun e => by have := hab _ e.symm; omega), hown, hrB.appended hg4 hat,
    ((hl.imp (A' := fun b => W.heap.size ≤ b) (w' := w6) (fun _ a _ => a) (fun b a hb => hm2 b a hb)).aside ho h3).appended hg4 hat, ((hf.imp (A' := fun b => W.heap.size ≤ b) (w' := w6) (fun _ a _ => a) (fun b a hb => hm2 b a hb)).aside ho h3).appended hg4 hat,
    hrd.same (far _ hrd.lt (by omega) (by omega)), grow_own (grow_new2 (grow_trans hg g3) g5 (by omega)) hg4 (fun b hb => by have := hab b hb; omega), Nat.le_trans h3 (Nat.le_trans g3.size (Nat.le_trans g5.size hg4.size))⟩
theorem F4.set1 {s : ByteArray} {r : VR} {w4 w : World} {d B n0 : Nat} {t : V.T} {v0 v2 u2 : Value} {xs : List Value} {gg cap : Nat} {D' : DataW Nat} (h : F4 s r w4 d B n0 w t v0 v2 u2 xs gg cap D') (hB : B < n0) (hw : w.heap.size ≤ n0) :
    F4 s r (w4.setCell ⟨n0 + 1, 0, none⟩ (.slice (some ⟨gg, 0, none⟩) (t.len + 1) cap)) d B n0 w t (.slice (some ⟨gg, 0, none⟩) (t.len + 1) cap) v2 u2 xs gg cap D' := by
  obtain ⟨h0, h1, h2, h3, h4, h5, h6, h7, h8, h9, h10⟩ := h
  have g := grow_set w4 (n0 + 1) 0 (.slice (some ⟨gg, 0, none⟩) (t.len + 1) cap)
  refine ⟨h0.same (g.block _ h0.lt (fun e => by cases e)), h1.set _, h2.same (g.block _ h2.lt (fun e => by cases e)), h3.kept g (fun e => by cases e), ownsRow_keep h4 (by omega) g, h5.keep (by omega) g, ?_, ?_, h8.same (g.block _ h8.lt (fun e => by cases e; omega)), grow_new2 h9 g (by omega), Nat.le_trans h10 g.size⟩
  · exact h6.imp (fun _ a _ => a) (fun b a hlt => g.block b hlt (fun e => by cases e; have := a.1; omega))
  · exact h7.imp (fun _ a _ => a) (fun b a hlt => g.block b hlt (fun e => by cases e; have := a.1; omega))
theorem F4.cells {s : ByteArray} {r : VR} {w4 w : World} {d B n0 : Nat} {t : V.T} {v0 v2 u2 : Value} {xs : List Value} {gg cap : Nat} {D' : DataW Nat} (h : F4 s r w4 d B n0 w t v0 v2 u2 xs gg cap D') (hx : xs.length = t.len * 5) :
    (∀ i, i < 5 → ∃ y, w4.cell? ⟨gg, t.len * 5 + i, none⟩ = some y) ∧ ∀ j, w4.frozen? ⟨gg, j, none⟩ = false := by
  obtain ⟨_, _, _, _, h2, _⟩ := h
  rcases h2.2 with ⟨e, _⟩ | ⟨k, c, cur, e, _, hg, hn, _, hsz, _⟩
  · cases e
  · cases e
    exact ⟨fun i hi => ⟨cur[t.len * 5 + i]'(by omega), by rw [cell_of_row _ gg _ cur _ (0, 0) hg]; exact Array.getElem?_eq_getElem _⟩, fun j => by simp [World.frozen?, hg]⟩
theorem own_set5 {w : World} {base : Nat} {e : TypeId} {n g cap : Nat} {xs zs : List Value} (h : w.ownsRow base e 5 (.slice (some ⟨g, 0, none⟩) (n + 1) cap) (n + 1) (xs ++ zs)) (hx : xs.length = n * 5) (a b c d f : Value) :
    (((((w.setCell ⟨g, n * 5, none⟩ a).setCell ⟨g, n * 5 + 1, none⟩ b).setCell ⟨g, n * 5 + 2, none⟩ c).setCell ⟨g, n * 5 + 3, none⟩ d).setCell ⟨g, n * 5 + 4, none⟩ f).ownsRow base e 5 (.slice (some ⟨g, 0, none⟩) (n + 1) cap) (n + 1) (xs ++ [a, b, c, d, f]) := by
  refine ⟨by simp [hx]; omega, ?_⟩
  rcases h.2 with ⟨e1, _⟩ | ⟨k, cp, cur, e1, hb, hg, hn, hc, hs, ht⟩
  · cases e1
  · cases e1
    have hr : Row w g e cur := hg
    have hr4 := ((((hr.set (n * 5) a).set (n * 5 + 1) b).set (n * 5 + 2) c).set (n * 5 + 3) d).set (n * 5 + 4) f
    refine .inr ⟨g, cap, _, rfl, hb, hr4, hn, hc, by simp [hs], ?_⟩
    have hl : n * 5 + 5 ≤ cur.toList.length := by simp; omega
    have h1 := take_set5 cur.toList (n * 5) a b c d f hl
    have h2 := congrArg (List.take (n * 5)) ht
    rw [List.take_take, Nat.min_eq_left (by omega), List.take_left' hx] at h2
    rw [show (n + 1) * 5 = n * 5 + 5 by omega]
    simp only [Array.toList_setIfInBounds]
    rw [h1, h2]
theorem F4.fin {s : ByteArray} {r : VR} {w4 w : World} {d B : Nat} {t : V.T} {nm : ByteArray} {v2 u2 : Value} {xs : List Value} {gg cap : Nat} {D' : DataW Nat} (h : F4 s r w4 d B w.heap.size w t (.slice (some ⟨gg, 0, none⟩) (t.len + 1) cap) v2 u2 xs gg cap D') (hB : B < w.heap.size) (hx : xs.length = t.len * 5) (hl : t.len + 1 ≤ s.size + 1)
    (hi : t.idx nm = none) (hD : MapIs D' (t.put nm r.1.1 r.1.2.1 r.1.2.2.1 r.1.2.2.2)) (hfit : Fit nm r.1.1 r.1.2.1) :
    OutI (FI s B w.heap.size) s (t.put nm r.1.1 r.1.2.1 r.1.2.2.1 r.1.2.2.2, r.2.1, 0) d B w (.returned (.tuple #[])) (((((w4.setCell ⟨gg, t.len * 5, none⟩ (.string nm)).setCell ⟨gg, t.len * 5 + 1, none⟩ (.int .u8 r.1.1)).setCell ⟨gg, t.len * 5 + 2, none⟩ (.string r.1.2.1)).setCell ⟨gg, t.len * 5 + 3, none⟩ v2).setCell ⟨gg, t.len * 5 + 4, none⟩ u2) := by
  rw [V.T.put_new hi] at hD ⊢
  obtain ⟨h0, h1, h2, h3, h4, h5, h6, h7, h8, h9, h10⟩ := h
  have hgg := h4.lt gg rfl
  have ho := own_set5 h4 hx (.string nm) (.int .u8 r.1.1) (.string r.1.2.1) v2 u2
  have g := ((((grow_set w4 gg (t.len * 5) (.string nm)).trans (grow_set _ gg (t.len * 5 + 1) (.int .u8 r.1.1))).trans (grow_set _ gg (t.len * 5 + 2) (.string r.1.2.1))).trans (grow_set _ gg (t.len * 5 + 3) v2)).trans (grow_set _ gg (t.len * 5 + 4) u2)
  generalize (((((w4.setCell ⟨gg, t.len * 5, none⟩ (.string nm)).setCell ⟨gg, t.len * 5 + 1, none⟩ (.int .u8 r.1.1)).setCell ⟨gg, t.len * 5 + 2, none⟩ (.string r.1.2.1)).setCell ⟨gg, t.len * 5 + 3, none⟩ v2).setCell ⟨gg, t.len * 5 + 4, none⟩ u2) = W6 at *
  have keep : ∀ b, b < w4.heap.size → b ≠ gg → W6.heap[b]? = w4.heap[b]? := fun b hb hne => g.block b hb (fun e => hne (by cases e; rfl))
  have hA : ∀ b, Aside (w.heap.size + 4) (.slice (some ⟨gg, 0, none⟩) (t.len + 1) cap) b → b ≠ gg := fun b hb e => hb.2 (by rw [e]; rfl)
  refine outI_ok ⟨rfl, ⟨by rw [V.T.snoc_len]; exact hl, hB, Nat.le_trans h10 g.size, (.slice (some ⟨gg, 0, none⟩) (t.len + 1) cap), xs ++ [.string nm, .int .u8 r.1.1, .string r.1.2.1, v2, u2], D', h0.same (keep _ h0.lt (by omega)), h1.same (keep _ h1.lt (by omega)), h2.same (keep _ h2.lt (by omega)), ?_, hD, ?_, ?_⟩, h8.same (keep _ h8.lt (by omega)), grow_new2 h9 g (by omega)⟩
  · rw [V.T.snoc_len]; exact h3.kept g (fun e => by cases e; omega)
  · rw [V.T.snoc_len]; exact ho
  · rw [V.T.snoc_len]
    exact ((h5.more _ _ _ _ _).imp (fun _ a _ => a) (fun b a hb => keep b hb (hA b a))).snoc1 (V.T.snoc_new ..) (h6.imp (fun _ a _ => a) (fun b a hb => keep b hb (hA b a))) (h7.imp (fun _ a _ => a) (fun b a hb => keep b hb (hA b a))) hfit
theorem box_set5 {s : ByteArray} {r : VR} {w4 w : World} {d B n0 : Nat} {t : V.T} {v0 v2 u2 : Value} {xs : List Value} {gg cap : Nat} {D' : DataW Nat} (h : F4 s r w4 d B n0 w t v0 v2 u2 xs gg cap D') (nm : ByteArray) : Blk1 (((((w4.setCell ⟨gg, t.len * 5, none⟩ (.string nm)).setCell ⟨gg, t.len * 5 + 1, none⟩ (.int .u8 r.1.1)).setCell ⟨gg, t.len * 5 + 2, none⟩ (.string r.1.2.1)).setCell ⟨gg, t.len * 5 + 3, none⟩ v2).setCell ⟨gg, t.len * 5 + 4, none⟩ u2) (n0 + 1) v0 := by
  have hgg := h.2.2.2.2.1.lt gg rfl
  have g := ((((grow_set w4 gg (t.len * 5) (.string nm)).trans (grow_set _ gg (t.len * 5 + 1) (.int .u8 r.1.1))).trans (grow_set _ gg (t.len * 5 + 2) (.string r.1.2.1))).trans (grow_set _ gg (t.len * 5 + 3) v2)).trans (grow_set _ gg (t.len * 5 + 4) u2)
  exact h.2.1.same (g.block _ h.2.1.lt (fun e => by cases e; omega))
theorem set5_box (w4 : World) (gg n b : Nat) (hne : gg ≠ b) (x a0 a1 a2 a3 a4 : Value) :
    (((((w4.setCell ⟨gg, n, none⟩ a0).setCell ⟨gg, n + 1, none⟩ a1).setCell ⟨gg, n + 2, none⟩ a2).setCell ⟨gg, n + 3, none⟩ a3).setCell ⟨gg, n + 4, none⟩ a4).setCell ⟨b, 0, none⟩ x =
      (((((w4.setCell ⟨b, 0, none⟩ x).setCell ⟨gg, n, none⟩ a0).setCell ⟨gg, n + 1, none⟩ a1).setCell ⟨gg, n + 2, none⟩ a2).setCell ⟨gg, n + 3, none⟩ a3).setCell ⟨gg, n + 4, none⟩ a4 := by
  rw [setCell_comm _ _ _ _ _ hne, setCell_comm _ _ ⟨b, 0, none⟩ _ _ hne, setCell_comm _ _ ⟨b, 0, none⟩ _ _ hne, setCell_comm _ _ ⟨b, 0, none⟩ _ _ hne, setCell_comm _ _ ⟨b, 0, none⟩ _ _ hne]

set_option maxRecDepth 100000 in
set_option maxHeartbeats 4000000 in
theorem field1_any (s : ByteArray) (v : Nat → VR) (d B q : Nat) (t : V.T) (w W : World) (hs : s.size ≤ 262144) (hv : VC s v d B) (hvl : ∀ q, q ≤ s.size → Le s q (v q).2.1) (hq : q ≤ s.size) (hP : t.len ≤ q)
    (hT : TB B W) (hI : FI s B w.heap.size t W) (h : Rd s q d B W) (hg : w.grownBy W (some B)) :
    Calls Tryd.prog 40 #[.pointer (some ⟨w.heap.size, 0, none⟩), .pointer (some ⟨w.heap.size + 3, 0, none⟩), .pointer (some ⟨w.heap.size + 1, 0, none⟩)] W (OutI (FI s B w.heap.size) s (fo s v q t) d B w) := by
  have hI0 := Lib.hid hI
  obtain ⟨h1, h2, h3, v0, xs, D, b0, b1, b3, hm, hD, ho, hr⟩ := hI
  obtain ⟨i0, hi0, hz0, hz1, hz2⟩ := info_parts infoField
  have hnm := name_any s q d B W hs hq hT h
  have hnl := nmc_le hq
  have hval := fun X hT hX => hv (nmc s q).2.1 X hnl.2 hT hX
  have hvl2 := hvl (nmc s q).2.1 hnl.2
  have hns := nmc_size s q
  have HFO := Lib.hid (show fo s v q t = if (nmc s q).2.2 = 0 then (if (v (nmc s q).2.1).2.2 = 0 then (t.put (nmc s q).1 (v (nmc s q).2.1).1.1 (v (nmc s q).2.1).1.2.1 (v (nmc s q).2.1).1.2.2.1 (v (nmc s q).2.1).1.2.2.2, (v (nmc s q).2.1).2.1, 0) else (t, (v (nmc s q).2.1).2)) else (t, (nmc s q).2) from rfl)
  have HT := Lib.hid hT
  have HG := Lib.hid hg
  have c0 := b0.cell
  generalize fo s v q t = fin at *
  generalize nmc s q = x at *
  generalize v x.2.1 = r at *
  clear hT hg
  by_cases hx : x.2.2 = 0
  · unfold Out at hnm
    simp only [if_pos hx] at hnm
    by_cases he : r.2.2 = 0
    · have HE := Lib.hid (show fin = (t.put x.1 r.1.1 r.1.2.1 r.1.2.2.1 r.1.2.2.2, r.2.1, 0) by rw [HFO.out, if_pos hx, if_pos he])
      unfold OutV at hval
      simp only [if_pos he] at hval
      have hkey : keyOf Tryd.prog 9 (.string x.1) = some (kl x.1) := WideMaps.keyOf_string_mk (by kernel_rfl) (by unfold maxLen; omega)
      obtain ⟨pv0, cv0, rfl⟩ : ∃ p c, v0 = .slice p t.len c := by
        rcases ho.2 with ⟨e, e2⟩ | ⟨k, cap, cur, e, _⟩
        · exact ⟨_, _, by rw [e, e2]⟩
        · exact ⟨_, _, e⟩
      go_enter Tryd.func40, Tryd.ntmps40
      go_wp2_with fail
      refine hnm.mono ?_
      rintro en w1 ⟨rfl, h1r, g1⟩
      have c1 := (b0.same (g1.block _ b0.lt (fun e => by cases e; omega))).cell
      have hval := hval w1 (HT.out.grow g1) h1r
      have G1 := Lib.hid g1
      clear h1r g1
      go_wp2_with fail
      refine hval.mono ?_
      rintro en w2 ⟨v2, u2, rfl, hl2, hf2, hfit, h2r, g2⟩
      obtain ⟨p3, c3, rfl, -⟩ := hl2.len
      obtain ⟨p4, c4', rfl, -⟩ := hf2.len
      have G2 := Lib.hid (grow_trans G1.out g2)
      have HV := Lib.hid (And.intro (hl2.mono (A' := fun b => W.heap.size ≤ b) (fun b hb _ => Nat.le_trans G1.out.size hb)) (And.intro (hf2.mono (A' := fun b => W.heap.size ≤ b) (fun b hb _ => Nat.le_trans G1.out.size hb)) (And.intro hfit h2r)))
      have hnew := heap_alloc_new w2 (.cells #[.int .u8 r.1.1, .string r.1.2.1, .slice p3 r.1.2.2.1.len c3, .slice p4 r.1.2.2.2.len c4'] 25)
      have hsz2 := g2.size
      have hOA := World.grownBy_alloc w2 (.cells #[.int .u8 r.1.1, .string r.1.2.1, .slice p3 r.1.2.2.1.len c3, .slice p4 r.1.2.2.2.len c4'] 25) (some B)
      have G2 := Lib.hid (G2.out.trans hOA)
      have HV := Lib.hid (And.intro (HV.out.1.alloc (.cells #[.int .u8 r.1.1, .string r.1.2.1, .slice p3 r.1.2.2.1.len c3, .slice p4 r.1.2.2.2.len c4'] 25)) (And.intro (HV.out.2.1.alloc (.cells #[.int .u8 r.1.1, .string r.1.2.1, .slice p3 r.1.2.2.1.len c3, .slice p4 r.1.2.2.2.len c4'] 25)) (And.intro hfit (h2r.alloc (.cells #[.int .u8 r.1.1, .string r.1.2.1, .slice p3 r.1.2.2.1.len c3, .slice p4 r.1.2.2.2.len c4'] 25)))))
      have HB := Lib.hid (show Blk4 (w2.alloc (.cells #[.int .u8 r.1.1, .string r.1.2.1, .slice p3 r.1.2.2.1.len c3, .slice p4 r.1.2.2.2.len c4'] 25)) w2.heap.size 25 _ _ _ _ from hnew)
      obtain ⟨e0, e1, e2, e3⟩ := HB.out.box
      clear hnew hOA
      have k0 := b0.same (G2.out.block _ b0.lt (fun e => by cases e; omega))
      have k1 := b1.same (G2.out.block _ b1.lt (fun e => by cases e; omega))
      have k3 := b3.same (G2.out.block _ b3.lt (fun e => by cases e; omega))
      have m2 := hm.kept G2.out (fun e => by cases e; omega)
      have d1 := k1.cell
      have d3 := k3.cell
      clear hl2 hf2 hfit h2r g2 hval c0 c1 hnm
      have hmi := hD.2 x.1
      cases hi : t.idx x.1 with
      | some i =>
        rw [hi] at hmi
        have hil := V.T.idx_lt hi
        have ho2 := ownsRow_keep ho (by omega) G2.out
        obtain ⟨g, rfl, HC⟩ : ∃ g, pv0 = some ⟨g, 0, none⟩ ∧ Hid (∀ k, k < t.len * 5 → (∃ y, (w2.alloc (.cells #[.int .u8 r.1.1, .string r.1.2.1, .slice p3 r.1.2.2.1.len c3, .slice p4 r.1.2.2.2.len c4'] 25)).cell? ⟨g, k, none⟩ = some y) ∧ (w2.alloc (.cells #[.int .u8 r.1.1, .string r.1.2.1, .slice p3 r.1.2.2.1.len c3, .slice p4 r.1.2.2.2.len c4'] 25)).frozen? ⟨g, k, none⟩ = false) := by
          rcases ho2.2 with ⟨_, e⟩ | ⟨g, cap, cur, e, _, hg, hn, _, hsz, _⟩
          · omega
          · cases e
            exact ⟨g, rfl, Lib.hid (fun k hk => ⟨⟨cur[k]'(by omega), by rw [cell_of_row _ g k cur _ (0, 0) hg]; exact Array.getElem?_eq_getElem _⟩, by simp [World.frozen?, hg]⟩)⟩
        obtain ⟨⟨y1, j1⟩, l1⟩ := HC.out (i * 5 + 1) (by omega)
        obtain ⟨⟨y2, j2⟩, l2⟩ := HC.out (i * 5 + 1 + 1) (by omega)
        obtain ⟨⟨y3, j3⟩, l3⟩ := HC.out (i * 5 + 1 + 2) (by omega)
        obtain ⟨⟨y4, j4⟩, l4⟩ := HC.out (i * 5 + 1 + 3) (by omega)
        have hlt1 : (i : Int) < (t.len : Int) := by omega
        go_wp2_with (at_lookup; refine wpList_lookup_own_ok_int _ rfl _ _ 64 rfl 9 3 .i64 law_string (by kernel_rfl) (by kernel_rfl) (zero_int _) (w.heap.size + 2) t.len D rfl m2 _ _ rfl hkey ?_; intro c hat hwc; rw [hmi.1]; obtain rfl : c = (i : Int) := by have := hat.symm.trans (hmi.2 _); simpa using this)
        go_end0
        rw [HE.out]
        exact FI.old h1 h2 h3 b0 b1 b3 hm hD ho hr hi (by omega) HG.out G2.out HV.out.1 HV.out.2.1 HV.out.2.2.1 HV.out.2.2.2
      | none =>
        rw [hi] at hmi
        have ho2 := ownsRow_keep ho (by omega) G2.out
        go_wp2_with (first
          | (at_lookup; refine wpList_lookup_own_ok_int _ rfl _ _ 64 rfl 9 3 .i64 law_string (by kernel_rfl) (by kernel_rfl) (zero_int _) (w.heap.size + 2) t.len D rfl m2 _ _ rfl hkey ?_; intro c hat hwc; rw [hmi])
          | (at_mapUpdate; refine wpList_mapUpdate_own _ rfl _ _ _ 64 rfl 9 3 law_string (by kernel_rfl) _ (w.heap.size + 2) t.len D rfl m2 (by unfold maxLen; omega) _ _ _ rfl rfl hkey _ [] (plainElem_int (by kernel_rfl) (WalkArith.wf_i64 (by omega))) ?_; intro w5 hown5 hgrow5))
        have g5 := grow_trans hgrow5 (grow_below (((Below.refl _ w5).alloc (Nat.le_refl _) (.cells #[.string ⟨#[]⟩, .int .u8 0, .string ⟨#[]⟩, .slice none 0 0, .slice none 0 0] 38)).drew) _)
        have bv := HB.out.same (hgrow5.block _ HB.out.lt (fun e => by have e := Option.some.inj e; have := b3.lt; have := G1.out.size; have := hsz2; omega))
        have kb := k1.same (hgrow5.block _ k1.lt (fun e => by have e := Option.some.inj e; omega))
        have HS0 := Lib.hid (show w5.drew.cell? ⟨w.heap.size + 1, 0, none⟩ = some (.slice pv0 t.len cv0) ∧ w5.drew.cell? ⟨w2.heap.size, 0, none⟩ = some (.int .u8 r.1.1) ∧ w5.drew.cell? ⟨w2.heap.size, 1, none⟩ = some (.string r.1.2.1) ∧ w5.drew.cell? ⟨w2.heap.size, 2, none⟩ = some (.slice p3 r.1.2.2.1.len c3) ∧ w5.drew.cell? ⟨w2.heap.size, 3, none⟩ = some (.slice p4 r.1.2.2.2.len c4') from ⟨kb.cell, bv.box⟩)
        have HS1 := Lib.hid (show ∀ X, Below w5.heap.size w5 X → X.cell? ⟨w.heap.size + 1, 0, none⟩ = some (.slice pv0 t.len cv0) ∧ X.cell? ⟨w2.heap.size, 0, none⟩ = some (.int .u8 r.1.1) ∧ X.cell? ⟨w2.heap.size, 1, none⟩ = some (.string r.1.2.1) ∧ X.cell? ⟨w2.heap.size, 2, none⟩ = some (.slice p3 r.1.2.2.1.len c3) ∧ X.cell? ⟨w2.heap.size, 3, none⟩ = some (.slice p4 r.1.2.2.2.len c4') from fun X hX => ⟨(kb.same (hX.block _ kb.lt)).cell, (bv.same (hX.block _ bv.lt)).box⟩)
        have HM6 := Lib.hid ((hown5.alloc (.cells #[.string ⟨#[]⟩, .int .u8 0, .string ⟨#[]⟩, .slice none 0 0, .slice none 0 0] 38)).drew)
        have HMI := Lib.hid (hD.new (n := x.1) hi (by obtain ⟨es, e⟩ := hD.1; rw [e]; exact ⟨_, rfl⟩) trivial r.1.1 r.1.2.1 r.1.2.2.1 r.1.2.2.2)
        have hz5 := heap_alloc_new w5 (.cells #[.string ⟨#[]⟩, .int .u8 0, .string ⟨#[]⟩, .slice none 0 0, .slice none 0 0] 38)
        have hown6 := ownsRow_keep ho2 (show w.heap.size + 2 < w.heap.size + 4 by omega) g5
        have hsz6 := Nat.le_trans h3 (Nat.le_trans G2.out.size g5.size)
        clear e0 e1 e2 e3 d1 d3 k0 k3 m2 hown5
        try simp only [Act.put]
        refine wp_region_late (S := fun X => X.cell? ⟨w.heap.size + 1, 0, none⟩ = some (.slice pv0 t.len cv0) ∧ X.cell? ⟨w2.heap.size, 0, none⟩ = some (.int .u8 r.1.1) ∧ X.cell? ⟨w2.heap.size, 1, none⟩ = some (.string r.1.2.1) ∧ X.cell? ⟨w2.heap.size, 2, none⟩ = some (.slice p3 r.1.2.2.1.len c3) ∧ X.cell? ⟨w2.heap.size, 3, none⟩ = some (.slice p4 r.1.2.2.2.len c4')) (zs := [6, 7, 8, 9]) (by kernel_rfl) ?_
        refine wpAnyL_take (v := ?_) 0 rfl (by kernel_rfl) (by kernel_rfl) (by kernel_rfl) (fun _ _ _ h => h) (by kernel_rfl) (by kernel_rfl) HS0.out (by rfl) (fun X hX => ?_) ?_
        rotate_left
        · obtain ⟨s0, s1, s2, s3, s4⟩ := hX
          go_simp
          try with_reducible rfl
        try simp only [Act.put, List.setIfInBounds_toArray, List.set_cons_zero, List.set_cons_succ]
        refine wpAnyL_take (v := ?_) 1 rfl (by kernel_rfl) (by kernel_rfl) (by kernel_rfl) (fun _ _ _ h => h) (by kernel_rfl) (by kernel_rfl) HS0.out (by rfl) (fun X hX => ?_) ?_
        rotate_left
        · obtain ⟨s0, s1, s2, s3, s4⟩ := hX
          go_simp
          try with_reducible rfl
        try simp only [Act.put, List.setIfInBounds_toArray, List.set_cons_zero, List.set_cons_succ]
        refine wpAnyL_take (v := ?_) 2 rfl (by kernel_rfl) (by kernel_rfl) (by kernel_rfl) (fun _ _ _ h => h) (by kernel_rfl) (by kernel_rfl) HS0.out (by rfl) (fun X hX => ?_) ?_
        rotate_left
        · obtain ⟨s0, s1, s2, s3, s4⟩ := hX
          go_simp
          try with_reducible rfl
        try simp only [Act.put, List.setIfInBounds_toArray, List.set_cons_zero, List.set_cons_succ]
        refine wpAnyL_take (v := ?_) 3 rfl (by kernel_rfl) (by kernel_rfl) (by kernel_rfl) (fun _ _ _ h => h) (by kernel_rfl) (by kernel_rfl) HS0.out (by rfl) (fun X hX => ?_) ?_
        rotate_left
        · obtain ⟨s0, s1, s2, s3, s4⟩ := hX
          go_simp
          try with_reducible rfl
        try simp only [Act.put, List.setIfInBounds_toArray, List.set_cons_zero, List.set_cons_succ]
        refine wpAnyL_take (v := ?_) 4 rfl (by kernel_rfl) (by kernel_rfl) (by kernel_rfl) (fun _ _ _ h => h) (by kernel_rfl) (by kernel_rfl) HS0.out (by rfl) (fun X hX => ?_) ?_
        rotate_left
        · obtain ⟨s0, s1, s2, s3, s4⟩ := hX
          go_simp
          try with_reducible rfl
        try simp only [Act.put, List.setIfInBounds_toArray, List.set_cons_zero, List.set_cons_succ]
        refine wpAnyL_op 5 (by kernel_rfl) rfl (fun K hK => ?_)
        go_simp
        refine hK.out _ _ (fun _ => HS1.out _ (((Below.refl _ w5).alloc (Nat.le_refl _) (.cells #[.string ⟨#[]⟩, .int .u8 0, .string ⟨#[]⟩, .slice none 0 0, .slice none 0 0] 38)).drew)) ?_
        try simp only [Act.put, List.setIfInBounds_toArray, List.set_cons_zero, List.set_cons_succ]
        clear hK K
        refine wpAnyL_op 6 (by kernel_rfl) rfl (fun K hK => ?_)
        refine step_append_lies _ (by rfl) _ _ _ (by rfl) (w.heap.size + 4) 38 i0 _ 5 88 Tryd.underlying23 hi0 hz0 hz1 hz2 rfl (by omega) (.slice pv0 t.len cv0) t.len xs (by rfl) hown6 ⟨w5.heap.size, 0, none⟩ 1 1 [.string ⟨#[]⟩, .int .u8 0, .string ⟨#[]⟩, .slice none 0 0, .slice none 0 0] (by rfl) (by rfl) (World.news_of_block (cs := #[.string ⟨#[]⟩, .int .u8 0, .string ⟨#[]⟩, .slice none 0 0, .slice none 0 0]) (t := 38) (fr := (0, 0)) hz5) (by simp [Value.oneCell']) (by omega) (by unfold maxLen; omega) (by omega) hsz6 _ rfl ?_
        intro gg cap w4 hown4 hgrow4 hat hlt4
        have H4 := Lib.hid (F4.of ho hr h3 h2 b0 b1 b3 HG.out G2.out g5 HV.out.1 HV.out.2.1 HV.out.2.2.2 HM6.out hown4 hgrow4 hat)
        have d4 := H4.out.2.1.cell
        have f4 := H4.out.2.1.free
        refine hK.out _ _ (fun e => absurd e (by decide)) ?_
        try simp only [Act.put, List.setIfInBounds_toArray, List.set_cons_zero, List.set_cons_succ]
        clear hK K
        have H5 := Lib.hid (H4.out.set1 h2 (Nat.le_refl _))
        have KC := Lib.hid (H4.out.cells hr.1)
        have hlt1 : ((t.len : Nat) : Int) < (t.len : Int) + 1 := by omega
        have HB6 := Lib.hid (box_set5 H4.out x.1)
        have HQ := Lib.hid (set5_box w4 gg (t.len * 5) (w.heap.size + 1) (fun e => by have := (H4.out.2.2.2.2.1.lt gg rfl).1; omega) (.slice (some ⟨gg, 0, none⟩) (t.len + 1) cap) (.string x.1) (.int .u8 r.1.1) (.string r.1.2.1) (.slice p3 r.1.2.2.1.len c3) (.slice p4 r.1.2.2.2.len c4'))
        clear hown4 hgrow4 hat hown6 hz5 HS0 HS1 kb bv g5
        refine wpAnyL_two 7 9 (by kernel_rfl) rfl rfl (fun K hK => ?_) (fun K hK => ?_)
        · go_simp
          refine hK.out _ _ (fun e => absurd e (by decide)) ?_
          try simp only [Act.put, List.setIfInBounds_toArray, List.set_cons_zero, List.set_cons_succ]
          clear hK K
          refine wpAnyL_two 8 9 (by kernel_rfl) rfl rfl (fun K hK => ?_) (fun K hK => ?_)
          · skip
            obtain ⟨⟨y0, q0⟩, ⟨y1, q1⟩, ⟨y2, q2⟩, ⟨y3, q3⟩, ⟨y4, q4⟩⟩ := And.intro (KC.out.1 0 (by decide)) (And.intro (KC.out.1 1 (by decide)) (And.intro (KC.out.1 2 (by decide)) (And.intro (KC.out.1 3 (by decide)) (KC.out.1 4 (by decide)))))
            rw [Nat.add_zero] at q0
            have fr := KC.out.2
            go_simp
            refine hK.out _ _ (fun e => absurd e (by decide)) ?_
            try simp only [Act.put, List.setIfInBounds_toArray, List.set_cons_zero, List.set_cons_succ]
            clear hK K
            have c6 := HB6.out.cell
            have f6 := HB6.out.free
            generalize hW6 : ((((w4.setCell ⟨gg, t.len * 5, none⟩ (.string x.1)).setCell ⟨gg, t.len * 5 + 1, none⟩ (.int .u8 r.1.1)).setCell ⟨gg, t.len * 5 + 2, none⟩ (.string r.1.2.1)).setCell ⟨gg, t.len * 5 + 3, none⟩ (.slice p3 r.1.2.2.1.len c3)).setCell ⟨gg, t.len * 5 + 4, none⟩ (.slice p4 r.1.2.2.2.len c4') = w6 at *
            refine wpAnyL_op 9 (by kernel_rfl) rfl (fun K hK => ?_)
            go_simp
            refine hK.out _ _ (fun e => absurd e (by decide)) ?_
            try simp only [Act.put, List.setIfInBounds_toArray, List.set_cons_zero, List.set_cons_succ]
            clear hK K
            refine wpAnyL_end (by kernel_rfl) ?_
            go_end0
            rw [HE.out, HQ.out]
            exact H5.out.fin h2 hr.1 (by omega) hi HMI.out ⟨HV.out.2.2.1.1, HV.out.2.2.1.2.1, by omega⟩
          · go_simp
            refine hK.out _ _ (fun e => absurd e (by decide)) ?_
            try simp only [Act.put, List.setIfInBounds_toArray, List.set_cons_zero, List.set_cons_succ]
            clear hK K
            generalize w4.setCell ⟨w.heap.size + 1, 0, none⟩ (.slice (some ⟨gg, 0, none⟩) (t.len + 1) cap) = wb at *
            have KD := Lib.hid (F4.cells H5.out hr.1)
            obtain ⟨⟨y0, q0⟩, ⟨y1, q1⟩, ⟨y2, q2⟩, ⟨y3, q3⟩, ⟨y4, q4⟩⟩ := And.intro (KD.out.1 0 (by decide)) (And.intro (KD.out.1 1 (by decide)) (And.intro (KD.out.1 2 (by decide)) (And.intro (KD.out.1 3 (by decide)) (KD.out.1 4 (by decide)))))
            rw [Nat.add_zero] at q0
            have fr := KD.out.2
            refine wpAnyL_op 8 (by kernel_rfl) rfl (fun K hK => ?_)
            go_simp
            refine hK.out _ _ (fun e => absurd e (by decide)) ?_
            try simp only [Act.put, List.setIfInBounds_toArray, List.set_cons_zero, List.set_cons_succ]
            clear hK K
            refine wpAnyL_end (by kernel_rfl) ?_
            go_end0
            rw [HE.out]
            exact H5.out.fin h2 hr.1 (by omega) hi HMI.out ⟨HV.out.2.2.1.1, HV.out.2.2.1.2.1, by omega⟩
        · go_simp
          refine hK.out _ _ (fun e => absurd e (by decide)) ?_
          try simp only [Act.put, List.setIfInBounds_toArray, List.set_cons_zero, List.set_cons_succ]
          clear hK K
          generalize w4.setCell ⟨w.heap.size + 1, 0, none⟩ (.slice (some ⟨gg, 0, none⟩) (t.len + 1) cap) = wb at *
          have KD := Lib.hid (F4.cells H5.out hr.1)
          obtain ⟨⟨y0, q0⟩, ⟨y1, q1⟩, ⟨y2, q2⟩, ⟨y3, q3⟩, ⟨y4, q4⟩⟩ := And.intro (KD.out.1 0 (by decide)) (And.intro (KD.out.1 1 (by decide)) (And.intro (KD.out.1 2 (by decide)) (And.intro (KD.out.1 3 (by decide)) (KD.out.1 4 (by decide)))))
          rw [Nat.add_zero] at q0
          have fr := KD.out.2
          refine wpAnyL_op 7 (by kernel_rfl) rfl (fun K hK => ?_)
          go_simp
          refine hK.out _ _ (fun e => absurd e (by decide)) ?_
          try simp only [Act.put, List.setIfInBounds_toArray, List.set_cons_zero, List.set_cons_succ]
          clear hK K
          refine wpAnyL_op 8 (by kernel_rfl) rfl (fun K hK => ?_)
          go_simp
          refine hK.out _ _ (fun e => absurd e (by decide)) ?_
          try simp only [Act.put, List.setIfInBounds_toArray, List.set_cons_zero, List.set_cons_succ]
          clear hK K
          refine wpAnyL_end (by kernel_rfl) ?_
          go_end0
          rw [HE.out]
          exact H5.out.fin h2 hr.1 (by omega) hi HMI.out ⟨HV.out.2.2.1.1, HV.out.2.2.1.2.1, by omega⟩
    · have HE := Lib.hid (show fin = (t, r.2) by rw [HFO.out, if_pos hx, if_neg he])
      unfold OutV at hval
      simp only [if_neg he] at hval
      go_enter Tryd.func40, Tryd.ntmps40
      go_wp2_with fail
      refine hnm.mono ?_
      rintro en w1 ⟨rfl, h1r, g1⟩
      have c1 := (b0.same (g1.block _ b0.lt (fun e => by cases e; omega))).cell
      have hval := hval w1 (HT.out.grow g1) h1r
      have G1 := Lib.hid (grow_trans HG.out g1)
      clear h1r g1
      go_wp2_with fail
      refine hval.mono ?_
      rintro en w2 ⟨rfl, h2r, g2⟩
      refine ⟨rfl, ?_⟩
      rw [HE.out]
      exact outI_died he ⟨rfl, h2r, grow_trans G1.out g2⟩
  · have HE := Lib.hid (show fin = (t, x.2) by rw [HFO.out, if_neg hx])
    unfold Out at hnm
    simp only [if_neg hx] at hnm
    go_enter Tryd.func40, Tryd.ntmps40
    go_wp2_with fail
    refine hnm.mono ?_
    rintro en w1 ⟨rfl, h1r, g1⟩
    refine ⟨rfl, ?_⟩
    rw [HE.out]
    exact outI_died hx ⟨rfl, h1r, grow_trans HG.out g1⟩
end Go.Proofs.YtbdpghmpdghnbaaDoor
