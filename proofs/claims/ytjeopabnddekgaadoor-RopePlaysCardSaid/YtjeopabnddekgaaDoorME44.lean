/- A copy of a slice, appended to an empty one. Conditions: such a length as memory bears. -/
import Derived.Test.YtjeopabnddekgaaDoorME52
import Derived.Laws.Append
import Derived.Deep.Upon
import Derived.Test.YtjeopabnddekgaaDoorME54
import Derived.Test.YtjeopabnddekgaaDoorME43
namespace Go.Proofs.YtjeopabnddekgaaDoor
open Go Go.RowKit Go.Lib

/-- the cells lie in memory of their own, or there are none -/
def CopyOf (N : Nat) (w : World) (v : Value) (n : Nat) (news : List Value) : Prop := ∃ z c, v = .slice z n c ∧ ∀ (j : Nat) (u : Value), news[j]? = some u → ∃ b, z = some ⟨b, 0, none⟩ ∧ N ≤ b ∧ b < w.heap.size ∧ w.cell? ⟨b, j, none⟩ = some u
theorem CopyOf.below {N : Nat} {w w' : World} {v : Value} {n : Nat} {news : List Value} (h : CopyOf N w v n news) (hB : Below w.heap.size w w') : CopyOf N w' v n news := by
  obtain ⟨z, c, rfl, h⟩ := h
  refine ⟨z, c, rfl, fun j u hu => ?_⟩
  obtain ⟨b, hz, h1, h2, h3⟩ := h j u hu
  exact ⟨b, hz, h1, Nat.lt_of_lt_of_le h2 hB.size, (hB.cell (p := ⟨b, _, none⟩) h2).trans h3⟩
theorem run_append_copy {P : Program} (w : World) (t ty e : TypeId) (i : TypeInfo) (z : Value) (size bytes : Nat) (ht : P.underlying t = some (.slice e)) (hi : P.info? e = some i) (hz : i.zero = some z) (hsize : i.size = size) (hby : i.bytes = bytes)
    (b : Addr) (p : Option Addr) (n c : Nat) (news : List Value) (hl : news.length = n * size) (hs : 0 < size) (hnews : ∀ (j : Nat) (u : Value), news[j]? = some u → ∃ ad, p = some ad ∧ w.cell? (ad.add j) = some u) (h63 : (n : Int) ≤ 9223372036854775807) (h48 : n * bytes ≤ 281474976710656) :
    ∃ v w', (Builtin.append_ #[t, t] ty #[.slice (some b) 0 0, .slice p n c]).run P w = .ok v w' ∧ CopyOf w.heap.size w' v n news ∧ Below w.heap.size w w' := by
  subst hsize
  subst hby
  rcases Nat.eq_zero_or_pos n with h0 | hn
  · subst h0
    have hne : news = [] := List.length_eq_zero_iff.1 (by omega)
    subst hne
    refine ⟨.slice (some b) 0 0, w, ?_, ⟨_, _, rfl, fun j u hu => by simp at hu⟩, Below.refl _ _⟩
    cases p with
    | none => simp [Builtin.append_, run_underlying ht, sizeOf, typeInfo, hi, Builtin.lenOf, run_firstCells_none, storeCells]
    | some ad =>
      have hf := run_firstCells_some (P := P) w i.size 0 ad 0 c [] (by simp) (fun j v h => by simp at h)
      simp [Builtin.append_, run_underlying ht, sizeOf, typeInfo, hi, Builtin.lenOf, hf, storeCells]
  · have hlt : 0 < news.length := by rw [hl]; exact Nat.mul_pos hn hs
    obtain ⟨ad, rfl, _⟩ := hnews 0 _ (List.getElem?_eq_getElem hlt)
    have hnews' : ∀ j v, news[j]? = some v → w.cell? (ad.add j) = some v := fun j u hu => by
      obtain ⟨ad', e1, h⟩ := hnews j u hu
      cases e1; exact h
    have hr := run_append_grow (P := P) w t ty e i z ht hi hz b 0 0 [] (by simp) (fun j v h => by simp at h) ad n c news hl hnews' (by omega) (by rw [Nat.zero_add]; exact h63) (by rw [Nat.zero_add, nextslicecap_zero hn]; exact h48)
    rw [Nat.zero_add] at hr
    refine ⟨_, _, hr, ⟨_, _, rfl, fun j u hu => ⟨_, rfl, Nat.le_refl _, by simp, ?_⟩⟩, (Below.refl w.heap.size w).drew.alloc (Nat.le_refl _) _⟩
    have hb : (w.drew.alloc (.cells (([] : List Value).toArray ++ news.toArray ++ Builtin.zeroCells z.cells (grownCap w n 0 e - n)) e)).heap[w.heap.size]? = some (.cells (([] : List Value).toArray ++ news.toArray ++ Builtin.zeroCells z.cells (grownCap w n 0 e - n)) e (0, 0)) := heap_alloc_new w.drew _
    rw [cell_of_row _ _ j _ _ _ hb]
    have hj := (List.getElem?_eq_some_iff.1 hu).1
    simp only [List.nil_append, Array.getElem?_append]
    simp [hj]
    simpa [List.getElem?_eq_getElem hj] using hu
theorem wpList_append_copy {P : Program} {w : World} {ops : Array Oper} {rest : List Oper} {o : Oper} {a : Act} {Q : Exit → Act → World → Prop} (hgd : o.guard = none) (s x : Operand) (t : TypeId)
    (ho : o.op = .call { callee := .builtin .append, args := #[s, x], argTypes := #[t, t] }) (e : TypeId) (i : TypeInfo) (z : Value) (size bytes : Nat) (ht : P.underlying t = some (.slice e)) (hi : P.info? e = some i) (hz : i.zero = some z) (hsize : i.size = size) (hby : i.bytes = bytes)
    (b : Addr) (hs : a.eval s = .slice (some b) 0 0) (p : Option Addr) (n c : Nat) (hx : a.eval x = .slice p n c) (news : List Value) (hl : news.length = n * size) (h0 : 0 < size) (hnews : ∀ (j : Nat) (u : Value), news[j]? = some u → ∃ ad, p = some ad ∧ w.cell? (ad.add j) = some u) (h63 : (n : Int) ≤ 9223372036854775807) (h48 : n * bytes ≤ 281474976710656)
    (h : ∀ v w', CopyOf w.heap.size w' v n news → Below w.heap.size w w' → wpList P ops Q rest (a.put o.dst v) w') : wpList P ops Q (o :: rest) a w :=
  wpList_plain hgd fun _ hK => by
    obtain ⟨v, w', hr, h1, h2⟩ := run_append_copy (P := P) w t o.type e i z size bytes ht hi hz hsize hby b p n c news hl h0 hnews h63 h48
    unfold Oper.wp execOp
    simp only [ho, resolve, invoke, builtin, Sem.run_bind, Sem.run_pure, Result.andThen_ok, List.map_toArray, List.map_cons, List.map_nil, hs, hx, hr]
    exact hK _ _ (h v w' h1 h2)
end Go.Proofs.YtjeopabnddekgaaDoor

namespace Go.Proofs.YtjeopabnddekgaaDoor
open Go Go.RowKit Go.Lib

/-- edits as cells -/
def edCells (l : List EdE) : List Value := l.flatMap fun e => [.int .i64 e.f, .int .i64 e.k, .string e.s]
theorem edCells_len (l : List EdE) : (edCells l).length = l.length * 3 := by
  induction l with
  | nil => rfl
  | cons e r ih => simp [edCells] at ih ⊢; omega
theorem edCells_at (l : List EdE) (j k : Nat) (e : EdE) (h : l[j]? = some e) (hk : k < 3) : (edCells l)[j * 3 + k]? = ([.int .i64 e.f, .int .i64 e.k, .string e.s] : List Value)[k]? := by
  induction l generalizing j with
  | nil => simp at h
  | cons x r ih =>
    have hc : edCells (x :: r) = [.int .i64 x.f, .int .i64 x.k, .string x.s] ++ edCells r := rfl
    rw [hc]
    cases j with
    | zero =>
      simp at h; subst h
      rw [Nat.zero_mul, Nat.zero_add, List.getElem?_append_left (by simpa using hk)]
    | succ j =>
      rw [List.getElem?_append_right (by simp; omega)]
      simp only [List.length_cons, List.length_nil]
      rw [show (j + 1) * 3 + k - (0 + 1 + 1 + 1) = j * 3 + k by omega]
      exact ih j (by simpa using h)
theorem rd_cells {w : World} {z : Option Addr} {c : Nat} {l : List EdE} (h : RdEd w (.slice z l.length c) l) : ∀ (j : Nat) (u : Value), (edCells l)[j]? = some u → ∃ ad, z = some ad ∧ w.cell? (ad.add j) = some u := by
  obtain ⟨z', c', he, hl, hr⟩ := h
  cases he
  intro j u hu
  have hj := (List.getElem?_eq_some_iff.1 hu).1
  rw [edCells_len] at hj
  obtain ⟨e, hq⟩ : ∃ e, l[j / 3]? = some e := ⟨_, List.getElem?_eq_getElem (by omega)⟩
  obtain ⟨b, o, hz, hb, c0, c1, c2⟩ := hr (j / 3) e hq
  have hm : j = j / 3 * 3 + j % 3 := by omega
  have hc := edCells_at l (j / 3) (j % 3) e hq (by omega)
  rw [← hm, hu] at hc
  refine ⟨_, hz, ?_⟩
  have ea : (⟨b, o, none⟩ : Addr).add j = ⟨b, o + j, none⟩ := by unfold Addr.add; by_cases h0 : j = 0 <;> simp [h0]
  rw [ea]
  have h3 : j % 3 < 3 := Nat.mod_lt _ (by decide)
  generalize j / 3 = q at *
  generalize j % 3 = r at *
  subst hm
  obtain rfl | rfl | rfl : r = 0 ∨ r = 1 ∨ r = 2 := by omega
  · rw [hc]; exact c0
  · rw [hc, ← Nat.add_assoc]; exact c1
  · rw [hc, ← Nat.add_assoc]; exact c2
theorem copy_rd {N : Nat} {w : World} {v : Value} {l : List EdE} (h : CopyOf N w v l.length (edCells l)) (hl : l.length ≤ 10000000000000) : RdEd w v l := by
  obtain ⟨z, c, rfl, h⟩ := h
  refine ⟨z, c, rfl, hl, fun j e hj => ?_⟩
  have c0 := edCells_at l j 0 e hj (by decide)
  have c1 := edCells_at l j 1 e hj (by decide)
  have c2 := edCells_at l j 2 e hj (by decide)
  obtain ⟨b, hz, _, hb, x0⟩ := h _ _ c0
  obtain ⟨b1, hz1, _, _, x1⟩ := h _ _ c1
  obtain ⟨b2, hz2, _, _, x2⟩ := h _ _ c2
  obtain rfl : b = b1 := by rw [hz] at hz1; cases hz1; rfl
  obtain rfl : b = b2 := by rw [hz] at hz2; cases hz2; rfl
  exact ⟨b, 0, hz, hb, by rw [Nat.zero_add]; exact x0, by rw [Nat.zero_add]; exact x1, by rw [Nat.zero_add]; exact x2⟩
theorem infoEd : (Tryd.prog.info? 63).map (fun i => (i.zero, i.size, i.bytes)) = some (some (.agg #[.int .i64 0, .int .i64 0, .string ⟨#[]⟩]), 3, 32) := by kernel_rfl
theorem info_partsE {t : TypeId} {z : Value} {n b : Nat} (h : (Tryd.prog.info? t).map (fun i => (i.zero, i.size, i.bytes)) = some (some z, n, b)) : ∃ i, Tryd.prog.info? t = some i ∧ i.zero = some z ∧ i.size = n ∧ i.bytes = b := by
  cases hq : Tryd.prog.info? t with
  | none => rw [hq] at h; cases h
  | some i =>
    rw [hq] at h
    simp at h
    exact ⟨i, rfl, h.1, h.2.1, h.2.2⟩
end Go.Proofs.YtjeopabnddekgaaDoor

namespace Go.Proofs.YtjeopabnddekgaaDoor
open Go Go.RowKit Go.Lib

/-- all cells are kept -/
def CK (W W' : World) : Prop := W.heap.size ≤ W'.heap.size ∧ ∀ (b : Nat) (c : Array Value) (t : TypeId) (fr : Nat × Nat), W.heap[b]? = some (.cells c t fr) → W'.heap[b]? = some (.cells c t fr)
/-- all of ropes is kept -/
def RK (W W' : World) : Prop := W.heap.size ≤ W'.heap.size ∧ ∀ (b : Nat) (c : Array Value) (t : TypeId), W.heap[b]? = some (.cells c t (0, 0)) → (t = 121 ∨ t = 139 ∨ t = 84) → W'.heap[b]? = some (.cells c t (0, 0))
theorem CK.rk {W W' : World} (h : CK W W') : RK W W' := ⟨h.1, fun b c t hb _ => h.2 b c t _ hb⟩
theorem CK.refl (W : World) : CK W W := ⟨Nat.le_refl _, fun _ _ _ _ h => h⟩
theorem CK.trans {A B C : World} (h : CK A B) (k : CK B C) : CK A C := ⟨Nat.le_trans h.1 k.1, fun b c t fr hb => k.2 b c t fr (h.2 b c t fr hb)⟩
theorem RK.trans {A B C : World} (h : RK A B) (k : RK B C) : RK A C := ⟨Nat.le_trans h.1 k.1, fun b c t hb ht => k.2 b c t (h.2 b c t hb ht) ht⟩
theorem CK.below {W W' : World} (h : Below W.heap.size W W') : CK W W' := ⟨h.size, fun b c t fr hb => (h.block b (Array.getElem?_eq_some_iff.1 hb).1).trans hb⟩
theorem CK.own {W W' : World} {row : Option Nat} (hg : W.grownBy W' row) (hr : ∀ r, row = some r → ∃ o : Obj, W.heap[r]? = some o ∧ o.isCells = false) : CK W W' := ⟨hg.size, fun b c t fr hb => (hg.block b (Array.getElem?_eq_some_iff.1 hb).1 (fun e => by
  obtain ⟨o, ho, hc⟩ := hr b e.symm
  rw [hb] at ho
  cases ho
  cases hc)).trans hb⟩
theorem RK.grown {W W' : World} {row : Option Nat} (hg : W.grownBy W' row) (hr : ∀ r, row = some r → ∃ c t, W.heap[r]? = some (.cells c t (0, 0)) ∧ t ≠ 121 ∧ t ≠ 139 ∧ t ≠ 84) : RK W W' := ⟨hg.size, fun b c t hb ht => (hg.block b (Array.getElem?_eq_some_iff.1 hb).1 (fun e => by
  obtain ⟨c', t', h1, h2, h3, h4⟩ := hr b e.symm
  rw [hb] at h1
  cases h1
  rcases ht with h | h | h
  · exact h2 h
  · exact h3 h
  · exact h4 h)).trans hb⟩
theorem RK.set {W : World} {B : Nat} {T : TypeId} {x : Value} (h : Boxed W B T x) (h1 : T ≠ 121) (h2 : T ≠ 139) (h3 : T ≠ 84) (v : Value) : RK W (W.setCell ⟨B, 0, none⟩ v) :=
  RK.grown (grownBy_setCell' W B v) (fun r e => by cases e; exact ⟨_, _, h, h1, h2, h3⟩)
theorem NT.rk {w w' : World} (hR : RK w w') {N : Nat} : ∀ {t : R.T} {v : Value}, NT w N v t → NT w' N v t
  | .none, _, h => h
  | .leaf _, _, ⟨b, hb, hv, h⟩ => ⟨b, hb, hv, hR.2 b _ _ h (.inl rfl)⟩
  | .inner _ _ _, _, ⟨b, vl, vr, hb, hv, h, hl, hr⟩ => ⟨b, vl, vr, hb, hv, hR.2 b _ _ h (.inr (.inl rfl)), NT.rk hR hl, NT.rk hR hr⟩
theorem RopeAt.rk {w w' : World} {v : Value} {t : R.T} (h : RopeAt w v t) (hR : RK w w') : RopeAt w' v t := by
  obtain ⟨b, rv, hv, hb, hn, ht⟩ := h
  exact ⟨b, rv, hv, hR.2 b _ _ hb (.inr (.inr rfl)), (NT.rk hR hn).all, ht⟩
theorem owns_ck {W W' : World} {base : Nat} {e : TypeId} {size : Nat} {v : Value} {k : Nat} {xs : List Value} (h : W.ownsRow base e size v k xs) (hc : CK W W') : W'.ownsRow base e size v k xs := by
  rcases h with ⟨hl, ⟨rfl, h0⟩ | ⟨g, cap, cur, rfl, hbg, hg, rest⟩⟩
  · exact ⟨hl, .inl ⟨rfl, h0⟩⟩
  · exact ⟨hl, .inr ⟨g, cap, cur, rfl, hbg, hc.2 g _ _ _ hg, rest⟩⟩
theorem owns_set {W : World} {base : Nat} {e : TypeId} {size : Nat} {v : Value} {k : Nat} {xs : List Value} (h : W.ownsRow base e size v k xs) {B : Nat} {T : TypeId} {x : Value} (hB : Boxed W B T x) (hT : T ≠ e) (u : Value) : (W.setCell ⟨B, 0, none⟩ u).ownsRow base e size v k xs := by
  rcases h with ⟨hl, ⟨rfl, h0⟩ | ⟨g, cap, cur, rfl, hbg, hg, rest⟩⟩
  · exact ⟨hl, .inl ⟨rfl, h0⟩⟩
  · refine ⟨hl, .inr ⟨g, cap, cur, rfl, hbg, (Below.heap_setCell W ⟨B, 0, none⟩ u g (fun e' => ?_)).trans hg, rest⟩⟩
    have e' : g = B := e'
    subst e'
    rw [show W.heap[g]? = _ from hB] at hg
    cases hg
    exact hT rfl
/-- how far the loop over changes has come -/
structure DoI (w : World) (B9 B1 B2 : Nat) (z : Option Addr) (cap : Nat) (L : List ChE) (x : ByteArray) (i : Nat) (W : World) : Prop where
  bel : Below w.heap.size w W
  le : i ≤ L.length
  ok : (Ed.runD x (L.take i)).E = 0
  sz : (Ed.runD x (L.take i)).y.size ≤ 16384
  now : ∃ v t, Boxed W (w.heap.size + 1 + 1 + 1) 24 v ∧ RopeAt W v t ∧ t.tx = (Ed.runD x (L.take i)).y
  dn : ∃ v, Boxed W B9 55 v ∧ W.ownsRow (w.heap.size + 1 + 1 + 1 + 1) 63 3 v i (edCells (Ed.runD x (L.take i)).es)
  r1 : Boxed W w.heap.size 24 (.pointer none)
  r2 : Boxed W (w.heap.size + 1) 55 (.slice none 0 0)
  r3 : Boxed W (w.heap.size + 1 + 1) 25 (.int .i64 0)
  b1 : Boxed W B1 53 (.slice z L.length cap)
  b2 : Boxed W B2 110 (.func (.func 62) #[] #[.pointer (some ⟨w.heap.size + 1 + 1 + 1, 0, none⟩)])
theorem DoI.ck {w : World} {B9 B1 B2 : Nat} {z : Option Addr} {cap : Nat} {L : List ChE} {x : ByteArray} {i : Nat} {W W' : World} (h : DoI w B9 B1 B2 z cap L x i W) (hc : CK W W') (hB : Below w.heap.size w W') : DoI w B9 B1 B2 z cap L x i W' := by
  obtain ⟨v, t, h1, h2, h3⟩ := h.now
  obtain ⟨v', h4, h5⟩ := h.dn
  exact ⟨hB, h.le, h.ok, h.sz, ⟨v, t, hc.2 _ _ _ _ h1, h2.rk hc.rk, h3⟩, ⟨v', hc.2 _ _ _ _ h4, owns_ck h5 hc⟩, hc.2 _ _ _ _ h.r1, hc.2 _ _ _ _ h.r2, hc.2 _ _ _ _ h.r3, hc.2 _ _ _ _ h.b1, hc.2 _ _ _ _ h.b2⟩
theorem DoI.on {w : World} {B9 B1 B2 : Nat} {z : Option Addr} {cap : Nat} {L : List ChE} {x : ByteArray} {i : Nat} {W W' : World} (h : DoI w B9 B1 B2 z cap L x i W) (hB : Below W.heap.size W W') : DoI w B9 B1 B2 z cap L x i W' := h.ck (CK.below hB) (h.bel.trans (hB.mono h.bel.size))
theorem below_own {n₀ B : Nat} {w₀ X Y : World} {row : Option Nat} (hn : n₀ ≤ w₀.heap.size) (hB : n₀ ≤ B) (h : Below n₀ w₀ X) (hg : X.grownBy Y row) (hr : ∀ r, row = some r → B ≤ r ∧ ∃ o : Obj, X.heap[r]? = some o ∧ o.isCells = false) : Below n₀ w₀ Y :=
  (ownFrom_below (β := Unit) (B := B) hn hB) () X Y row h hg hr
theorem doI_own (w : World) (B B9 B1 B2 : Nat) (z : Option Addr) (cap : Nat) (L : List ChE) (x : ByteArray) (hB : w.heap.size ≤ B) : OwnFrom B (DoI w B9 B1 B2 z cap L x) := fun i X Y row h hg hr =>
  h.ck (CK.own hg (fun r e => (hr r e).2)) (below_own (Nat.le_refl _) hB h.bel hg hr)
end Go.Proofs.YtjeopabnddekgaaDoor

namespace Go.Proofs.YtjeopabnddekgaaDoor
open Go Go.RowKit Go.Lib

/-- how Do ends with an error -/
structure DoX (w : World) (E : Int) (W : World) : Prop where
  ne : ¬ E = 0
  bel : Below w.heap.size w W
  r1 : Boxed W w.heap.size 24 (.pointer none)
  r2 : Boxed W (w.heap.size + 1) 55 (.slice none 0 0)
  r3 : Boxed W (w.heap.size + 1 + 1) 25 (.int .i64 E)
theorem doX_own (w : World) (B : Nat) (E : Int) (hB : w.heap.size ≤ B) : OwnFrom B (fun (_ : Unit) W => DoX w E W) := fun _ X Y row h hg hr => by
  have hc := CK.own hg (fun r e => (hr r e).2)
  exact ⟨h.ne, below_own (Nat.le_refl _) hB h.bel hg hr, hc.2 _ _ _ _ h.r1, hc.2 _ _ _ _ h.r2, hc.2 _ _ _ _ h.r3⟩
theorem doX_mk {w W : World} {p q r : Value} (E : Int) (hE : ¬ E = 0) (hb : Below w.heap.size w W) (h1 : Boxed W w.heap.size 24 p) (h2 : Boxed W (w.heap.size + 1) 55 q) (h3 : Boxed W (w.heap.size + 1 + 1) 25 r) :
    DoX w E (((W.setCell ⟨w.heap.size, 0, none⟩ (.pointer none)).setCell ⟨w.heap.size + 1, 0, none⟩ (.slice none 0 0)).setCell ⟨w.heap.size + 1 + 1, 0, none⟩ (.int .i64 E)) ∧ KeepsOthers W (((W.setCell ⟨w.heap.size, 0, none⟩ (.pointer none)).setCell ⟨w.heap.size + 1, 0, none⟩ (.slice none 0 0)).setCell ⟨w.heap.size + 1 + 1, 0, none⟩ (.int .i64 E)) :=
  ⟨⟨hE, ((hb.setCell (p := ⟨w.heap.size, 0, none⟩) (Nat.le_refl _) _).setCell (p := ⟨w.heap.size + 1, 0, none⟩) (Nat.le_succ _) _).setCell (p := ⟨w.heap.size + 1 + 1, 0, none⟩) (by show w.heap.size ≤ w.heap.size + 1 + 1; omega) _,
    ((h1.set _).other (by omega) _).other (by omega) _, ((h2.other (by omega) _).set _).other (by omega) _, ((h3.other (by omega) _).other (by omega) _).set _⟩,
   ((KeepsOthers.setCell _ _ _).trans (KeepsOthers.setCell _ _ _)).trans (KeepsOthers.setCell _ _ _)⟩
/-- what is next, in memory -/
theorem doI_next {w : World} {B9 B1 B2 : Nat} {z : Option Addr} {cap : Nat} {L : List ChE} {x : ByteArray} {i : Nat} {W : World} (h : DoI w B9 B1 B2 z cap L x i W) {c : ChE} (hj : L[i]? = some c) {Y : ByteArray} {e : EdE} (hst : Ed.stepD (Ed.runD x (L.take i)) c = ⟨0, Y, (Ed.runD x (L.take i)).es ++ [e]⟩) (hY : Y.size ≤ 16384)
    {v : Value} {t : R.T} (hR : RopeAt W v t) (ht : t.tx = Y) (h9 : w.heap.size + 1 + 1 + 1 < B9) (h91 : B9 < B1) (h92 : B9 < B2) {cs : Array Value} {u u4 : Value} (hu : Boxed W B9 55 u) (hou : W.ownsRow (w.heap.size + 1 + 1 + 1 + 1) 63 3 u i (edCells (Ed.runD x (L.take i)).es)) {W4 : World}
    (hg : ((W.setCell ⟨w.heap.size + 1 + 1 + 1, 0, none⟩ v).alloc (.cells cs 63)).grownBy W4 u.ownBlock) (hown : W4.ownsRow (w.heap.size + 1 + 1 + 1 + 1) 63 3 u4 (i + 1) (edCells (Ed.runD x (L.take i)).es ++ [.int .i64 e.f, .int .i64 e.k, .string e.s])) :
    DoI w B9 B1 B2 z cap L x (i + 1) (W4.setCell ⟨B9, 0, none⟩ u4) ∧ KeepsOthers W (W4.setCell ⟨B9, 0, none⟩ u4) := by
  obtain ⟨v0, t0, n1, n2, n3⟩ := h.now
  have hrun : Ed.runD x (L.take (i + 1)) = ⟨0, Y, (Ed.runD x (L.take i)).es ++ [e]⟩ := by rw [Ed.runD_take hj]; exact hst
  have hcells : edCells ((Ed.runD x (L.take i)).es ++ [e]) = edCells (Ed.runD x (L.take i)).es ++ [.int .i64 e.f, .int .i64 e.k, .string e.s] := by
    unfold edCells; rw [List.flatMap_append]; simp
  have hlt : i + 1 ≤ L.length := (List.getElem?_eq_some_iff.1 hj).1
  -- the row, ahead of the append
  have o2 := owns_set hou n1 (by decide) v
  have o3 := owns_ck o2 (CK.below ((Below.refl (W.setCell ⟨w.heap.size + 1 + 1 + 1, 0, none⟩ v).heap.size _).alloc (Nat.le_refl _) (.cells cs 63)))
  have nrow : ∀ {B : Nat} {T : TypeId} {a : Value}, Boxed ((W.setCell ⟨w.heap.size + 1 + 1 + 1, 0, none⟩ v).alloc (.cells cs 63)) B T a → T ≠ 63 → Boxed W4 B T a := fun hb hT => hb.kept hg (hb.not_row hT o3)
  have to4 : ∀ {B : Nat} {T : TypeId} {a : Value}, Boxed W B T a → T ≠ 63 → B ≠ w.heap.size + 1 + 1 + 1 → Boxed W4 B T a := fun hb hT hne => nrow ((hb.other hne v).alloc _) hT
  have c4 : Boxed W4 (w.heap.size + 1 + 1 + 1) 24 v := nrow ((n1.set v).alloc _) (by decide)
  have u9 : Boxed W4 B9 55 u := to4 hu (by decide) (by omega)
  have hrow : ∀ r, u.ownBlock = some r → ∃ cc tt, ((W.setCell ⟨w.heap.size + 1 + 1 + 1, 0, none⟩ v).alloc (.cells cs 63)).heap[r]? = some (.cells cc tt (0, 0)) ∧ tt ≠ 121 ∧ tt ≠ 139 ∧ tt ≠ 84 ∧ w.heap.size + 1 + 1 + 1 + 1 ≤ r := fun r hr => by
    rcases o3.2 with ⟨e, _⟩ | ⟨g, cap', cur, e, hbg, hgg, _⟩
    · subst e; cases hr
    · subst e; cases hr
      exact ⟨_, _, hgg, by decide, by decide, by decide, hbg⟩
  have rk : RK W (W4.setCell ⟨B9, 0, none⟩ u4) :=
    (((RK.set n1 (by decide) (by decide) (by decide) v).trans (CK.below ((Below.refl (W.setCell ⟨w.heap.size + 1 + 1 + 1, 0, none⟩ v).heap.size _).alloc (Nat.le_refl _) (.cells cs 63))).rk).trans (RK.grown hg (fun r hr => by obtain ⟨cc, tt, a1, a2, a3, a4, _⟩ := hrow r hr; exact ⟨cc, tt, a1, a2, a3, a4⟩))).trans (RK.set u9 (by decide) (by decide) (by decide) u4)
  have hbel : Below w.heap.size w (W4.setCell ⟨B9, 0, none⟩ u4) := by
    have b1 := (h.bel.setCell (p := ⟨w.heap.size + 1 + 1 + 1, 0, none⟩) (by show w.heap.size ≤ w.heap.size + 1 + 1 + 1; omega) v)
    have b2 := b1.alloc b1.size (.cells cs 63)
    have b3 := b2.grown hg b2.size (fun k hk => by obtain ⟨_, _, _, _, _, _, hle⟩ := hrow k hk; omega)
    exact b3.setCell (p := ⟨B9, 0, none⟩) (by show w.heap.size ≤ B9; omega) u4
  refine ⟨⟨hbel, hlt, by rw [hrun], by rw [hrun]; exact hY, ⟨v, t, c4.other (by omega) _, hR.rk rk, by rw [hrun]; exact ht⟩, ⟨u4, u9.set u4, by rw [hrun]; dsimp only; rw [hcells]; exact owns_set hown u9 (by decide) u4⟩,
    (to4 h.r1 (by decide) (by omega)).other (by omega) _, (to4 h.r2 (by decide) (by omega)).other (by omega) _, (to4 h.r3 (by decide) (by omega)).other (by omega) _, (to4 h.b1 (by decide) (by omega)).other (by omega) _, (to4 h.b2 (by decide) (by omega)).other (by omega) _⟩, ?_⟩
  exact (((KeepsOthers.setCell _ _ _).trans (KeepsOthers.alloc _ _)).trans (KeepsOthers.of_grownBy hg (fun j o hr ho => by
    obtain ⟨cc, tt, a1, _⟩ := hrow j hr
    rw [ho] at a1
    cases a1; rfl))).trans (KeepsOthers.setCell _ _ _)
/-- what is said of a place by lines -/
theorem offX_in (x : ByteArray) (l c : Int) : 0 ≤ Ed.offX x l c ∧ Ed.offX x l c ≤ (x.size : Int) := by
  unfold Ed.offX
  by_cases h : (Ed.conX x (max l 0)).2.2 = true
  · rw [if_pos h]
    unfold Ed.conX at h ⊢
    by_cases hi : (max l 0).toNat < L.mny x
    · rw [if_pos hi] at h ⊢
      have := L.to_le hi
      dsimp only
      omega
    · rw [if_neg hi] at h; cases h
  · rw [if_neg h]; omega
theorem ofX_in {y : ByteArray} {c : ChE} (h : (Ed.ofX y c).2 = 0) : (0 ≤ (Ed.ofX y c).1.f ∧ (Ed.ofX y c).1.f ≤ (y.size : Int)) ∧ (0 ≤ (Ed.ofX y c).1.k ∧ (Ed.ofX y c).1.k ≤ (y.size : Int)) ∧ (Ed.ofX y c).1.s = c.s := by
  have hf : 0 ≤ Ed.ofF y c ∧ Ed.ofF y c ≤ (y.size : Int) := by
    unfold Ed.ofF; split
    · exact offX_in _ _ _
    · omega
  have hk : 0 ≤ Ed.ofK y c ∧ Ed.ofK y c ≤ (y.size : Int) := by
    unfold Ed.ofK; split
    · exact offX_in _ _ _
    · omega
  unfold Ed.ofX Ed.ofAns at h ⊢
  by_cases hlt : Ed.ofK y c < Ed.ofF y c
  · rw [if_pos hlt] at h; cases h
  · rw [if_neg hlt]; exact ⟨hf, hk, rfl⟩
end Go.Proofs.YtjeopabnddekgaaDoor
