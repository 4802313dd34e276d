/- A copy of a slice, appended to an empty one. Conditions: such a length as memory bears. -/
import Derived.Test.YtglanajglhneeaaMX31
import Derived.Laws.Append
import Derived.Deep.Upon
import Derived.Test.YtglanajglhneeaaMX32
import Derived.Laws.CopyOwn
import Derived.Test.YtglanajglhneeaaMX35
import Derived.Laws.MakeOwn
namespace Go.Proofs.Ytglanajglhneeaa
open Go Go.RowKit Go.Lib

/-- the cells lie in memory of their own, or there are none -/
def CopyOf (N : Nat) (w : World) (v : Value) (n : Nat) (news : List Value) : Prop := ∃ z c, v = .slice z n c ∧ n ≤ c ∧ c ≤ maxLen ∧ ∀ (j : Nat) (u : Value), news[j]? = some u → ∃ b, z = some ⟨b, 0, none⟩ ∧ N ≤ b ∧ b < w.heap.size ∧ w.cell? ⟨b, j, none⟩ = some u
theorem CopyOf.below {N : Nat} {w w' : World} {v : Value} {n : Nat} {news : List Value} (h : CopyOf N w v n news) (hB : Below w.heap.size w w') : CopyOf N w' v n news := by
  obtain ⟨z, c, rfl, g1, g2, h⟩ := h
  refine ⟨z, c, rfl, g1, g2, fun j u hu => ?_⟩
  obtain ⟨b, hz, h1, h2, h3⟩ := h j u hu
  exact ⟨b, hz, h1, Nat.lt_of_lt_of_le h2 hB.size, (hB.cell (p := ⟨b, _, none⟩) h2).trans h3⟩
theorem run_append_copy {P : Program} (w : World) (t ty e : TypeId) (i : TypeInfo) (z : Value) (size bytes : Nat) (ht : P.underlying t = some (.slice e)) (hi : P.info? e = some i) (hz : i.zero = some z) (hsize : i.size = size) (hby : i.bytes = bytes)
    (b : Addr) (p : Option Addr) (n c : Nat) (news : List Value) (hl : news.length = n * size) (hs : 0 < size) (hnews : ∀ (j : Nat) (u : Value), news[j]? = some u → ∃ ad, p = some ad ∧ w.cell? (ad.add j) = some u) (h63 : (n : Int) ≤ 9223372036854775807) (h48 : n * bytes ≤ 281474976710656) :
    ∃ v w', (Builtin.append_ #[t, t] ty #[.slice (some b) 0 0, .slice p n c]).run P w = .ok v w' ∧ CopyOf w.heap.size w' v n news ∧ Below w.heap.size w w' := by
  subst hsize
  subst hby
  rcases Nat.eq_zero_or_pos n with h0 | hn
  · subst h0
    have hne : news = [] := List.length_eq_zero_iff.1 (by omega)
    subst hne
    refine ⟨.slice (some b) 0 0, w, ?_, ⟨_, _, rfl, Nat.le_refl _, Nat.zero_le _, fun j u hu => by simp at hu⟩, Below.refl _ _⟩
    cases p with
    | none => simp [Builtin.append_, run_underlying ht, sizeOf, typeInfo, hi, Builtin.lenOf, run_firstCells_none, storeCells]
    | some ad =>
      have hf := run_firstCells_some (P := P) w i.size 0 ad 0 c [] (by simp) (fun j v h => by simp at h)
      simp [Builtin.append_, run_underlying ht, sizeOf, typeInfo, hi, Builtin.lenOf, hf, storeCells]
  · have hlt : 0 < news.length := by rw [hl]; exact Nat.mul_pos hn hs
    obtain ⟨ad, rfl, _⟩ := hnews 0 _ (List.getElem?_eq_getElem hlt)
    have hnews' : ∀ j v, news[j]? = some v → w.cell? (ad.add j) = some v := fun j u hu => by
      obtain ⟨ad', e1, h⟩ := hnews j u hu
      cases e1; exact h
    have hr := run_append_grow (P := P) w t ty e i z ht hi hz b 0 0 [] (by simp) (fun j v h => by simp at h) ad n c news hl hnews' (by omega) (by rw [Nat.zero_add]; exact h63) (by rw [Nat.zero_add, nextslicecap_zero hn]; exact h48)
    rw [Nat.zero_add] at hr
    refine ⟨_, _, hr, ⟨_, _, rfl, grownCap_ge w n 0 e, grownCap_le_maxLen w n 0 e (by unfold maxLen; omega), fun j u hu => ⟨_, rfl, Nat.le_refl _, by simp, ?_⟩⟩, (Below.refl w.heap.size w).drew.alloc (Nat.le_refl _) _⟩
    have hb : (w.drew.alloc (.cells (([] : List Value).toArray ++ news.toArray ++ Builtin.zeroCells z.cells (grownCap w n 0 e - n)) e)).heap[w.heap.size]? = some (.cells (([] : List Value).toArray ++ news.toArray ++ Builtin.zeroCells z.cells (grownCap w n 0 e - n)) e (0, 0)) := heap_alloc_new w.drew _
    rw [cell_of_row _ _ j _ _ _ hb]
    have hj := (List.getElem?_eq_some_iff.1 hu).1
    simp only [Array.getElem?_append]
    simp [hj]
    simpa [List.getElem?_eq_getElem hj] using hu
theorem wpList_append_copy {P : Program} {w : World} {ops : Array Oper} {rest : List Oper} {o : Oper} {a : Act} {Q : Exit → Act → World → Prop} (hgd : o.guard = none) (s x : Operand) (t : TypeId)
    (ho : o.op = .call { callee := .builtin .append, args := #[s, x], argTypes := #[t, t] }) (e : TypeId) (i : TypeInfo) (z : Value) (size bytes : Nat) (ht : P.underlying t = some (.slice e)) (hi : P.info? e = some i) (hz : i.zero = some z) (hsize : i.size = size) (hby : i.bytes = bytes)
    (b : Addr) (hs : a.eval s = .slice (some b) 0 0) (p : Option Addr) (n c : Nat) (hx : a.eval x = .slice p n c) (news : List Value) (hl : news.length = n * size) (h0 : 0 < size) (hnews : ∀ (j : Nat) (u : Value), news[j]? = some u → ∃ ad, p = some ad ∧ w.cell? (ad.add j) = some u) (h63 : (n : Int) ≤ 9223372036854775807) (h48 : n * bytes ≤ 281474976710656)
    (h : ∀ v w', CopyOf w.heap.size w' v n news → Below w.heap.size w w' → wpList P ops Q rest (a.put o.dst v) w') : wpList P ops Q (o :: rest) a w :=
  wpList_plain hgd fun _ hK => by
    obtain ⟨v, w', hr, h1, h2⟩ := run_append_copy (P := P) w t o.type e i z size bytes ht hi hz hsize hby b p n c news hl h0 hnews h63 h48
    unfold Oper.wp execOp
    simp only [ho, resolve, invoke, builtin, Sem.run_bind, Sem.run_pure, Result.andThen_ok, List.map_toArray, List.map_cons, List.map_nil, hs, hx, hr]
    exact hK _ _ (h v w' h1 h2)
end Go.Proofs.Ytglanajglhneeaa

namespace Go.Proofs.Ytglanajglhneeaa
open Go Go.RowKit Go.Lib
theorem run_copy_rowN (P : Program) (w : World) (dT sT ty elem : TypeId) (size : Nat) (g o dLen dCap : Nat) (a : Addr) (sLen sCap : Nat) (cur : Array Value) (t : TypeId) (cs : List Value)
    (hu : P.underlying dT = some (.slice elem)) (hs : (P.info? elem).map (·.size) = some size)
    (hg : w.heap[g]? = some (.cells cur t (0, 0))) (hn : cs.length = Nat.min sLen dLen * size)
    (hsrc : ∀ j v, cs[j]? = some v → w.cell? (a.add j) = some v) (hfit : o + cs.length ≤ cur.size) (h1 : ∀ v ∈ cs, v.oneCell' = true) :
    (Builtin.copy_ #[dT, sT] ty #[.slice (some ⟨g, o, none⟩) dLen dCap, .slice (some a) sLen sCap]).run P w =
      .ok (goInt (Nat.min sLen dLen)) (w.setRow g (cur.toList.take o ++ cs ++ cur.toList.drop (o + cs.length)).toArray) := by
  have hl := run_loadCells_list (P := P) w a cs hsrc
  have hst := run_storeCells_at P g o t cs 0 cur w hg (by simpa using hfit) h1
  cases hq : P.info? elem with
  | none => simp [hq] at hs
  | some i =>
    have hi : i.size = size := by simpa [hq] using hs
    simp [Builtin.copy_, run_underlying hu, Builtin.lenOf, Builtin.firstCells, sizeOf, typeInfo, hq, hi, ← hn, hl, hst]
theorem run_copy_noneN (P : Program) (w : World) (dT sT ty elem : TypeId) (size : Nat) (dp sp : Option Addr) (dLen dCap sLen sCap : Nat) (hu : P.underlying dT = some (.slice elem)) (hs : (P.info? elem).map (·.size) = some size) (hn : Nat.min sLen dLen = 0) :
    (Builtin.copy_ #[dT, sT] ty #[.slice dp dLen dCap, .slice sp sLen sCap]).run P w = .ok (goInt 0) w := by
  cases hq : P.info? elem with
  | none => simp [hq] at hs
  | some i =>
    have hi : i.size = size := by simpa [hq] using hs
    cases dp <;> cases sp <;> simp [Builtin.copy_, run_underlying hu, Builtin.lenOf, Builtin.firstCells, sizeOf, typeInfo, hq, hi, hn, loadCells, loadCellsFrom, storeCells]
theorem wpList_copy_ownN {P : Program} {w : World} {ops : Array Oper} {rest : List Oper} {o : Oper} {a : Act} {Q : Exit → Act → World → Prop} (hgd : o.guard = none) (d s : Operand) (dT sT : TypeId)
    (ho : o.op = .call { callee := .builtin .copy, args := #[d, s], argTypes := #[dT, sT] }) (elem : TypeId) (size : Nat) (hu : P.underlying dT = some (.slice elem)) (hsz : (P.info? elem).map (·.size) = some size)
    (g off dLen dCap : Nat) (ad : Addr) (sLen sCap : Nat) (hd : a.eval d = .slice (some ⟨g, off, none⟩) dLen dCap) (hs : a.eval s = .slice (some ad) sLen sCap)
    (cur : Array Value) (t : TypeId) (hg : w.heap[g]? = some (.cells cur t (0, 0))) (cs : List Value) (hn : cs.length = Nat.min sLen dLen * size)
    (hsrc : ∀ j v, cs[j]? = some v → w.cell? (ad.add j) = some v) (hfit : off + cs.length ≤ cur.size) (h1 : ∀ v ∈ cs, v.oneCell' = true)
    (h : wpList P ops Q rest (a.put o.dst (goInt (Nat.min sLen dLen))) (w.setRow g (cur.toList.take off ++ (cs ++ cur.toList.drop (off + cs.length))).toArray)) : wpList P ops Q (o :: rest) a w := by
  refine wpList_plain hgd fun K hK => ?_
  have hrun := run_copy_rowN P w dT sT o.type elem size g off dLen dCap ad sLen sCap cur t cs hu hsz hg hn hsrc hfit h1
  unfold Oper.wp
  simp [execOp, ho, resolve, invoke, builtin, hd, hs, hrun, Result.andThen]
  exact hK _ _ (by simpa using h)
/-- both in one: the place and the cells given by the prover -/
theorem wpList_copy_spliceN {P : Program} {w : World} {ops : Array Oper} {rest : List Oper} {o : Oper} {a : Act} {Q : Exit → Act → World → Prop} (hgd : o.guard = none) (d s : Operand) (dT sT : TypeId)
    (ho : o.op = .call { callee := .builtin .copy, args := #[d, s], argTypes := #[dT, sT] }) (elem : TypeId) (size : Nat) (hsize : 0 < size) (hu : P.underlying dT = some (.slice elem)) (hsz : (P.info? elem).map (·.size) = some size)
    (dp sp : Option Addr) (dLen dCap sLen sCap : Nat) (hd : a.eval d = .slice dp dLen dCap) (hs : a.eval s = .slice sp sLen sCap)
    (g off n : Nat) (cur : List Value) (t : TypeId) (hg : w.heap[g]? = some (.cells cur.toArray t (0, 0))) (cs : List Value) (hmin : Nat.min sLen dLen = n) (hn : cs.length = n * size)
    (hpos : 0 < n → dp = some ⟨g, off, none⟩ ∧ ∃ ad, sp = some ad ∧ ∀ j v, cs[j]? = some v → w.cell? (ad.add j) = some v)
    (hfit : off + cs.length ≤ cur.length) (h1 : ∀ v ∈ cs, v.oneCell' = true) (B : Nat) (w0 : World) (hb : Below B w0 w) (hBg : B ≤ g)
    (h : ∀ w', Hid (w'.heap[g]? = some (.cells (splice cur off cs).toArray t (0, 0))) → Below B w0 w' → wpList P ops Q rest (a.put o.dst (goInt n)) w') :
    wpList P ops Q (o :: rest) a w := by
  by_cases h0 : n = 0
  · subst h0
    obtain rfl : cs = [] := List.eq_nil_of_length_eq_zero (by omega)
    refine wpList_plain hgd fun K hK => ?_
    have hrun := run_copy_noneN P w dT sT o.type elem size dp sp dLen dCap sLen sCap hu hsz hmin
    unfold Oper.wp
    simp [execOp, ho, resolve, invoke, builtin, hd, hs, hrun, Result.andThen]
    exact hK _ _ (h w (show _ = _ by simpa [splice] using hg) hb)
  · obtain ⟨rfl, ad, rfl, hsrc⟩ := hpos (by omega)
    refine wpList_copy_ownN hgd d s dT sT ho elem size hu hsz g off dLen dCap ad sLen sCap hd hs cur.toArray t hg cs (by rw [hmin]; exact hn) hsrc (by simpa using hfit) h1 ?_
    rw [hmin]
    exact h _ (show _ = _ by simpa [splice] using setRow_heap w g _ _ t _ hg) (below_setRow hb hBg _)
end Go.Proofs.Ytglanajglhneeaa

namespace Go.Proofs
open Go Go.RowKit Go.Lib
namespace Ytglanajglhneeaa
def tiC (t : TkI) : List Value := [.int .u8 (t.k : Int), .int .i64 t.w, .int .i64 t.l]
def tiCells (ts : List TkI) : List Value := ts.flatMap tiC
theorem tiCells_len (ts : List TkI) : (tiCells ts).length = ts.length * 3 := by
  induction ts with
  | nil => rfl
  | cons t r ih => rw [show tiCells (t :: r) = tiC t ++ tiCells r by simp [tiCells], List.length_append, ih, List.length_cons]; show 3 + _ = _; omega
theorem tiCells_at (ts : List TkI) (j : Nat) (t : TkI) (h : ts[j]? = some t) : (tiCells ts)[j * 3]? = some (.int .u8 (t.k : Int)) ∧ (tiCells ts)[j * 3 + 1]? = some (.int .i64 t.w) ∧ (tiCells ts)[j * 3 + 2]? = some (.int .i64 t.l) := by
  induction ts generalizing j with
  | nil => cases h
  | cons x r ih =>
    have e : tiCells (x :: r) = .int .u8 (x.k : Int) :: .int .i64 x.w :: .int .i64 x.l :: tiCells r := by simp [tiCells, tiC]
    rw [e]
    cases j with
    | zero => cases h; exact ⟨rfl, rfl, rfl⟩
    | succ j =>
      have := ih j h
      rw [show (j + 1) * 3 = j * 3 + 3 by omega]
      exact this
theorem rd_tiCells {W : World} {z : Option Addr} {n cap : Nat} {ts : List TkI} (h : RdT W (.slice z n cap) ts) : ∀ (j : Nat) (u : Value), (tiCells ts)[j]? = some u → ∃ ad, z = some ad ∧ W.cell? (ad.add j) = some u := fun j u hu => by
  obtain ⟨z2, c2, hv, _, _, _, _, hr⟩ := h
  cases hv
  have hj := (List.getElem?_eq_some_iff.1 hu).1
  rw [tiCells_len] at hj
  obtain ⟨t, ht⟩ : ∃ t, ts[j / 3]? = some t := ⟨_, List.getElem?_eq_getElem (by omega)⟩
  obtain ⟨b, o, hz, _, c0, c1, c2⟩ := hr (j / 3) t ht
  have hc := tiCells_at ts (j / 3) t ht
  refine ⟨_, hz, ?_⟩
  have hadd : (⟨b, o, none⟩ : Addr).add j = ⟨b, o + j, none⟩ := by unfold Addr.add; split <;> simp_all
  rw [hadd]
  have h3 : j = j / 3 * 3 ∨ j = j / 3 * 3 + 1 ∨ j = j / 3 * 3 + 2 := by omega
  rcases h3 with e | e | e
  · rw [e] at hu ⊢; rw [hc.1] at hu; rw [← hu, ← c0]
  · rw [e] at hu ⊢; rw [hc.2.1] at hu; rw [← hu, ← c1, Nat.add_assoc]
  · rw [e] at hu ⊢; rw [hc.2.2] at hu; rw [← hu, ← c2, Nat.add_assoc]
theorem copy_rd {N : Nat} {W : World} {v : Value} {ts : List TkI} (h : CopyOf N W v ts.length (tiCells ts)) (hn : ts.length ≤ 1000000000) (hok : ∀ t ∈ ts, t.Ok) : RdT W v ts := by
  obtain ⟨z, c, rfl, g1, g2, hr⟩ := h
  refine ⟨z, c, rfl, g1, by unfold maxLen at g2; omega, by omega, hok, fun j t hj => ?_⟩
  have hc := tiCells_at ts j t hj
  obtain ⟨b, hz, _, hb, c0⟩ := hr _ _ hc.1
  obtain ⟨b1, hz1, _, _, c1⟩ := hr _ _ hc.2.1
  obtain ⟨b2, hz2, _, _, c2⟩ := hr _ _ hc.2.2
  rw [hz] at hz1 hz2
  cases hz1
  cases hz2
  exact ⟨b, 0, hz, hb, by rw [Nat.zero_add]; exact c0, by rw [Nat.zero_add]; exact c1, by rw [Nat.zero_add]; exact c2⟩
theorem infoTok9 : (Try.prog.info? 24).map (fun i => (i.zero, i.size, i.bytes)) = some (some (.agg #[.int .u8 0, .int .i64 0, .int .i64 0]), 3, 24) := by kernel_rfl
theorem tiCells_one (ts : List TkI) : ∀ v ∈ tiCells ts, v.oneCell' = true := by
  intro v hv
  obtain ⟨t, _, ht⟩ := List.mem_flatMap.1 hv
  simp only [tiC, List.mem_cons, List.not_mem_nil, or_false] at ht
  rcases ht with rfl | rfl | rfl <;> rfl
theorem tiCells_app (a b : List TkI) : tiCells (a ++ b) = tiCells a ++ tiCells b := List.flatMap_append
theorem rd_src {W : World} {z : Option Addr} {n cap : Nat} {ts : List TkI} (h : RdT W (.slice z n cap) ts) (hn : 0 < n) : ∃ ad, z = some ad ∧ ∀ (j : Nat) (v : Value), (tiCells ts)[j]? = some v → W.cell? (ad.add j) = some v := by
  have hl := h.len
  have hlt : 0 < (tiCells ts).length := by rw [tiCells_len]; omega
  obtain ⟨ad, rfl, _⟩ := rd_tiCells h 0 _ (List.getElem?_eq_getElem hlt)
  refine ⟨ad, rfl, fun j v hv => ?_⟩
  obtain ⟨ad', e, hc⟩ := rd_tiCells h j v hv
  cases e
  exact hc
theorem splice_app {α : Type} (P R B : List α) (h : B.length ≤ R.length) : splice (P ++ R) P.length B = (P ++ B) ++ R.drop B.length := by
  unfold splice
  rw [List.take_left, List.drop_append, List.append_assoc]
  congr 2
  rw [List.drop_eq_nil_of_le (by omega), List.nil_append]
  congr 1; omega
theorem splice_three {α : Type} (M A B C : List α) (h : M.length = A.length + B.length + C.length) : splice (splice (splice M 0 A) A.length B) (A.length + B.length) C = A ++ B ++ C := by
  have e1 : splice M 0 A = A ++ M.drop A.length := by
    have := splice_app [] M A (by omega)
    simpa using this
  rw [e1, splice_app _ _ _ (by rw [List.length_drop]; omega), ← List.length_append, splice_app _ _ _ (by rw [List.length_drop, List.length_drop]; omega), List.drop_drop, List.drop_drop, List.drop_eq_nil_of_le (by rw [h]; omega), List.append_nil]
/-- a row that holds just a list's cells is read as the list -/
theorem rdT_cells {W : World} {g : Nat} {ts : List TkI} {ty : TypeId} (h : W.heap[g]? = some (.cells (tiCells ts).toArray ty (0, 0))) (hn : ts.length ≤ 1000000000) (hok : ∀ t ∈ ts, t.Ok) : RdT W (.slice (some ⟨g, 0, none⟩) ts.length ts.length) ts := by
  refine ⟨_, _, rfl, Nat.le_refl _, by omega, by omega, hok, fun j t hj => ?_⟩
  have hc := tiCells_at ts j t hj
  refine ⟨g, 0, rfl, (Array.getElem?_eq_some_iff.1 h).1, ?_, ?_, ?_⟩
  · rw [Nat.zero_add, Lib.cell_of_heap h, ← Array.getElem?_toList]; exact hc.1
  · rw [Nat.zero_add, Lib.cell_of_heap h, ← Array.getElem?_toList]; exact hc.2.1
  · rw [Nat.zero_add, Lib.cell_of_heap h, ← Array.getElem?_toList]; exact hc.2.2
end Ytglanajglhneeaa
end Go.Proofs
