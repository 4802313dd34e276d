/- A copy of a slice, appended to an empty one. Conditions: such a length as memory bears. -/
import Derived.Test.YthglpfmbmmlbjaaDoorLxRd
import Derived.Laws.Append
import Derived.Deep.Upon
namespace Go.Proofs.YthglpfmbmmlbjaaDoor
open Go Go.RowKit Go.Lib

/-- the cells lie in memory of their own, or there are none -/
def CopyOf (N : Nat) (w : World) (v : Value) (n : Nat) (news : List Value) : Prop := ∃ z c, v = .slice z n c ∧ n ≤ c ∧ c ≤ maxLen ∧ ∀ (j : Nat) (u : Value), news[j]? = some u → ∃ b, z = some ⟨b, 0, none⟩ ∧ N ≤ b ∧ b < w.heap.size ∧ w.cell? ⟨b, j, none⟩ = some u
theorem CopyOf.below {N : Nat} {w w' : World} {v : Value} {n : Nat} {news : List Value} (h : CopyOf N w v n news) (hB : Below w.heap.size w w') : CopyOf N w' v n news := by
  obtain ⟨z, c, rfl, g1, g2, h⟩ := h
  refine ⟨z, c, rfl, g1, g2, fun j u hu => ?_⟩
  obtain ⟨b, hz, h1, h2, h3⟩ := h j u hu
  exact ⟨b, hz, h1, Nat.lt_of_lt_of_le h2 hB.size, (hB.cell (p := ⟨b, _, none⟩) h2).trans h3⟩
theorem run_append_copy {P : Program} (w : World) (t ty e : TypeId) (i : TypeInfo) (z : Value) (size bytes : Nat) (ht : P.underlying t = some (.slice e)) (hi : P.info? e = some i) (hz : i.zero = some z) (hsize : i.size = size) (hby : i.bytes = bytes)
    (b : Addr) (p : Option Addr) (n c : Nat) (news : List Value) (hl : news.length = n * size) (hs : 0 < size) (hnews : ∀ (j : Nat) (u : Value), news[j]? = some u → ∃ ad, p = some ad ∧ w.cell? (ad.add j) = some u) (h63 : (n : Int) ≤ 9223372036854775807) (h48 : n * bytes ≤ 281474976710656) :
    ∃ v w', (Builtin.append_ #[t, t] ty #[.slice (some b) 0 0, .slice p n c]).run P w = .ok v w' ∧ CopyOf w.heap.size w' v n news ∧ Below w.heap.size w w' := by
  subst hsize
  subst hby
  rcases Nat.eq_zero_or_pos n with h0 | hn
  · subst h0
    have hne : news = [] := List.length_eq_zero_iff.1 (by omega)
    subst hne
    refine ⟨.slice (some b) 0 0, w, ?_, ⟨_, _, rfl, Nat.le_refl _, Nat.zero_le _, fun j u hu => by simp at hu⟩, Below.refl _ _⟩
    cases p with
    | none => simp [Builtin.append_, run_underlying ht, sizeOf, typeInfo, hi, Builtin.lenOf, run_firstCells_none, storeCells]
    | some ad =>
      have hf := run_firstCells_some (P := P) w i.size 0 ad 0 c [] (by simp) (fun j v h => by simp at h)
      simp [Builtin.append_, run_underlying ht, sizeOf, typeInfo, hi, Builtin.lenOf, hf, storeCells]
  · have hlt : 0 < news.length := by rw [hl]; exact Nat.mul_pos hn hs
    obtain ⟨ad, rfl, _⟩ := hnews 0 _ (List.getElem?_eq_getElem hlt)
    have hnews' : ∀ j v, news[j]? = some v → w.cell? (ad.add j) = some v := fun j u hu => by
      obtain ⟨ad', e1, h⟩ := hnews j u hu
      cases e1; exact h
    have hr := run_append_grow (P := P) w t ty e i z ht hi hz b 0 0 [] (by simp) (fun j v h => by simp at h) ad n c news hl hnews' (by omega) (by rw [Nat.zero_add]; exact h63) (by rw [Nat.zero_add, nextslicecap_zero hn]; exact h48)
    rw [Nat.zero_add] at hr
    refine ⟨_, _, hr, ⟨_, _, rfl, grownCap_ge w n 0 e, grownCap_le_maxLen w n 0 e (by unfold maxLen; omega), fun j u hu => ⟨_, rfl, Nat.le_refl _, by simp, ?_⟩⟩, (Below.refl w.heap.size w).drew.alloc (Nat.le_refl _) _⟩
    have hb : (w.drew.alloc (.cells (([] : List Value).toArray ++ news.toArray ++ Builtin.zeroCells z.cells (grownCap w n 0 e - n)) e)).heap[w.heap.size]? = some (.cells (([] : List Value).toArray ++ news.toArray ++ Builtin.zeroCells z.cells (grownCap w n 0 e - n)) e (0, 0)) := heap_alloc_new w.drew _
    rw [cell_of_row _ _ j _ _ _ hb]
    have hj := (List.getElem?_eq_some_iff.1 hu).1
    simp only [Array.getElem?_append]
    simp [hj]
    simpa [List.getElem?_eq_getElem hj] using hu
theorem wpList_append_copy {P : Program} {w : World} {ops : Array Oper} {rest : List Oper} {o : Oper} {a : Act} {Q : Exit → Act → World → Prop} (hgd : o.guard = none) (s x : Operand) (t : TypeId)
    (ho : o.op = .call { callee := .builtin .append, args := #[s, x], argTypes := #[t, t] }) (e : TypeId) (i : TypeInfo) (z : Value) (size bytes : Nat) (ht : P.underlying t = some (.slice e)) (hi : P.info? e = some i) (hz : i.zero = some z) (hsize : i.size = size) (hby : i.bytes = bytes)
    (b : Addr) (hs : a.eval s = .slice (some b) 0 0) (p : Option Addr) (n c : Nat) (hx : a.eval x = .slice p n c) (news : List Value) (hl : news.length = n * size) (h0 : 0 < size) (hnews : ∀ (j : Nat) (u : Value), news[j]? = some u → ∃ ad, p = some ad ∧ w.cell? (ad.add j) = some u) (h63 : (n : Int) ≤ 9223372036854775807) (h48 : n * bytes ≤ 281474976710656)
    (h : ∀ v w', CopyOf w.heap.size w' v n news → Below w.heap.size w w' → wpList P ops Q rest (a.put o.dst v) w') : wpList P ops Q (o :: rest) a w :=
  wpList_plain hgd fun _ hK => by
    obtain ⟨v, w', hr, h1, h2⟩ := run_append_copy (P := P) w t o.type e i z size bytes ht hi hz hsize hby b p n c news hl h0 hnews h63 h48
    unfold Oper.wp execOp
    simp only [ho, resolve, invoke, builtin, Sem.run_bind, Sem.run_pure, Result.andThen_ok, List.map_toArray, List.map_cons, List.map_nil, hs, hx, hr]
    exact hK _ _ (h v w' h1 h2)
end Go.Proofs.YthglpfmbmmlbjaaDoor
