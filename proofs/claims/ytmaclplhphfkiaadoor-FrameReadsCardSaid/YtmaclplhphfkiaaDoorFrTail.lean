/- A slice of one-cell elements that begins anywhere in its own block: what an append leaves. Conditions: such lengths as memory bears. -/
import Derived.Test.YtmaclplhphfkiaaDoorProg
import Derived.Laws.AppendOwn
import Derived.Maps.AppendAt
import Derived.RegionTactic
import Derived.Deep.AppendLies
import Derived.WalkKit
import Derived.Below
import Derived.OwnWalk
namespace Go.Proofs.YtmaclplhphfkiaaDoor
open Go Go.RowKit

/-- a slice of one-cell elements, from a place of its own block on -/
def Tail (w : World) (e : TypeId) (v : Value) (xs : List Value) : Prop :=
  (v = .slice none 0 0 ∧ xs = []) ∨ ∃ g off cap cur, v = .slice (some ⟨g, off, none⟩) xs.length cap ∧ w.heap[g]? = some (.cells cur e (0, 0)) ∧ xs.length ≤ cap ∧ cap ≤ maxLen ∧ off + cap ≤ cur.size ∧ ∀ j u, xs[j]? = some u → cur[off + j]? = some u
section
variable {w w' : World} {e : TypeId} {v : Value} {xs : List Value}
theorem Tail.nil (w : World) (e : TypeId) : Tail w e (.slice none 0 0) [] := .inl ⟨rfl, rfl⟩
theorem Tail.same (h : Tail w e v xs) (hk : ∀ b, v.ownBlock = some b → w'.heap[b]? = w.heap[b]?) : Tail w' e v xs := by
  rcases h with h | ⟨g, off, cap, cur, rfl, hg, rest⟩
  · exact .inl h
  · exact .inr ⟨g, off, cap, cur, rfl, (hk g rfl).trans hg, rest⟩
theorem Tail.lt (h : Tail w e v xs) : ∀ b, v.ownBlock = some b → b < w.heap.size := by
  rcases h with ⟨rfl, _⟩ | ⟨g, off, cap, cur, rfl, hg, rest⟩
  · intro b hb; cases hb
  · intro b hb
    obtain rfl : g = b := by simpa [Value.ownBlock] using hb
    exact (Array.getElem?_eq_some_iff.1 hg).1
theorem Tail.grown {row : Option Nat} (h : Tail w e v xs) (hg : w.grownBy w' row) (hne : ∀ b, v.ownBlock = some b → some b ≠ row) : Tail w' e v xs :=
  h.same fun b hb => hg.block b (h.lt b hb) (hne b hb)
theorem Tail.below (h : Tail w e v xs) (hB : Below w.heap.size w w') : Tail w' e v xs := h.same fun b hb => hB.block b (h.lt b hb)
/-- how such a slice is written -/
theorem Tail.form (h : Tail w e v xs) : ∃ z cap, v = .slice z xs.length cap ∧ xs.length ≤ cap ∧ cap ≤ maxLen ∧ (∀ j u, xs[j]? = some u → ∃ g off, z = some ⟨g, off, none⟩ ∧ w.cell? ⟨g, off + j, none⟩ = some u) := by
  rcases h with ⟨rfl, rfl⟩ | ⟨g, off, cap, cur, rfl, hg, h1, h2, h3, h4⟩
  · exact ⟨none, 0, rfl, Nat.le_refl _, Nat.zero_le _, fun j u h => by simp at h⟩
  · refine ⟨_, cap, rfl, h1, h2, fun j u hj => ⟨g, off, rfl, ?_⟩⟩
    rw [cell_of_row w g (off + j) cur e (0, 0) hg]
    exact h4 j u hj
end

section
variable {P : Program} (w : World)
theorem run_first (m c : Nat) (y : Option Addr) (news : List Value) (hl : news.length = m) (hnews : ∀ j u, news[j]? = some u → ∃ a, y = some a ∧ w.cell? (a.add j) = some u) :
    (Builtin.firstCells 1 m (.slice y m c)).run P w = .ok news.toArray w := by
  cases y with
  | none =>
    have : news = [] := by
      cases news with
      | nil => rfl
      | cons u r => obtain ⟨a, ha, _⟩ := hnews 0 u rfl; cases ha
    subst this
    exact run_firstCells_none w 1 m m c
  | some a => exact run_firstCells_some (P := P) w 1 m a m c news (by omega) (fun j u hj => by obtain ⟨a', ha, h⟩ := hnews j u hj; cases ha; exact h)
theorem run_append_tail (t ty e : TypeId) (i : TypeInfo) (z : Value) (bytes : Nat) (ht : P.underlying t = some (.slice e)) (hi : P.info? e = some i) (hz : i.zero = some z) (hsize : i.size = 1) (hby : i.bytes = bytes)
    (hzs : z.cells.size = 1) (v : Value) (xs : List Value) (hT : Tail w e v xs) (y : Option Addr) (m c : Nat) (news : List Value) (hl : news.length = m) (hnews : ∀ j u, news[j]? = some u → ∃ a, y = some a ∧ w.cell? (a.add j) = some u)
    (h1 : ∀ u ∈ news, u.oneCell' = true) (h63 : xs.length + m ≤ maxLen) (hbytes : (xs.length + m) * bytes ≤ 140737488355328) :
    ∃ z' cap' w', (Builtin.append_ #[t, t] ty #[v, .slice y m c]).run P w = .ok (.slice z' (xs.length + m) cap') w' ∧ Tail w' e (.slice z' (xs.length + m) cap') (xs ++ news) ∧ w.grownBy w' v.ownBlock ∧
      ((Value.slice z' (xs.length + m) cap').ownBlock = v.ownBlock ∨ (Value.slice z' (xs.length + m) cap').ownBlock = some w.heap.size) := by
  subst hby
  have hsmall : xs.length + m ≤ 9223372036854775807 := by simp only [maxLen] at h63; omega
  have hlen : (xs ++ news).length = xs.length + m := by rw [List.length_append, hl]
  have hdr : ∀ j u, news[j]? = some u → ∃ a, y = some a ∧ w.drew.cell? (a.add j) = some u := hnews
  have grown : ∀ (old : Nat), old < xs.length + m → ∀ (row : Option Nat),
      Tail (w.drew.alloc (.cells (xs.toArray ++ news.toArray ++ Builtin.zeroCells z.cells (grownCap w (xs.length + m) old e - (xs.length + m))) e)) e
        (.slice (some ⟨w.heap.size, 0, none⟩) (xs.length + m) (grownCap w (xs.length + m) old e)) (xs ++ news) ∧
      w.grownBy (w.drew.alloc (.cells (xs.toArray ++ news.toArray ++ Builtin.zeroCells z.cells (grownCap w (xs.length + m) old e - (xs.length + m))) e)) row := by
    intro old ho row
    have hge := grownCap_ge w (xs.length + m) old e
    have hcm : grownCap w (xs.length + m) old e ≤ maxLen := grownCap_le_maxLen w (xs.length + m) old e h63
    refine ⟨.inr ⟨w.heap.size, 0, _, _, by rw [hlen], heap_alloc_new w.drew _, by rw [hlen]; exact hge, hcm, ?_, ?_⟩, ⟨rfl, rfl, rfl, by simp, fun k hk _ => Below.heap_alloc w.drew _ k hk⟩⟩
    · simp only [Array.size_append, List.size_toArray, size_zeroCells, hzs, hl]
      omega
    · intro j u hj
      have hjl : j < (xs ++ news).length := (List.getElem?_eq_some_iff.1 hj).1
      rw [Nat.zero_add, Array.getElem?_append_left (by simp only [Array.size_append, List.size_toArray]; rw [List.length_append] at hjl; exact hjl)]
      rw [List.append_toArray]
      simpa using hj
  rcases hT with ⟨rfl, rfl⟩ | ⟨g, off, cap, cur, rfl, hg, hnc, hcm, hcs, hcur⟩
  · simp only [List.length_nil, Nat.zero_add] at *
    by_cases hm : m = 0
    · subst hm
      obtain rfl : news = [] := List.eq_nil_of_length_eq_zero hl
      refine ⟨none, 0, w, ?_, .inl ⟨rfl, rfl⟩, ⟨rfl, rfl, rfl, Nat.le_refl _, fun _ _ _ => rfl⟩, .inl rfl⟩
      have hf := run_first (P := P) w 0 c y [] rfl hnews
      simp [Builtin.append_, run_underlying ht, sizeOf, typeInfo, hi, Builtin.lenOf, hsize, hf]
    · have hn : m ≠ 0 := hm
      have h63' : ¬ (9223372036854775807 < (m : Int)) := by omega
      have h48' : ¬ (281474976710656 < Builtin.nextslicecap m 0 * i.bytes) := by rw [nextslicecap_zero (by omega)]; omega
      have hf := run_first (P := P) w.drew m c y news hl hdr
      have hgr := grown 0 (by omega) (Value.ownBlock (.slice none 0 0))
      refine ⟨_, _, _, ?_, hgr.1, hgr.2, .inr rfl⟩
      simp [Builtin.append_, run_underlying ht, sizeOf, typeInfo, zeroValue, hi, hz, Builtin.lenOf, hn, h63', h48', Question.forced, run_firstCells_none, hsize, hf, newRow, grownCap]
  · have hf0 := run_first (P := P) w m c y news hl hnews
    by_cases hroom : xs.length + m ≤ cap
    · have hst := run_storeCells_at P g (off + xs.length) e news 0 cur w hg (by omega) h1
      simp only [Nat.add_zero] at hst
      refine ⟨some ⟨g, off, none⟩, cap, _, ?_, .inr ⟨g, off, cap, _, by rw [hlen], setRow_heap w g cur (cur.toList.take (off + xs.length) ++ news ++ cur.toList.drop (off + xs.length + news.length)).toArray e _ hg, by rw [hlen]; exact hroom, hcm, ?_, ?_⟩, ⟨rfl, rfl, rfl, by simp, fun k _ hk => setRow_other w g k _ (fun e => hk (by simp [Value.ownBlock, e]))⟩, .inl rfl⟩
      · have hadd : (⟨g, off, none⟩ : Addr).add xs.length = ⟨g, off + xs.length, none⟩ := by unfold Addr.add; split <;> simp_all
        simp [Builtin.append_, run_underlying ht, sizeOf, typeInfo, hi, Builtin.lenOf, hroom, hsize, hf0, hadd, hst]
      · simp only [List.size_toArray, List.length_append, List.length_take, List.length_drop, Array.length_toList]
        omega
      · intro j u hj
        have hjl := (List.getElem?_eq_some_iff.1 hj).1
        rw [hlen] at hjl
        simp only [List.getElem?_toArray]
        have hcl : cur.toList.length = cur.size := Array.length_toList
        by_cases hjx : j < xs.length
        · rw [List.getElem?_append_left (by simp only [List.length_append, List.length_take]; omega), List.getElem?_append_left (by simp only [List.length_take]; omega), List.getElem?_take_of_lt (by omega), Array.getElem?_toList]
          rw [List.getElem?_append_left hjx] at hj
          exact hcur j u hj
        · rw [List.getElem?_append_left (by simp only [List.length_append, List.length_take]; omega), List.getElem?_append_right (by simp only [List.length_take]; omega)]
          rw [List.getElem?_append_right (by omega)] at hj
          simp only [List.length_take]
          rw [show off + j - min (off + xs.length) cur.toList.length = j - xs.length by omega]
          exact hj
    · have holds : ∀ j u, xs[j]? = some u → w.drew.cell? ((⟨g, off, none⟩ : Addr).add j) = some u := fun j u hj => by
        have hadd : (⟨g, off, none⟩ : Addr).add j = ⟨g, off + j, none⟩ := by unfold Addr.add; split <;> simp_all
        rw [hadd, cell_of_row w.drew g (off + j) cur e (0, 0) hg]
        exact hcur j u hj
      have hn : ¬ (xs.length + m ≤ cap) := hroom
      have h63' : ¬ (9223372036854775807 < ((xs.length : Int) + (m : Int))) := by omega
      have hfit := growslice_fits (need := xs.length + m) (old := cap) (bytes := i.bytes) (by omega) hbytes
      have h48' : ¬ (281474976710656 < Builtin.nextslicecap (xs.length + m) cap * i.bytes) := by omega
      have hf := run_first (P := P) w.drew m c y news hl hdr
      have hfo := run_firstCells_some (P := P) w.drew 1 xs.length ⟨g, off, none⟩ xs.length cap xs (by omega) holds
      have hgr := grown cap (by omega) (Value.ownBlock (.slice (some ⟨g, off, none⟩) xs.length cap))
      refine ⟨_, _, _, ?_, hgr.1, hgr.2, .inr rfl⟩
      simp [Builtin.append_, run_underlying ht, sizeOf, typeInfo, zeroValue, hi, hz, Builtin.lenOf, hn, h63', h48', Question.forced, hsize, hf, hfo, newRow, grownCap]
      congr 2
      apply Array.ext'
      simp
/-- At the operation. -/
theorem wp_append_tail {o : Oper} {a : Act} {K : Act → World → Prop} {Q : Exit → Act → World → Prop} (s x : Operand) (t : TypeId)
    (ho : o.op = .call { callee := .builtin .append, args := #[s, x], argTypes := #[t, t] })
    (e : TypeId) (i : TypeInfo) (z : Value) (bytes : Nat) (ht : P.underlying t = some (.slice e)) (hi : P.info? e = some i) (hz : i.zero = some z) (hsize : i.size = 1) (hby : i.bytes = bytes) (hzs : z.cells.size = 1)
    (v : Value) (xs : List Value) (hs : a.eval s = v) (hT : Tail w e v xs) (y : Option Addr) (m c : Nat) (news : List Value) (hx : a.eval x = .slice y m c) (hl : news.length = m) (hnews : ∀ j u, news[j]? = some u → ∃ a, y = some a ∧ w.cell? (a.add j) = some u)
    (h1 : ∀ u ∈ news, u.oneCell' = true) (h63 : xs.length + m ≤ maxLen) (hbytes : (xs.length + m) * bytes ≤ 140737488355328)
    (h : ∀ z' cap' w', Tail w' e (.slice z' (xs.length + m) cap') (xs ++ news) → w.grownBy w' v.ownBlock → ((Value.slice z' (xs.length + m) cap').ownBlock = v.ownBlock ∨ (Value.slice z' (xs.length + m) cap').ownBlock = some w.heap.size) → K (a.put o.dst (.slice z' (xs.length + m) cap')) w') : o.wp P a w K Q := by
  obtain ⟨z', cap', w', hr, h2, h3, h4⟩ := run_append_tail (P := P) w t o.type e i z bytes ht hi hz hsize hby hzs v xs hT y m c news hl hnews h1 h63 hbytes
  unfold Oper.wp execOp
  simp only [ho, resolve, invoke, builtin, Sem.run_bind, Sem.run_pure, Result.andThen_ok, List.map_toArray, List.map_cons, List.map_nil, hs, hx, hr]
  exact h z' cap' w' h2 h3 h4
theorem wpList_append_tail {ops : Array Oper} {rest : List Oper} {o : Oper} {a : Act} {Q : Exit → Act → World → Prop} (hgd : o.guard = none) (s x : Operand) (t : TypeId)
    (ho : o.op = .call { callee := .builtin .append, args := #[s, x], argTypes := #[t, t] })
    (e : TypeId) (i : TypeInfo) (z : Value) (bytes : Nat) (ht : P.underlying t = some (.slice e)) (hi : P.info? e = some i) (hz : i.zero = some z) (hsize : i.size = 1) (hby : i.bytes = bytes) (hzs : z.cells.size = 1)
    (v : Value) (xs : List Value) (hs : a.eval s = v) (hT : Tail w e v xs) (y : Option Addr) (m c : Nat) (news : List Value) (hx : a.eval x = .slice y m c) (hl : news.length = m) (hnews : ∀ j u, news[j]? = some u → ∃ a, y = some a ∧ w.cell? (a.add j) = some u)
    (h1 : ∀ u ∈ news, u.oneCell' = true) (h63 : xs.length + m ≤ maxLen) (hbytes : (xs.length + m) * bytes ≤ 140737488355328)
    (h : ∀ z' cap' w', Tail w' e (.slice z' (xs.length + m) cap') (xs ++ news) → w.grownBy w' v.ownBlock → ((Value.slice z' (xs.length + m) cap').ownBlock = v.ownBlock ∨ (Value.slice z' (xs.length + m) cap').ownBlock = some w.heap.size) → wpList P ops Q rest (a.put o.dst (.slice z' (xs.length + m) cap')) w') : wpList P ops Q (o :: rest) a w :=
  wpList_plain hgd fun _ hK => wp_append_tail w s x t ho e i z bytes ht hi hz hsize hby hzs v xs hs hT y m c news hx hl hnews h1 h63 hbytes fun z' cap' w' h2 h3 h4 => hK _ _ (h z' cap' w' h2 h3 h4)
theorem step_append_tail {ops : Array Oper} {o : Oper} {a : Act} {K : Act → World → Prop} {Q : Exit → Act → World → Prop} {E : Prop} (hgd : o.guard = none) (s x : Operand) (t : TypeId)
    (ho : o.op = .call { callee := .builtin .append, args := #[s, x], argTypes := #[t, t] })
    (e : TypeId) (i : TypeInfo) (z : Value) (bytes : Nat) (ht : P.underlying t = some (.slice e)) (hi : P.info? e = some i) (hz : i.zero = some z) (hsize : i.size = 1) (hby : i.bytes = bytes) (hzs : z.cells.size = 1)
    (v : Value) (xs : List Value) (hs : a.eval s = v) (hT : Tail w e v xs) (y : Option Addr) (m c : Nat) (news : List Value) (hx : a.eval x = .slice y m c) (hl : news.length = m) (hnews : ∀ j u, news[j]? = some u → ∃ a, y = some a ∧ w.cell? (a.add j) = some u)
    (h1 : ∀ u ∈ news, u.oneCell' = true) (h63 : xs.length + m ≤ maxLen) (hbytes : (xs.length + m) * bytes ≤ 140737488355328)
    (h : ∀ z' cap' w', Tail w' e (.slice z' (xs.length + m) cap') (xs ++ news) → w.grownBy w' v.ownBlock → ((Value.slice z' (xs.length + m) cap').ownBlock = v.ownBlock ∨ (Value.slice z' (xs.length + m) cap').ownBlock = some w.heap.size) → K (a.put o.dst (.slice z' (xs.length + m) cap')) w') :
    if Region.wanted o (yielded ops a.tmps) = true then Oper.wp P o a w K Q else E := by
  have hw : Region.wanted o (yielded ops a.tmps) = true := by simp [Region.wanted, hgd]
  rw [if_pos hw]
  exact wp_append_tail w s x t ho e i z bytes ht hi hz hsize hby hzs v xs hs hT y m c news hx hl hnews h1 h63 hbytes h
end
end Go.Proofs.YtmaclplhphfkiaaDoor
