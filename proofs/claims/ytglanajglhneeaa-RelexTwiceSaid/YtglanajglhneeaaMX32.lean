/- One's own row of tokens, read. Conditions: none. -/
import Derived.Test.YtglanajglhneeaaMX30
import Derived.Test.YtglanajglhneeaaMX31
namespace Go.Proofs
open Go Go.RowKit Go.Lib
namespace Ytglanajglhneeaa
/-- a token of the program's, with its numbers alone -/
def D.Tk.i (t : D.Tk) : TkI := ⟨t.k, t.w, t.l⟩
theorem tksCells_at (ts : List D.Tk) (j : Nat) (t : D.Tk) (h : ts[j]? = some t) : (tksCells ts)[j * 3]? = some (.int .u8 (t.k : Int)) ∧ (tksCells ts)[j * 3 + 1]? = some (.int .i64 (t.w : Int)) ∧ (tksCells ts)[j * 3 + 2]? = some (.int .i64 (t.l : Int)) := by
  induction ts generalizing j with
  | nil => cases h
  | cons x r ih =>
    have e : tksCells (x :: r) = .int .u8 (x.k : Int) :: .int .i64 (x.w : Int) :: .int .i64 (x.l : Int) :: tksCells r := by simp [tksCells, tokCells]
    rw [e]
    cases j with
    | zero => cases h; exact ⟨rfl, rfl, rfl⟩
    | succ j =>
      have := ih j h
      rw [show (j + 1) * 3 = j * 3 + 3 by omega]
      exact this
/-- one's own row of tokens is read as such -/
theorem rdT_own {W : World} {n0 : Nat} {v : Value} {ts : List D.Tk} (h : W.ownsRow n0 24 3 v ts.length (tksCells ts)) (hn : ts.length ≤ 1000000000000) (hk : ∀ t ∈ ts, t.k < 256 ∧ t.w ≤ 1000000000000000 ∧ t.l ≤ 3) : RdT W v (ts.map D.Tk.i) := by
  have hok : ∀ t ∈ ts.map D.Tk.i, t.Ok := fun t ht => by
    obtain ⟨x, hx, rfl⟩ := List.mem_map.1 ht
    have := hk x hx
    unfold TkI.Ok I6 D.Tk.i
    simp only
    omega
  have h0 := h
  rcases h.2 with ⟨rfl, h1⟩ | ⟨g, cap, cur, rfl, g1, g2, g3, g4, g5, g6⟩
  · have : ts = [] := List.eq_nil_of_length_eq_zero h1
    subst this
    exact ⟨none, 0, rfl, Nat.le_refl _, by decide, by decide, fun t ht => by simp at ht, fun j t hj => by simp at hj⟩
  · refine ⟨some ⟨g, 0, none⟩, cap, by rw [List.length_map], by rw [List.length_map]; exact g3, by unfold maxLen at g4; omega, by rw [List.length_map]; omega, hok, fun j t hj => ?_⟩
    rw [List.getElem?_map] at hj
    obtain ⟨x, hx, rfl⟩ := Option.map_eq_some_iff.1 hj
    have hc := tksCells_at ts j x hx
    have hj2 : j < ts.length := (List.getElem?_eq_some_iff.1 hx).1
    have hcell : ∀ i u, (tksCells ts)[i]? = some u → W.cell? ⟨g, i, none⟩ = some u := fun i u hu => by
      rw [Lib.cell_of_heap g2, ← Array.getElem?_toList]
      have hi : i < ts.length * 3 := by
        have := (List.getElem?_eq_some_iff.1 hu).1
        rwa [tksCells_len] at this
      rw [← g6, List.getElem?_take_of_lt hi] at hu
      exact hu
    refine ⟨g, 0, rfl, (Array.getElem?_eq_some_iff.1 g2).1, ?_, ?_, ?_⟩
    · rw [Nat.zero_add]; exact hcell _ _ hc.1
    · rw [Nat.zero_add]; exact hcell _ _ hc.2.1
    · rw [Nat.zero_add]; exact hcell _ _ hc.2.2
namespace D
theorem tkF_mem (s : ByteArray) : ∀ f p, ∀ t ∈ tkF s f p, t.k < 256 ∧ t.w ≤ s.size ∧ t.l ≤ 3 ∧ 0 < t.w
  | 0, p, t, h => by simp [tkF] at h
  | f + 1, p, t, h => by
    by_cases hp : p < s.size
    · rw [tkF_step s f p hp] at h
      rcases List.mem_cons.1 h with rfl | h
      · have := tok_at hp; omega
      · exact tkF_mem s f _ t h
    · rw [tkF_end s _ p hp] at h; cases h
end D
end Ytglanajglhneeaa
end Go.Proofs
