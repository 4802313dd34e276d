/- One of the chapter's rows: awake, of layer 12. Conditions: the table of kinds as the program's text lays it. -/
import Derived.Test.YthglpfmbmmlbjaaDoorLxAll
import Derived.Test.YthglpfmbmmlbjaaDoorLxFns
namespace Go.Proofs
open Go Go.RowKit Go.Lib
namespace YthglpfmbmmlbjaaDoor
/-- a token of the program's, with its numbers alone -/
def D.Tk.i (t : D.Tk) : TkI := ⟨t.k, t.w, t.l⟩
theorem tksCells_at (ts : List D.Tk) (j : Nat) (t : D.Tk) (h : ts[j]? = some t) : (tksCells ts)[j * 3]? = some (.int .u8 (t.k : Int)) ∧ (tksCells ts)[j * 3 + 1]? = some (.int .i64 (t.w : Int)) ∧ (tksCells ts)[j * 3 + 2]? = some (.int .i64 (t.l : Int)) := by
  induction ts generalizing j with
  | nil => cases h
  | cons x r ih =>
    have e : tksCells (x :: r) = .int .u8 (x.k : Int) :: .int .i64 (x.w : Int) :: .int .i64 (x.l : Int) :: tksCells r := by simp [tksCells, tokCells]
    rw [e]
    cases j with
    | zero => cases h; exact ⟨rfl, rfl, rfl⟩
    | succ j =>
      have := ih j h
      rw [show (j + 1) * 3 = j * 3 + 3 by omega]
      exact this
/-- one's own row of tokens is read as such -/
theorem rdT_own {W : World} {n0 : Nat} {v : Value} {ts : List D.Tk} (h : W.ownsRow n0 34 3 v ts.length (tksCells ts)) (hn : ts.length ≤ 1000000000000) (hk : ∀ t ∈ ts, t.k < 256 ∧ t.w ≤ 1000000000000000 ∧ t.l ≤ 3) : RdT W v (ts.map D.Tk.i) := by
  have hok : ∀ t ∈ ts.map D.Tk.i, t.Ok := fun t ht => by
    obtain ⟨x, hx, rfl⟩ := List.mem_map.1 ht
    have := hk x hx
    unfold TkI.Ok I6 D.Tk.i
    simp only
    omega
  have h0 := h
  rcases h.2 with ⟨rfl, h1⟩ | ⟨g, cap, cur, rfl, g1, g2, g3, g4, g5, g6⟩
  · have : ts = [] := List.eq_nil_of_length_eq_zero h1
    subst this
    exact ⟨none, 0, rfl, Nat.le_refl _, by decide, by decide, fun t ht => by simp at ht, fun j t hj => by simp at hj⟩
  · refine ⟨some ⟨g, 0, none⟩, cap, by rw [List.length_map], by rw [List.length_map]; exact g3, by unfold maxLen at g4; omega, by rw [List.length_map]; omega, hok, fun j t hj => ?_⟩
    rw [List.getElem?_map] at hj
    obtain ⟨x, hx, rfl⟩ := Option.map_eq_some_iff.1 hj
    have hc := tksCells_at ts j x hx
    have hj2 : j < ts.length := (List.getElem?_eq_some_iff.1 hx).1
    have hcell : ∀ i u, (tksCells ts)[i]? = some u → W.cell? ⟨g, i, none⟩ = some u := fun i u hu => by
      rw [Lib.cell_of_heap g2, ← Array.getElem?_toList]
      have hi : i < ts.length * 3 := by
        have := (List.getElem?_eq_some_iff.1 hu).1
        rwa [tksCells_len] at this
      rw [← g6, List.getElem?_take_of_lt hi] at hu
      exact hu
    refine ⟨g, 0, rfl, (Array.getElem?_eq_some_iff.1 g2).1, ?_, ?_, ?_⟩
    · rw [Nat.zero_add]; exact hcell _ _ hc.1
    · rw [Nat.zero_add]; exact hcell _ _ hc.2.1
    · rw [Nat.zero_add]; exact hcell _ _ hc.2.2
namespace D
theorem tkF_mem (s : ByteArray) : ∀ f p, ∀ t ∈ tkF s f p, t.k < 256 ∧ t.w ≤ s.size ∧ t.l ≤ 3 ∧ 0 < t.w
  | 0, p, t, h => by simp [tkF] at h
  | f + 1, p, t, h => by
    by_cases hp : p < s.size
    · rw [tkF_step s f p hp] at h
      rcases List.mem_cons.1 h with rfl | h
      · have := tok_at hp; omega
      · exact tkF_mem s f _ t h
    · rw [tkF_end s _ p hp] at h; cases h
def w12 : ByteArray := ⟨#[108, 101, 116, 32, 120, 49, 61, 45, 50, 59]⟩
def t12 : List Tk := [⟨10, 3, 1⟩, ⟨1, 1, 1⟩, ⟨6, 2, 1⟩, ⟨26, 1, 1⟩, ⟨34, 1, 0⟩, ⟨7, 1, 1⟩, ⟨25, 1, 0⟩]
def enc3 (t : Tk) : Nat × Nat × Nat := (t.k, t.w, t.l)
def dec3 (x : Nat × Nat × Nat) : Tk := ⟨x.1, x.2.1, x.2.2⟩
theorem dec_enc (l : List Tk) : (l.map enc3).map dec3 = l := by
  rw [List.map_map]
  exact List.map_id l
theorem toks_w12e : (toks w12).map enc3 = [(10, 3, 1), (1, 1, 1), (6, 2, 1), (26, 1, 1), (34, 1, 0), (7, 1, 1), (25, 1, 0)] := by decide +kernel
theorem toks_w12 : toks w12 = t12 := by rw [← dec_enc (toks w12), toks_w12e]; rfl
theorem at_w12 : atI (t12.map Tk.i) 9 = 6 := by decide +kernel
theorem nx_w12 : nx (t12.map Tk.i) 1 = 2 := by decide +kernel
end D
set_option maxHeartbeats 2000000 in
set_option maxRecDepth 100000 in
theorem awake12_any (w : World) (hT : Trv w) : Calls Tryd.prog 16 #[] w (fun e w' => e = .returned (.bool true) ∧ Below w.heap.size w w') := by
  have HA := Lib.hid (all_any D.w12 w (by decide))
  rw [D.toks_w12] at HA
  have HT := Lib.hid hT
  clear hT
  go_enter Tryd.func16, Tryd.ntmps16
  go_wp2_with fail
  refine HA.out.mono ?_
  rintro e w1 ⟨v, rfl, hown, _, hB⟩
  have hrd := rdT_own hown (by decide) (by decide)
  have HT1 := HT.out.below hB
  have HRd := Lib.hid hrd
  have HB := Lib.hid hB
  have h9 := fun W (hW : Below w1.heap.size w1 W) => at_any v (D.t12.map D.Tk.i) 9 (by unfold I6; decide) W (hrd.below hW)
  have hn := fun W (hW : Below w1.heap.size w1 W) => next_any v (D.t12.map D.Tk.i) 1 (by unfold I6; decide) W (hrd.below hW) (HT1.below hW)
  rw [D.at_w12] at h9
  rw [D.nx_w12] at hn
  have H9 := Lib.hid h9
  have HN := Lib.hid hn
  obtain ⟨z, cap, rfl, q1, q2, q3, q4, hr⟩ := hrd
  obtain ⟨b, o, rfl, hb, c0, c1, c2⟩ := hr 0 ⟨10, 3, 1⟩ rfl
  obtain ⟨_, _, he, _, d0, d1, d2⟩ := hr 4 ⟨34, 1, 0⟩ rfl
  cases he
  obtain ⟨_, _, he, _, e0, _, _⟩ := hr 5 ⟨7, 1, 1⟩ rfl
  cases he
  have hl : (D.t12.map D.Tk.i).length = 7 := rfl
  rw [hl] at *
  have k0 : w1.cell? ⟨b, o, none⟩ = some (.int .u8 10) := c0
  have k1 : w1.cell? ⟨b, o + 1, none⟩ = some (.int .i64 3) := c1
  have k2 : w1.cell? ⟨b, o + 2, none⟩ = some (.int .i64 1) := c2
  have k3 : w1.cell? ⟨b, o + 12, none⟩ = some (.int .u8 34) := d0
  have k4 : w1.cell? ⟨b, o + 13, none⟩ = some (.int .i64 1) := d1
  have k5 : w1.cell? ⟨b, o + 14, none⟩ = some (.int .i64 0) := d2
  have k6 : w1.cell? ⟨b, o + 15, none⟩ = some (.int .u8 7) := e0
  clear hr q4 hown hB h9 hn HT1 hb c0 c1 c2 d0 d1 d2 e0
  go_wp2_with fail
  refine (H9.out _ (Below.refl _ _)).mono ?_
  rintro e w2 ⟨rfl, hb2⟩
  go_wp2_with fail
  refine (HN.out _ hb2).mono ?_
  rintro e w3 ⟨rfl, hS⟩
  obtain rfl : w3 = w2 := hS
  go_wp2_with fail
  go_ret
  exact ⟨rfl, HB.out.trans (hb2.mono HB.out.size)⟩
end YthglpfmbmmlbjaaDoor
end Go.Proofs
