/- The law of the stretches around edits, walked. Conditions: none. -/
import Derived.Test.YtjeopabnddekgaaEdSame
import Derived.Test.YtjeopabnddekgaaEdAppend
namespace Go.Proofs.Ytjeopabnddekgaa
open Go Go.RowKit Go.Lib

/-- edits as cells -/
def edCells (l : List EdE) : List Value := l.flatMap fun e => [.int .i64 e.f, .int .i64 e.k, .string e.s]
theorem edCells_len (l : List EdE) : (edCells l).length = l.length * 3 := by
  induction l with
  | nil => rfl
  | cons e r ih => simp [edCells] at ih ⊢; omega
theorem edCells_at (l : List EdE) (j k : Nat) (e : EdE) (h : l[j]? = some e) (hk : k < 3) : (edCells l)[j * 3 + k]? = ([.int .i64 e.f, .int .i64 e.k, .string e.s] : List Value)[k]? := by
  induction l generalizing j with
  | nil => simp at h
  | cons x r ih =>
    have hc : edCells (x :: r) = [.int .i64 x.f, .int .i64 x.k, .string x.s] ++ edCells r := rfl
    rw [hc]
    cases j with
    | zero =>
      simp at h; subst h
      rw [Nat.zero_mul, Nat.zero_add, List.getElem?_append_left (by simpa using hk)]
    | succ j =>
      rw [List.getElem?_append_right (by simp; omega)]
      simp only [List.length_cons, List.length_nil]
      rw [show (j + 1) * 3 + k - (0 + 1 + 1 + 1) = j * 3 + k by omega]
      exact ih j (by simpa using h)
theorem rd_cells {w : World} {z : Option Addr} {c : Nat} {l : List EdE} (h : RdEd w (.slice z l.length c) l) : ∀ (j : Nat) (u : Value), (edCells l)[j]? = some u → ∃ ad, z = some ad ∧ w.cell? (ad.add j) = some u := by
  obtain ⟨z', c', he, hl, hr⟩ := h
  cases he
  intro j u hu
  have hj := (List.getElem?_eq_some_iff.1 hu).1
  rw [edCells_len] at hj
  obtain ⟨e, hq⟩ : ∃ e, l[j / 3]? = some e := ⟨_, List.getElem?_eq_getElem (by omega)⟩
  obtain ⟨b, o, hz, hb, c0, c1, c2⟩ := hr (j / 3) e hq
  have hm : j = j / 3 * 3 + j % 3 := by omega
  have hc := edCells_at l (j / 3) (j % 3) e hq (by omega)
  rw [← hm, hu] at hc
  refine ⟨_, hz, ?_⟩
  have ea : (⟨b, o, none⟩ : Addr).add j = ⟨b, o + j, none⟩ := by unfold Addr.add; by_cases h0 : j = 0 <;> simp [h0]
  rw [ea]
  have h3 : j % 3 < 3 := Nat.mod_lt _ (by decide)
  generalize j / 3 = q at *
  generalize j % 3 = r at *
  subst hm
  obtain rfl | rfl | rfl : r = 0 ∨ r = 1 ∨ r = 2 := by omega
  · rw [hc]; exact c0
  · rw [hc, ← Nat.add_assoc]; exact c1
  · rw [hc, ← Nat.add_assoc]; exact c2
theorem copy_rd {N : Nat} {w : World} {v : Value} {l : List EdE} (h : CopyOf N w v l.length (edCells l)) (hl : l.length ≤ 10000000000000) : RdEd w v l := by
  obtain ⟨z, c, rfl, h⟩ := h
  refine ⟨z, c, rfl, hl, fun j e hj => ?_⟩
  have c0 := edCells_at l j 0 e hj (by decide)
  have c1 := edCells_at l j 1 e hj (by decide)
  have c2 := edCells_at l j 2 e hj (by decide)
  obtain ⟨b, hz, _, hb, x0⟩ := h _ _ c0
  obtain ⟨b1, hz1, _, _, x1⟩ := h _ _ c1
  obtain ⟨b2, hz2, _, _, x2⟩ := h _ _ c2
  obtain rfl : b = b1 := by rw [hz] at hz1; cases hz1; rfl
  obtain rfl : b = b2 := by rw [hz] at hz2; cases hz2; rfl
  exact ⟨b, 0, hz, hb, by rw [Nat.zero_add]; exact x0, by rw [Nat.zero_add]; exact x1, by rw [Nat.zero_add]; exact x2⟩
theorem infoEd : (Try.prog.info? 33).map (fun i => (i.zero, i.size, i.bytes)) = some (some (.agg #[.int .i64 0, .int .i64 0, .string ⟨#[]⟩]), 3, 32) := by kernel_rfl
theorem info_partsE {t : TypeId} {z : Value} {n b : Nat} (h : (Try.prog.info? t).map (fun i => (i.zero, i.size, i.bytes)) = some (some z, n, b)) : ∃ i, Try.prog.info? t = some i ∧ i.zero = some z ∧ i.size = n ∧ i.bytes = b := by
  cases hq : Try.prog.info? t with
  | none => rw [hq] at h; cases h
  | some i =>
    rw [hq] at h
    simp at h
    exact ⟨i, rfl, h.1, h.2.1, h.2.2⟩
set_option maxHeartbeats 4000000 in
set_option maxRecDepth 100000 in
theorem editsAround_any (v : Value) (l : List EdE) (w : World) (h : ArgEd w v l) : Calls Try.prog 3 #[v] w (EdBool true w) := by
  have HA := Lib.hid h
  obtain ⟨i0, hi0, hz0, hz1, hz2⟩ := info_partsE infoEd
  obtain ⟨z, cap, rfl, hc1, hc2, hr, ho⟩ := h
  have hb0 := (Below.refl w.heap.size w).alloc (Nat.le_refl _) (.cells #[] 33)
  have HR := Lib.hid (fun W (hB : Below w.heap.size w W) => HA.out.rd.below hB)
  have HO := Lib.hid ho
  have H0 := Lib.hid hb0
  have HLn := Lib.hid (And.intro hc1 hc2)
  clear hr ho hb0 hc1 hc2
  go_enter Try.func3, Try.ntmps3
  go_wp2_with (refine wpList_append_copy (w := w.alloc (.cells #[] 33)) rfl _ _ 22 rfl 33 i0 _ 3 32 Try.underlying22 hi0 hz0 hz1 hz2 ⟨w.heap.size, 0, none⟩ (by rfl) z l.length cap (by rfl) (edCells l) (edCells_len l) (by decide) (rd_cells (HR.out _ H0.out)) (by have := HLn.out; omega) (by have := HLn.out; omega) ?_)
  intro v1 w1 hcp hB1
  have hB01 := H0.out.trans (hB1.mono (Nat.le_succ _))
  have H1 := Lib.hid (And.intro (copy_rd hcp (by have := HLn.out; omega)) hB01)
  have hsh : ∃ z c, v1 = .slice z l.length c := by obtain ⟨z, c, e, _⟩ := hcp; exact ⟨z, c, e⟩
  obtain ⟨z1, c1, rfl⟩ := hsh
  clear hcp hB1 hB01
  go_wp2_with fail
  refine (around_any _ l w1 H1.out.1 HO.out).mono ?_
  rintro en w2 ⟨rfl, hB⟩
  have H2 := Lib.hid (H1.out.2.trans (hB.mono H1.out.2.size))
  have HI2 := Lib.hid (H1.out.1.below hB)
  clear hB
  have HRef := Lib.hid (fun W (hB : Below w.heap.size w W) => refAround_any _ l W (HR.out W hB) HO.out)
  unfold ArdIs at HRef
  generalize Ed.ans l = p at *
  generalize Ed.err l = E at *
  have hna := two_newE w2 (.cells #[.int .i64 p.a, .int .i64 p.b] 24) (.cells #[.int .i64 p.a, .int .i64 p.c] 24)
  have hba := below_al (below_al (Below.refl w2.heap.size w2) (.cells #[.int .i64 p.a, .int .i64 p.b] 24)) (.cells #[.int .i64 p.a, .int .i64 p.c] 24)
  have HNa := Lib.hid (And.intro hba hna)
  clear hna hba
  go_upto_region 3 with fail
  generalize (w2.alloc (.cells #[.int .i64 p.a, .int .i64 p.b] 24)).alloc (.cells #[.int .i64 p.a, .int .i64 p.c] 24) = Xa at *
  have H3 := Lib.hid (H2.out.trans (HNa.out.1.mono H2.out.size))
  go_wp2_with fail
  refine (HRef.out Xa H3.out).mono ?_
  rintro en w4 ⟨rfl, hB⟩
  have H4 := Lib.hid hB
  clear hB
  have hnb := two_newE w4 (.cells #[.int .i64 p.a, .int .i64 p.b] 24) (.cells #[.int .i64 p.a, .int .i64 p.c] 24)
  have hbb := below_al (below_al (Below.refl w4.heap.size w4) (.cells #[.int .i64 p.a, .int .i64 p.b] 24)) (.cells #[.int .i64 p.a, .int .i64 p.c] 24)
  have HNb := Lib.hid (And.intro hbb hnb)
  clear hnb hbb
  go_upto_region 4 with fail
  generalize (w4.alloc (.cells #[.int .i64 p.a, .int .i64 p.b] 24)).alloc (.cells #[.int .i64 p.a, .int .i64 p.c] 24) = Xb at *
  have hX := H4.out.trans (HNb.out.1.mono H4.out.size)
  have HSa := Lib.hid (refSameE_any _ _ l Xb (HI2.out.below (HNa.out.1.trans (hX.mono HNa.out.1.size))) (HR.out Xb (H3.out.trans (hX.mono H3.out.size))))
  have HBx := Lib.hid (H3.out.trans (hX.mono H3.out.size))
  have a0 : EdRow Xb w2.heap.size p.a p.b := EdRow.below HNa.out.2.1 hX
  have a1 : EdRow Xb (w2.heap.size + 1) p.a p.c := EdRow.below HNa.out.2.2.1 hX
  have b0 : EdRow Xb w4.heap.size p.a p.b := HNb.out.2.1
  have b1 : EdRow Xb (w4.heap.size + 1) p.a p.c := HNb.out.2.2.1
  have x0 := a0.cell0
  have x1 := a0.cell1
  have x2 := a1.cell0
  have x3 := a1.cell1
  have y0 := b0.cell0
  have y1 := b0.cell1
  have y2 := b1.cell0
  have y3 := b1.cell1
  clear a0 a1 b0 b1 hX
  go_wp2_with fail
  refine HSa.out.mono ?_
  rintro en w5 ⟨rfl, hB⟩
  have H5 := Lib.hid (HBx.out.trans (hB.mono HBx.out.size))
  clear hB
  go_wp2_with fail
  go_ret
  exact ⟨rfl, H5.out⟩
end Go.Proofs.Ytjeopabnddekgaa
