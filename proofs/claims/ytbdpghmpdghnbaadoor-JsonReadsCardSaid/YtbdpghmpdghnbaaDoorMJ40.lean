/- The document's own reader of JSON: a field's name and value, told as the program's model tells them; the row of fields. Conditions: none. -/
import Derived.Test.YtbdpghmpdghnbaaDoorMJ32
import Derived.Test.YtbdpghmpdghnbaaDoorMJ33
import Derived.Test.YtbdpghmpdghnbaaDoorMJ39
namespace Go.Proofs.YtbdpghmpdghnbaaDoor
open Go Go.RowKit Go.Lib
/-- what reading a value gives, from any place, wrong or not -/
def vA (s : ByteArray) (m q e : Nat) : VR := if e = 0 then br s (64 - m) (inn s m) q else ((3, ⟨#[]⟩, .nil, .nil), q, e)
theorem vA_le {s : ByteArray} {m q : Nat} (e : Nat) (hq : q ≤ s.size) : Le s q (vA s m q e).2.1 := by
  unfold vA
  by_cases he : e = 0
  · rw [if_pos he]; exact br_le (fun x hx => inn_le s m x hx) (64 - m) q hq
  · rw [if_neg he]; exact ⟨Nat.le_refl _, hq⟩
theorem tx_err (s : ByteArray) : ∀ (f q : Nat) (out : ByteArray) (high : Nat), ¬ (J.tx s f q out high).2.2 = 0 → (J.tx s f q out high).1 = ⟨#[]⟩
  | 0, q, out, high, _ => rfl
  | f + 1, q, out, high, h => by
    unfold J.tx at h ⊢
    by_cases h1 : ¬ (q < s.size ∧ 32 ≤ (s.get! q).toNat)
    · rw [if_pos h1]
    · rw [if_neg h1] at h ⊢
      by_cases h2 : (s.get! q).toNat = 34
      · rw [if_pos h2] at h; exact absurd rfl h
      · rw [if_neg h2] at h ⊢
        by_cases h3 : ¬ (s.get! q).toNat = 92 ∧ U.bad s q = true
        · rw [if_pos h3]
        · rw [if_neg h3] at h ⊢
          by_cases h4 : (J.ck s q).2.2.2 = 0
          · rw [if_pos h4] at h ⊢; exact tx_err s f _ _ _ h
          · rw [if_neg h4]
theorem tw_size (s : ByteArray) (p : Nat) : (J.tw s p).1.size ≤ 4 * s.size := by
  have ht := tw_ptw s p
  by_cases h : (J.tw s p).2.2 = 0
  · rw [ht.2 (by rw [← ht.1]; exact h)]; exact ptw_size s p
  · have : (J.tw s p).1 = ⟨#[]⟩ := by
      unfold J.tw at h ⊢
      by_cases h1 : J.is s p 0 34 = true
      · rw [if_pos h1] at h ⊢; exact tx_err s _ _ _ _ h
      · rw [if_neg h1]
    rw [this]; exact Nat.zero_le _
theorem tw_le {s : ByteArray} {p : Nat} (h : p ≤ s.size) : Le s p (J.tw s p).2.1 := by rw [(tw_ptw s p).1]; exact ptw_le h
/-- where a field's value begins, and what is wrong there -/
def fq (s : ByteArray) (q : Nat) : Nat × Nat := J.tk s (J.bl s (J.tw s q).2.1 (J.tw s q).2.2) (J.tw s q).2.2 58
theorem fo_is {s : ByteArray} {m q : Nat} (hm : m ≤ 64) (hq : q ≤ s.size) (hb : J.bl s q 0 = q) (t : V.T) :
    ((vA s m (J.bl s (fq s q).1 (fq s q).2) (fq s q).2).2.2 = 0 → fo s (vl s m) q t = (t.put (J.tw s q).1 (vA s m (J.bl s (fq s q).1 (fq s q).2) (fq s q).2).1.1 (vA s m (J.bl s (fq s q).1 (fq s q).2) (fq s q).2).1.2.1 (vA s m (J.bl s (fq s q).1 (fq s q).2) (fq s q).2).1.2.2.1 (vA s m (J.bl s (fq s q).1 (fq s q).2) (fq s q).2).1.2.2.2, J.bl s (vA s m (J.bl s (fq s q).1 (fq s q).2) (fq s q).2).2.1 0, 0)) ∧
    (¬ (vA s m (J.bl s (fq s q).1 (fq s q).2) (fq s q).2).2.2 = 0 → (fo s (vl s m) q t).2 = (vA s m (J.bl s (fq s q).1 (fq s q).2) (fq s q).2).2) := by
  have ht := tw_ptw s q
  have hle := tw_le hq
  unfold fo nmc fq
  rw [hb, ← ht.1]
  by_cases h1 : (J.tw s q).2.2 = 0
  · have he := ht.2 (by rw [← ht.1]; exact h1)
    rw [if_pos h1, h1, ← he]
    cases h2 : J.is s (J.bl s (J.tw s q).2.1 0) 0 58
    · rw [J.tk_no h2]
      simp only [Bool.false_eq_true, if_false]
      rw [J.bl_wrong s _ (show ¬ (30 : Nat) = 0 by decide)]
      unfold vA
      rw [if_neg (show ¬ (30 : Nat) = 0 by decide)]
      exact ⟨fun h => absurd (show (30 : Nat) = 0 from h) (by decide), fun _ => rfl⟩
    · have h3 := (J.of_is h2).2.1
      rw [J.tk_yes h2]
      simp only [if_true]
      have hv : vl s m (J.bl s (J.tw s q).2.1 0 + 1) = ar s (vA s m (J.bl s (J.bl s (J.tw s q).2.1 0 + 1) 0) 0) := by
        rw [vl_is s m _ hm]; unfold vA; rw [if_pos rfl]
      rw [hv]
      generalize vA s m (J.bl s (J.bl s (J.tw s q).2.1 0 + 1) 0) 0 = r
      unfold ar
      constructor
      · intro h; rw [if_pos h]; rfl
      · intro h; rw [if_neg h, if_neg h]
  · rw [if_neg h1, J.bl_wrong s _ h1, J.tk_wrong 58 h1, J.bl_wrong s _ h1]
    unfold vA
    rw [if_neg h1]
    simp only
    refine ⟨fun h => absurd h h1, fun _ => ?_⟩
    rw [if_neg h1]
theorem FR.keep {base B : Nat} {Rw : Value} {t : V.T} {W W' : World} (h : FR base Rw t W) (hB : B < base) (g : W.grownBy W' (some B)) : FR base Rw t W' := by
  obtain ⟨xs, ho, hr⟩ := h
  exact ⟨xs, ownsRow_keep ho hB g, hr.keep hB g⟩
/-- behind put: the boxes, the row -/
theorem FR.stored {s : ByteArray} {B n0 q e : Nat} {kv a : Value} {w W w2 : World} {Rw Rw2 : Value} {t t2 : V.T} (hB : B < n0) (hn : w.heap.size ≤ n0) (h : LB s B n0 q e kv a Rw w W) (hF : FR (n0 + 2) Rw t W) (g2 : W.grownBy w2 Rw.ownBlock) (hF2 : FR (n0 + 2) Rw2 t2 w2) :
    LB s B n0 q e kv a Rw2 w (w2.setCell ⟨n0 + 1, 3, none⟩ Rw2) ∧ FR (n0 + 2) Rw2 t2 (w2.setCell ⟨n0 + 1, 3, none⟩ Rw2) := by
  obtain ⟨xs, ho, hr⟩ := hF
  obtain ⟨xs2, ho2, hr2⟩ := hF2
  have hab : ∀ j, Rw.ownBlock = some j → n0 + 2 ≤ j := fun j hj => (ho.lt j hj).1
  have keep : ∀ j, j < W.heap.size → j < n0 + 2 → w2.heap[j]? = W.heap[j]? := fun j hj hn => g2.block j hj (fun e => by have := hab j e.symm; omega)
  have kset : ∀ j, j ≠ n0 + 1 → (w2.setCell ⟨n0 + 1, 3, none⟩ Rw2).heap[j]? = w2.heap[j]? := fun j hj => Below.heap_setCell _ _ _ j hj
  have z2 := g2.size
  have z0 := h.size
  have zs : (w2.setCell ⟨n0 + 1, 3, none⟩ Rw2).heap.size = w2.heap.size := by simp
  refine ⟨⟨?_, ?_, ?_, ?_, ?_⟩, xs2, ?_, ?_⟩
  · exact h.res.same ((kset _ (by omega)).trans (keep _ (by omega) (by omega)))
  · exact (h.out.same (keep _ (by omega) (by omega))).set3 _
  · rw [zs]; omega
  · exact h.st.same ((kset _ (by omega)).trans (keep _ h.st.lt (by omega)))
  · refine ⟨g2.os.trans h.grown.os, g2.tape.trans h.grown.tape, g2.output.trans h.grown.output, ?_, fun j hj hne => ?_⟩
    · rw [zs]; have := h.grown.size; omega
    · have := h.grown.size
      exact (kset j (by omega)).trans ((keep j (by omega) (by omega)).trans (h.grown.block j hj hne))
  · exact ownsRow_setCell_below ho2 (show n0 + 1 < n0 + 2 by omega) _
  · exact hr2.imp (fun _ a _ => a) (fun b a _ => kset b (by have := a.1; omega))
end Go.Proofs.YtbdpghmpdghnbaaDoor
