/- What stands behind a blank, and behind a remark to the line's end: pure. Conditions: none. -/
import Derived.Test.YthglpfmbmmlbjaaDoorLxMath
import Derived.Test.YthglpfmbmmlbjaaDoorDfMathL
namespace Go.Proofs.YthglpfmbmmlbjaaDoor.D
open Go U

theorem bl_1 : ∀ (l : List UInt8), (bl 1 l).1 = 1
  | [] => rfl
  | b :: r => by
    by_cases hs : stp 1 (cls b.toNat) < 0
    · rw [bl_stop hs]
    · have : stp 1 (cls b.toNat) = 1 := by
        have h : ∀ c : Fin 24, ¬ stp 1 c.1 < 0 → stp 1 c.1 = 1 := by decide +kernel
        exact h ⟨_, cls_lt _⟩ hs
      rw [bl_go hs, this]
      exact bl_1 r
theorem stp_to1 {q c : Nat} (hq : q < 35) (hc : c < 24) (h : stp q c = 1) : (q = 0 ∧ (c = 1 ∨ c = 2)) ∨ q = 1 := by
  have : ∀ (q : Fin 35) (c : Fin 24), stp q.1 c.1 = 1 → (q.1 = 0 ∧ (c.1 = 1 ∨ c.1 = 2)) ∨ q.1 = 1 := by decide +kernel
  exact this ⟨q, hq⟩ ⟨c, hc⟩ h
theorem bl_to1 : ∀ (l : List UInt8) (q : Nat), q < 35 → q ≠ 0 → (bl q l).1 = 1 → q = 1
  | [], q, _, _, h => h
  | b :: r, q, hq, h0, h => by
    by_cases hs : stp q (cls b.toNat) < 0
    · rw [bl_stop hs] at h; exact h
    · rw [bl_go hs] at h
      have hin := stp_in hq (cls_lt b.toNat)
      have hpos := stp_pos hq (cls_lt b.toNat) (by omega)
      have := bl_to1 r _ (by omega) (by omega) h
      rcases stp_to1 hq (cls_lt b.toNat) (by omega) with h1 | h1
      · exact absurd h1.1 h0
      · exact h1
theorem kd_1 {q : Nat} (hq : q < 35) : kd q = 1 ↔ q = 1 := by
  have : ∀ q : Fin 35, kd q.1 = 1 ↔ q.1 = 1 := by decide +kernel
  exact this ⟨q, hq⟩
theorem kd_2 {q : Nat} (hq : q < 35) : kd q = 2 ↔ q = 3 := by
  have : ∀ q : Fin 35, kd q.1 = 2 ↔ q.1 = 3 := by decide +kernel
  exact this ⟨q, hq⟩
theorem wrd_ge (x : ByteArray) : 6 ≤ wrd x := by
  unfold wrd; repeat' split
  all_goals decide
/-- a token is a blank just if its first byte is one -/
theorem tok_blank (r : ByteArray) (h : 0 < r.size) : (tok r).k = 1 ↔ (run r).1 = 1 := by
  have hf := run_fits r
  unfold tok
  dsimp only
  split
  · rename_i h7
    have := wrd_ge (r.extract 0 (run r).2)
    constructor
    · intro e; omega
    · intro e; omega
  · exact kd_1 hf.1
theorem tok_remark (r : ByteArray) (h : 0 < r.size) : (tok r).k = 2 ↔ (run r).1 = 3 := by
  have hf := run_fits r
  unfold tok
  dsimp only
  split
  · rename_i h7
    have := wrd_ge (r.extract 0 (run r).2)
    constructor
    · intro e; omega
    · intro e; omega
  · exact kd_2 hf.1
theorem run_blank (r : ByteArray) (h : 0 < r.size) : (run r).1 = 1 ↔ (cls (r.get! 0).toNat = 1 ∨ cls (r.get! 0).toNat = 2) := by
  by_cases hb : (r.get! 0).toNat < 128
  · have hd := drop_at h
    rw [List.drop_zero] at hd
    have hc := cls_lt (r.get! 0).toNat
    have hin := stp_in (show 0 < 35 by decide) hc
    have hpos := stp_0 hc
    rw [run_lo h hb, hd, bl_go (by omega)]
    simp only
    constructor
    · intro e
      have := bl_to1 _ _ (by omega) (by omega) e
      rcases stp_to1 (show 0 < 35 by decide) hc (by omega) with h1 | h1
      · exact h1.2
      · cases h1
    · intro e
      have : stp 0 (cls (r.get! 0).toNat) = 1 := by rcases e with e | e <;> rw [e] <;> rfl
      rw [this]
      exact bl_1 _
  · rw [run_hi h (by omega), cls_hi (by omega)]
    constructor
    · intro e; exact absurd e (show ¬ 34 = 1 by decide)
    · intro e; omega
/-- the byte behind a run stopped it -/
theorem run_stop (r : ByteArray) (h : 0 < r.size) (hb : (r.get! 0).toNat < 128) (hl : (run r).2 < r.size) : stp (run r).1 (cls (r.get! (run r).2).toNat) < 0 := by
  have hlo := run_lo h hb
  have hs := bl_stops r.data.toList 0 (by rw [← hlo]; simpa using hl)
  rw [hlo] at hl ⊢
  rw [at_get hl]
  exact hs
theorem tok_then (r : ByteArray) (h : 0 < r.size) (hl : (tok r).w < r.size) :
    ((tok r).k = 1 → ¬ (cls (r.get! (tok r).w).toNat = 1 ∨ cls (r.get! (tok r).w).toNat = 2)) ∧ ((tok r).k = 2 → cls (r.get! (tok r).w).toNat = 2) := by
  have hw : (tok r).w = (run r).2 := rfl
  rw [tok_blank r h, tok_remark r h, hw] at *
  have hc := cls_lt (r.get! (run r).2).toNat
  by_cases hb : (r.get! 0).toNat < 128
  · have hs := run_stop r h hb hl
    refine ⟨fun e hh => ?_, fun e => ?_⟩
    · rw [e] at hs
      rcases hh with hh | hh <;> rw [hh] at hs <;> exact absurd hs (by decide)
    · rw [e] at hs
      have : ∀ c : Fin 24, stp 3 c.1 < 0 → c.1 = 2 := by decide +kernel
      exact this ⟨_, hc⟩ hs
  · have hr := run_hi h (show 128 ≤ (r.get! 0).toNat by omega)
    refine ⟨fun e => ?_, fun e => ?_⟩
    · rw [hr] at e; exact absurd e (show ¬ 34 = 1 by decide)
    · rw [hr] at e; exact absurd e (show ¬ 34 = 3 by decide)
/-- two tokens, one behind the other -/
theorem two_toks (s : ByteArray) (p : Nat) (hp : p < s.size) (hq : p + (tok (s.extract p s.size)).w < s.size) :
    ((tok (s.extract p s.size)).k = 1 → ¬ (tok (s.extract (p + (tok (s.extract p s.size)).w) s.size)).k = 1) ∧ ((tok (s.extract p s.size)).k = 2 → (tok (s.extract (p + (tok (s.extract p s.size)).w) s.size)).k = 1) := by
  have hz : (s.extract p s.size).size = s.size - p := by rw [ByteArray.size_extract]; omega
  have ht := tok_then (s.extract p s.size) (by omega) (by omega)
  have hz2 : (s.extract (p + (tok (s.extract p s.size)).w) s.size).size = s.size - (p + (tok (s.extract p s.size)).w) := by rw [ByteArray.size_extract]; omega
  rw [tok_blank (s.extract (p + (tok (s.extract p s.size)).w) s.size) (by omega), run_blank _ (by omega), ext_get s _ s.size 0 (Nat.le_refl _) (by omega), Nat.add_zero]
  rw [ext_get s p s.size _ (Nat.le_refl _) (by omega)] at ht
  exact ⟨ht.1, fun e => Or.inr (ht.2 e)⟩
end Go.Proofs.YthglpfmbmmlbjaaDoor.D
