/- Places by lines, plainly. Conditions: none. -/
import Derived.Test.YtjeopabnddekgaaDoorME04
import Derived.Test.YtjeopabnddekgaaDoorME12
namespace Go.Proofs.YtjeopabnddekgaaDoor
open Go Go.RowKit

/-- the content of line k -/
def content (s : ByteArray) (k : Nat) : ByteArray := s.extract (L.fr s k) (L.to s k)
/-- where a place by lines lies -/
def ofs (s : ByteArray) (l c : Int) : Nat := if l.toNat < L.mny s then L.fr s l.toNat + U.cut (content s l.toNat) c else s.size
theorem content_size {s : ByteArray} {k : Nat} (h : k < L.mny s) : (content s k).size = L.to s k - L.fr s k := by
  unfold content; rw [ByteArray.size_extract]; have := L.to_le h; omega

namespace L
def lnF (s : ByteArray) (b : Nat) : Nat → Nat
  | 0 => 0
  | k + 1 => if fr s (k + 1) ≤ b then k + 1 else lnF s b k
/-- the last line that begins at or before an offset -/
def ln (s : ByteArray) (b : Nat) : Nat := lnF s b (mny s - 1)
theorem lnF_facts (s : ByteArray) (b : Nat) : ∀ k, lnF s b k ≤ k ∧ fr s (lnF s b k) ≤ b ∧ ∀ j, lnF s b k < j → j ≤ k → b < fr s j
  | 0 => ⟨Nat.le_refl _, Nat.zero_le _, fun j h1 h2 => by unfold lnF at h1; omega⟩
  | k + 1 => by
    unfold lnF
    by_cases h : fr s (k + 1) ≤ b
    · rw [if_pos h]; exact ⟨Nat.le_refl _, h, fun j h1 h2 => by omega⟩
    · rw [if_neg h]
      obtain ⟨a, c, d⟩ := lnF_facts s b k
      refine ⟨by omega, c, fun j h1 h2 => ?_⟩
      by_cases e : j = k + 1
      · rw [e]; omega
      · exact d j h1 (by omega)
theorem ln_lt (s : ByteArray) (b : Nat) : ln s b < mny s := by
  have := (lnF_facts s b (mny s - 1)).1
  have := mny_pos s
  unfold ln; omega
theorem ln_le (s : ByteArray) (b : Nat) : fr s (ln s b) ≤ b := (lnF_facts s b (mny s - 1)).2.1
theorem ln_up (s : ByteArray) {b j : Nat} (h : ln s b < j) (hj : j < mny s) : b < fr s j := (lnF_facts s b (mny s - 1)).2.2 j h (by omega)
theorem ln_eq {s : ByteArray} {b k : Nat} (hk : k < mny s) (h1 : fr s k ≤ b) (h2 : k + 1 < mny s → b < fr s (k + 1)) : ln s b = k := by
  have a := ln_lt s b
  have c := ln_le s b
  by_cases e : ln s b < k
  · have := ln_up s e hk; omega
  · by_cases e2 : k < ln s b
    · have := h2 (by omega)
      have := fr_rise (s := s) (i := k + 1) (j := ln s b) (by omega) a
      omega
    · omega
end L


/-- the place by lines of an offset -/
def posL (s : ByteArray) (b : Nat) : Nat := L.ln s b
def posC (s : ByteArray) (b : Nat) : Nat := U.units (s.extract (L.fr s (L.ln s b)) (min b (L.to s (L.ln s b))))
end Go.Proofs.YtjeopabnddekgaaDoor
