/- What the law DfaLongest asks of bytes, plainly: all bytes among some, a text, a sign, a character. Conditions: none. -/
import Derived.Test.YteccfoiegjhppaaDxMathB
namespace Go.Proofs.Yteccfoiegjhppaa.D
open Go U
/-- does a byte stand among the first k of some? -/
def hsB (o : ByteArray) (c : Nat) : Nat → Bool
  | 0 => false
  | k + 1 => hsB o c k || decide ((o.get! k).toNat = c)
/-- are the first k bytes among some? -/
def akB (s o : ByteArray) : Nat → Bool
  | 0 => true
  | i + 1 => akB s o i && hsB o (s.get! i).toNat o.size
theorem akB_false {s o : ByteArray} : ∀ {n i : Nat}, i < n → hsB o (s.get! i).toNat o.size = false → akB s o n = false
  | n + 1, i, h, he => by
    by_cases hi : i = n
    · subst hi; unfold akB; rw [he, Bool.and_false]
    · unfold akB; rw [akB_false (show i < n by omega) he, Bool.false_and]
theorem akB_iff {s o : ByteArray} : ∀ {n : Nat}, akB s o n = true ↔ ∀ j, j < n → hsB o (s.get! j).toNat o.size = true
  | 0 => ⟨fun _ j h => absurd h (Nat.not_lt_zero _), fun _ => rfl⟩
  | n + 1 => by
    unfold akB
    rw [Bool.and_eq_true, akB_iff]
    exact ⟨fun h j hj => by by_cases e : j = n; (· subst e; exact h.2); (· exact h.1 j (by omega)), fun h => ⟨fun j hj => h j (by omega), h n (by omega)⟩⟩
/-- what quoted answers -/
def qtd (s : ByteArray) : Nat := if (rb s 9 1).2 = s.size then kd (rb s 9 1).1 else 0
/-- the signs, in order -/
def sgl : List ByteArray := [⟨#[40]⟩, ⟨#[41]⟩, ⟨#[123]⟩, ⟨#[125]⟩, ⟨#[44]⟩, ⟨#[59]⟩, ⟨#[61]⟩, ⟨#[61, 61]⟩, ⟨#[33, 61]⟩, ⟨#[60]⟩, ⟨#[60, 61]⟩, ⟨#[62]⟩, ⟨#[62, 61]⟩, ⟨#[43]⟩, ⟨#[45]⟩, ⟨#[42]⟩, ⟨#[47]⟩, ⟨#[37]⟩, ⟨#[33]⟩, ⟨#[38, 38]⟩, ⟨#[124, 124]⟩]
def sgf (s : ByteArray) : Nat → Nat → Nat
  | 0, _ => 0
  | n + 1, i => if s.toList = (sgl.getD i ByteArray.empty).toList then 20 + i else sgf s n (i + 1)
def sgn (s : ByteArray) : Nat := sgf s 21 0
/-- how many characters from a place on -/
def cnt (s : ByteArray) : Nat → Nat → Nat
  | 0, _ => 0
  | f + 1, p => if p < s.size then cnt s f (p + wd s p) + 1 else 0
theorem cnt_end (s : ByteArray) (f p : Nat) (h : ¬ p < s.size) : cnt s f p = 0 := by
  cases f with
  | zero => rfl
  | succ f => simp only [cnt, if_neg h]
theorem cnt_step (s : ByteArray) (f p : Nat) (h : p < s.size) : cnt s (f + 1) p = cnt s f (p + wd s p) + 1 := by simp only [cnt, if_pos h]
theorem cnt_le (s : ByteArray) : ∀ (f p : Nat), p ≤ s.size → cnt s f p ≤ s.size - p
  | 0, p, _ => Nat.zero_le _
  | f + 1, p, hp => by
    by_cases h : p < s.size
    · have h1 := wd_pos h
      have h2 := wd_le h
      have := cnt_le s f (p + wd s p) h2
      rw [cnt_step s f p h]; omega
    · rw [cnt_end s _ p h]; exact Nat.zero_le _
/-- a string of one character -/
def chr1 (s : ByteArray) : Bool := decide (cnt s s.size 0 = 1)
theorem chr1_iff (s : ByteArray) : chr1 s = true ↔ 0 < s.size ∧ wd s 0 = s.size := by
  unfold chr1
  rw [decide_eq_true_eq]
  by_cases h : 0 < s.size
  · obtain ⟨f, hf⟩ : ∃ f, s.size = f + 1 := ⟨s.size - 1, by omega⟩
    have h1 := wd_pos h
    have h2 := wd_le h
    rw [Nat.zero_add] at h2
    have e : cnt s s.size 0 = cnt s f (wd s 0) + 1 := by rw [hf, cnt_step s f 0 h, Nat.zero_add]
    rw [e]
    by_cases h3 : wd s 0 < s.size
    · obtain ⟨g, rfl⟩ : ∃ g, f = g + 1 := ⟨f - 1, by omega⟩
      rw [cnt_step s g _ h3]
      constructor
      · intro hh; omega
      · intro hh; omega
    · rw [cnt_end s f _ h3]
      exact ⟨fun _ => ⟨h, by omega⟩, fun _ => rfl⟩
  · constructor
    · intro hh
      have := cnt_end s s.size 0 h
      omega
    · intro hh; exact absurd hh.1 h
end Go.Proofs.Yteccfoiegjhppaa.D
