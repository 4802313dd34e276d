/- Plain arithmetic of lines: where a line's content ends, where the next line begins, how many there are. Conditions: none. -/
import Derived.Lib.DecodeN
import Derived.Lib.RuneCount
namespace Go.Proofs.YtdigkgoaldgodaaDoor.L
open Go

theorem at_get {s : ByteArray} {i : Nat} (h : i < s.size) : s.get! i = s[i] := get_at s i h
/-- a byte of a line's end -/
def brk (s : ByteArray) (i : Nat) : Bool := decide ((s.get! i).toNat = 10 ∨ (s.get! i).toNat = 13)
theorem brk_yes {s : ByteArray} {i : Nat} (h : (s.get! i).toNat = 10 ∨ (s.get! i).toNat = 13) : brk s i = true := decide_eq_true h
theorem brk_no {s : ByteArray} {i : Nat} (h1 : (s.get! i).toNat ≠ 10) (h2 : (s.get! i).toNat ≠ 13) : brk s i = false := decide_eq_false (by omega)
theorem of_brk {s : ByteArray} {i : Nat} (h : brk s i = true) : (s.get! i).toNat = 10 ∨ (s.get! i).toNat = 13 := of_decide_eq_true h
theorem of_nbrk {s : ByteArray} {i : Nat} (h : brk s i = false) : (s.get! i).toNat ≠ 10 ∧ (s.get! i).toNat ≠ 13 := by
  have := of_decide_eq_false h
  omega

/-- the end of the content of a line that has the place -/
def ceF (s : ByteArray) : Nat → Nat → Nat
  | 0, i => i
  | f + 1, i => if i < s.size then (if brk s i = true then i else ceF s f (i + 1)) else i
def ce (s : ByteArray) (i : Nat) : Nat := ceF s (s.size - i) i
theorem ce_end {s : ByteArray} {i : Nat} (h : ¬ i < s.size) : ce s i = i := by
  unfold ce; rw [show s.size - i = 0 by omega]; rfl
theorem ce_brk {s : ByteArray} {i : Nat} (h : i < s.size) (hb : brk s i = true) : ce s i = i := by
  unfold ce; rw [show s.size - i = (s.size - i - 1) + 1 by omega]; simp only [ceF, if_pos h, if_pos hb]
theorem ce_step {s : ByteArray} {i : Nat} (h : i < s.size) (hb : brk s i = false) : ce s i = ce s (i + 1) := by
  unfold ce; rw [show s.size - i = (s.size - (i + 1)) + 1 by omega]; simp only [ceF, if_pos h]; rw [if_neg (by rw [hb]; decide)]
theorem ce_facts (s : ByteArray) : ∀ f i, s.size ≤ i + f → i ≤ s.size → i ≤ ce s i ∧ ce s i ≤ s.size ∧ (ce s i < s.size → brk s (ce s i) = true) ∧ ∀ j, i ≤ j → j < ce s i → brk s j = false
  | 0, i, h, hi => by rw [ce_end (by omega)]; exact ⟨by omega, by omega, fun h => by omega, fun j h1 h2 => by omega⟩
  | f + 1, i, h, hi => by
    by_cases hlt : i < s.size
    · cases hb : brk s i
      · rw [ce_step hlt hb]
        obtain ⟨a, b, c, d⟩ := ce_facts s f (i + 1) (by omega) (by omega)
        refine ⟨by omega, b, c, fun j h1 h2 => ?_⟩
        by_cases e : j = i
        · rw [e]; exact hb
        · exact d j (by omega) h2
      · rw [ce_brk hlt hb]; exact ⟨by omega, by omega, fun _ => hb, fun j h1 h2 => by omega⟩
    · rw [ce_end hlt]; exact ⟨by omega, by omega, fun h => by omega, fun j h1 h2 => by omega⟩
theorem ce_ge {s : ByteArray} {i : Nat} (h : i ≤ s.size) : i ≤ ce s i := (ce_facts s s.size i (by omega) h).1
theorem ce_le {s : ByteArray} {i : Nat} (h : i ≤ s.size) : ce s i ≤ s.size := (ce_facts s s.size i (by omega) h).2.1
theorem ce_is {s : ByteArray} {i : Nat} (h : i ≤ s.size) (hl : ce s i < s.size) : brk s (ce s i) = true := (ce_facts s s.size i (by omega) h).2.2.1 hl
theorem ce_none {s : ByteArray} {i j : Nat} (h : i ≤ s.size) (h1 : i ≤ j) (h2 : j < ce s i) : brk s j = false := (ce_facts s s.size i (by omega) h).2.2.2 j h1 h2
/-- from within a content its end is the same -/
theorem ce_in {s : ByteArray} : ∀ d {i j : Nat}, j = i + d → i ≤ s.size → j ≤ ce s i → ce s j = ce s i
  | 0, i, j, e, _, _ => by rw [e]; rfl
  | d + 1, i, j, e, hi, hj => by
    have hlt : i < s.size := by
      by_cases h : i < s.size
      · exact h
      · rw [ce_end h] at hj; omega
    have hb : brk s i = false := ce_none hi (Nat.le_refl _) (by omega)
    rw [ce_step hlt hb] at hj ⊢
    exact ce_in d (by omega) (by omega) hj
theorem ce_same {s : ByteArray} {i j : Nat} (hi : i ≤ s.size) (h : i ≤ j) (hj : j ≤ ce s i) : ce s j = ce s i := ce_in (j - i) (by omega) hi hj

/-- is there a byte 10 behind the byte 13 at the place? -/
def pair (s : ByteArray) (i : Nat) : Bool := decide ((s.get! i).toNat = 13 ∧ i + 1 < s.size ∧ (s.get! (i + 1)).toNat = 10)
/-- the end of the line's end that begins at the place -/
def nx (s : ByteArray) (i : Nat) : Nat := if pair s i = true then i + 2 else i + 1
theorem nx_pair {s : ByteArray} {i : Nat} (h : pair s i = true) : nx s i = i + 2 := by unfold nx; rw [if_pos h]
theorem nx_one {s : ByteArray} {i : Nat} (h : pair s i = false) : nx s i = i + 1 := by unfold nx; rw [if_neg (by rw [h]; decide)]
theorem of_pair {s : ByteArray} {i : Nat} (h : pair s i = true) : (s.get! i).toNat = 13 ∧ i + 1 < s.size ∧ (s.get! (i + 1)).toNat = 10 := of_decide_eq_true h
theorem of_npair {s : ByteArray} {i : Nat} (h : pair s i = false) : ¬ ((s.get! i).toNat = 13 ∧ i + 1 < s.size ∧ (s.get! (i + 1)).toNat = 10) := of_decide_eq_false h
theorem nx_facts {s : ByteArray} {i : Nat} (h : i < s.size) : i < nx s i ∧ nx s i ≤ i + 2 ∧ nx s i ≤ s.size := by
  cases hp : pair s i
  · rw [nx_one hp]; omega
  · have := of_pair hp; rw [nx_pair hp]; omega

/-- where line k begins, and where its content ends (while there is one) -/
def fr (s : ByteArray) : Nat → Nat
  | 0 => 0
  | k + 1 => nx s (ce s (fr s k))
def to (s : ByteArray) (k : Nat) : Nat := ce s (fr s k)
theorem fr_succ (s : ByteArray) (k : Nat) : fr s (k + 1) = nx s (to s k) := rfl

def cnt (s : ByteArray) : Nat → Nat → Nat
  | 0, _ => 1
  | f + 1, i => if ce s i < s.size then cnt s f (nx s (ce s i)) + 1 else 1
/-- how many lines there are -/
def mny (s : ByteArray) : Nat := cnt s (s.size + 1) 0
theorem cnt_pos (s : ByteArray) : ∀ f i, 1 ≤ cnt s f i
  | 0, _ => by simp [cnt]
  | f + 1, i => by unfold cnt; split <;> omega
theorem cnt_facts (s : ByteArray) : ∀ f k, s.size < fr s k + f → fr s k ≤ s.size → (∀ j, j + 1 < cnt s f (fr s k) → to s (k + j) < s.size ∧ fr s (k + j) ≤ s.size) ∧ to s (k + (cnt s f (fr s k) - 1)) = s.size ∧ fr s (k + (cnt s f (fr s k) - 1)) ≤ s.size
  | 0, k, h, hk => by omega
  | f + 1, k, h, hk => by
    have hge := ce_ge hk
    have hle := ce_le hk
    unfold cnt
    by_cases hlt : ce s (fr s k) < s.size
    · rw [if_pos hlt]
      have hn := nx_facts hlt
      obtain ⟨a, b, c⟩ := cnt_facts s f (k + 1) (by rw [fr_succ]; unfold to; omega) (by rw [fr_succ]; unfold to; omega)
      rw [fr_succ] at a b c
      unfold to at a b c
      have hp := cnt_pos s f (nx s (ce s (fr s k)))
      refine ⟨fun j hj => ?_, ?_, ?_⟩
      · cases j with
        | zero => exact ⟨hlt, hk⟩
        | succ j => have := a j (by omega); rw [show k + 1 + j = k + (j + 1) by omega] at this; exact this
      · unfold to
        rw [show k + (cnt s f (nx s (ce s (fr s k))) + 1 - 1) = k + 1 + (cnt s f (nx s (ce s (fr s k))) - 1) by omega]; exact b
      · rw [show k + (cnt s f (nx s (ce s (fr s k))) + 1 - 1) = k + 1 + (cnt s f (nx s (ce s (fr s k))) - 1) by omega]; exact c
    · rw [if_neg hlt]
      exact ⟨fun j hj => by omega, by unfold to; simp; omega, by simpa using hk⟩
theorem mny_pos (s : ByteArray) : 1 ≤ mny s := cnt_pos _ _ _
theorem mny_all (s : ByteArray) : (∀ j, j + 1 < mny s → to s j < s.size ∧ fr s j ≤ s.size) ∧ to s (mny s - 1) = s.size ∧ fr s (mny s - 1) ≤ s.size := by
  have := cnt_facts s (s.size + 1) 0 (by show s.size < 0 + (s.size + 1); omega) (Nat.zero_le _)
  simpa [mny, fr] using this
theorem to_lt {s : ByteArray} {j : Nat} (h : j + 1 < mny s) : to s j < s.size := ((mny_all s).1 j h).1
theorem to_last (s : ByteArray) : to s (mny s - 1) = s.size := (mny_all s).2.1
theorem fr_le {s : ByteArray} {j : Nat} (h : j < mny s) : fr s j ≤ s.size := by
  by_cases h1 : j + 1 < mny s
  · exact ((mny_all s).1 j h1).2
  · rw [show j = mny s - 1 by omega]; exact (mny_all s).2.2
theorem to_ge {s : ByteArray} {j : Nat} (h : j < mny s) : fr s j ≤ to s j := ce_ge (fr_le h)
theorem to_le {s : ByteArray} {j : Nat} (h : j < mny s) : to s j ≤ s.size := ce_le (fr_le h)
theorem to_end {s : ByteArray} {j : Nat} (h : j < mny s) (he : ¬ j + 1 < mny s) : to s j = s.size := by rw [show j = mny s - 1 by omega]; exact to_last s
theorem to_lt_iff {s : ByteArray} {j : Nat} (h : j < mny s) : to s j < s.size ↔ j + 1 < mny s := ⟨fun hl => by
  by_cases he : j + 1 < mny s
  · exact he
  · have := to_end h he; omega, to_lt⟩
theorem fr_up {s : ByteArray} {j : Nat} (h : j + 1 < mny s) : to s j < fr s (j + 1) ∧ fr s (j + 1) ≤ to s j + 2 := by
  have := nx_facts (to_lt h); rw [fr_succ]; omega
theorem fr_mono {s : ByteArray} : ∀ d {i : Nat}, i + d < mny s → fr s i + d ≤ fr s (i + d)
  | 0, _, _ => Nat.le_refl _
  | d + 1, i, h => by
    have h1 := fr_mono (s := s) d (i := i) (by omega)
    have h2 := fr_up (s := s) (j := i + d) (by omega)
    have h3 := to_ge (s := s) (j := i + d) (by omega)
    rw [show i + (d + 1) = i + d + 1 by omega]
    omega
theorem fr_rise {s : ByteArray} {i j : Nat} (h : i ≤ j) (hj : j < mny s) : fr s i + (j - i) ≤ fr s j := by
  have := fr_mono (s := s) (j - i) (i := i) (by omega)
  rwa [show i + (j - i) = j by omega] at this
theorem to_fr {s : ByteArray} {i j : Nat} (h : i < j) (hj : j < mny s) : to s i < fr s j := by
  have h1 := fr_up (s := s) (j := i) (by omega)
  have h2 := fr_rise (s := s) (i := i + 1) (j := j) (by omega) hj
  omega
theorem mny_le (s : ByteArray) : mny s ≤ s.size + 1 := by
  have h1 := fr_rise (s := s) (i := 0) (j := mny s - 1) (by omega) (by have := mny_pos s; omega)
  have h2 := fr_le (s := s) (j := mny s - 1) (by have := mny_pos s; omega)
  omega
theorem mny_eq {s : ByteArray} {k : Nat} (h : k < mny s) (he : to s k = s.size) : mny s = k + 1 := by
  by_cases h1 : k + 1 < mny s
  · have := to_lt h1; omega
  · omega

/-- the offsets at which lines begin -/
def starts (s : ByteArray) (k : Nat) : List Nat := (List.range k).map (fr s)
theorem starts_succ (s : ByteArray) (k : Nat) : starts s (k + 1) = starts s k ++ [fr s k] := by simp [starts, List.range_succ]
theorem starts_len (s : ByteArray) (k : Nat) : (starts s k).length = k := by simp [starts]
end Go.Proofs.YtdigkgoaldgodaaDoor.L
