/- A text's tokens, one behind the other: pure. Conditions: none. -/
import Derived.Test.YthglpfmbmmlbjaaDfMathB
namespace Go.Proofs.Ythglpfmbmmlbjaa.D
open Go U

def tkF (s : ByteArray) : Nat → Nat → List Tk
  | 0, _ => []
  | f + 1, p => if p < s.size then tok (s.extract p s.size) :: tkF s f (p + (tok (s.extract p s.size)).w) else []
def toks (s : ByteArray) : List Tk := tkF s s.size 0
theorem tkF_end (s : ByteArray) (f p : Nat) (h : ¬ p < s.size) : tkF s f p = [] := by
  cases f with
  | zero => rfl
  | succ f => simp only [tkF, if_neg h]
theorem tkF_step (s : ByteArray) (f p : Nat) (h : p < s.size) : tkF s (f + 1) p = tok (s.extract p s.size) :: tkF s f (p + (tok (s.extract p s.size)).w) := by simp only [tkF, if_pos h]
/-- of any token -/
theorem tok_fits (r : ByteArray) (h : 0 < r.size) : 0 < (tok r).w ∧ (tok r).w ≤ r.size ∧ (tok r).l ≤ 3 ∧ (tok r).w + (tok r).l ≤ r.size + 1 ∧ 0 < (tok r).k ∧ (tok r).k ≤ 40 := by
  have hf := run_fits r
  have h3 := hf.2.2 h
  have hk : ∀ q : Fin 35, q.1 ≠ 0 → 0 < kd q.1 ∧ kd q.1 ≤ 40 := by decide +kernel
  have hw : ∀ x, 0 < wrd x ∧ wrd x ≤ 40 := by
    intro x; unfold wrd; repeat' split
    all_goals decide
  unfold tok
  dsimp only
  have hl : lk r (run r).1 (run r).2 ≤ 3 ∧ (run r).2 + lk r (run r).1 (run r).2 ≤ r.size + 1 := by
    unfold lk
    split
    · omega
    · split <;> omega
  refine ⟨h3.2, hf.2.1, hl.1, hl.2, ?_⟩
  split
  · exact hw _
  · exact hk ⟨_, hf.1⟩ h3.1
theorem tok_at {s : ByteArray} {p : Nat} (h : p < s.size) : 0 < (tok (s.extract p s.size)).w ∧ p + (tok (s.extract p s.size)).w ≤ s.size ∧ (tok (s.extract p s.size)).l ≤ 3 ∧ p + (tok (s.extract p s.size)).w + (tok (s.extract p s.size)).l ≤ s.size + 1 ∧ 0 < (tok (s.extract p s.size)).k ∧ (tok (s.extract p s.size)).k ≤ 40 := by
  have hz : (s.extract p s.size).size = s.size - p := by rw [ByteArray.size_extract]; omega
  have := tok_fits (s.extract p s.size) (by omega)
  rw [hz] at this
  omega
theorem tkF_fuel (s : ByteArray) : ∀ f g p, s.size ≤ p + f → s.size ≤ p + g → tkF s f p = tkF s g p
  | 0, g, p, hf, _ => by rw [tkF_end s g p (by omega)]; rfl
  | f + 1, g, p, hf, hg => by
    by_cases hp : p < s.size
    · obtain ⟨g', rfl⟩ : ∃ g', g = g' + 1 := ⟨g - 1, by omega⟩
      have := tok_at hp
      rw [tkF_step s f p hp, tkF_step s g' p hp, tkF_fuel s f g' _ (by omega) (by omega)]
    · rw [tkF_end s _ p hp, tkF_end s _ p hp]
theorem tkF_len (s : ByteArray) : ∀ f p, (tkF s f p).length ≤ s.size - p
  | 0, p => Nat.zero_le _
  | f + 1, p => by
    by_cases hp : p < s.size
    · have := tok_at hp
      rw [tkF_step s f p hp, List.length_cons]
      have := tkF_len s f (p + (tok (s.extract p s.size)).w)
      omega
    · rw [tkF_end s _ p hp]; exact Nat.zero_le _
theorem toks_len (s : ByteArray) : (toks s).length ≤ s.size := tkF_len s s.size 0
/-- the scan has come to a place -/
def At (s : ByteArray) (pre : List Tk) (p : Nat) : Prop := p ≤ s.size ∧ pre.length ≤ p ∧ pre ++ tkF s (s.size - p) p = toks s
theorem At.begin (s : ByteArray) : At s [] 0 := ⟨Nat.zero_le _, Nat.le_refl _, rfl⟩
theorem At.step {s : ByteArray} {pre : List Tk} {p : Nat} (h : At s pre p) (hp : p < s.size) : At s (pre ++ [tok (s.extract p s.size)]) (p + (tok (s.extract p s.size)).w) := by
  have hw := tok_at hp
  refine ⟨hw.2.1, by have := h.2.1; rw [List.length_append, List.length_singleton]; omega, ?_⟩
  have h3 := h.2.2
  obtain ⟨f, hf⟩ : ∃ f, s.size - p = f + 1 := ⟨s.size - p - 1, by omega⟩
  rw [hf, tkF_step s f p hp] at h3
  rw [List.append_assoc, List.singleton_append, ← h3, tkF_fuel s _ f _ (by omega) (by omega)]
theorem At.done {s : ByteArray} {pre : List Tk} {p : Nat} (h : At s pre p) (hp : ¬ p < s.size) : pre = toks s := by
  have h3 := h.2.2
  rw [tkF_end s _ p hp, List.append_nil] at h3
  exact h3
theorem At.next {s : ByteArray} {pre : List Tk} {p : Nat} (h : At s pre p) (hp : p < s.size) : (toks s)[pre.length]? = some (tok (s.extract p s.size)) ∧ pre.length < (toks s).length := by
  have h3 := h.2.2
  obtain ⟨f, hf⟩ : ∃ f, s.size - p = f + 1 := ⟨s.size - p - 1, by omega⟩
  rw [hf, tkF_step s f p hp] at h3
  rw [← h3]
  exact ⟨by simp, by simp⟩
theorem At.pre {s : ByteArray} {pre : List Tk} {p : Nat} (h : At s pre p) : pre = (toks s).take pre.length := by
  rw [← h.2.2, List.take_left]
end Go.Proofs.Ythglpfmbmmlbjaa.D
