/- Plain arithmetic of UTF-8: whether a scan finds no invalid byte; where the item begins that has a byte. Conditions: none. -/
import Derived.Test.YteccfoiegjhppaaUtfMath
import Derived.Lib.TrimUEq
import Derived.Lib.ValidU
import Derived.Lib.ValidAsc
namespace Go.Proofs.Yteccfoiegjhppaa.U
open Go

theorem bad_wd {s : ByteArray} {i : Nat} (h : bad s i = true) : wd s i = 1 := ((bad_iff s i).1 h).2
theorem good_of_wd {s : ByteArray} {i : Nat} (h : wd s i ≠ 1) : bad s i = false := by
  cases hb : bad s i
  · rfl
  · exact absurd (bad_wd hb) h
theorem ext_decode (s : ByteArray) (k : Nat) : Utf8.decode (s.extract k s.size) 0 = Utf8.decode s k := by
  rw [← Lib.decodeL_drop s k, ← Lib.ext_list s k, ← Lib.decodeL_drop (s.extract k s.size) 0]
  rfl

/-! ### valid -/
def vFrom (s : ByteArray) : Nat → Nat → Bool
  | 0, _ => true
  | f + 1, pos => if pos < s.size then (if bad s pos = true then false else vFrom s f (pos + wd s pos)) else true
def valid (s : ByteArray) : Bool := vFrom s s.size 0
theorem vFrom_end (s : ByteArray) (f pos : Nat) (h : ¬ pos < s.size) : vFrom s f pos = true := by
  cases f <;> simp [vFrom, h]
theorem vFrom_bad (s : ByteArray) (f pos : Nat) (h : pos < s.size) (hb : bad s pos = true) : vFrom s (f + 1) pos = false := by
  simp only [vFrom, if_pos h, if_pos hb]
theorem vFrom_step (s : ByteArray) (f pos : Nat) (h : pos < s.size) (hb : bad s pos = false) : vFrom s (f + 1) pos = vFrom s f (pos + wd s pos) := by
  simp only [vFrom, if_pos h, hb, Bool.false_eq_true, if_false]
theorem validGo_eq (s : ByteArray) : ∀ f pos, Lib.validGoD f (s.data.toList.drop pos) = vFrom s f pos
  | 0, _ => rfl
  | f + 1, pos => by
    by_cases h : pos < s.size
    · have hl : s.data.toList.drop pos ≠ [] := by
        intro hh
        have := congrArg List.length hh
        rw [List.length_drop, ← Lib.size_eq] at this
        simp only [List.length_nil] at this
        omega
      rw [Lib.validGoD, if_neg hl, Lib.decodeL_drop]
      show (if ch s pos = 65533 ∧ wd s pos = 1 then false else Lib.validGoD f (List.drop (wd s pos) (List.drop pos s.data.toList))) = _
      by_cases hb : bad s pos = true
      · rw [vFrom_bad s f pos h hb, if_pos ((bad_iff s pos).1 hb)]
      · rw [vFrom_step s f pos h (by simpa using hb), if_neg (fun hx => hb ((bad_iff s pos).2 hx)), List.drop_drop]
        exact validGo_eq s f (pos + wd s pos)
    · have hl : s.data.toList.drop pos = [] := List.drop_eq_nil_of_le (by rw [← Lib.size_eq]; omega)
      rw [Lib.validGoD, if_pos hl, vFrom_end s _ pos h]
theorem validD_eq (s : ByteArray) : Lib.validD s.data.toList = valid s := by
  have := validGo_eq s s.data.toList.length 0
  rw [List.drop_zero] at this
  unfold Lib.validD valid
  rw [this, Lib.size_eq]

/-! ### where an item begins -/
def bg (s : ByteArray) : Nat → Nat → Nat → Nat
  | 0, pos, _ => pos
  | f + 1, pos, i => if i < pos + wd s pos then pos else bg s f (pos + wd s pos) i
def bgn (s : ByteArray) (i : Nat) : Nat := bg s s.size 0 i
theorem bg_stop (s : ByteArray) (f pos i : Nat) (h : i < pos + wd s pos) : bg s (f + 1) pos i = pos := by simp only [bg, if_pos h]
theorem bg_step (s : ByteArray) (f pos i : Nat) (h : ¬ i < pos + wd s pos) : bg s (f + 1) pos i = bg s f (pos + wd s pos) i := by simp only [bg, if_neg h]
theorem bg_has (s : ByteArray) : ∀ f pos i, pos ≤ i → i < s.size → s.size ≤ pos + f → pos ≤ bg s f pos i ∧ bg s f pos i ≤ i ∧ i < bg s f pos i + wd s (bg s f pos i)
  | 0, pos, i, h1, h2, h3 => by omega
  | f + 1, pos, i, h1, h2, h3 => by
    by_cases h : i < pos + wd s pos
    · rw [bg_stop s f pos i h]; omega
    · rw [bg_step s f pos i h]
      have hp := wd_pos (s := s) (i := pos) (by omega)
      have := bg_has s f (pos + wd s pos) i (by omega) h2 (by omega)
      omega
theorem bg_uni (s : ByteArray) : ∀ f pos q i, bg s f pos q = q → q ≤ i → i < q + wd s q → bg s f pos i = q
  | 0, pos, q, i, h, _, _ => h
  | f + 1, pos, q, i, h, h1, h2 => by
    by_cases hq : q < pos + wd s pos
    · rw [bg_stop s f pos q hq] at h
      subst h
      exact bg_stop s f pos i h2
    · rw [bg_step s f pos q hq] at h
      rw [bg_step s f pos i (by omega)]
      exact bg_uni s f _ q i h h1 h2
theorem bgn_has (s : ByteArray) (i : Nat) (h : i < s.size) : bgn s i ≤ i ∧ i < bgn s i + wd s (bgn s i) := (bg_has s s.size 0 i (Nat.zero_le _) h (by omega)).2

set_option maxRecDepth 100000 in
set_option maxHeartbeats 2000000 in
theorem dn_inner (n b0 b1 b2 b3 : Nat) : (2 ≤ (Lib.decodeN n b0 b1 b2 b3).2 → b1 / 64 = 2) ∧ (3 ≤ (Lib.decodeN n b0 b1 b2 b3).2 → b2 / 64 = 2) ∧ (4 ≤ (Lib.decodeN n b0 b1 b2 b3).2 → b3 / 64 = 2) := by
  unfold Lib.decodeN
  repeat' split
  all_goals (refine ⟨?_, ?_, ?_⟩ <;> intro <;> (try simp only at *) <;> omega)
/-- a byte within an item, behind its first one, goes on with a character -/
theorem inner (s : ByteArray) (p q : Nat) (hp : p < s.size) (h1 : p < q) (h2 : q < p + wd s p) : (s.get! q).toNat / 64 = 2 := by
  have h4 := (facts s p hp).2.1
  have hd := dn_inner (s.size - p) (s.get! p).toNat (s.get! (p + 1)).toNat (s.get! (p + 2)).toNat (s.get! (p + 3)).toNat
  rw [← wd_eq] at hd
  obtain ⟨k, rfl⟩ : ∃ k, q = p + k := ⟨q - p, by omega⟩
  have hk : k = 1 ∨ k = 2 ∨ k = 3 := by omega
  rcases hk with rfl | rfl | rfl
  · exact hd.1 (by omega)
  · exact hd.2.1 (by omega)
  · exact hd.2.2 (by omega)
theorem cont_bad (s : ByteArray) (q : Nat) (h : (s.get! q).toNat / 64 = 2) : bad s q = true := by
  rw [bad_iff, ch_eq, wd_eq, Lib.decodeN_cont _ _ _ _ _ h]
  exact ⟨rfl, rfl⟩
/-- a character is begun by the scan, wherever it stands -/
theorem good_start (s : ByteArray) (q : Nat) (hq : q < s.size) (hg : bad s q = false) : bgn s q = q := by
  have hb := bgn_has s q hq
  by_cases h : bgn s q = q
  · exact h
  · have := cont_bad s q (inner s (bgn s q) q (by omega) (by omega) hb.2)
    rw [hg] at this
    cases this
theorem good_bgn (s : ByteArray) (q i : Nat) (hq : q < s.size) (hg : bad s q = false) (h1 : q ≤ i) (h2 : i < q + wd s q) : bgn s i = q :=
  bg_uni s s.size 0 q i (good_start s q hq hg) h1 h2
theorem bgn_self (s : ByteArray) (i : Nat) (hi : i < s.size) (h : ∀ q, i ≤ q + 3 → q < i → ¬ (bad s q = false ∧ i < q + wd s q)) : bgn s i = i := by
  have hb := bgn_has s i hi
  by_cases hx : bgn s i = i
  · exact hx
  · have h4 := (facts s (bgn s i) (by omega)).2.1
    exact absurd ⟨good_of_wd (by omega), hb.2⟩ (h (bgn s i) (by omega) (by omega))
end Go.Proofs.Yteccfoiegjhppaa.U
