/- Plain arithmetic of reading a JSON string: its bytes, piece by piece. Conditions: none. -/
import Derived.Test.YtbdpghmpdghnbaaDoorMJ01
import Derived.Test.YtbdpghmpdghnbaaDoorMJ12
import Derived.Laws.Cover4
namespace Go.Proofs.YtbdpghmpdghnbaaDoor.J
open Go

theorem es_lt {s : ByteArray} {p : Nat} (h : (es s p).2.2 = 0) : p < (es s p).2.1 := by
  unfold es at *
  split
  · exact Nat.lt_succ_self _
  · split
    · rename_i hi
      have h1 := (of_is hi).2.1
      have := (hxF_le (s := s) 4 (p + 1) 0 h1).1
      omega
    · rename_i h0 hi
      rw [h0] at h
      simp only [if_neg hi] at h
      cases h
/-- the sign for what is no character -/
def fffd : ByteArray := ⟨#[239, 191, 189]⟩
/-- a first half that stands alone gives way -/
def fl (out : ByteArray) (high : Nat) : ByteArray := if 0 < high then out ++ fffd else out
/-- how many bytes a first half may still ask -/
def pd (high : Nat) : Nat := if 0 < high then 3 else 0
/-- one piece is added: a unit, or (-1) bytes as they stand -/
def ad (out : ByteArray) (high : Nat) (u : Int) (more : ByteArray) : ByteArray × Nat :=
  if 0 < high ∧ 56320 ≤ u ∧ u ≤ 57343 then (out ++ Utf8.encode (65536 + ((high : Int) - 55296) * 1024 + u - 56320), 0)
  else if u < 0 then (fl out high ++ more, 0)
  else if 55296 ≤ u ∧ u ≤ 56319 then (fl out high, u.toNat)
  else if 56320 ≤ u ∧ u ≤ 57343 then (fl out high ++ fffd, 0)
  else (fl out high ++ Utf8.encode u, 0)
theorem fl_size (out : ByteArray) (high : Nat) : (fl out high).size = out.size + pd high := by
  unfold fl pd
  split
  · rw [ByteArray.size_append]; rfl
  · rfl
theorem ad_size (out : ByteArray) (high : Nat) (u : Int) (more : ByteArray) (d : Nat) (hm : u < 0 → more.size ≤ 3 * d) (hd : ¬ u < 0 → 2 ≤ d) :
    (ad out high u more).1.size + pd (ad out high u more).2 ≤ out.size + pd high + 3 * d := by
  have hf := fl_size out high
  unfold ad
  split
  · rename_i h
    have h1 := encode_size_le (65536 + ((high : Int) - 55296) * 1024 + u - 56320)
    have h2 := hd (by omega)
    have h3 : pd 0 = 0 := rfl
    simp only [ByteArray.size_append]
    omega
  · split
    · rename_i h
      have h1 := hm h
      have h3 : pd 0 = 0 := rfl
      simp only [ByteArray.size_append]
      omega
    · rename_i h
      have h2 := hd h
      split
      · have h3 : pd u.toNat ≤ 3 := by unfold pd; split <;> omega
        simp only []
        omega
      · split
        · have h3 : pd 0 = 0 := rfl
          have h4 : fffd.size = 3 := rfl
          simp only [ByteArray.size_append]
          omega
        · have h3 : pd 0 = 0 := rfl
          have h4 := encode_size_le u
          simp only [ByteArray.size_append]
          omega
theorem ad_high (out : ByteArray) (high : Nat) (u : Int) (more : ByteArray) (hu : u < 65536) : (ad out high u more).2 < 65536 := by
  have z : (0 : Nat) < 65536 := by decide
  unfold ad
  split
  · exact z
  · split
    · exact z
    · split
      · simp only []; omega
      · split <;> exact z
/-- the piece that stands there, a backslash's or a character's: its unit, its bytes, the place behind it, what is wrong -/
def ck (s : ByteArray) (q : Nat) : Int × ByteArray × Nat × Nat :=
  if (s.get! q).toNat = 92 then (((es s (q + 1)).1 : Nat), ⟨#[]⟩, (es s (q + 1)).2.1, (es s (q + 1)).2.2)
  else (-1, s.extract q (q + U.wd s q), q + U.wd s q, 0)
/-- the bytes of a string, behind its first sign: the string, the place behind it, what is wrong -/
def tx (s : ByteArray) : Nat → Nat → ByteArray → Nat → ByteArray × Nat × Nat
  | 0, q, _, _ => (⟨#[]⟩, q, 30)
  | f + 1, q, out, high =>
    if ¬ (q < s.size ∧ 32 ≤ (s.get! q).toNat) then (⟨#[]⟩, q, 30)
    else if (s.get! q).toNat = 34 then (fl out high, q + 1, 0)
    else if ¬ (s.get! q).toNat = 92 ∧ U.bad s q = true then (⟨#[]⟩, q, 30)
    else if (ck s q).2.2.2 = 0 then tx s f (ck s q).2.2.1 (ad out high (ck s q).1 (ck s q).2.1).1 (ad out high (ck s q).1 (ck s q).2.1).2
    else (⟨#[]⟩, (ck s q).2.2.1, (ck s q).2.2.2)
/-- a whole string -/
def tw (s : ByteArray) (p : Nat) : ByteArray × Nat × Nat := if is s p 0 34 = true then tx s (s.size - p) (p + 1) ⟨#[]⟩ 0 else (⟨#[]⟩, p, 30)
theorem tx_low {s : ByteArray} {f q : Nat} {out : ByteArray} {high : Nat} (h : ¬ (q < s.size ∧ 32 ≤ (s.get! q).toNat)) : tx s (f + 1) q out high = (⟨#[]⟩, q, 30) := by
  unfold tx; rw [if_pos h]
theorem tx_end {s : ByteArray} {f q : Nat} {out : ByteArray} {high : Nat} (h : q < s.size) (h34 : (s.get! q).toNat = 34) : tx s (f + 1) q out high = (fl out high, q + 1, 0) := by
  unfold tx; rw [if_neg (fun x => x ⟨h, by omega⟩), if_pos h34]
theorem tx_bad {s : ByteArray} {f q : Nat} {out : ByteArray} {high : Nat} (h : q < s.size) (h32 : 32 ≤ (s.get! q).toNat) (h34 : ¬ (s.get! q).toNat = 34) (h92 : ¬ (s.get! q).toNat = 92) (hb : U.bad s q = true) :
    tx s (f + 1) q out high = (⟨#[]⟩, q, 30) := by
  unfold tx; rw [if_neg (fun x => x ⟨h, h32⟩), if_neg h34, if_pos ⟨h92, hb⟩]
theorem tx_go {s : ByteArray} {f q : Nat} {out : ByteArray} {high : Nat} (h : q < s.size) (h32 : 32 ≤ (s.get! q).toNat) (h34 : ¬ (s.get! q).toNat = 34) (hb : ¬ (s.get! q).toNat = 92 → U.bad s q = false) :
    tx s (f + 1) q out high = if (ck s q).2.2.2 = 0 then tx s f (ck s q).2.2.1 (ad out high (ck s q).1 (ck s q).2.1).1 (ad out high (ck s q).1 (ck s q).2.1).2 else (⟨#[]⟩, (ck s q).2.2.1, (ck s q).2.2.2) := by
  conv => lhs; unfold tx
  rw [if_neg (fun x => x ⟨h, h32⟩), if_neg h34, if_neg (fun x => by rw [hb x.1] at x; cases x.2)]
/-- what a piece is sure to be -/
theorem ck_facts {s : ByteArray} {q : Nat} (h : q < s.size) : -1 ≤ (ck s q).1 ∧ (ck s q).1 < 65536 ∧ q < (ck s q).2.2.1 ∧ (ck s q).2.2.1 ≤ s.size ∧
    ((ck s q).1 < 0 → (ck s q).2.1.size ≤ 3 * ((ck s q).2.2.1 - q)) ∧ ((ck s q).2.2.2 = 0 → ¬ (ck s q).1 < 0 → 2 ≤ (ck s q).2.2.1 - q) := by
  unfold ck
  split
  · have h1 := es_num (s := s) (p := q + 1)
    have h2 := es_le (s := s) (p := q + 1) h
    have h3 := es_lt (s := s) (p := q + 1)
    refine ⟨?_, ?_, ?_, ?_, ?_, ?_⟩
    · simp only []; omega
    · simp only []; omega
    · simp only []; omega
    · exact h2.2
    · simp only []; omega
    · simp only []
      intro he _
      have := h3 he
      omega
  · have h1 := U.facts s q h
    refine ⟨(by decide : (-1 : Int) ≤ -1), (by decide : (-1 : Int) < 65536), ?_, ?_, ?_, ?_⟩
    · simp only []; omega
    · simp only []; omega
    · simp only [ByteArray.size_extract]; omega
    · intro _ h; exact absurd (by decide : (-1 : Int) < 0) h
end Go.Proofs.YtbdpghmpdghnbaaDoor.J
