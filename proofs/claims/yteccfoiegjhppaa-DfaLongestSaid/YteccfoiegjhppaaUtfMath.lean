/- Plain arithmetic of UTF-8: what a scan of a string has at an offset, its units, and where the scan stands. Conditions: none. -/
import Derived.Lib.DecodeN
import Derived.Lib.RuneCount
namespace Go.Proofs.Yteccfoiegjhppaa.U
open Go

def wd (s : ByteArray) (i : Nat) : Nat := (Utf8.decode s i).2
def ch (s : ByteArray) (i : Nat) : Nat := (Utf8.decode s i).1
def bad (s : ByteArray) (i : Nat) : Bool := decide (ch s i = 65533 ∧ wd s i = 1)
def un (s : ByteArray) (i : Nat) : Nat := if 65536 ≤ ch s i then 2 else 1
/-- what Next answers at an offset within the string -/
def nr (s : ByteArray) (i : Nat) : Int := if bad s i = true then 0 else (ch s i : Int)
def nk (s : ByteArray) (i : Nat) : Int := if bad s i = true then 0 else (wd s i : Int)
def nb (s : ByteArray) (i : Nat) : Bool := !bad s i

set_option maxRecDepth 100000 in
set_option maxHeartbeats 2000000 in
theorem dn_facts (n b0 b1 b2 b3 : Nat) (hn : 1 ≤ n) (h0 : b0 < 256) : 1 ≤ (Lib.decodeN n b0 b1 b2 b3).2 ∧ (Lib.decodeN n b0 b1 b2 b3).2 ≤ 4 ∧ (Lib.decodeN n b0 b1 b2 b3).2 ≤ n ∧ (65536 ≤ (Lib.decodeN n b0 b1 b2 b3).1 → (Lib.decodeN n b0 b1 b2 b3).2 = 4) ∧ ((Lib.decodeN n b0 b1 b2 b3).2 = 4 → 65536 ≤ (Lib.decodeN n b0 b1 b2 b3).1) ∧ (Lib.decodeN n b0 b1 b2 b3).1 ≤ 1114111 := by
  unfold Lib.decodeN
  repeat' split
  all_goals (refine ⟨?_, ?_, ?_, ?_, ?_, ?_⟩ <;> (try intro) <;> simp only at * <;> omega)

theorem facts (s : ByteArray) (i : Nat) (h : i < s.size) : 1 ≤ wd s i ∧ wd s i ≤ 4 ∧ i + wd s i ≤ s.size ∧ (65536 ≤ ch s i → wd s i = 4) ∧ (wd s i = 4 → 65536 ≤ ch s i) ∧ ch s i ≤ 1114111 := by
  have := dn_facts (s.size - i) (s.get! i).toNat (s.get! (i + 1)).toNat (s.get! (i + 2)).toNat (s.get! (i + 3)).toNat (by omega) (s.get! i).toNat_lt
  unfold wd ch
  rw [Lib.decode_at]
  omega
theorem wd_pos {s : ByteArray} {i : Nat} (h : i < s.size) : 1 ≤ wd s i := (facts s i h).1
theorem wd_le {s : ByteArray} {i : Nat} (h : i < s.size) : i + wd s i ≤ s.size := (facts s i h).2.2.1
theorem un_le {s : ByteArray} {i : Nat} (h : i < s.size) : 1 ≤ un s i ∧ un s i ≤ wd s i ∧ un s i ≤ 2 := by
  have := facts s i h
  unfold un
  split <;> omega
theorem bad_un {s : ByteArray} {i : Nat} (h : bad s i = true) : un s i = 1 ∧ wd s i = 1 := by
  unfold bad at h
  have h := of_decide_eq_true h
  unfold un
  rw [h.1]
  exact ⟨rfl, h.2⟩

def unitsFrom (s : ByteArray) : Nat → Nat → Nat
  | 0, _ => 0
  | f + 1, pos => if pos < s.size then un s pos + unitsFrom s f (pos + wd s pos) else 0
def units (s : ByteArray) : Nat := unitsFrom s s.size 0
theorem unitsFrom_end (s : ByteArray) (f pos : Nat) (h : ¬ pos < s.size) : unitsFrom s f pos = 0 := by
  cases f <;> simp [unitsFrom, h]
theorem unitsFrom_step (s : ByteArray) (f pos : Nat) (h : pos < s.size) : unitsFrom s (f + 1) pos = un s pos + unitsFrom s f (pos + wd s pos) := by
  simp [unitsFrom, h]
theorem unitsFrom_le (s : ByteArray) : ∀ f pos, pos ≤ s.size → pos + unitsFrom s f pos ≤ s.size
  | 0, pos, h => by simp [unitsFrom, h]
  | f + 1, pos, h => by
    by_cases hp : pos < s.size
    · rw [unitsFrom_step s f pos hp]
      have := unitsFrom_le s f (pos + wd s pos) (wd_le hp)
      have := un_le hp
      omega
    · rw [unitsFrom_end s _ pos hp]; omega
theorem units_le (s : ByteArray) : units s ≤ s.size := by have := unitsFrom_le s s.size 0 (Nat.zero_le _); unfold units; omega

def cutFrom (s : ByteArray) (u : Int) : Nat → Nat → Nat → Nat
  | 0, pos, _ => pos
  | f + 1, pos, n => if pos < s.size then (if u < ((n + un s pos : Nat) : Int) then pos else cutFrom s u f (pos + wd s pos) (n + un s pos)) else pos
def cut (s : ByteArray) (u : Int) : Nat := cutFrom s u s.size 0 0
theorem cutFrom_end (s : ByteArray) (u : Int) (f pos n : Nat) (h : ¬ pos < s.size) : cutFrom s u f pos n = pos := by
  cases f <;> simp [cutFrom, h]
theorem cutFrom_stop (s : ByteArray) (u : Int) (f pos n : Nat) (h : pos < s.size) (hu : u < ((n + un s pos : Nat) : Int)) : cutFrom s u (f + 1) pos n = pos := by
  simp only [cutFrom, if_pos h, if_pos hu]
theorem cutFrom_step (s : ByteArray) (u : Int) (f pos n : Nat) (h : pos < s.size) (hu : ¬ u < ((n + un s pos : Nat) : Int)) : cutFrom s u (f + 1) pos n = cutFrom s u f (pos + wd s pos) (n + un s pos) := by
  simp only [cutFrom, if_pos h, if_neg hu]
/-! ### the document's Next, class by class -/
theorem at_get {s : ByteArray} {i : Nat} (h : i < s.size) : s.get! i = s[i] := get_at s i h
theorem at_byte {s : ByteArray} {i : Nat} (h : i < s.size) : s[i].toNat = (s.get! i).toNat := by rw [at_get h]

def part (s : ByteArray) (i n0 : Nat) : Nat → Nat
  | 0 => n0
  | k + 1 => part s i n0 k * 64 + ((s.get! (i + (k + 1))).toNat % 64)
theorem part_0 (s : ByteArray) (i n0 : Nat) : part s i n0 0 = n0 := rfl
theorem part_1 (s : ByteArray) (i n0 : Nat) : part s i n0 1 = n0 * 64 + (s.get! (i + 1)).toNat % 64 := rfl
theorem part_2 (s : ByteArray) (i n0 : Nat) : part s i n0 2 = (n0 * 64 + (s.get! (i + 1)).toNat % 64) * 64 + (s.get! (i + 2)).toNat % 64 := rfl
theorem part_3 (s : ByteArray) (i n0 : Nat) : part s i n0 3 = ((n0 * 64 + (s.get! (i + 1)).toNat % 64) * 64 + (s.get! (i + 2)).toNat % 64) * 64 + (s.get! (i + 3)).toNat % 64 := rfl
theorem part_lt (s : ByteArray) (i n0 : Nat) (h : n0 < 32) : ∀ k, k ≤ 3 → part s i n0 k < 8388608
  | 0, _ => by rw [part_0]; omega
  | 1, _ => by rw [part_1]; omega
  | 2, _ => by rw [part_2]; omega
  | 3, _ => by rw [part_3]; omega
  | k + 4, h => by omega
/-- the class of a lead byte: how many bytes, and its payload -/
def Lead (b sz n0 : Nat) : Prop := (192 ≤ b ∧ b < 224 ∧ sz = 2 ∧ n0 = b - 192) ∨ (224 ≤ b ∧ b < 240 ∧ sz = 3 ∧ n0 = b - 224) ∨ (240 ≤ b ∧ b < 248 ∧ sz = 4 ∧ n0 = b - 240)
def least (sz : Nat) : Nat := if sz = 2 then 128 else if sz = 3 then 2048 else 65536

theorem bad_iff (s : ByteArray) (i : Nat) : bad s i = true ↔ (ch s i = 65533 ∧ wd s i = 1) := by unfold bad; simp
theorem ch_eq (s : ByteArray) (i : Nat) : ch s i = (Lib.decodeN (s.size - i) (s.get! i).toNat (s.get! (i + 1)).toNat (s.get! (i + 2)).toNat (s.get! (i + 3)).toNat).1 := by unfold ch; rw [Lib.decode_at]
theorem wd_eq (s : ByteArray) (i : Nat) : wd s i = (Lib.decodeN (s.size - i) (s.get! i).toNat (s.get! (i + 1)).toNat (s.get! (i + 2)).toNat (s.get! (i + 3)).toNat).2 := by unfold wd; rw [Lib.decode_at]

theorem next_ascii (s : ByteArray) (i : Nat) (h : (s.get! i).toNat < 128) : ch s i = (s.get! i).toNat ∧ wd s i = 1 ∧ bad s i = false := by
  have a : ch s i = (s.get! i).toNat := by rw [ch_eq]; unfold Lib.decodeN; rw [if_pos h]
  have b : wd s i = 1 := by rw [wd_eq]; unfold Lib.decodeN; rw [if_pos h]
  refine ⟨a, b, ?_⟩
  unfold bad
  rw [a]
  exact decide_eq_false (by omega)
theorem next_lone (s : ByteArray) (i : Nat) (h : 128 ≤ (s.get! i).toNat ∧ (s.get! i).toNat < 192 ∨ 248 ≤ (s.get! i).toNat) : bad s i = true := by
  have h0 := (s.get! i).toNat_lt
  rw [bad_iff, ch_eq, wd_eq]
  unfold Lib.decodeN
  rw [if_neg (by omega), if_neg (by omega), if_neg (by omega), if_neg (by omega)]
  exact ⟨rfl, rfl⟩
set_option maxRecDepth 100000 in
theorem next_short (s : ByteArray) (i sz n0 : Nat) (hl : Lead (s.get! i).toNat sz n0) (hi : i < s.size) (h : s.size < i + sz) : bad s i = true := by
  rw [bad_iff, ch_eq, wd_eq]
  unfold Lib.decodeN
  rcases hl with ⟨h1, h2, rfl, rfl⟩ | ⟨h1, h2, rfl, rfl⟩ | ⟨h1, h2, rfl, rfl⟩ <;>
  · rw [if_neg (by omega), if_neg (by omega), if_neg (by omega), if_neg (by omega)]
    exact ⟨rfl, rfl⟩
set_option maxRecDepth 100000 in
theorem next_broken (s : ByteArray) (i sz n0 k : Nat) (hl : Lead (s.get! i).toNat sz n0) (hk : 1 ≤ k ∧ k < sz) (h : (s.get! (i + k)).toNat < 128 ∨ 192 ≤ (s.get! (i + k)).toNat) : bad s i = true := by
  rw [bad_iff, ch_eq, wd_eq]
  unfold Lib.decodeN
  have hlt := (s.get! (i + k)).toNat_lt
  have hk' : k = 1 ∨ k = 2 ∨ k = 3 := by rcases hl with ⟨_, _, rfl, _⟩ | ⟨_, _, rfl, _⟩ | ⟨_, _, rfl, _⟩ <;> omega
  rcases hk' with rfl | rfl | rfl <;> rcases hl with ⟨h1, h2, rfl, rfl⟩ | ⟨h1, h2, rfl, rfl⟩ | ⟨h1, h2, rfl, rfl⟩ <;> first | (exfalso; omega) | skip
  all_goals
    rw [if_neg (by omega), if_neg (by omega), if_neg (by omega), if_neg (by omega)]
    exact ⟨rfl, rfl⟩
set_option maxRecDepth 100000 in
set_option maxHeartbeats 2000000 in
theorem next_whole (s : ByteArray) (i sz n0 : Nat) (hl : Lead (s.get! i).toNat sz n0) (h : i + sz ≤ s.size) (hc : ∀ k, 1 ≤ k → k < sz → 128 ≤ (s.get! (i + k)).toNat ∧ (s.get! (i + k)).toNat < 192) :
    (bad s i = true ∧ (part s i n0 (sz - 1) < least sz ∨ 1114111 < part s i n0 (sz - 1) ∨ (55296 ≤ part s i n0 (sz - 1) ∧ part s i n0 (sz - 1) < 57344))) ∨
    (bad s i = false ∧ ch s i = part s i n0 (sz - 1) ∧ wd s i = sz ∧ least sz ≤ part s i n0 (sz - 1) ∧ part s i n0 (sz - 1) ≤ 1114111 ∧ (part s i n0 (sz - 1) < 55296 ∨ 57344 ≤ part s i n0 (sz - 1))) := by
  have hf : bad s i = false ↔ ¬ (ch s i = 65533 ∧ wd s i = 1) := by rw [← bad_iff]; simp
  rw [bad_iff, hf, ch_eq, wd_eq]
  clear hf
  unfold Lib.decodeN
  rcases hl with ⟨h1, h2, rfl, rfl⟩ | ⟨h1, h2, rfl, rfl⟩ | ⟨h1, h2, rfl, rfl⟩
  · have c1 := hc 1 (by omega) (by omega)
    rw [show 2 - 1 = 1 from rfl, part_1, show least 2 = 128 from rfl]
    rw [if_neg (by omega), if_pos (by omega)]
    split
    · refine Or.inr ⟨fun hx => ?_, ?_, rfl, ?_, ?_, ?_⟩ <;> (try simp only at *) <;> omega
    · refine Or.inl ⟨⟨rfl, rfl⟩, ?_⟩
      omega
  · have c1 := hc 1 (by omega) (by omega)
    have c2 := hc 2 (by omega) (by omega)
    rw [show 3 - 1 = 2 from rfl, part_2, show least 3 = 2048 from rfl]
    rw [if_neg (by omega), if_neg (by omega), if_pos (by omega)]
    split
    · refine Or.inr ⟨fun hx => ?_, ?_, rfl, ?_, ?_, ?_⟩ <;> (try simp only at *) <;> omega
    · refine Or.inl ⟨⟨rfl, rfl⟩, ?_⟩
      omega
  · have c1 := hc 1 (by omega) (by omega)
    have c2 := hc 2 (by omega) (by omega)
    have c3 := hc 3 (by omega) (by omega)
    rw [show 4 - 1 = 3 from rfl, part_3, show least 4 = 65536 from rfl]
    rw [if_neg (by omega), if_neg (by omega), if_neg (by omega), if_pos (by omega)]
    split
    · refine Or.inr ⟨fun hx => ?_, ?_, rfl, ?_, ?_, ?_⟩ <;> (try simp only at *) <;> omega
    · refine Or.inl ⟨⟨rfl, rfl⟩, ?_⟩
      omega
end Go.Proofs.Yteccfoiegjhppaa.U
