/- Plain arithmetic of UTF-8: what a scan of a string has at an offset, its units, and where the scan stands. Conditions: none. -/
import Derived.Lib.DecodeN
import Derived.Lib.RuneCount
import Derived.Lib.TrimUEq
import Derived.Lib.ValidU
import Derived.Lib.ValidAsc
import Derived.Lib.RuneBytes
import Derived.Lib.AppendStr
namespace Go.Proofs.YtbdpghmpdghnbaaDoor.U
open Go

def wd (s : ByteArray) (i : Nat) : Nat := (Utf8.decode s i).2
def ch (s : ByteArray) (i : Nat) : Nat := (Utf8.decode s i).1
def bad (s : ByteArray) (i : Nat) : Bool := decide (ch s i = 65533 ∧ wd s i = 1)
def un (s : ByteArray) (i : Nat) : Nat := if 65536 ≤ ch s i then 2 else 1
/-- what Next answers at an offset within the string -/
def nr (s : ByteArray) (i : Nat) : Int := if bad s i = true then 0 else (ch s i : Int)
def nk (s : ByteArray) (i : Nat) : Int := if bad s i = true then 0 else (wd s i : Int)
def nb (s : ByteArray) (i : Nat) : Bool := !bad s i

set_option maxRecDepth 100000 in
set_option maxHeartbeats 2000000 in
theorem dn_facts (n b0 b1 b2 b3 : Nat) (hn : 1 ≤ n) (h0 : b0 < 256) : 1 ≤ (Lib.decodeN n b0 b1 b2 b3).2 ∧ (Lib.decodeN n b0 b1 b2 b3).2 ≤ 4 ∧ (Lib.decodeN n b0 b1 b2 b3).2 ≤ n ∧ (65536 ≤ (Lib.decodeN n b0 b1 b2 b3).1 → (Lib.decodeN n b0 b1 b2 b3).2 = 4) ∧ ((Lib.decodeN n b0 b1 b2 b3).2 = 4 → 65536 ≤ (Lib.decodeN n b0 b1 b2 b3).1) ∧ (Lib.decodeN n b0 b1 b2 b3).1 ≤ 1114111 := by
  unfold Lib.decodeN
  repeat' split
  all_goals (refine ⟨?_, ?_, ?_, ?_, ?_, ?_⟩ <;> (try intro) <;> simp only at * <;> omega)

theorem facts (s : ByteArray) (i : Nat) (h : i < s.size) : 1 ≤ wd s i ∧ wd s i ≤ 4 ∧ i + wd s i ≤ s.size ∧ (65536 ≤ ch s i → wd s i = 4) ∧ (wd s i = 4 → 65536 ≤ ch s i) ∧ ch s i ≤ 1114111 := by
  have := dn_facts (s.size - i) (s.get! i).toNat (s.get! (i + 1)).toNat (s.get! (i + 2)).toNat (s.get! (i + 3)).toNat (by omega) (s.get! i).toNat_lt
  unfold wd ch
  rw [Lib.decode_at]
  omega
theorem wd_pos {s : ByteArray} {i : Nat} (h : i < s.size) : 1 ≤ wd s i := (facts s i h).1
theorem wd_le {s : ByteArray} {i : Nat} (h : i < s.size) : i + wd s i ≤ s.size := (facts s i h).2.2.1
theorem un_le {s : ByteArray} {i : Nat} (h : i < s.size) : 1 ≤ un s i ∧ un s i ≤ wd s i ∧ un s i ≤ 2 := by
  have := facts s i h
  unfold un
  split <;> omega
theorem bad_un {s : ByteArray} {i : Nat} (h : bad s i = true) : un s i = 1 ∧ wd s i = 1 := by
  unfold bad at h
  have h := of_decide_eq_true h
  unfold un
  rw [h.1]
  exact ⟨rfl, h.2⟩

def unitsFrom (s : ByteArray) : Nat → Nat → Nat
  | 0, _ => 0
  | f + 1, pos => if pos < s.size then un s pos + unitsFrom s f (pos + wd s pos) else 0
def units (s : ByteArray) : Nat := unitsFrom s s.size 0
theorem unitsFrom_end (s : ByteArray) (f pos : Nat) (h : ¬ pos < s.size) : unitsFrom s f pos = 0 := by
  cases f <;> simp [unitsFrom, h]
theorem unitsFrom_step (s : ByteArray) (f pos : Nat) (h : pos < s.size) : unitsFrom s (f + 1) pos = un s pos + unitsFrom s f (pos + wd s pos) := by
  simp [unitsFrom, h]
theorem unitsFrom_le (s : ByteArray) : ∀ f pos, pos ≤ s.size → pos + unitsFrom s f pos ≤ s.size
  | 0, pos, h => by simp [unitsFrom, h]
  | f + 1, pos, h => by
    by_cases hp : pos < s.size
    · rw [unitsFrom_step s f pos hp]
      have := unitsFrom_le s f (pos + wd s pos) (wd_le hp)
      have := un_le hp
      omega
    · rw [unitsFrom_end s _ pos hp]; omega
theorem units_le (s : ByteArray) : units s ≤ s.size := by have := unitsFrom_le s s.size 0 (Nat.zero_le _); unfold units; omega

def cutFrom (s : ByteArray) (u : Int) : Nat → Nat → Nat → Nat
  | 0, pos, _ => pos
  | f + 1, pos, n => if pos < s.size then (if u < ((n + un s pos : Nat) : Int) then pos else cutFrom s u f (pos + wd s pos) (n + un s pos)) else pos
def cut (s : ByteArray) (u : Int) : Nat := cutFrom s u s.size 0 0
theorem cutFrom_end (s : ByteArray) (u : Int) (f pos n : Nat) (h : ¬ pos < s.size) : cutFrom s u f pos n = pos := by
  cases f <;> simp [cutFrom, h]
theorem cutFrom_stop (s : ByteArray) (u : Int) (f pos n : Nat) (h : pos < s.size) (hu : u < ((n + un s pos : Nat) : Int)) : cutFrom s u (f + 1) pos n = pos := by
  simp only [cutFrom, if_pos h, if_pos hu]
theorem cutFrom_step (s : ByteArray) (u : Int) (f pos n : Nat) (h : pos < s.size) (hu : ¬ u < ((n + un s pos : Nat) : Int)) : cutFrom s u (f + 1) pos n = cutFrom s u f (pos + wd s pos) (n + un s pos) := by
  simp only [cutFrom, if_pos h, if_neg hu]
/-! ### the document's Next, class by class -/
theorem at_get {s : ByteArray} {i : Nat} (h : i < s.size) : s.get! i = s[i] := get_at s i h
theorem at_byte {s : ByteArray} {i : Nat} (h : i < s.size) : s[i].toNat = (s.get! i).toNat := by rw [at_get h]

def part (s : ByteArray) (i n0 : Nat) : Nat → Nat
  | 0 => n0
  | k + 1 => part s i n0 k * 64 + ((s.get! (i + (k + 1))).toNat % 64)
theorem part_0 (s : ByteArray) (i n0 : Nat) : part s i n0 0 = n0 := rfl
theorem part_1 (s : ByteArray) (i n0 : Nat) : part s i n0 1 = n0 * 64 + (s.get! (i + 1)).toNat % 64 := rfl
theorem part_2 (s : ByteArray) (i n0 : Nat) : part s i n0 2 = (n0 * 64 + (s.get! (i + 1)).toNat % 64) * 64 + (s.get! (i + 2)).toNat % 64 := rfl
theorem part_3 (s : ByteArray) (i n0 : Nat) : part s i n0 3 = ((n0 * 64 + (s.get! (i + 1)).toNat % 64) * 64 + (s.get! (i + 2)).toNat % 64) * 64 + (s.get! (i + 3)).toNat % 64 := rfl
theorem part_lt (s : ByteArray) (i n0 : Nat) (h : n0 < 32) : ∀ k, k ≤ 3 → part s i n0 k < 8388608
  | 0, _ => by rw [part_0]; omega
  | 1, _ => by rw [part_1]; omega
  | 2, _ => by rw [part_2]; omega
  | 3, _ => by rw [part_3]; omega
  | k + 4, h => by omega
/-- the class of a lead byte: how many bytes, and its payload -/
def Lead (b sz n0 : Nat) : Prop := (192 ≤ b ∧ b < 224 ∧ sz = 2 ∧ n0 = b - 192) ∨ (224 ≤ b ∧ b < 240 ∧ sz = 3 ∧ n0 = b - 224) ∨ (240 ≤ b ∧ b < 248 ∧ sz = 4 ∧ n0 = b - 240)
def least (sz : Nat) : Nat := if sz = 2 then 128 else if sz = 3 then 2048 else 65536

theorem bad_iff (s : ByteArray) (i : Nat) : bad s i = true ↔ (ch s i = 65533 ∧ wd s i = 1) := by unfold bad; simp
theorem ch_eq (s : ByteArray) (i : Nat) : ch s i = (Lib.decodeN (s.size - i) (s.get! i).toNat (s.get! (i + 1)).toNat (s.get! (i + 2)).toNat (s.get! (i + 3)).toNat).1 := by unfold ch; rw [Lib.decode_at]
theorem wd_eq (s : ByteArray) (i : Nat) : wd s i = (Lib.decodeN (s.size - i) (s.get! i).toNat (s.get! (i + 1)).toNat (s.get! (i + 2)).toNat (s.get! (i + 3)).toNat).2 := by unfold wd; rw [Lib.decode_at]

theorem next_ascii (s : ByteArray) (i : Nat) (h : (s.get! i).toNat < 128) : ch s i = (s.get! i).toNat ∧ wd s i = 1 ∧ bad s i = false := by
  have a : ch s i = (s.get! i).toNat := by rw [ch_eq]; unfold Lib.decodeN; rw [if_pos h]
  have b : wd s i = 1 := by rw [wd_eq]; unfold Lib.decodeN; rw [if_pos h]
  refine ⟨a, b, ?_⟩
  unfold bad
  rw [a]
  exact decide_eq_false (by omega)
theorem next_lone (s : ByteArray) (i : Nat) (h : 128 ≤ (s.get! i).toNat ∧ (s.get! i).toNat < 192 ∨ 248 ≤ (s.get! i).toNat) : bad s i = true := by
  have h0 := (s.get! i).toNat_lt
  rw [bad_iff, ch_eq, wd_eq]
  unfold Lib.decodeN
  rw [if_neg (by omega), if_neg (by omega), if_neg (by omega), if_neg (by omega)]
  exact ⟨rfl, rfl⟩
set_option maxRecDepth 100000 in
theorem next_short (s : ByteArray) (i sz n0 : Nat) (hl : Lead (s.get! i).toNat sz n0) (hi : i < s.size) (h : s.size < i + sz) : bad s i = true := by
  rw [bad_iff, ch_eq, wd_eq]
  unfold Lib.decodeN
  rcases hl with ⟨h1, h2, rfl, rfl⟩ | ⟨h1, h2, rfl, rfl⟩ | ⟨h1, h2, rfl, rfl⟩ <;>
  · rw [if_neg (by omega), if_neg (by omega), if_neg (by omega), if_neg (by omega)]
    exact ⟨rfl, rfl⟩
set_option maxRecDepth 100000 in
theorem next_broken (s : ByteArray) (i sz n0 k : Nat) (hl : Lead (s.get! i).toNat sz n0) (hk : 1 ≤ k ∧ k < sz) (h : (s.get! (i + k)).toNat < 128 ∨ 192 ≤ (s.get! (i + k)).toNat) : bad s i = true := by
  rw [bad_iff, ch_eq, wd_eq]
  unfold Lib.decodeN
  have hlt := (s.get! (i + k)).toNat_lt
  have hk' : k = 1 ∨ k = 2 ∨ k = 3 := by rcases hl with ⟨_, _, rfl, _⟩ | ⟨_, _, rfl, _⟩ | ⟨_, _, rfl, _⟩ <;> omega
  rcases hk' with rfl | rfl | rfl <;> rcases hl with ⟨h1, h2, rfl, rfl⟩ | ⟨h1, h2, rfl, rfl⟩ | ⟨h1, h2, rfl, rfl⟩ <;> first | (exfalso; omega) | skip
  all_goals
    rw [if_neg (by omega), if_neg (by omega), if_neg (by omega), if_neg (by omega)]
    exact ⟨rfl, rfl⟩
set_option maxRecDepth 100000 in
set_option maxHeartbeats 2000000 in
theorem next_whole (s : ByteArray) (i sz n0 : Nat) (hl : Lead (s.get! i).toNat sz n0) (h : i + sz ≤ s.size) (hc : ∀ k, 1 ≤ k → k < sz → 128 ≤ (s.get! (i + k)).toNat ∧ (s.get! (i + k)).toNat < 192) :
    (bad s i = true ∧ (part s i n0 (sz - 1) < least sz ∨ 1114111 < part s i n0 (sz - 1) ∨ (55296 ≤ part s i n0 (sz - 1) ∧ part s i n0 (sz - 1) < 57344))) ∨
    (bad s i = false ∧ ch s i = part s i n0 (sz - 1) ∧ wd s i = sz ∧ least sz ≤ part s i n0 (sz - 1) ∧ part s i n0 (sz - 1) ≤ 1114111 ∧ (part s i n0 (sz - 1) < 55296 ∨ 57344 ≤ part s i n0 (sz - 1))) := by
  have hf : bad s i = false ↔ ¬ (ch s i = 65533 ∧ wd s i = 1) := by rw [← bad_iff]; simp
  rw [bad_iff, hf, ch_eq, wd_eq]
  clear hf
  unfold Lib.decodeN
  rcases hl with ⟨h1, h2, rfl, rfl⟩ | ⟨h1, h2, rfl, rfl⟩ | ⟨h1, h2, rfl, rfl⟩
  · have c1 := hc 1 (by omega) (by omega)
    rw [show 2 - 1 = 1 from rfl, part_1, show least 2 = 128 from rfl]
    rw [if_neg (by omega), if_pos (by omega)]
    split
    · refine Or.inr ⟨fun hx => ?_, ?_, rfl, ?_, ?_, ?_⟩ <;> (try simp only at *) <;> omega
    · refine Or.inl ⟨⟨rfl, rfl⟩, ?_⟩
      omega
  · have c1 := hc 1 (by omega) (by omega)
    have c2 := hc 2 (by omega) (by omega)
    rw [show 3 - 1 = 2 from rfl, part_2, show least 3 = 2048 from rfl]
    rw [if_neg (by omega), if_neg (by omega), if_pos (by omega)]
    split
    · refine Or.inr ⟨fun hx => ?_, ?_, rfl, ?_, ?_, ?_⟩ <;> (try simp only at *) <;> omega
    · refine Or.inl ⟨⟨rfl, rfl⟩, ?_⟩
      omega
  · have c1 := hc 1 (by omega) (by omega)
    have c2 := hc 2 (by omega) (by omega)
    have c3 := hc 3 (by omega) (by omega)
    rw [show 4 - 1 = 3 from rfl, part_3, show least 4 = 65536 from rfl]
    rw [if_neg (by omega), if_neg (by omega), if_neg (by omega), if_pos (by omega)]
    split
    · refine Or.inr ⟨fun hx => ?_, ?_, rfl, ?_, ?_, ?_⟩ <;> (try simp only at *) <;> omega
    · refine Or.inl ⟨⟨rfl, rfl⟩, ?_⟩
      omega
end Go.Proofs.YtbdpghmpdghnbaaDoor.U

namespace Go.Proofs.YtbdpghmpdghnbaaDoor.U
open Go

theorem bad_wd {s : ByteArray} {i : Nat} (h : bad s i = true) : wd s i = 1 := ((bad_iff s i).1 h).2
theorem good_of_wd {s : ByteArray} {i : Nat} (h : wd s i ≠ 1) : bad s i = false := by
  cases hb : bad s i
  · rfl
  · exact absurd (bad_wd hb) h
theorem ext_decode (s : ByteArray) (k : Nat) : Utf8.decode (s.extract k s.size) 0 = Utf8.decode s k := by
  rw [← Lib.decodeL_drop s k, ← Lib.ext_list s k, ← Lib.decodeL_drop (s.extract k s.size) 0]
  rfl

/-! ### valid -/
def vFrom (s : ByteArray) : Nat → Nat → Bool
  | 0, _ => true
  | f + 1, pos => if pos < s.size then (if bad s pos = true then false else vFrom s f (pos + wd s pos)) else true
def valid (s : ByteArray) : Bool := vFrom s s.size 0
theorem vFrom_end (s : ByteArray) (f pos : Nat) (h : ¬ pos < s.size) : vFrom s f pos = true := by
  cases f <;> simp [vFrom, h]
theorem vFrom_bad (s : ByteArray) (f pos : Nat) (h : pos < s.size) (hb : bad s pos = true) : vFrom s (f + 1) pos = false := by
  simp only [vFrom, if_pos h, if_pos hb]
theorem vFrom_step (s : ByteArray) (f pos : Nat) (h : pos < s.size) (hb : bad s pos = false) : vFrom s (f + 1) pos = vFrom s f (pos + wd s pos) := by
  simp only [vFrom, if_pos h, hb, Bool.false_eq_true, if_false]
theorem validGo_eq (s : ByteArray) : ∀ f pos, Lib.validGoD f (s.data.toList.drop pos) = vFrom s f pos
  | 0, _ => rfl
  | f + 1, pos => by
    by_cases h : pos < s.size
    · have hl : s.data.toList.drop pos ≠ [] := by
        intro hh
        have := congrArg List.length hh
        rw [List.length_drop, ← Lib.size_eq] at this
        simp only [List.length_nil] at this
        omega
      rw [Lib.validGoD, if_neg hl, Lib.decodeL_drop]
      show (if ch s pos = 65533 ∧ wd s pos = 1 then false else Lib.validGoD f (List.drop (wd s pos) (List.drop pos s.data.toList))) = _
      by_cases hb : bad s pos = true
      · rw [vFrom_bad s f pos h hb, if_pos ((bad_iff s pos).1 hb)]
      · rw [vFrom_step s f pos h (by simpa using hb), if_neg (fun hx => hb ((bad_iff s pos).2 hx)), List.drop_drop]
        exact validGo_eq s f (pos + wd s pos)
    · have hl : s.data.toList.drop pos = [] := List.drop_eq_nil_of_le (by rw [← Lib.size_eq]; omega)
      rw [Lib.validGoD, if_pos hl, vFrom_end s _ pos h]
theorem validD_eq (s : ByteArray) : Lib.validD s.data.toList = valid s := by
  have := validGo_eq s s.data.toList.length 0
  rw [List.drop_zero] at this
  unfold Lib.validD valid
  rw [this, Lib.size_eq]

/-! ### where an item begins -/
def bg (s : ByteArray) : Nat → Nat → Nat → Nat
  | 0, pos, _ => pos
  | f + 1, pos, i => if i < pos + wd s pos then pos else bg s f (pos + wd s pos) i
def bgn (s : ByteArray) (i : Nat) : Nat := bg s s.size 0 i
theorem bg_stop (s : ByteArray) (f pos i : Nat) (h : i < pos + wd s pos) : bg s (f + 1) pos i = pos := by simp only [bg, if_pos h]
theorem bg_step (s : ByteArray) (f pos i : Nat) (h : ¬ i < pos + wd s pos) : bg s (f + 1) pos i = bg s f (pos + wd s pos) i := by simp only [bg, if_neg h]
theorem bg_has (s : ByteArray) : ∀ f pos i, pos ≤ i → i < s.size → s.size ≤ pos + f → pos ≤ bg s f pos i ∧ bg s f pos i ≤ i ∧ i < bg s f pos i + wd s (bg s f pos i)
  | 0, pos, i, h1, h2, h3 => by omega
  | f + 1, pos, i, h1, h2, h3 => by
    by_cases h : i < pos + wd s pos
    · rw [bg_stop s f pos i h]; omega
    · rw [bg_step s f pos i h]
      have hp := wd_pos (s := s) (i := pos) (by omega)
      have := bg_has s f (pos + wd s pos) i (by omega) h2 (by omega)
      omega
theorem bg_uni (s : ByteArray) : ∀ f pos q i, bg s f pos q = q → q ≤ i → i < q + wd s q → bg s f pos i = q
  | 0, pos, q, i, h, _, _ => h
  | f + 1, pos, q, i, h, h1, h2 => by
    by_cases hq : q < pos + wd s pos
    · rw [bg_stop s f pos q hq] at h
      subst h
      exact bg_stop s f pos i h2
    · rw [bg_step s f pos q hq] at h
      rw [bg_step s f pos i (by omega)]
      exact bg_uni s f _ q i h h1 h2
theorem bgn_has (s : ByteArray) (i : Nat) (h : i < s.size) : bgn s i ≤ i ∧ i < bgn s i + wd s (bgn s i) := (bg_has s s.size 0 i (Nat.zero_le _) h (by omega)).2

set_option maxRecDepth 100000 in
set_option maxHeartbeats 2000000 in
theorem dn_inner (n b0 b1 b2 b3 : Nat) : (2 ≤ (Lib.decodeN n b0 b1 b2 b3).2 → b1 / 64 = 2) ∧ (3 ≤ (Lib.decodeN n b0 b1 b2 b3).2 → b2 / 64 = 2) ∧ (4 ≤ (Lib.decodeN n b0 b1 b2 b3).2 → b3 / 64 = 2) := by
  unfold Lib.decodeN
  repeat' split
  all_goals (refine ⟨?_, ?_, ?_⟩ <;> intro <;> (try simp only at *) <;> omega)
/-- a byte within an item, behind its first one, goes on with a character -/
theorem inner (s : ByteArray) (p q : Nat) (hp : p < s.size) (h1 : p < q) (h2 : q < p + wd s p) : (s.get! q).toNat / 64 = 2 := by
  have h4 := (facts s p hp).2.1
  have hd := dn_inner (s.size - p) (s.get! p).toNat (s.get! (p + 1)).toNat (s.get! (p + 2)).toNat (s.get! (p + 3)).toNat
  rw [← wd_eq] at hd
  obtain ⟨k, rfl⟩ : ∃ k, q = p + k := ⟨q - p, by omega⟩
  have hk : k = 1 ∨ k = 2 ∨ k = 3 := by omega
  rcases hk with rfl | rfl | rfl
  · exact hd.1 (by omega)
  · exact hd.2.1 (by omega)
  · exact hd.2.2 (by omega)
theorem cont_bad (s : ByteArray) (q : Nat) (h : (s.get! q).toNat / 64 = 2) : bad s q = true := by
  rw [bad_iff, ch_eq, wd_eq, Lib.decodeN_cont _ _ _ _ _ h]
  exact ⟨rfl, rfl⟩
/-- a character is begun by the scan, wherever it stands -/
theorem good_start (s : ByteArray) (q : Nat) (hq : q < s.size) (hg : bad s q = false) : bgn s q = q := by
  have hb := bgn_has s q hq
  by_cases h : bgn s q = q
  · exact h
  · have := cont_bad s q (inner s (bgn s q) q (by omega) (by omega) hb.2)
    rw [hg] at this
    cases this
theorem good_bgn (s : ByteArray) (q i : Nat) (hq : q < s.size) (hg : bad s q = false) (h1 : q ≤ i) (h2 : i < q + wd s q) : bgn s i = q :=
  bg_uni s s.size 0 q i (good_start s q hq hg) h1 h2
theorem bgn_self (s : ByteArray) (i : Nat) (hi : i < s.size) (h : ∀ q, i ≤ q + 3 → q < i → ¬ (bad s q = false ∧ i < q + wd s q)) : bgn s i = i := by
  have hb := bgn_has s i hi
  by_cases hx : bgn s i = i
  · exact hx
  · have h4 := (facts s (bgn s i) (by omega)).2.1
    exact absurd ⟨good_of_wd (by omega), hb.2⟩ (h (bgn s i) (by omega) (by omega))
end Go.Proofs.YtbdpghmpdghnbaaDoor.U

namespace Go.Proofs.YtbdpghmpdghnbaaDoor.U
open Go

/-- the bytes of a stretch of a string -/
def stretch (s : ByteArray) (p n : Nat) : List UInt8 := (List.range n).map fun k => s.get! (p + k)
theorem ext_stretch (s : ByteArray) (p n : Nat) (h : p + n ≤ s.size) : (s.extract p (p + n)).data.toList = stretch s p n := by
  unfold stretch
  apply List.ext_getElem
  · rw [← Lib.size_eq, ByteArray.size_extract, List.length_map, List.length_range]; omega
  · intro k h1 h2
    rw [List.length_map, List.length_range] at h2
    rw [List.getElem_map, List.getElem_range, at_get (show p + k < s.size by omega)]
    simp only [ByteArray.data_extract, Array.getElem_toList, Array.getElem_extract]
    rfl
def piece (s : ByteArray) (p : Nat) : List UInt8 := if bad s p = true then [239, 191, 189] else stretch s p (wd s p)
theorem piece_bad {s : ByteArray} {p : Nat} (h : bad s p = true) : piece s p = [239, 191, 189] := by unfold piece; rw [if_pos h]
theorem piece_good {s : ByteArray} {p : Nat} (h : bad s p = false) : piece s p = stretch s p (wd s p) := by unfold piece; rw [if_neg (by rw [h]; exact Bool.false_ne_true)]
theorem piece_le {s : ByteArray} {p : Nat} (h : p < s.size) : (piece s p).length ≤ 3 * wd s p ∧ 1 ≤ (piece s p).length ∧ (piece s p).length ≤ 4 := by
  have hf := facts s p h
  cases hb : bad s p
  · rw [piece_good hb]; unfold stretch; rw [List.length_map, List.length_range]; omega
  · rw [piece_bad hb, bad_wd hb]; simp
def cellsOf (l : List UInt8) : List Value := l.map fun b => Value.int .u8 b.toNat
theorem cellsOf_append (a b : List UInt8) : cellsOf a ++ cellsOf b = cellsOf (a ++ b) := by unfold cellsOf; rw [List.map_append]
theorem cellsOf_length (a : List UInt8) : (cellsOf a).length = a.length := by unfold cellsOf; rw [List.length_map]
theorem strCells_ext (s : ByteArray) (p n : Nat) (h : p + n ≤ s.size) : Lib.strCells (s.extract p (p + n)) = cellsOf (stretch s p n) := by
  unfold Lib.strCells cellsOf
  rw [ext_stretch s p n h]

set_option maxRecDepth 100000 in
set_option maxHeartbeats 2000000 in
theorem dn_enc (n b0 b1 b2 b3 : Nat) (h0 : b0 < 256) (h1 : b1 < 256) (h2 : b2 < 256) (_h3 : b3 < 256) :
    (Lib.decodeN n b0 b1 b2 b3 = (65533, 1)) ∨
    ((Lib.decodeN n b0 b1 b2 b3).2 = 1 ∧ Lib.encodeRuneZ ((Lib.decodeN n b0 b1 b2 b3).1 : Nat) = [(b0 : Int)]) ∨
    ((Lib.decodeN n b0 b1 b2 b3).2 = 2 ∧ Lib.encodeRuneZ ((Lib.decodeN n b0 b1 b2 b3).1 : Nat) = [(b0 : Int), (b1 : Int)]) ∨
    ((Lib.decodeN n b0 b1 b2 b3).2 = 3 ∧ Lib.encodeRuneZ ((Lib.decodeN n b0 b1 b2 b3).1 : Nat) = [(b0 : Int), (b1 : Int), (b2 : Int)]) ∨
    ((Lib.decodeN n b0 b1 b2 b3).2 = 4 ∧ Lib.encodeRuneZ ((Lib.decodeN n b0 b1 b2 b3).1 : Nat) = [(b0 : Int), (b1 : Int), (b2 : Int), (b3 : Int)]) := by
  unfold Lib.decodeN
  split
  · right; left
    refine ⟨rfl, ?_⟩
    rw [Lib.encodeRuneZ_one (by omega) (by simp only; omega)]
  split
  · split
    · right; right; left
      refine ⟨rfl, ?_⟩
      rw [Lib.encodeRuneZ_two (by simp only; omega) (by simp only; omega)]
      simp only [List.cons.injEq, and_true]
      omega
    · left; rfl
  split
  · split
    · right; right; right; left
      refine ⟨rfl, ?_⟩
      rw [Lib.encodeRuneZ_three (by simp only; omega)]
      simp only [List.cons.injEq, and_true]
      omega
    · left; rfl
  split
  · split
    · right; right; right; right
      refine ⟨rfl, ?_⟩
      rw [Lib.encodeRuneZ_four (by simp only; omega) (by simp only; omega)]
      simp only [List.cons.injEq, and_true]
      omega
    · left; rfl
  · left; rfl

theorem runeCells_piece (s : ByteArray) (p : Nat) (_h : p < s.size) : Lib.runeCells (ch s p : Nat) = cellsOf (piece s p) := by
  have hd := dn_enc (s.size - p) (s.get! p).toNat (s.get! (p + 1)).toNat (s.get! (p + 2)).toNat (s.get! (p + 3)).toNat (s.get! p).toNat_lt (s.get! (p + 1)).toNat_lt (s.get! (p + 2)).toNat_lt (s.get! (p + 3)).toNat_lt
  rw [← wd_eq, ← ch_eq] at hd
  cases hb : bad s p
  · have hn : ¬ (ch s p = 65533 ∧ wd s p = 1) := fun hx => by rw [(bad_iff s p).2 hx] at hb; cases hb
    rw [piece_good hb]
    rcases hd with hd | ⟨hw, he⟩ | ⟨hw, he⟩ | ⟨hw, he⟩ | ⟨hw, he⟩
    · exfalso
      rw [← Lib.decode_at] at hd
      exact hn (Prod.mk.inj hd)
    all_goals
      unfold Lib.runeCells
      rw [he, hw]
      rfl
  · have hx := (bad_iff s p).1 hb
    rw [piece_bad hb, hx.1]
    rfl

def fixFrom (s : ByteArray) : Nat → Nat → List UInt8
  | 0, _ => []
  | f + 1, pos => if pos < s.size then piece s pos ++ fixFrom s f (pos + wd s pos) else []
def fixL (s : ByteArray) : List UInt8 := fixFrom s s.size 0
def fixS (s : ByteArray) : ByteArray := ⟨(fixL s).toArray⟩
theorem fixFrom_end (s : ByteArray) (f pos : Nat) (h : ¬ pos < s.size) : fixFrom s f pos = [] := by
  cases f <;> simp [fixFrom, h]
theorem fixFrom_step (s : ByteArray) (f pos : Nat) (h : pos < s.size) : fixFrom s (f + 1) pos = piece s pos ++ fixFrom s f (pos + wd s pos) := by
  simp [fixFrom, h]
/-- a valid string is left as it is -/
theorem fixFrom_valid (s : ByteArray) : ∀ f pos, vFrom s f pos = true → s.size ≤ pos + f → fixFrom s f pos = s.data.toList.drop pos
  | 0, pos, _, h => by
    rw [List.drop_eq_nil_of_le (by rw [← Lib.size_eq]; omega)]
    rfl
  | f + 1, pos, hv, h => by
    by_cases hp : pos < s.size
    · rw [fixFrom_step s f pos hp]
      cases hb : bad s pos
      · rw [vFrom_step s f pos hp hb] at hv
        have hw := wd_pos hp
        have hl := wd_le hp
        rw [piece_good hb, fixFrom_valid s f _ hv (by omega), ← ext_stretch s pos (wd s pos) hl]
        have e : (s.extract pos (pos + wd s pos)).data.toList = (s.data.toList.drop pos).take (wd s pos) := by
          rw [ByteArray.data_extract, Array.toList_extract, List.extract_eq_take_drop]
          congr 1
          omega
        rw [e, ← List.drop_drop]
        exact List.take_append_drop _ _
      · rw [vFrom_bad s f pos hp hb] at hv
        cases hv
    · rw [fixFrom_end s _ pos hp, List.drop_eq_nil_of_le (by rw [← Lib.size_eq]; omega)]
theorem fixS_valid (s : ByteArray) (h : valid s = true) : fixS s = s := by
  have := fixFrom_valid s s.size 0 h (by omega)
  rw [List.drop_zero] at this
  unfold fixS fixL
  rw [this]
end Go.Proofs.YtbdpghmpdghnbaaDoor.U

namespace Go.Proofs.YtbdpghmpdghnbaaDoor.U
open Go

set_option maxRecDepth 100000 in
set_option maxHeartbeats 4000000 in
/-- a character hangs on its own bytes alone -/
theorem dn_local (n n' b0 b1 b2 b3 c1 c2 c3 : Nat) (hg : ¬ ((Lib.decodeN n b0 b1 b2 b3).1 = 65533 ∧ (Lib.decodeN n b0 b1 b2 b3).2 = 1)) (hn : (Lib.decodeN n b0 b1 b2 b3).2 ≤ n')
    (h1 : 2 ≤ (Lib.decodeN n b0 b1 b2 b3).2 → c1 = b1) (h2 : 3 ≤ (Lib.decodeN n b0 b1 b2 b3).2 → c2 = b2) (h3 : 4 ≤ (Lib.decodeN n b0 b1 b2 b3).2 → c3 = b3) :
    Lib.decodeN n' b0 c1 c2 c3 = Lib.decodeN n b0 b1 b2 b3 := by
  by_cases k0 : b0 < 128
  · unfold Lib.decodeN
    rw [if_pos k0, if_pos k0]
  by_cases k1 : b0 / 32 = 6 ∧ (1 < n ∧ b1 / 64 = 2)
  · have e : Lib.decodeN n b0 b1 b2 b3 = (if b0 % 32 * 64 + b1 % 64 ≥ 128 then (b0 % 32 * 64 + b1 % 64, 2) else (65533, 1)) := by
      unfold Lib.decodeN
      rw [if_neg k0, if_pos k1]
    rw [e] at hg hn h1 h2 h3 ⊢
    split at hg
    · rename_i hc
      rw [if_pos hc] at hn h1 h2 h3 ⊢
      obtain rfl := h1 (Nat.le_refl _)
      unfold Lib.decodeN
      rw [if_neg k0, if_pos ⟨k1.1, by simp only at hn; omega, k1.2.2⟩, if_pos hc]
    · exact absurd ⟨rfl, rfl⟩ hg
  by_cases k2 : b0 / 16 = 14 ∧ (1 < n ∧ b1 / 64 = 2) ∧ (2 < n ∧ b2 / 64 = 2)
  · have e : Lib.decodeN n b0 b1 b2 b3 = (if b0 % 16 * 4096 + b1 % 64 * 64 + b2 % 64 ≥ 2048 ∧ (b0 % 16 * 4096 + b1 % 64 * 64 + b2 % 64 < 55296 ∨ (57344 ≤ b0 % 16 * 4096 + b1 % 64 * 64 + b2 % 64 ∧ b0 % 16 * 4096 + b1 % 64 * 64 + b2 % 64 ≤ 1114111)) then (b0 % 16 * 4096 + b1 % 64 * 64 + b2 % 64, 3) else (65533, 1)) := by
      unfold Lib.decodeN
      rw [if_neg k0, if_neg k1, if_pos k2]
    rw [e] at hg hn h1 h2 h3 ⊢
    split at hg
    · rename_i hc
      rw [if_pos hc] at hn h1 h2 h3 ⊢
      obtain rfl := h1 (by simp only; omega)
      obtain rfl := h2 (Nat.le_refl _)
      unfold Lib.decodeN
      simp only at hn
      rw [if_neg k0, if_neg (by omega), if_pos ⟨k2.1, ⟨by omega, k2.2.1.2⟩, by omega, k2.2.2.2⟩, if_pos hc]
    · exact absurd ⟨rfl, rfl⟩ hg
  by_cases k3 : b0 / 8 = 30 ∧ (1 < n ∧ b1 / 64 = 2) ∧ (2 < n ∧ b2 / 64 = 2) ∧ (3 < n ∧ b3 / 64 = 2)
  · have e : Lib.decodeN n b0 b1 b2 b3 = (if b0 % 8 * 262144 + b1 % 64 * 4096 + b2 % 64 * 64 + b3 % 64 ≥ 65536 ∧ (b0 % 8 * 262144 + b1 % 64 * 4096 + b2 % 64 * 64 + b3 % 64 < 55296 ∨ (57344 ≤ b0 % 8 * 262144 + b1 % 64 * 4096 + b2 % 64 * 64 + b3 % 64 ∧ b0 % 8 * 262144 + b1 % 64 * 4096 + b2 % 64 * 64 + b3 % 64 ≤ 1114111)) then (b0 % 8 * 262144 + b1 % 64 * 4096 + b2 % 64 * 64 + b3 % 64, 4) else (65533, 1)) := by
      unfold Lib.decodeN
      rw [if_neg k0, if_neg k1, if_neg k2, if_pos k3]
    rw [e] at hg hn h1 h2 h3 ⊢
    split at hg
    · rename_i hc
      rw [if_pos hc] at hn h1 h2 h3 ⊢
      obtain rfl := h1 (by simp only; omega)
      obtain rfl := h2 (by simp only; omega)
      obtain rfl := h3 (Nat.le_refl _)
      unfold Lib.decodeN
      simp only at hn
      rw [if_neg k0, if_neg (by omega), if_neg (by omega), if_pos ⟨k3.1, ⟨by omega, k3.2.1.2⟩, ⟨by omega, k3.2.2.1.2⟩, by omega, k3.2.2.2.2⟩, if_pos hc]
    · exact absurd ⟨rfl, rfl⟩ hg
  · exfalso
    apply hg
    unfold Lib.decodeN
    rw [if_neg k0, if_neg k1, if_neg k2, if_neg k3]
    exact ⟨rfl, rfl⟩

/-- a character that stands elsewhere, too, is the same there -/
theorem same_char (s t : ByteArray) (p q : Nat) (hp : p < s.size) (hg : bad s p = false) (hq : q + wd s p ≤ t.size) (hb : ∀ k, k < wd s p → t.get! (q + k) = s.get! (p + k)) : ch t q = ch s p ∧ wd t q = wd s p := by
  have hf := facts s p hp
  have hn : ¬ (ch s p = 65533 ∧ wd s p = 1) := fun hx => by rw [(bad_iff s p).2 hx] at hg; cases hg
  have h0 := hb 0 (by omega)
  rw [Nat.add_zero, Nat.add_zero] at h0
  have hl := dn_local (s.size - p) (t.size - q) (s.get! p).toNat (s.get! (p + 1)).toNat (s.get! (p + 2)).toNat (s.get! (p + 3)).toNat (t.get! (q + 1)).toNat (t.get! (q + 2)).toNat (t.get! (q + 3)).toNat
    (by rw [← ch_eq, ← wd_eq]; exact hn) (by rw [← wd_eq]; omega) (by rw [← wd_eq]; intro h; rw [hb 1 (by omega)]) (by rw [← wd_eq]; intro h; rw [hb 2 (by omega)]) (by rw [← wd_eq]; intro h; rw [hb 3 (by omega)])
  rw [ch_eq t q, wd_eq t q, ch_eq s p, wd_eq s p, h0, hl]
  exact ⟨rfl, rfl⟩

theorem get_list (t : ByteArray) (q : Nat) : t.get! q = t.data.toList.getD q 0 := (Lib.getD_get!' t q).symm
theorem get_app (t : ByteArray) (l m r : List UInt8) (h : t.data.toList = l ++ (m ++ r)) (k : Nat) (hk : k < m.length) : t.get! (l.length + k) = m.getD k 0 := by
  rw [get_list, h]
  simp only [List.getD]
  rw [List.getElem?_append_right (by omega), Nat.add_sub_cancel_left, List.getElem?_append_left hk]
theorem stretch_length (s : ByteArray) (p n : Nat) : (stretch s p n).length = n := by unfold stretch; rw [List.length_map, List.length_range]
theorem stretch_getD (s : ByteArray) (p n k : Nat) (hk : k < n) : (stretch s p n).getD k 0 = s.get! (p + k) := by
  unfold stretch
  simp [List.getD, hk]

/-- where a piece stands, it is what is next, and no invalid byte -/
theorem piece_next (s t : ByteArray) (p : Nat) (l r : List UInt8) (hp : p < s.size) (h : t.data.toList = l ++ (piece s p ++ r)) :
    ch t l.length = ch s p ∧ wd t l.length = (piece s p).length ∧ bad t l.length = false := by
  have hsz : t.size = l.length + ((piece s p).length + r.length) := by rw [Lib.size_eq, h, List.length_append, List.length_append]
  cases hb : bad s p
  · have hl : (piece s p).length = wd s p := by rw [piece_good hb, stretch_length]
    obtain ⟨h1, h2⟩ := same_char s t p l.length hp hb (by omega) (fun k hk => by rw [get_app t l _ r h k (by omega), piece_good hb, stretch_getD s p _ k hk])
    refine ⟨h1, by omega, ?_⟩
    cases hx : bad t l.length
    · rfl
    · have hy := (bad_iff _ _).1 hx
      rw [h1, h2] at hy
      rw [(bad_iff s p).2 hy] at hb
      cases hb
  · have hpc := piece_bad hb
    have hl : (piece s p).length = 3 := by rw [hpc]; rfl
    have g := fun k hk => get_app t l _ r h k hk
    have g0 := g 0 (by omega)
    have g1 := g 1 (by omega)
    have g2 := g 2 (by omega)
    rw [hpc] at g0 g1 g2
    rw [Nat.add_zero] at g0
    have hd : Lib.decodeN (t.size - l.length) (t.get! l.length).toNat (t.get! (l.length + 1)).toNat (t.get! (l.length + 2)).toNat (t.get! (l.length + 3)).toNat = (65533, 3) := by
      rw [g0, g1, g2]
      show Lib.decodeN _ 239 191 189 _ = _
      unfold Lib.decodeN
      rw [if_neg (by omega), if_neg (by omega), if_pos (by omega), if_pos (by omega)]
    have hc : ch t l.length = 65533 := by rw [ch_eq, hd]
    have hw : wd t l.length = 3 := by rw [wd_eq, hd]
    refine ⟨by rw [hc, ((bad_iff s p).1 hb).1], by rw [hw, hl], good_of_wd (by omega)⟩

theorem fix_scan (s t : ByteArray) : ∀ f pos (l : List UInt8), t.data.toList = l ++ fixFrom s f pos → s.size ≤ pos + f → ∀ F, t.size ≤ l.length + F → vFrom t F l.length = true ∧ unitsFrom t F l.length = unitsFrom s f pos
  | 0, pos, l, h, hf, F, hF => by
    have hz : t.size = l.length := by rw [Lib.size_eq, h]; simp [fixFrom]
    rw [vFrom_end t F _ (by omega), unitsFrom_end t F _ (by omega), unitsFrom_end s 0 pos (by omega)]
    exact ⟨rfl, rfl⟩
  | f + 1, pos, l, h, hf, F, hF => by
    by_cases hp : pos < s.size
    · rw [fixFrom_step s f pos hp] at h
      obtain ⟨h1, h2, h3⟩ := piece_next s t pos l _ hp h
      have hpl := piece_le hp
      have hsz : t.size = l.length + ((piece s pos).length + (fixFrom s f (pos + wd s pos)).length) := by rw [Lib.size_eq, h, List.length_append, List.length_append]
      obtain ⟨F', rfl⟩ : ∃ F', F = F' + 1 := ⟨F - 1, by omega⟩
      have hlt : l.length < t.size := by omega
      have ih := fix_scan s t f (pos + wd s pos) (l ++ piece s pos) (by rw [List.append_assoc]; exact h) (by have := wd_pos hp; omega) F' (by rw [List.length_append]; omega)
      rw [List.length_append, ← h2] at ih
      rw [vFrom_step t F' _ hlt h3, unitsFrom_step t F' _ hlt, unitsFrom_step s f pos hp]
      refine ⟨ih.1, ?_⟩
      rw [ih.2]
      unfold un
      rw [h1]
    · rw [fixFrom_end s _ pos hp, List.append_nil] at h
      have hz : t.size = l.length := by rw [Lib.size_eq, h]
      rw [vFrom_end t F _ (by omega), unitsFrom_end t F _ (by omega), unitsFrom_end s _ pos hp]
      exact ⟨rfl, rfl⟩
theorem fixS_list (s : ByteArray) : (fixS s).data.toList = fixL s := rfl
theorem fix_valid (s : ByteArray) : valid (fixS s) = true := (fix_scan s (fixS s) s.size 0 [] rfl (by omega) (fixS s).size (by simp)).1
theorem fix_units (s : ByteArray) : units (fixS s) = units s := (fix_scan s (fixS s) s.size 0 [] rfl (by omega) (fixS s).size (by simp)).2
theorem fix_fix (s : ByteArray) : fixS (fixS s) = fixS s := fixS_valid _ (fix_valid s)
theorem fix_same (s : ByteArray) : fixS s = s ↔ valid s = true := ⟨fun h => by rw [← h]; exact fix_valid s, fixS_valid s⟩
theorem fixFrom_len (s : ByteArray) : ∀ f pos, pos ≤ s.size → (fixFrom s f pos).length ≤ 3 * (s.size - pos)
  | 0, _, _ => by simp [fixFrom]
  | f + 1, pos, h => by
    by_cases hp : pos < s.size
    · rw [fixFrom_step s f pos hp, List.length_append]
      have := fixFrom_len s f (pos + wd s pos) (wd_le hp)
      have := (piece_le hp).1
      have := wd_le hp
      omega
    · rw [fixFrom_end s _ pos hp]; simp
theorem fix_size (s : ByteArray) : (fixS s).size ≤ 3 * s.size := by
  have := fixFrom_len s s.size 0 (Nat.zero_le _)
  rw [Lib.size_eq, fixS_list]
  exact this
end Go.Proofs.YtbdpghmpdghnbaaDoor.U

namespace Go.Proofs.YtbdpghmpdghnbaaDoor.U
open Go

/-- j steps of a scan from place q, m units being counted -/
def st (s : ByteArray) : Nat → Nat → Nat → Nat × Nat
  | 0, q, m => (q, m)
  | j + 1, q, m => if q < s.size then st s j (q + wd s q) (m + un s q) else (q, m)
theorem st_step (s : ByteArray) (j q m : Nat) (h : q < s.size) : st s (j + 1) q m = st s j (q + wd s q) (m + un s q) := by simp only [st, if_pos h]
theorem st_end (s : ByteArray) (j q m : Nat) (h : ¬ q < s.size) : st s j q m = (q, m) := by
  cases j
  · rfl
  · simp only [st, if_neg h]
theorem st_mono (s : ByteArray) : ∀ j q m p n, st s j q m = (p, n) → q ≤ p ∧ m ≤ n ∧ (q ≤ s.size → p ≤ s.size)
  | 0, q, m, p, n, h => by
    simp only [st, Prod.mk.injEq] at h
    omega
  | j + 1, q, m, p, n, h => by
    by_cases hq : q < s.size
    · rw [st_step s j q m hq] at h
      have := st_mono s j _ _ p n h
      have := wd_le hq
      omega
    · rw [st_end s _ q m hq] at h
      simp only [Prod.mk.injEq] at h
      omega

/-! ### units -/
theorem unitsFrom_fuel (s : ByteArray) : ∀ f g q, s.size ≤ q + f → s.size ≤ q + g → unitsFrom s f q = unitsFrom s g q
  | 0, g, q, h, _ => by rw [unitsFrom_end s 0 q (by omega), unitsFrom_end s g q (by omega)]
  | f + 1, g, q, h, hg => by
    by_cases hq : q < s.size
    · obtain ⟨g', rfl⟩ : ∃ g', g = g' + 1 := ⟨g - 1, by omega⟩
      have := wd_pos hq
      rw [unitsFrom_step s f q hq, unitsFrom_step s g' q hq, unitsFrom_fuel s f g' _ (by omega) (by omega)]
    · rw [unitsFrom_end s _ q hq, unitsFrom_end s g q hq]
theorem st_units (s : ByteArray) : ∀ j q m p n, st s j q m = (p, n) → ∀ f g, s.size ≤ q + f → s.size ≤ p + g → m + unitsFrom s f q = n + unitsFrom s g p
  | 0, q, m, p, n, h, f, g, hf, hg => by
    simp only [st, Prod.mk.injEq] at h
    obtain ⟨rfl, rfl⟩ := h
    rw [unitsFrom_fuel s f g q hf hg]
  | j + 1, q, m, p, n, h, f, g, hf, hg => by
    by_cases hq : q < s.size
    · rw [st_step s j q m hq] at h
      obtain ⟨f', rfl⟩ : ∃ f', f = f' + 1 := ⟨f - 1, by omega⟩
      have := wd_pos hq
      have ih := st_units s j _ _ p n h f' g (by omega) hg
      rw [unitsFrom_step s f' q hq]
      omega
    · rw [st_end s _ q m hq] at h
      simp only [Prod.mk.injEq] at h
      obtain ⟨rfl, rfl⟩ := h
      rw [unitsFrom_end s f q hq, unitsFrom_end s g q hq]
theorem units_of_end (s : ByteArray) (j n : Nat) (h : st s j 0 0 = (s.size, n)) : units s = n := by
  have := st_units s j 0 0 s.size n h s.size 0 (by omega) (by omega)
  unfold units
  rw [unitsFrom_end s 0 s.size (by omega)] at this
  omega
theorem units_past (s : ByteArray) (j p n : Nat) (h : st s j 0 0 = (p, n)) (hp : p < s.size) : n + un s p ≤ units s := by
  have := st_units s j 0 0 p n h s.size (s.size + 1) (by omega) (by omega)
  rw [unitsFrom_step s _ p hp] at this
  unfold units
  omega

/-! ### a scan comes to each item's beginning, and to the end -/
theorem st_bg (s : ByteArray) : ∀ f q m i, q ≤ i → i < s.size → s.size ≤ q + f → ∃ j n, st s j q m = (bg s f q i, n)
  | 0, q, m, i, h1, h2, h3 => by omega
  | f + 1, q, m, i, h1, h2, h3 => by
    by_cases h : i < q + wd s q
    · exact ⟨0, m, by rw [bg_stop s f q i h]; rfl⟩
    · have hq : q < s.size := by omega
      have := wd_pos hq
      obtain ⟨j, n, hj⟩ := st_bg s f (q + wd s q) (m + un s q) i (by omega) h2 (by omega)
      exact ⟨j + 1, n, by rw [st_step s j q m hq, hj, bg_step s f q i h]⟩
theorem st_to_end (s : ByteArray) : ∀ f q m, q ≤ s.size → s.size ≤ q + f → ∃ j n, st s j q m = (s.size, n)
  | 0, q, m, h1, h2 => ⟨0, m, by rw [show s.size = q by omega]; rfl⟩
  | f + 1, q, m, h1, h2 => by
    by_cases hq : q < s.size
    · have := wd_pos hq
      obtain ⟨j, n, hj⟩ := st_to_end s f (q + wd s q) (m + un s q) (wd_le hq) (by omega)
      exact ⟨j + 1, n, by rw [st_step s j q m hq, hj]⟩
    · exact ⟨0, m, by rw [show s.size = q by omega]; rfl⟩
theorem st_start (s : ByteArray) : ∀ j q m p n, st s j q m = (p, n) → p < s.size → ∀ f, s.size ≤ q + f → bg s f q p = p
  | 0, q, m, p, n, h, hp, f, hf => by
    simp only [st, Prod.mk.injEq] at h
    obtain ⟨rfl, rfl⟩ := h
    obtain ⟨f', rfl⟩ : ∃ f', f = f' + 1 := ⟨f - 1, by omega⟩
    have := wd_pos hp
    exact bg_stop s f' q q (by omega)
  | j + 1, q, m, p, n, h, hp, f, hf => by
    by_cases hq : q < s.size
    · rw [st_step s j q m hq] at h
      have hm := st_mono s j _ _ p n h
      have := wd_pos hq
      obtain ⟨f', rfl⟩ : ∃ f', f = f' + 1 := ⟨f - 1, by omega⟩
      rw [bg_step s f' q p (by omega)]
      exact st_start s j _ _ p n h hp f' (by omega)
    · rw [st_end s _ q m hq] at h
      simp only [Prod.mk.injEq] at h
      omega

/-! ### cut -/
theorem cut_uni (s : ByteArray) (u : Int) : ∀ j q m p n, st s j q m = (p, n) → (n : Int) ≤ u → (p = s.size ∨ (p < s.size ∧ u < ((n + un s p : Nat) : Int))) → ∀ f, s.size ≤ q + f → cutFrom s u f q m = p
  | 0, q, m, p, n, h, hn, hp, f, hf => by
    simp only [st, Prod.mk.injEq] at h
    obtain ⟨rfl, rfl⟩ := h
    rcases hp with hp | ⟨hp, hu⟩
    · exact cutFrom_end s u f q m (by omega)
    · obtain ⟨f', rfl⟩ : ∃ f', f = f' + 1 := ⟨f - 1, by omega⟩
      exact cutFrom_stop s u f' q m hp hu
  | j + 1, q, m, p, n, h, hn, hp, f, hf => by
    by_cases hq : q < s.size
    · rw [st_step s j q m hq] at h
      have hm := st_mono s j _ _ p n h
      have := wd_pos hq
      obtain ⟨f', rfl⟩ : ∃ f', f = f' + 1 := ⟨f - 1, by omega⟩
      rw [cutFrom_step s u f' q m hq (by omega)]
      exact cut_uni s u j _ _ p n h hn hp f' (by omega)
    · rw [st_end s _ q m hq] at h
      simp only [Prod.mk.injEq] at h
      rw [cutFrom_end s u f q m hq]
      omega
theorem cut_st (s : ByteArray) (u : Int) : ∀ f q m, q ≤ s.size → s.size ≤ q + f → ∃ j n, st s j q m = (cutFrom s u f q m, n) ∧ ((m : Int) ≤ u → (n : Int) ≤ u) ∧ cutFrom s u f q m ≤ s.size ∧ (cutFrom s u f q m < s.size → u < ((n + un s (cutFrom s u f q m) : Nat) : Int))
  | 0, q, m, h1, h2 => by
    rw [cutFrom_end s u 0 q m (by omega)]
    exact ⟨0, m, rfl, id, h1, fun h => by omega⟩
  | f + 1, q, m, h1, h2 => by
    by_cases hq : q < s.size
    · by_cases hu : u < ((m + un s q : Nat) : Int)
      · rw [cutFrom_stop s u f q m hq hu]
        exact ⟨0, m, rfl, id, h1, fun _ => hu⟩
      · have := wd_pos hq
        obtain ⟨j, n, h3, h4, h5, h6⟩ := cut_st s u f (q + wd s q) (m + un s q) (wd_le hq) (by omega)
        rw [cutFrom_step s u f q m hq hu]
        exact ⟨j + 1, n, by rw [st_step s j q m hq, h3], fun _ => h4 (by omega), h5, h6⟩
    · rw [cutFrom_end s u _ q m hq]
      exact ⟨0, m, rfl, id, h1, fun h => absurd h hq⟩

/-! ### a string's beginning -/
theorem ext_get (s : ByteArray) (p i : Nat) (hi : i < p) : (s.extract 0 p).get! i = s.get! i := by
  rw [get_list, get_list, Lib.extract_data]
  simp only [List.getD, List.drop_zero]
  rw [List.getElem?_take, if_pos (by omega)]
theorem ext_len (s : ByteArray) (p : Nat) (hp : p ≤ s.size) : (s.extract 0 p).size = p := by rw [ByteArray.size_extract]; omega
theorem ext_item (s : ByteArray) (p q : Nat) (hp : p ≤ s.size) (hq : q < p) (hw : q + wd s q ≤ p) : wd (s.extract 0 p) q = wd s q ∧ un (s.extract 0 p) q = un s q := by
  have hz := ext_len s p hp
  have hqs : q < s.size := by omega
  cases hb : bad s q
  · have := same_char s (s.extract 0 p) q q hqs hb (by omega) (fun k hk => ext_get s p (q + k) (by omega))
    unfold un
    rw [this.1, this.2]
    exact ⟨rfl, rfl⟩
  · have hx : bad (s.extract 0 p) q = true := by
      cases hy : bad (s.extract 0 p) q
      · have hwt := wd_le (s := s.extract 0 p) (i := q) (by omega)
        have := same_char (s.extract 0 p) s q q (by omega) hy (by omega) (fun k hk => (ext_get s p (q + k) (by omega)).symm)
        have hz := (bad_iff s q).1 hb
        rw [this.1, this.2] at hz
        rw [(bad_iff _ q).2 hz] at hy
        cases hy
      · rfl
    rw [(bad_un hx).1, (bad_un hx).2, (bad_un hb).1, (bad_un hb).2]
    exact ⟨rfl, rfl⟩
theorem st_ext (s : ByteArray) : ∀ j q m p n, st s j q m = (p, n) → p ≤ s.size → st (s.extract 0 p) j q m = (p, n)
  | 0, q, m, p, n, h, _ => h
  | j + 1, q, m, p, n, h, hp => by
    have hz := ext_len s p hp
    by_cases hq : q < s.size
    · rw [st_step s j q m hq] at h
      have hm := st_mono s j _ _ p n h
      have := wd_pos hq
      obtain ⟨h1, h2⟩ := ext_item s p q hp (by omega) (by omega)
      rw [st_step _ j q m (by omega), h1, h2]
      exact st_ext s j _ _ p n h hp
    · rw [st_end s _ q m hq] at h
      simp only [Prod.mk.injEq] at h
      obtain ⟨rfl, rfl⟩ := h
      rw [st_end _ _ q m (by omega)]
theorem units_ext (s : ByteArray) (j p n : Nat) (h : st s j 0 0 = (p, n)) (hp : p ≤ s.size) : units (s.extract 0 p) = n := by
  have := st_ext s j 0 0 p n h hp
  exact units_of_end _ j n (by rw [ext_len s p hp]; exact this)

/-! ### what the statement on the way back asks -/
theorem reach (s : ByteArray) (i : Nat) (h : i < s.size) : ∃ j n, st s j 0 0 = (bgn s i, n) := st_bg s s.size 0 0 i (Nat.zero_le _) h (by omega)
theorem cut_back (s : ByteArray) (j p n : Nat) (h : st s j 0 0 = (p, n)) (hp : p ≤ s.size) : cut s (units (s.extract 0 p) : Nat) = p := by
  rw [units_ext s j p n h hp]
  unfold cut
  refine cut_uni s _ j 0 0 p n h (Int.le_refl _) ?_ s.size (by omega)
  by_cases hlt : p < s.size
  · have := un_le hlt
    exact Or.inr ⟨hlt, by omega⟩
  · exact Or.inl (by omega)
theorem start_back (s : ByteArray) (j p n : Nat) (h : st s j 0 0 = (p, n)) (hp : p < s.size) : bgn s p = p := st_start s j 0 0 p n h hp s.size (by omega)
theorem cut_facts (s : ByteArray) (u : Int) : ∃ j n, st s j 0 0 = (cut s u, n) ∧ (0 ≤ u → (n : Int) ≤ u) ∧ cut s u ≤ s.size ∧ (cut s u < s.size → u < ((n + un s (cut s u) : Nat) : Int)) := by
  obtain ⟨j, n, h1, h2, h3, h4⟩ := cut_st s u s.size 0 0 (Nat.zero_le _) (by omega)
  exact ⟨j, n, h1, fun h => h2 (by omega), h3, h4⟩
end Go.Proofs.YtbdpghmpdghnbaaDoor.U

namespace Go.Proofs.YtbdpghmpdghnbaaDoor.U
open Go

theorem app_size (x t : ByteArray) : (x ++ t).size = x.size + t.size := ByteArray.size_append
theorem app_list (x t : ByteArray) : (x ++ t).data.toList = x.data.toList ++ t.data.toList := by rw [ByteArray.data_append, Array.toList_append]
theorem app_left (x t : ByteArray) (i : Nat) (h : i < x.size) : (x ++ t).get! i = x.get! i := by
  rw [get_list, get_list, app_list]
  simp only [List.getD]
  rw [List.getElem?_append_left (by rw [← Lib.size_eq]; exact h)]
theorem app_right (x t : ByteArray) (i : Nat) : (x ++ t).get! (x.size + i) = t.get! i := by
  rw [get_list, get_list, app_list]
  simp only [List.getD]
  rw [List.getElem?_append_right (by rw [← Lib.size_eq]; omega), ← Lib.size_eq, Nat.add_sub_cancel_left]
theorem app_shift (x t : ByteArray) (q : Nat) : ch (x ++ t) (x.size + q) = ch t q ∧ wd (x ++ t) (x.size + q) = wd t q := by
  rw [ch_eq, ch_eq, wd_eq, wd_eq, app_size, Nat.add_sub_add_left, Nat.add_assoc, Nat.add_assoc, Nat.add_assoc, app_right, app_right, app_right, app_right]
  exact ⟨rfl, rfl⟩
theorem units_shift (x t : ByteArray) : ∀ f q, unitsFrom (x ++ t) f (x.size + q) = unitsFrom t f q
  | 0, _ => rfl
  | f + 1, q => by
    have hz := app_size x t
    have hs := app_shift x t q
    by_cases hq : q < t.size
    · rw [unitsFrom_step _ f _ (by omega), unitsFrom_step t f q hq, hs.2, Nat.add_assoc, units_shift x t f (q + wd t q)]
      unfold un
      rw [hs.1]
    · rw [unitsFrom_end _ _ _ (by omega), unitsFrom_end t _ q hq]
/-- the places that a scan of a valid string comes to hold characters -/
theorem valid_good (s : ByteArray) : ∀ j q m p n, st s j q m = (p, n) → p < s.size → ∀ f, s.size ≤ q + f → vFrom s f q = true → bad s p = false
  | 0, q, m, p, n, h, hp, f, hf, hv => by
    simp only [st, Prod.mk.injEq] at h
    obtain ⟨rfl, rfl⟩ := h
    obtain ⟨f', rfl⟩ : ∃ f', f = f' + 1 := ⟨f - 1, by omega⟩
    cases hb : bad s q
    · rfl
    · rw [vFrom_bad s f' q hp hb] at hv
      cases hv
  | j + 1, q, m, p, n, h, hp, f, hf, hv => by
    by_cases hq : q < s.size
    · rw [st_step s j q m hq] at h
      obtain ⟨f', rfl⟩ : ∃ f', f = f' + 1 := ⟨f - 1, by omega⟩
      have hw := wd_pos hq
      cases hb : bad s q
      · rw [vFrom_step s f' q hq hb] at hv
        exact valid_good s j _ _ p n h hp f' (by omega) hv
      · rw [vFrom_bad s f' q hq hb] at hv
        cases hv
    · rw [st_end s _ q m hq] at h
      simp only [Prod.mk.injEq] at h
      omega
theorem st_snoc (s : ByteArray) : ∀ j q m p n, st s j q m = (p, n) → p < s.size → st s (j + 1) q m = (p + wd s p, n + un s p)
  | 0, q, m, p, n, h, hp => by
    simp only [st, Prod.mk.injEq] at h
    obtain ⟨rfl, rfl⟩ := h
    rw [st_step s 0 q m hp]
    rfl
  | j + 1, q, m, p, n, h, hp => by
    by_cases hq : q < s.size
    · rw [st_step s j q m hq] at h
      rw [st_step s (j + 1) q m hq]
      exact st_snoc s j _ _ p n h hp
    · rw [st_end s _ q m hq] at h
      simp only [Prod.mk.injEq] at h
      omega
/-- units of a valid string behind which another one stands, from any place that a scan comes to -/
theorem units_app_from (x t : ByteArray) (hv : valid x = true) : ∀ f q i k, st x i 0 0 = (q, k) → q ≤ x.size → x.size ≤ q + f → ∀ g, (x ++ t).size ≤ q + g → unitsFrom (x ++ t) g q = unitsFrom x f q + units t
  | f, q, i, k, hi, hqx, hf, g, hg => by
    have hz := app_size x t
    induction f generalizing q i k g with
    | zero =>
      obtain rfl : q = x.size := by omega
      rw [unitsFrom_end x 0 _ (by omega), Nat.zero_add]
      have := units_shift x t g 0
      rw [Nat.add_zero] at this
      rw [this]
      unfold units
      exact unitsFrom_fuel t g t.size 0 (by omega) (by omega)
    | succ f ih =>
      by_cases hq : q < x.size
      · have hg1 := valid_good x i 0 0 q k hi hq x.size (by omega) hv
        have hw := wd_le hq
        have hw1 := wd_pos hq
        have hs := same_char x (x ++ t) q q hq hg1 (by omega) (fun k hk => app_left x t (q + k) (by omega))
        have hu : un (x ++ t) q = un x q := by unfold un; rw [hs.1]
        obtain ⟨g', rfl⟩ : ∃ g', g = g' + 1 := ⟨g - 1, by omega⟩
        rw [unitsFrom_step (x ++ t) g' q (by omega), unitsFrom_step x f q hq, hs.2, hu, ih (q + wd x q) (i + 1) _ (st_snoc x i 0 0 q k hi hq) hw (by omega) g' (by omega)]
        omega
      · obtain rfl : q = x.size := by omega
        rw [unitsFrom_end x _ _ (by omega), Nat.zero_add]
        have := units_shift x t g 0
        rw [Nat.add_zero] at this
        rw [this]
        unfold units
        exact unitsFrom_fuel t g t.size 0 (by omega) (by omega)
theorem units_app (x t : ByteArray) (hv : valid x = true) : units (x ++ t) = units x + units t :=
  units_app_from x t hv x.size 0 0 0 rfl (Nat.zero_le _) (by omega) (x ++ t).size (by omega)

/-- a character, written again, is its own bytes -/
theorem byte_of (b : UInt8) : UInt8.ofNat b.toNat = b := UInt8.ofNat_toNat
set_option maxRecDepth 100000 in
set_option maxHeartbeats 2000000 in
theorem enc_of (r : Nat) (hr : r ≤ 1114111) (hs : r < 55296 ∨ 57344 ≤ r) : (Utf8.encode (r : Int)).data.toList = (Lib.encodeRuneZ (r : Int)).map fun x => UInt8.ofNat x.toNat := by
  have hv : Utf8.valid (r : Int) = true := by
    unfold Utf8.valid
    simp only [Bool.or_eq_true, Bool.and_eq_true, decide_eq_true_eq]
    omega
  unfold Utf8.encode
  rw [hv]
  simp only [if_true, Int.toNat_natCast]
  by_cases h1 : r < 128
  · rw [if_pos h1, Lib.encodeRuneZ_one (by omega) (by omega)]
    rfl
  rw [if_neg h1]
  by_cases h2 : r < 2048
  · rw [if_pos h2, Lib.encodeRuneZ_two (by omega) (by omega)]
    simp only [List.map_cons, List.map_nil]
    rw [show (192 + (r : Int) / 64).toNat = 192 + r / 64 by omega, show (128 + (r : Int) % 64).toNat = 128 + r % 64 by omega]
  rw [if_neg h2]
  by_cases h3 : r < 65536
  · rw [if_pos h3, Lib.encodeRuneZ_three (by omega)]
    simp only [List.map_cons, List.map_nil]
    rw [show (224 + (r : Int) / 4096).toNat = 224 + r / 4096 by omega, show (128 + (r : Int) / 64 % 64).toNat = 128 + r / 64 % 64 by omega, show (128 + (r : Int) % 64).toNat = 128 + r % 64 by omega]
  rw [if_neg h3, Lib.encodeRuneZ_four (by omega) (by omega)]
  simp only [List.map_cons, List.map_nil]
  rw [show (240 + (r : Int) / 262144).toNat = 240 + r / 262144 by omega, show (128 + (r : Int) / 4096 % 64).toNat = 128 + r / 4096 % 64 by omega, show (128 + (r : Int) / 64 % 64).toNat = 128 + r / 64 % 64 by omega, show (128 + (r : Int) % 64).toNat = 128 + r % 64 by omega]

set_option maxRecDepth 100000 in
set_option maxHeartbeats 2000000 in
theorem dn_sur (n b0 b1 b2 b3 : Nat) : (Lib.decodeN n b0 b1 b2 b3).1 < 55296 ∨ 57344 ≤ (Lib.decodeN n b0 b1 b2 b3).1 := by
  unfold Lib.decodeN
  repeat' split
  all_goals (simp only; omega)
theorem enc_good (s : ByteArray) (p : Nat) (hp : p < s.size) (hg : bad s p = false) : (Utf8.encode (ch s p : Nat)).toList = (s.extract p (p + wd s p)).toList := by
  have hf := facts s p hp
  have hs : ch s p < 55296 ∨ 57344 ≤ ch s p := by rw [ch_eq]; exact dn_sur _ _ _ _ _
  rw [Lib.toList_data, Lib.toList_data, enc_of (ch s p) hf.2.2.2.2.2 hs, ext_stretch s p (wd s p) hf.2.2.1]
  have hc := runeCells_piece s p hp
  rw [piece_good hg] at hc
  unfold Lib.runeCells cellsOf at hc
  have := congrArg (List.map fun v : Value => match v with | .int _ n => UInt8.ofNat n.toNat | _ => 0) hc
  rw [List.map_map, List.map_map] at this
  have e1 : ((fun v : Value => match v with | .int _ n => UInt8.ofNat n.toNat | _ => 0) ∘ fun x : Int => Value.int .u8 x) = fun x => UInt8.ofNat x.toNat := rfl
  have e2 : ((fun v : Value => match v with | .int _ n => UInt8.ofNat n.toNat | _ => 0) ∘ fun b : UInt8 => Value.int .u8 b.toNat) = id := by
    funext b
    show UInt8.ofNat ((b.toNat : Int).toNat) = b
    rw [Int.toNat_natCast]
    exact byte_of b
  rw [e1, e2, List.map_id] at this
  exact this
end Go.Proofs.YtbdpghmpdghnbaaDoor.U
