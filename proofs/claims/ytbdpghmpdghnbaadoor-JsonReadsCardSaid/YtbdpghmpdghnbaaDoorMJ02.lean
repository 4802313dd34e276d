/- The program's reader of JSON, in plain functions: a byte at hand, whether it is among some, a run of such. Conditions: none. -/
import Derived.Test.YtbdpghmpdghnbaaDoorMJ01
import Derived.Lib.Bytealg
namespace Go.Proofs.YtbdpghmpdghnbaaDoor.J
open Go

/-- the byte at hand; 0: the end -/
def pk (s : ByteArray) (p : Nat) : Nat := if p < s.size then (s.get! p).toNat else 0
/-- is a byte among some? -/
def am (x : ByteArray) (c : Nat) : Bool := x.data.toList.any fun b => decide (b.toNat = c)
/-- stands one of these at hand? -/
def sk (s x : ByteArray) (p : Nat) : Bool := am x (pk s p)
theorem pk_lt (s : ByteArray) (p : Nat) : pk s p < 256 := by
  unfold pk
  split
  · exact (s.get! p).toNat_lt
  · decide
theorem sk_lt {s x : ByteArray} {p : Nat} (h0 : am x 0 = false) (h : sk s x p = true) : p < s.size := by
  unfold sk pk at h
  split at h
  · assumption
  · rw [h0] at h; cases h
theorem indexByte_ge (l : List UInt8) (c : UInt8) : -1 ≤ Lib.indexByte l c := by
  induction l with
  | nil => exact Int.le_refl _
  | cons b l ih =>
    unfold Lib.indexByte
    split
    · decide
    · split
      · exact Int.le_refl _
      · omega
theorem indexByte_neg (l : List UInt8) (c : UInt8) : decide (Lib.indexByte l c < 0) = !(l.any fun b => decide (b.toNat = c.toNat)) := by
  induction l with
  | nil => rfl
  | cons b l ih =>
    have hg := indexByte_ge l c
    unfold Lib.indexByte
    rw [List.any_cons, Bool.not_or, ← ih]
    by_cases h : b = c
    · subst h; simp
    · have h2 : ¬ b.toNat = c.toNat := fun e => h (UInt8.toNat_inj.1 e)
      rw [if_neg (by simpa using h), decide_eq_false h2, Bool.not_false, Bool.true_and]
      split
      · rename_i h3
        have : Lib.indexByte l c = -1 := by simpa using h3
        rw [this]
      · rename_i h3
        have : ¬ Lib.indexByte l c = -1 := by simpa using h3
        exact decide_eq_decide.2 (by omega)
theorem am_index (x : ByteArray) (c : Nat) (hc : c < 256) : decide (Lib.indexByte x.data.toList (c : Int).toNat.toUInt8 < 0) = !(am x c) := by
  rw [indexByte_neg]
  unfold am
  congr 2
  funext b
  rw [Int.toNat_natCast]; congr 2; exact (Nat.mod_eq_of_lt (by omega) : c % 256 = c)
/-- a run of such is passed over -/
def saF (s x : ByteArray) : Nat → Nat → Nat
  | 0, p => p
  | f + 1, p => if sk s x p = true then saF s x f (p + 1) else p
def sa (s x : ByteArray) (p : Nat) : Nat := saF s x (s.size - p) p
theorem sa_stop {s x : ByteArray} {p : Nat} (h : sk s x p = false) : sa s x p = p := by
  unfold sa
  cases s.size - p <;> simp [saF, h]
theorem sa_step {s x : ByteArray} {p : Nat} (h0 : am x 0 = false) (h : sk s x p = true) : sa s x p = sa s x (p + 1) := by
  have := sk_lt h0 h
  unfold sa; rw [show s.size - p = (s.size - (p + 1)) + 1 by omega]
  simp only [saF, if_pos h]
theorem saF_le (s x : ByteArray) (h0 : am x 0 = false) : ∀ f p, p ≤ s.size → p ≤ saF s x f p ∧ saF s x f p ≤ s.size
  | 0, p, h => ⟨Nat.le_refl _, h⟩
  | f + 1, p, h => by
    unfold saF
    split
    · rename_i hs
      have h1 := sk_lt h0 hs
      have := saF_le s x h0 f (p + 1) (by omega); omega
    · exact ⟨Nat.le_refl _, h⟩
theorem sa_le {s x : ByteArray} {p : Nat} (h0 : am x 0 = false) (h : p ≤ s.size) : p ≤ sa s x p ∧ sa s x p ≤ s.size := saF_le s x h0 _ p h
/-- blanks, digits -/
def blk : ByteArray := ⟨#[32, 9, 10, 13]⟩
def dgs : ByteArray := ⟨#[48, 49, 50, 51, 52, 53, 54, 55, 56, 57]⟩
theorem am_blk (c : Nat) : am blk c = ws c := by
  unfold am ws blk
  simp only [List.any_cons, List.any_nil, Bool.or_false]
  rw [show (32 : UInt8).toNat = 32 from rfl, show (9 : UInt8).toNat = 9 from rfl, show (10 : UInt8).toNat = 10 from rfl, show (13 : UInt8).toNat = 13 from rfl]
  rw [← Bool.decide_or, ← Bool.decide_or, ← Bool.decide_or]
  exact decide_eq_decide.2 (by omega)
theorem am_dgs (c : Nat) : am dgs c = dgt c := by
  unfold am dgt dgs
  simp only [List.any_cons, List.any_nil, Bool.or_false]
  rw [show (48 : UInt8).toNat = 48 from rfl, show (49 : UInt8).toNat = 49 from rfl, show (50 : UInt8).toNat = 50 from rfl, show (51 : UInt8).toNat = 51 from rfl, show (52 : UInt8).toNat = 52 from rfl, show (53 : UInt8).toNat = 53 from rfl, show (54 : UInt8).toNat = 54 from rfl, show (55 : UInt8).toNat = 55 from rfl, show (56 : UInt8).toNat = 56 from rfl, show (57 : UInt8).toNat = 57 from rfl]
  simp only [← Bool.decide_or]
  exact decide_eq_decide.2 (by omega)
theorem sk_ws (s : ByteArray) (p : Nat) : sk s blk p = decide (p < s.size ∧ ws (s.get! p).toNat = true) := by
  unfold sk pk
  rw [am_blk]
  by_cases h : p < s.size
  · rw [if_pos h]; simp [h]
  · rw [if_neg h]; simp [h]; rfl
theorem sk_dgt (s : ByteArray) (p : Nat) : sk s dgs p = decide (p < s.size ∧ dgt (s.get! p).toNat = true) := by
  unfold sk pk
  rw [am_dgs]
  by_cases h : p < s.size
  · rw [if_pos h]; simp [h]
  · rw [if_neg h]; simp [h]; rfl
theorem sa_blF (s : ByteArray) : ∀ f p, saF s blk f p = blF s f p
  | 0, _ => rfl
  | f + 1, p => by
    unfold saF blF
    rw [sa_blF s f (p + 1), sk_ws]
    by_cases h : p < s.size ∧ ws (s.get! p).toNat = true
    · rw [if_pos h, if_pos (decide_eq_true h)]
    · rw [if_neg h, if_neg (by rw [decide_eq_false h]; decide)]
theorem sa_bl (s : ByteArray) (p : Nat) : sa s blk p = bl s p 0 := by unfold sa bl; rw [if_pos rfl, sa_blF]
theorem sa_dgF (s : ByteArray) : ∀ f p, saF s dgs f p = dgF s f p
  | 0, _ => rfl
  | f + 1, p => by
    unfold saF dgF
    rw [sa_dgF s f (p + 1), sk_dgt]
    by_cases h : p < s.size ∧ dgt (s.get! p).toNat = true
    · rw [if_pos h, if_pos (decide_eq_true h)]
    · rw [if_neg h, if_neg (by rw [decide_eq_false h]; decide)]
theorem sa_dg (s : ByteArray) (p : Nat) : sa s dgs p = dg s p := by unfold sa dg; rw [sa_dgF]
/-- one byte alone -/
theorem am_one (c d : Nat) (hc : c < 256) : am ⟨#[c.toUInt8]⟩ d = decide (d = c) := by
  unfold am
  simp only [List.any_cons, List.any_nil, Bool.or_false]
  rw [UInt8.toNat_ofNat', Nat.mod_eq_of_lt (by omega)]
  exact decide_eq_decide.2 eq_comm
theorem sk_is {s x : ByteArray} {c : Nat} (p : Nat) (hc : 0 < c) (hx : ∀ d, am x d = decide (d = c)) : sk s x p = is s p 0 c := by
  unfold sk pk is
  rw [hx]
  by_cases h : p < s.size
  · rw [if_pos h]; exact decide_eq_decide.2 ⟨fun e => ⟨rfl, h, e⟩, fun e => e.2.2⟩
  · rw [if_neg h]; exact decide_eq_decide.2 ⟨fun e => by omega, fun e => absurd e.2.1 h⟩
end Go.Proofs.YtbdpghmpdghnbaaDoor.J
