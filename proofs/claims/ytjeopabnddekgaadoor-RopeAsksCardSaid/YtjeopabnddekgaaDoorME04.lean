/- Plain arithmetic of lines: where a line's content ends, where the next line begins, how many there are. Conditions: none. -/
import Derived.Lib.DecodeN
import Derived.Lib.RuneCount
import Derived.Test.YtjeopabnddekgaaDoorME03
namespace Go.Proofs.YtjeopabnddekgaaDoor.L
open Go

theorem at_get {s : ByteArray} {i : Nat} (h : i < s.size) : s.get! i = s[i] := get_at s i h
/-- a byte of a line's end -/
def brk (s : ByteArray) (i : Nat) : Bool := decide ((s.get! i).toNat = 10 ∨ (s.get! i).toNat = 13)
theorem brk_yes {s : ByteArray} {i : Nat} (h : (s.get! i).toNat = 10 ∨ (s.get! i).toNat = 13) : brk s i = true := decide_eq_true h
theorem brk_no {s : ByteArray} {i : Nat} (h1 : (s.get! i).toNat ≠ 10) (h2 : (s.get! i).toNat ≠ 13) : brk s i = false := decide_eq_false (by omega)
theorem of_brk {s : ByteArray} {i : Nat} (h : brk s i = true) : (s.get! i).toNat = 10 ∨ (s.get! i).toNat = 13 := of_decide_eq_true h
theorem of_nbrk {s : ByteArray} {i : Nat} (h : brk s i = false) : (s.get! i).toNat ≠ 10 ∧ (s.get! i).toNat ≠ 13 := by
  have := of_decide_eq_false h
  omega

/-- the end of the content of a line that has the place -/
def ceF (s : ByteArray) : Nat → Nat → Nat
  | 0, i => i
  | f + 1, i => if i < s.size then (if brk s i = true then i else ceF s f (i + 1)) else i
def ce (s : ByteArray) (i : Nat) : Nat := ceF s (s.size - i) i
theorem ce_end {s : ByteArray} {i : Nat} (h : ¬ i < s.size) : ce s i = i := by
  unfold ce; rw [show s.size - i = 0 by omega]; rfl
theorem ce_brk {s : ByteArray} {i : Nat} (h : i < s.size) (hb : brk s i = true) : ce s i = i := by
  unfold ce; rw [show s.size - i = (s.size - i - 1) + 1 by omega]; simp only [ceF, if_pos h, if_pos hb]
theorem ce_step {s : ByteArray} {i : Nat} (h : i < s.size) (hb : brk s i = false) : ce s i = ce s (i + 1) := by
  unfold ce; rw [show s.size - i = (s.size - (i + 1)) + 1 by omega]; simp only [ceF, if_pos h]; rw [if_neg (by rw [hb]; decide)]
theorem ce_facts (s : ByteArray) : ∀ f i, s.size ≤ i + f → i ≤ s.size → i ≤ ce s i ∧ ce s i ≤ s.size ∧ (ce s i < s.size → brk s (ce s i) = true) ∧ ∀ j, i ≤ j → j < ce s i → brk s j = false
  | 0, i, h, hi => by rw [ce_end (by omega)]; exact ⟨by omega, by omega, fun h => by omega, fun j h1 h2 => by omega⟩
  | f + 1, i, h, hi => by
    by_cases hlt : i < s.size
    · cases hb : brk s i
      · rw [ce_step hlt hb]
        obtain ⟨a, b, c, d⟩ := ce_facts s f (i + 1) (by omega) (by omega)
        refine ⟨by omega, b, c, fun j h1 h2 => ?_⟩
        by_cases e : j = i
        · rw [e]; exact hb
        · exact d j (by omega) h2
      · rw [ce_brk hlt hb]; exact ⟨by omega, by omega, fun _ => hb, fun j h1 h2 => by omega⟩
    · rw [ce_end hlt]; exact ⟨by omega, by omega, fun h => by omega, fun j h1 h2 => by omega⟩
theorem ce_ge {s : ByteArray} {i : Nat} (h : i ≤ s.size) : i ≤ ce s i := (ce_facts s s.size i (by omega) h).1
theorem ce_le {s : ByteArray} {i : Nat} (h : i ≤ s.size) : ce s i ≤ s.size := (ce_facts s s.size i (by omega) h).2.1
theorem ce_is {s : ByteArray} {i : Nat} (h : i ≤ s.size) (hl : ce s i < s.size) : brk s (ce s i) = true := (ce_facts s s.size i (by omega) h).2.2.1 hl
theorem ce_none {s : ByteArray} {i j : Nat} (h : i ≤ s.size) (h1 : i ≤ j) (h2 : j < ce s i) : brk s j = false := (ce_facts s s.size i (by omega) h).2.2.2 j h1 h2
/-- from within a content its end is the same -/
theorem ce_in {s : ByteArray} : ∀ d {i j : Nat}, j = i + d → i ≤ s.size → j ≤ ce s i → ce s j = ce s i
  | 0, i, j, e, _, _ => by rw [e]; rfl
  | d + 1, i, j, e, hi, hj => by
    have hlt : i < s.size := by
      by_cases h : i < s.size
      · exact h
      · rw [ce_end h] at hj; omega
    have hb : brk s i = false := ce_none hi (Nat.le_refl _) (by omega)
    rw [ce_step hlt hb] at hj ⊢
    exact ce_in d (by omega) (by omega) hj
theorem ce_same {s : ByteArray} {i j : Nat} (hi : i ≤ s.size) (h : i ≤ j) (hj : j ≤ ce s i) : ce s j = ce s i := ce_in (j - i) (by omega) hi hj

/-- is there a byte 10 behind the byte 13 at the place? -/
def pair (s : ByteArray) (i : Nat) : Bool := decide ((s.get! i).toNat = 13 ∧ i + 1 < s.size ∧ (s.get! (i + 1)).toNat = 10)
/-- the end of the line's end that begins at the place -/
def nx (s : ByteArray) (i : Nat) : Nat := if pair s i = true then i + 2 else i + 1
theorem nx_pair {s : ByteArray} {i : Nat} (h : pair s i = true) : nx s i = i + 2 := by unfold nx; rw [if_pos h]
theorem nx_one {s : ByteArray} {i : Nat} (h : pair s i = false) : nx s i = i + 1 := by unfold nx; rw [if_neg (by rw [h]; decide)]
theorem of_pair {s : ByteArray} {i : Nat} (h : pair s i = true) : (s.get! i).toNat = 13 ∧ i + 1 < s.size ∧ (s.get! (i + 1)).toNat = 10 := of_decide_eq_true h
theorem of_npair {s : ByteArray} {i : Nat} (h : pair s i = false) : ¬ ((s.get! i).toNat = 13 ∧ i + 1 < s.size ∧ (s.get! (i + 1)).toNat = 10) := of_decide_eq_false h
theorem nx_facts {s : ByteArray} {i : Nat} (h : i < s.size) : i < nx s i ∧ nx s i ≤ i + 2 ∧ nx s i ≤ s.size := by
  cases hp : pair s i
  · rw [nx_one hp]; omega
  · have := of_pair hp; rw [nx_pair hp]; omega

/-- where line k begins, and where its content ends (while there is one) -/
def fr (s : ByteArray) : Nat → Nat
  | 0 => 0
  | k + 1 => nx s (ce s (fr s k))
def to (s : ByteArray) (k : Nat) : Nat := ce s (fr s k)
theorem fr_succ (s : ByteArray) (k : Nat) : fr s (k + 1) = nx s (to s k) := rfl

def cnt (s : ByteArray) : Nat → Nat → Nat
  | 0, _ => 1
  | f + 1, i => if ce s i < s.size then cnt s f (nx s (ce s i)) + 1 else 1
/-- how many lines there are -/
def mny (s : ByteArray) : Nat := cnt s (s.size + 1) 0
theorem cnt_pos (s : ByteArray) : ∀ f i, 1 ≤ cnt s f i
  | 0, _ => by simp [cnt]
  | f + 1, i => by unfold cnt; split <;> omega
theorem cnt_facts (s : ByteArray) : ∀ f k, s.size < fr s k + f → fr s k ≤ s.size → (∀ j, j + 1 < cnt s f (fr s k) → to s (k + j) < s.size ∧ fr s (k + j) ≤ s.size) ∧ to s (k + (cnt s f (fr s k) - 1)) = s.size ∧ fr s (k + (cnt s f (fr s k) - 1)) ≤ s.size
  | 0, k, h, hk => by omega
  | f + 1, k, h, hk => by
    have hge := ce_ge hk
    have hle := ce_le hk
    unfold cnt
    by_cases hlt : ce s (fr s k) < s.size
    · rw [if_pos hlt]
      have hn := nx_facts hlt
      obtain ⟨a, b, c⟩ := cnt_facts s f (k + 1) (by rw [fr_succ]; unfold to; omega) (by rw [fr_succ]; unfold to; omega)
      rw [fr_succ] at a b c
      unfold to at a b c
      have hp := cnt_pos s f (nx s (ce s (fr s k)))
      refine ⟨fun j hj => ?_, ?_, ?_⟩
      · cases j with
        | zero => exact ⟨hlt, hk⟩
        | succ j => have := a j (by omega); rw [show k + 1 + j = k + (j + 1) by omega] at this; exact this
      · unfold to
        rw [show k + (cnt s f (nx s (ce s (fr s k))) + 1 - 1) = k + 1 + (cnt s f (nx s (ce s (fr s k))) - 1) by omega]; exact b
      · rw [show k + (cnt s f (nx s (ce s (fr s k))) + 1 - 1) = k + 1 + (cnt s f (nx s (ce s (fr s k))) - 1) by omega]; exact c
    · rw [if_neg hlt]
      exact ⟨fun j hj => by omega, by unfold to; simp; omega, by simpa using hk⟩
theorem mny_pos (s : ByteArray) : 1 ≤ mny s := cnt_pos _ _ _
theorem mny_all (s : ByteArray) : (∀ j, j + 1 < mny s → to s j < s.size ∧ fr s j ≤ s.size) ∧ to s (mny s - 1) = s.size ∧ fr s (mny s - 1) ≤ s.size := by
  have := cnt_facts s (s.size + 1) 0 (by show s.size < 0 + (s.size + 1); omega) (Nat.zero_le _)
  simpa [mny, fr] using this
theorem to_lt {s : ByteArray} {j : Nat} (h : j + 1 < mny s) : to s j < s.size := ((mny_all s).1 j h).1
theorem to_last (s : ByteArray) : to s (mny s - 1) = s.size := (mny_all s).2.1
theorem fr_le {s : ByteArray} {j : Nat} (h : j < mny s) : fr s j ≤ s.size := by
  by_cases h1 : j + 1 < mny s
  · exact ((mny_all s).1 j h1).2
  · rw [show j = mny s - 1 by omega]; exact (mny_all s).2.2
theorem to_ge {s : ByteArray} {j : Nat} (h : j < mny s) : fr s j ≤ to s j := ce_ge (fr_le h)
theorem to_le {s : ByteArray} {j : Nat} (h : j < mny s) : to s j ≤ s.size := ce_le (fr_le h)
theorem to_end {s : ByteArray} {j : Nat} (h : j < mny s) (he : ¬ j + 1 < mny s) : to s j = s.size := by rw [show j = mny s - 1 by omega]; exact to_last s
theorem to_lt_iff {s : ByteArray} {j : Nat} (h : j < mny s) : to s j < s.size ↔ j + 1 < mny s := ⟨fun hl => by
  by_cases he : j + 1 < mny s
  · exact he
  · have := to_end h he; omega, to_lt⟩
theorem fr_up {s : ByteArray} {j : Nat} (h : j + 1 < mny s) : to s j < fr s (j + 1) ∧ fr s (j + 1) ≤ to s j + 2 := by
  have := nx_facts (to_lt h); rw [fr_succ]; omega
theorem fr_mono {s : ByteArray} : ∀ d {i : Nat}, i + d < mny s → fr s i + d ≤ fr s (i + d)
  | 0, _, _ => Nat.le_refl _
  | d + 1, i, h => by
    have h1 := fr_mono (s := s) d (i := i) (by omega)
    have h2 := fr_up (s := s) (j := i + d) (by omega)
    have h3 := to_ge (s := s) (j := i + d) (by omega)
    rw [show i + (d + 1) = i + d + 1 by omega]
    omega
theorem fr_rise {s : ByteArray} {i j : Nat} (h : i ≤ j) (hj : j < mny s) : fr s i + (j - i) ≤ fr s j := by
  have := fr_mono (s := s) (j - i) (i := i) (by omega)
  rwa [show i + (j - i) = j by omega] at this
theorem to_fr {s : ByteArray} {i j : Nat} (h : i < j) (hj : j < mny s) : to s i < fr s j := by
  have h1 := fr_up (s := s) (j := i) (by omega)
  have h2 := fr_rise (s := s) (i := i + 1) (j := j) (by omega) hj
  omega
theorem mny_le (s : ByteArray) : mny s ≤ s.size + 1 := by
  have h1 := fr_rise (s := s) (i := 0) (j := mny s - 1) (by omega) (by have := mny_pos s; omega)
  have h2 := fr_le (s := s) (j := mny s - 1) (by have := mny_pos s; omega)
  omega
theorem mny_eq {s : ByteArray} {k : Nat} (h : k < mny s) (he : to s k = s.size) : mny s = k + 1 := by
  by_cases h1 : k + 1 < mny s
  · have := to_lt h1; omega
  · omega

/-- the offsets at which lines begin -/
def starts (s : ByteArray) (k : Nat) : List Nat := (List.range k).map (fr s)
theorem starts_succ (s : ByteArray) (k : Nat) : starts s (k + 1) = starts s k ++ [fr s k] := by simp [starts, List.range_succ]
theorem starts_len (s : ByteArray) (k : Nat) : (starts s k).length = k := by simp [starts]
end Go.Proofs.YtjeopabnddekgaaDoor.L

namespace Go.Proofs.YtjeopabnddekgaaDoor.R
open Go

/-- line ends of a row of bytes -/
def bk : List UInt8 → Nat
  | [] => 0
  | b :: l => (if b = 10 then 1 else if b = 13 then (if l.head? = some 10 then 0 else 1) else 0) + bk l
/-- is there a line end whose two bytes stand on the two sides? -/
def seam (l m : List UInt8) : Nat := if l.getLast? = some 13 ∧ m.head? = some 10 then 1 else 0
theorem bk_app : ∀ (l m : List UInt8), bk (l ++ m) + seam l m = bk l + bk m
  | [], m => by simp [bk, seam]
  | [b], m => by
    simp only [List.cons_append, List.nil_append, bk, seam, List.getLast?_singleton, List.head?_nil, Option.some.injEq, reduceCtorEq, if_false]
    by_cases h1 : b = 10
    · subst h1; simp
    · by_cases h2 : b = 13
      · subst h2
        by_cases h3 : m.head? = some 10
        · simp [h3]; omega
        · simp [h3]
      · simp [h1, h2]
  | b :: c :: l, m => by
    have ih := bk_app (c :: l) m
    have e1 : seam (b :: c :: l) m = seam (c :: l) m := by simp [seam]
    have e2 : bk (b :: c :: l ++ m) = (if b = 10 then 1 else if b = 13 then (if (c :: l).head? = some 10 then 0 else 1) else 0) + bk (c :: l ++ m) := rfl
    have e3 : bk (b :: c :: l) = (if b = 10 then 1 else if b = 13 then (if (c :: l).head? = some 10 then 0 else 1) else 0) + bk (c :: l) := rfl
    rw [e1, e2, e3]
    omega
theorem drop_at (s : ByteArray) (i : Nat) (h : i < s.size) : s.data.toList.drop i = s.get! i :: s.data.toList.drop (i + 1) := by
  have hl : i < s.data.toList.length := by simpa using h
  rw [List.drop_eq_getElem_cons hl, L.at_get h]
  rfl
theorem toNat_eq (b : UInt8) (n : Nat) (hn : n < 256) : b = UInt8.ofNat n ↔ b.toNat = n := by
  constructor
  · rintro rfl; simp; omega
  · intro h; apply UInt8.toNat_inj.1; simp; omega
theorem bk_ce (s : ByteArray) : ∀ f i, s.size ≤ i + f → i ≤ s.size → bk (s.data.toList.drop i) = bk (s.data.toList.drop (L.ce s i))
  | 0, i, h, hi => by rw [L.ce_end (by omega)]
  | f + 1, i, h, hi => by
    by_cases hlt : i < s.size
    · cases hb : L.brk s i
      · rw [L.ce_step hlt hb, ← bk_ce s f (i + 1) (by omega) (by omega), drop_at s i hlt]
        have hn := L.of_nbrk hb
        have h1 : s.get! i ≠ 10 := fun e => hn.1 (by rw [e]; rfl)
        have h2 : s.get! i ≠ 13 := fun e => hn.2 (by rw [e]; rfl)
        simp [bk, h1, h2]
      · rw [L.ce_brk hlt hb]
    · rw [L.ce_end hlt]
theorem bk_cnt (s : ByteArray) : ∀ f i, s.size < i + f → i ≤ s.size → L.cnt s f i = 1 + bk (s.data.toList.drop i)
  | 0, i, h, hi => by omega
  | f + 1, i, h, hi => by
    rw [bk_ce s s.size i (by omega) hi]
    simp only [L.cnt]
    by_cases hlt : L.ce s i < s.size
    · rw [if_pos hlt]
      have hge := L.ce_ge hi
      have hb := L.ce_is hi hlt
      have hn := L.nx_facts hlt
      have ih := bk_cnt s f (L.nx s (L.ce s i)) (by omega) hn.2.2
      rw [ih, drop_at s _ hlt]
      generalize L.ce s i = p at *
      cases hp : L.pair s p
      · rw [L.nx_one hp]
        have hq := L.of_npair hp
        rcases L.of_brk hb with h10 | h13
        · have e : s.get! p = 10 := (toNat_eq _ 10 (by omega)).2 h10
          simp only [bk, e, if_true]; omega
        · have e : s.get! p = 13 := (toNat_eq _ 13 (by omega)).2 h13
          have hh : (s.data.toList.drop (p + 1)).head? ≠ some 10 := by
            by_cases hl : p + 1 < s.size
            · rw [drop_at s _ hl, List.head?_cons]
              intro e
              exact hq ⟨h13, hl, by rw [Option.some.inj e]; rfl⟩
            · rw [List.drop_eq_nil_of_le (by simp; omega)]; simp
          simp only [bk, e, if_neg hh, if_neg (show ¬ ((13 : UInt8) = 10) by decide), if_true]; omega
      · rw [L.nx_pair hp]
        obtain ⟨h13, hl, h10⟩ := L.of_pair hp
        have e : s.get! p = 13 := (toNat_eq _ 13 (by omega)).2 h13
        have e' : s.get! (p + 1) = 10 := (toNat_eq _ 10 (by omega)).2 h10
        rw [drop_at s _ hl, show p + 1 + 1 = p + 2 from rfl]
        simp only [bk, e, e', List.head?_cons, if_true, if_neg (show ¬ ((13 : UInt8) = 10) by decide)]; omega
    · rw [if_neg hlt]
      have := L.ce_le hi
      rw [List.drop_eq_nil_of_le (by simp; omega)]; rfl
theorem mny_bk (s : ByteArray) : L.mny s = 1 + bk s.data.toList := by
  have := bk_cnt s (s.size + 1) 0 (by omega) (by omega)
  rw [List.drop_zero] at this
  exact this

/-- the counts of a part of a text -/
structure Cn where
  b : Nat
  u : Nat
  k : Nat
  f : Bool
  e : Bool
def Cn.none : Cn := ⟨0, 0, 0, false, false⟩
def cn (s : ByteArray) : Cn := ⟨s.size, U.units s, L.mny s - 1, decide (s.data.toList.head? = some 10), decide (s.data.toList.getLast? = some 13)⟩
/-- the counts of one text behind the other -/
def Cn.add (x y : Cn) : Cn := if y.b = 0 then (if x.b = 0 then Cn.none else x) else if x.b = 0 then y else ⟨x.b + y.b, x.u + y.u, x.k + y.k - (if x.e && y.f then 1 else 0), x.f, y.e⟩
theorem cn_none (s : ByteArray) (h : s.size = 0) : cn s = Cn.none := by
  rw [U.empty_of s h]; rfl
theorem list_len (s : ByteArray) : s.data.toList.length = s.size := by simp
theorem cn_add (x y : ByteArray) (hv : U.valid x = true) : (cn x).add (cn y) = cn (x ++ y) := by
  unfold Cn.add
  by_cases hy : y.size = 0
  · rw [if_pos (show (cn y).b = 0 from hy)]
    have e : x ++ y = x := by rw [U.empty_of y hy]; exact ByteArray.append_empty
    rw [e]
    by_cases hx : x.size = 0
    · rw [if_pos (show (cn x).b = 0 from hx), cn_none x hx]
    · rw [if_neg (show ¬ (cn x).b = 0 from hx)]
  · rw [if_neg (show ¬ (cn y).b = 0 from hy)]
    by_cases hx : x.size = 0
    · rw [if_pos (show (cn x).b = 0 from hx)]
      have e : x ++ y = y := by rw [U.empty_of x hx]; exact ByteArray.empty_append
      rw [e]
    · rw [if_neg (show ¬ (cn x).b = 0 from hx)]
      have hk := bk_app x.data.toList y.data.toList
      have nx : x.data.toList ≠ [] := fun h => hx (by rw [← list_len, h]; rfl)
      have ny : y.data.toList ≠ [] := fun h => hy (by rw [← list_len, h]; rfl)
      have e1 : (x ++ y).data.toList = x.data.toList ++ y.data.toList := U.app_list x y
      have e2 : (x ++ y).data.toList.head? = x.data.toList.head? := by
        rw [e1, List.head?_append]
        cases hc : x.data.toList with
        | nil => exact absurd hc nx
        | cons a l => rfl
      have e3 : (x ++ y).data.toList.getLast? = y.data.toList.getLast? := by
        rw [e1, List.getLast?_append]
        cases hc : y.data.toList.getLast? with
        | none => exact absurd (List.getLast?_eq_none_iff.1 hc) ny
        | some a => rfl
      unfold cn
      rw [e2, e3, U.app_size, U.units_app x y hv, mny_bk, mny_bk, mny_bk, e1]
      simp only [Cn.mk.injEq, true_and, and_true]
      unfold seam at hk
      by_cases h1 : x.data.toList.getLast? = some 13 <;> by_cases h2 : y.data.toList.head? = some 10 <;> simp only [h1, h2, true_and, and_true, false_and, and_false, if_true, if_false, decide_true, decide_false, Bool.and_true, Bool.and_false, Bool.false_and, Bool.true_and, and_self, Bool.and_self, Bool.false_eq_true] at hk ⊢ <;> omega
theorem cn_ends (x y : ByteArray) (hv : U.valid x = true) : (cn x).k + (cn y).k = (cn (x ++ y)).k + (if (cn x).e && (cn y).f then 1 else 0) := by
  have hk := bk_app x.data.toList y.data.toList
  unfold cn
  simp only [mny_bk, U.app_list]
  unfold seam at hk
  by_cases h1 : x.data.toList.getLast? = some 13 <;> by_cases h2 : y.data.toList.head? = some 10 <;> simp only [h1, h2, true_and, and_true, false_and, and_false, if_true, if_false, decide_true, decide_false, Bool.and_true, Bool.and_false, Bool.false_and, Bool.true_and, and_self, Bool.and_self, Bool.false_eq_true] at hk ⊢ <;> omega

/-- a rope's tree: none, a leaf, an inner node with its depth -/
inductive T where
  | none
  | leaf (s : ByteArray)
  | inner (d : Nat) (l r : T)
def T.tx : T → ByteArray
  | .none => .empty
  | .leaf s => s
  | .inner _ l r => l.tx ++ r.tx
def T.dep : T → Nat
  | .none => 0
  | .leaf _ => 1
  | .inner d _ _ => d
/-- a tree that has a leaf: its leaves are valid and small, its two sides' depths differ by one at most -/
def T.Ok : T → Prop
  | .none => False
  | .leaf s => 0 < s.size ∧ s.size ≤ 64 ∧ U.valid s = true
  | .inner d l r => l.Ok ∧ r.Ok ∧ d = 1 + max l.dep r.dep ∧ l.dep ≤ r.dep + 1 ∧ r.dep ≤ l.dep + 1
/-- .. or none -/
def T.Fit (t : T) : Prop := t = .none ∨ t.Ok
theorem T.Ok.fit {t : T} (h : t.Ok) : t.Fit := .inr h
theorem T.Ok.pos : ∀ {t : T}, t.Ok → 0 < t.tx.size ∧ 1 ≤ t.dep
  | .none, h => h.elim
  | .leaf _, h => ⟨h.1, Nat.le_refl _⟩
  | .inner d l r, h => by
    have h1 := T.Ok.pos h.1
    have h2 := h.2.2.1
    simp only [T.tx, T.dep, U.app_size]
    omega
theorem T.Ok.valid : ∀ {t : T}, t.Ok → U.valid t.tx = true
  | .none, h => h.elim
  | .leaf _, h => h.2.2
  | .inner d l r, h => by
    simp only [T.tx]
    rw [U.valid_app _ _ (T.Ok.valid h.1)]
    exact T.Ok.valid h.2.1
theorem T.Fit.valid {t : T} (h : t.Fit) : U.valid t.tx = true := by
  rcases h with rfl | h
  · exact U.valid_none _ rfl
  · exact h.valid
theorem T.Fit.none_iff {t : T} (h : t.Fit) : t.tx.size = 0 ↔ t = .none := by
  rcases h with rfl | h
  · exact ⟨fun _ => rfl, fun _ => rfl⟩
  · have := h.pos
    exact ⟨fun e => by omega, fun e => by subst e; exact h.elim⟩
/-- a tree of such a depth has so many bytes -/
theorem T.Ok.many : ∀ {t : T}, t.Ok → 2 ^ (t.dep / 2) ≤ t.tx.size
  | .none, h => h.elim
  | .leaf s, h => by
    show 2 ^ (1 / 2) ≤ s.size
    have := h.1
    have e : 2 ^ (1 / 2) = 1 := rfl
    omega
  | .inner d l r, h => by
    obtain ⟨h1, h2, hd, h3, h4⟩ := h
    have m1 := T.Ok.many h1
    have m2 := T.Ok.many h2
    have p1 := h1.pos
    have p2 := h2.pos
    simp only [T.tx, T.dep, U.app_size]
    have k1 : d - 2 ≤ l.dep := by omega
    have k2 : d - 2 ≤ r.dep := by omega
    have e1 : 2 ^ ((d - 2) / 2) ≤ 2 ^ (l.dep / 2) := Nat.pow_le_pow_right (by omega) (by omega)
    have e2 : 2 ^ ((d - 2) / 2) ≤ 2 ^ (r.dep / 2) := Nat.pow_le_pow_right (by omega) (by omega)
    have e3 : 2 ^ (d / 2) = 2 ^ ((d - 2) / 2) * 2 := by
      rw [← Nat.pow_succ]; congr 1; omega
    omega

/-- two trees under a node -/
def pr (l r : T) : T := .inner (1 + max l.dep r.dep) l r
theorem pr_tx (l r : T) : (pr l r).tx = l.tx ++ r.tx := rfl
theorem pr_dep (l r : T) : (pr l r).dep = 1 + max l.dep r.dep := rfl
theorem pr_ok {l r : T} (hl : l.Ok) (hr : r.Ok) (h1 : l.dep ≤ r.dep + 1) (h2 : r.dep ≤ l.dep + 1) : (pr l r).Ok := ⟨hl, hr, rfl, h1, h2⟩
end Go.Proofs.YtjeopabnddekgaaDoor.R
