/- Places by lines, plainly. Conditions: none. -/
import Derived.Test.YtjeopabnddekgaaDoorME04
import Derived.Test.YtjeopabnddekgaaDoorME12
namespace Go.Proofs.YtjeopabnddekgaaDoor
open Go Go.RowKit

/-- the content of line k -/
def content (s : ByteArray) (k : Nat) : ByteArray := s.extract (L.fr s k) (L.to s k)
/-- where a place by lines lies -/
def ofs (s : ByteArray) (l c : Int) : Nat := if l.toNat < L.mny s then L.fr s l.toNat + U.cut (content s l.toNat) c else s.size
theorem content_size {s : ByteArray} {k : Nat} (h : k < L.mny s) : (content s k).size = L.to s k - L.fr s k := by
  unfold content; rw [ByteArray.size_extract]; have := L.to_le h; omega

namespace L
def lnF (s : ByteArray) (b : Nat) : Nat → Nat
  | 0 => 0
  | k + 1 => if fr s (k + 1) ≤ b then k + 1 else lnF s b k
/-- the last line that begins at or before an offset -/
def ln (s : ByteArray) (b : Nat) : Nat := lnF s b (mny s - 1)
theorem lnF_facts (s : ByteArray) (b : Nat) : ∀ k, lnF s b k ≤ k ∧ fr s (lnF s b k) ≤ b ∧ ∀ j, lnF s b k < j → j ≤ k → b < fr s j
  | 0 => ⟨Nat.le_refl _, Nat.zero_le _, fun j h1 h2 => by unfold lnF at h1; omega⟩
  | k + 1 => by
    unfold lnF
    by_cases h : fr s (k + 1) ≤ b
    · rw [if_pos h]; exact ⟨Nat.le_refl _, h, fun j h1 h2 => by omega⟩
    · rw [if_neg h]
      obtain ⟨a, c, d⟩ := lnF_facts s b k
      refine ⟨by omega, c, fun j h1 h2 => ?_⟩
      by_cases e : j = k + 1
      · rw [e]; omega
      · exact d j h1 (by omega)
theorem ln_lt (s : ByteArray) (b : Nat) : ln s b < mny s := by
  have := (lnF_facts s b (mny s - 1)).1
  have := mny_pos s
  unfold ln; omega
theorem ln_le (s : ByteArray) (b : Nat) : fr s (ln s b) ≤ b := (lnF_facts s b (mny s - 1)).2.1
theorem ln_up (s : ByteArray) {b j : Nat} (h : ln s b < j) (hj : j < mny s) : b < fr s j := (lnF_facts s b (mny s - 1)).2.2 j h (by omega)
theorem ln_eq {s : ByteArray} {b k : Nat} (hk : k < mny s) (h1 : fr s k ≤ b) (h2 : k + 1 < mny s → b < fr s (k + 1)) : ln s b = k := by
  have a := ln_lt s b
  have c := ln_le s b
  by_cases e : ln s b < k
  · have := ln_up s e hk; omega
  · by_cases e2 : k < ln s b
    · have := h2 (by omega)
      have := fr_rise (s := s) (i := k + 1) (j := ln s b) (by omega) a
      omega
    · omega
end L


/-- the place by lines of an offset -/
def posL (s : ByteArray) (b : Nat) : Nat := L.ln s b
def posC (s : ByteArray) (b : Nat) : Nat := U.units (s.extract (L.fr s (L.ln s b)) (min b (L.to s (L.ln s b))))
end Go.Proofs.YtjeopabnddekgaaDoor

namespace Go.Proofs.YtjeopabnddekgaaDoor
open Go

namespace U
/-- the scan comes to the place -/
def At (s : ByteArray) (p : Nat) : Prop := ∃ j n, st s j 0 0 = (p, n)
theorem st_shift (s : ByteArray) (a : Nat) : ∀ j q m p n, st s j q m = (p, n) → st s j q (m + a) = (p, n + a)
  | 0, q, m, p, n, h => by
    simp only [st, Prod.mk.injEq] at h ⊢
    omega
  | j + 1, q, m, p, n, h => by
    by_cases hq : q < s.size
    · rw [st_step s j q m hq] at h
      have := st_shift s a j _ _ p n h
      rw [st_step s j q _ hq, show m + a + un s q = m + un s q + a by omega]
      exact this
    · rw [st_end s _ q m hq] at h
      simp only [Prod.mk.injEq] at h
      rw [st_end s _ q _ hq, h.1, h.2]
theorem st_add (s : ByteArray) (k : Nat) : ∀ j q m p n, st s j q m = (p, n) → st s (j + k) q m = st s k p n
  | 0, q, m, p, n, h => by
    simp only [st, Prod.mk.injEq] at h
    rw [Nat.zero_add, h.1, h.2]
  | j + 1, q, m, p, n, h => by
    by_cases hq : q < s.size
    · rw [st_step s j q m hq] at h
      rw [show j + 1 + k = (j + k) + 1 by omega, st_step s _ q m hq]
      exact st_add s k j _ _ p n h
    · rw [st_end s _ q m hq] at h
      simp only [Prod.mk.injEq] at h
      rw [st_end s _ q m hq, ← h.1, ← h.2, st_end s k q m hq]
theorem st_split (s : ByteArray) {j k q m p n p' n' : Nat} (h : st s j q m = (p, n)) (h' : st s k q m = (p', n')) (hjk : j ≤ k) : ∃ d, st s d p n = (p', n') :=
  ⟨k - j, by rw [← st_add s (k - j) j q m p n h, show j + (k - j) = k by omega]; exact h'⟩
/-- from the one place that the scan comes to it comes to the other -/
theorem at_from {s : ByteArray} {p p' : Nat} (h : At s p) (h' : At s p') (hle : p ≤ p') : ∃ d m, st s d p 0 = (p', m) := by
  obtain ⟨j, n, hj⟩ := h
  obtain ⟨k, n', hk⟩ := h'
  have key : ∃ d a b, st s d p a = (p', b) := by
    by_cases hjk : j ≤ k
    · obtain ⟨d, hd⟩ := st_split s hj hk hjk
      exact ⟨d, n, n', hd⟩
    · obtain ⟨d, hd⟩ := st_split s hk hj (by omega)
      have := (st_mono s d _ _ _ _ hd).1
      exact ⟨0, n, n, by rw [show p' = p by omega]; rfl⟩
  obtain ⟨d, a, b, hd⟩ := key
  obtain ⟨x, hx⟩ : ∃ x, st s d p 0 = x := ⟨_, rfl⟩
  obtain ⟨x1, x2⟩ := x
  have := st_shift s a d p 0 x1 x2 hx
  rw [Nat.zero_add, hd] at this
  simp only [Prod.mk.injEq] at this
  exact ⟨d, x2, by rw [hx, this.1]⟩
theorem at_to {s : ByteArray} {p p' d m : Nat} (h : At s p) (hd : st s d p 0 = (p', m)) : At s p' := by
  obtain ⟨j, n, hj⟩ := h
  have := st_shift s n d p 0 p' m hd
  rw [Nat.zero_add] at this
  exact ⟨j + d, m + n, by rw [st_add s d j 0 0 p n hj]; exact this⟩
theorem at_step {s : ByteArray} {p : Nat} (h : At s p) (hp : p < s.size) : At s (p + wd s p) :=
  at_to (d := 1) (m := un s p) h (by rw [st_step s 0 p 0 hp, Nat.zero_add]; rfl)
theorem at_bgn (s : ByteArray) (i : Int) : At s (bgnAt s i) := by
  obtain ⟨j, n, h, _⟩ := bgnAt_facts s i
  exact ⟨j, n, h⟩
theorem bgn_at {s : ByteArray} {p : Nat} (h : At s p) (hp : p ≤ s.size) : bgnAt s (p : Nat) = p := by
  obtain ⟨j, n, hj⟩ := h
  exact bgnAt_back s j p n hj hp

/-! ### a stretch of a string -/
theorem ext2_len (s : ByteArray) (f e : Nat) (he : e ≤ s.size) : (s.extract f e).size = e - f := by rw [ByteArray.size_extract]; omega
theorem ext2_get (s : ByteArray) (f e i : Nat) (h : f + i < e) : (s.extract f e).get! i = s.get! (f + i) := by
  rw [get_list, get_list, Lib.extract_data]
  simp only [List.getD]
  rw [List.getElem?_take, if_pos (by omega), List.getElem?_drop]
theorem item2 (s : ByteArray) (f e q : Nat) (he : e ≤ s.size) (hq : f + q < e) (hw : f + q + wd s (f + q) ≤ e) : wd (s.extract f e) q = wd s (f + q) ∧ un (s.extract f e) q = un s (f + q) := by
  have hz := ext2_len s f e he
  have hqs : f + q < s.size := by omega
  cases hb : bad s (f + q)
  · have := same_char s (s.extract f e) (f + q) q hqs hb (by omega) (fun k hk => by rw [ext2_get s f e (q + k) (by omega), Nat.add_assoc])
    unfold un
    rw [this.1, this.2]
    exact ⟨rfl, rfl⟩
  · have hx : bad (s.extract f e) q = true := by
      cases hy : bad (s.extract f e) q
      · have hwt := wd_le (s := s.extract f e) (i := q) (by omega)
        have := same_char (s.extract f e) s q (f + q) (by omega) hy (by omega) (fun k hk => by rw [ext2_get s f e (q + k) (by omega), Nat.add_assoc])
        have hz := (bad_iff s (f + q)).1 hb
        rw [this.1, this.2] at hz
        rw [(bad_iff _ q).2 hz] at hy
        cases hy
      · rfl
    rw [(bad_un hx).1, (bad_un hx).2, (bad_un hb).1, (bad_un hb).2]
    exact ⟨rfl, rfl⟩
theorem st_in (s : ByteArray) (f e : Nat) (he : e ≤ s.size) : ∀ j q m p n, st s j (f + q) m = (f + p, n) → f + p ≤ e → st (s.extract f e) j q m = (p, n)
  | 0, q, m, p, n, h, _ => by
    simp only [st, Prod.mk.injEq] at h ⊢
    omega
  | j + 1, q, m, p, n, h, hp => by
    have hz := ext2_len s f e he
    by_cases hq : f + q < s.size
    · rw [st_step s j (f + q) m hq] at h
      have hm := st_mono s j _ _ _ n h
      have := wd_pos hq
      obtain ⟨h1, h2⟩ := item2 s f e q he (by omega) (by omega)
      rw [st_step _ j q m (by omega), h1, h2]
      exact st_in s f e he j _ _ p n (by rw [← Nat.add_assoc]; exact h) hp
    · rw [st_end s _ _ m hq] at h
      simp only [Prod.mk.injEq] at h
      rw [st_end _ _ q m (by omega), show q = p by omega, h.2]
theorem st_out (s : ByteArray) (f e : Nat) (he : e ≤ s.size) (hard : ∀ q, q < e → q + wd s q ≤ e) : ∀ j q m p n, st (s.extract f e) j q m = (p, n) → ∃ d, st s d (f + q) m = (f + p, n)
  | 0, q, m, p, n, h => by
    simp only [st, Prod.mk.injEq] at h
    exact ⟨0, by rw [h.1, h.2]; rfl⟩
  | j + 1, q, m, p, n, h => by
    have hz := ext2_len s f e he
    by_cases hq : q < (s.extract f e).size
    · rw [st_step _ j q m hq] at h
      obtain ⟨h1, h2⟩ := item2 s f e q he (by omega) (hard _ (by omega))
      rw [h1, h2] at h
      obtain ⟨d, hd⟩ := st_out s f e he hard j _ _ p n h
      exact ⟨d + 1, by rw [st_step s d _ m (by omega), Nat.add_assoc]; exact hd⟩
    · rw [st_end _ _ q m hq] at h
      simp only [Prod.mk.injEq] at h
      exact ⟨0, by rw [h.1, h.2]; rfl⟩
theorem units_st (s : ByteArray) (f x d m : Nat) (hx : x ≤ s.size) (h : st s d f 0 = (x, m)) : units (s.extract f x) = m := by
  have hm := (st_mono s d f 0 x m h).1
  have := st_in s f x hx d 0 0 (x - f) m (by rw [Nat.add_zero, h, show f + (x - f) = x by omega]) (by omega)
  exact units_of_end _ d m (by rw [ext2_len s f x hx]; exact this)
theorem cut_st2 (s : ByteArray) (f e x d m : Nat) (he : e ≤ s.size) (hx : x ≤ e) (h : st s d f 0 = (x, m)) : cut (s.extract f e) (m : Nat) = x - f := by
  have hm := (st_mono s d f 0 x m h).1
  have hi := st_in s f e he d 0 0 (x - f) m (by rw [Nat.add_zero, h, show f + (x - f) = x by omega]) (by omega)
  have hz := ext2_len s f e he
  have := cut_back (s.extract f e) d (x - f) m hi (by omega)
  rwa [units_ext (s.extract f e) d (x - f) m hi (by omega)] at this
theorem bgn_mono (s : ByteArray) {i j : Nat} (h : i ≤ j) (hj : j < s.size) : bgn s i ≤ bgn s j := by
  have h1 := bgn_has s i (by omega)
  have h2 := bgn_has s j hj
  by_cases hlt : bgn s j < bgn s i
  · obtain ⟨k, n, hk⟩ := reach s j hj
    have := bg_uni s s.size 0 (bgn s j) i (start_back s k _ n hk (by omega)) (by omega) (by omega)
    change bgn s i = bgn s j at this
    omega
  · omega
theorem bgnAt_mono (s : ByteArray) {i j : Int} (h : i ≤ j) : bgnAt s i ≤ bgnAt s j := by
  obtain ⟨_, _, _, hle, _⟩ := bgnAt_facts s i
  unfold bgnAt at hle ⊢
  by_cases h0 : i < 0
  · rw [if_pos h0]; exact Nat.zero_le _
  rw [if_neg h0] at hle ⊢
  rw [if_neg (show ¬ j < 0 by omega)]
  by_cases h1 : j < s.size
  · rw [if_pos h1, if_pos (show i < s.size by omega)]
    exact bgn_mono s (by omega) (by omega)
  · rw [if_neg h1]; exact hle
end U

namespace L
theorem hard {s : ByteArray} {n : Nat} (hn : n < mny s) : ∀ q, q < to s n → q + U.wd s q ≤ to s n := fun q hq => by
  have hto := to_le hn
  by_cases h : q + U.wd s q ≤ to s n
  · exact h
  · exfalso
    have hw := U.wd_le (s := s) (i := q) (by omega)
    have hi := U.inner s q (to s n) (by omega) hq (by omega)
    have hb := of_brk (ce_is (fr_le hn) (show ce s (fr s n) < s.size by change to s n < s.size; omega))
    change (s.get! (to s n)).toNat = 10 ∨ (s.get! (to s n)).toNat = 13 at hb
    omega
theorem at_brk {s : ByteArray} {p : Nat} (h : U.At s p) (hp : p < s.size) (hb : (s.get! p).toNat < 128) : U.At s (p + 1) := by
  have := U.at_step h hp
  rwa [(U.next_ascii s p hb).2.1] at this
theorem at_fr {s : ByteArray} : ∀ n, n < mny s → U.At s (fr s n) ∧ U.At s (to s n)
  | 0, hn => by
    have h0 : U.At s (fr s 0) := ⟨0, 0, rfl⟩
    refine ⟨h0, ?_⟩
    have hz := U.ext2_len s (fr s 0) (to s 0) (to_le hn)
    obtain ⟨j, m, hj⟩ := U.st_to_end (s.extract (fr s 0) (to s 0)) _ 0 0 (Nat.zero_le _) (Nat.le_add_left _ 0)
    obtain ⟨d, hd⟩ := U.st_out s _ _ (to_le hn) (hard hn) j 0 0 _ m hj
    have hge := to_ge hn
    rw [hz, show fr s 0 + (to s 0 - fr s 0) = to s 0 by omega, Nat.add_zero] at hd
    exact U.at_to h0 hd
  | n + 1, hn => by
    obtain ⟨_, ht⟩ := at_fr (s := s) n (by omega)
    have hlt := to_lt hn
    have hb := of_brk (ce_is (fr_le (s := s) (j := n) (by omega)) hlt)
    change (s.get! (to s n)).toNat = 10 ∨ (s.get! (to s n)).toNat = 13 at hb
    have h1 := at_brk ht hlt (by omega)
    have h0 : U.At s (fr s (n + 1)) := by
      rw [fr_succ]
      cases hp : pair s (to s n)
      · rw [nx_one hp]; exact h1
      · rw [nx_pair hp]
        obtain ⟨_, p2, p3⟩ := of_pair hp
        exact at_brk h1 p2 (by omega)
    refine ⟨h0, ?_⟩
    have hz := U.ext2_len s (fr s (n + 1)) (to s (n + 1)) (to_le hn)
    obtain ⟨j, m, hj⟩ := U.st_to_end (s.extract (fr s (n + 1)) (to s (n + 1))) _ 0 0 (Nat.zero_le _) (Nat.le_add_left _ 0)
    obtain ⟨d, hd⟩ := U.st_out s _ _ (to_le hn) (hard hn) j 0 0 _ m hj
    have hge := to_ge hn
    rw [hz, show fr s (n + 1) + (to s (n + 1) - fr s (n + 1)) = to s (n + 1) by omega, Nat.add_zero] at hd
    exact U.at_to h0 hd
theorem at_size (s : ByteArray) : U.At s s.size := by
  have := (at_fr (s := s) (mny s - 1) (by have := mny_pos s; omega)).2
  rwa [to_last] at this
theorem ln_mono (s : ByteArray) {a b : Nat} (h : a ≤ b) : ln s a ≤ ln s b := by
  by_cases e : ln s b < ln s a
  · have h1 := ln_up s e (ln_lt s a)
    have h2 := ln_le s a
    omega
  · omega
theorem ln_size (s : ByteArray) : ln s s.size = mny s - 1 :=
  ln_eq (by have := mny_pos s; omega) (fr_le (by have := mny_pos s; omega)) (fun h => by omega)
/-- behind a content's end, and not at the next line's beginning: between the two bytes of a line's end -/
theorem amid_yes {s : ByteArray} {b : Nat} (hb : b ≤ s.size) (h : to s (ln s b) < b) : 0 < b ∧ b < s.size ∧ (s.get! (b - 1)).toNat = 13 ∧ (s.get! b).toNat = 10 ∧ to s (ln s b) = b - 1 := by
  have hn := ln_lt s b
  have hn1 := (to_lt_iff hn).1 (by omega)
  have hup := ln_up s (Nat.lt_succ_self _) hn1
  rw [fr_succ] at hup
  cases hp : pair s (to s (ln s b))
  · rw [nx_one hp] at hup; omega
  · rw [nx_pair hp] at hup
    obtain ⟨p1, p2, p3⟩ := of_pair hp
    have e : b = to s (ln s b) + 1 := by omega
    refine ⟨by omega, by omega, ?_, ?_, by omega⟩
    · rw [show b - 1 = to s (ln s b) by omega]; exact p1
    · exact (congrArg (fun x => (s.get! x).toNat) e).trans p3
theorem amid_no {s : ByteArray} {b : Nat} (h : b ≤ to s (ln s b)) (h1 : 0 < b) (h2 : b < s.size) (h3 : (s.get! (b - 1)).toNat = 13) (h4 : (s.get! b).toNat = 10) : False := by
  have hn := ln_lt s b
  have hfb := ln_le s b
  have hfr := fr_le hn
  have hbb : brk s b = true := brk_yes (Or.inl h4)
  have hb1 : brk s (b - 1) = true := brk_yes (Or.inr h3)
  have e1 : b = to s (ln s b) := by
    by_cases hlt : b < to s (ln s b)
    · have := ce_none hfr hfb hlt
      rw [hbb] at this; cases this
    · omega
  have e2 : fr s (ln s b) = b := by
    by_cases hlt : fr s (ln s b) < b
    · have := ce_none (s := s) (i := fr s (ln s b)) (j := b - 1) hfr (by omega) (by change b - 1 < to s (ln s b); omega)
      rw [hb1] at this; cases this
    · omega
  revert e1 e2 hn
  generalize ln s b = n
  intro hn e1 e2
  cases n with
  | zero => change 0 = b at e2; omega
  | succ k =>
    rw [fr_succ] at e2
    have hlt := to_lt hn
    cases hp : pair s (to s k)
    · rw [nx_one hp] at e2
      exact of_npair hp ⟨by rw [show to s k = b - 1 by omega]; exact h3, by omega, by rw [e2]; exact h4⟩
    · rw [nx_pair hp] at e2
      obtain ⟨_, _, p3⟩ := of_pair hp
      rw [show to s k + 1 = b - 1 by omega] at p3
      omega
end L

/-! ### places and back -/
theorem ofs_pos (s : ByteArray) (b : Nat) (hA : U.At s b) (hb : b ≤ s.size) : ofs s (posL s b : Nat) (posC s b : Nat) = min b (L.to s (L.ln s b)) := by
  have hn := L.ln_lt s b
  have hfb := L.ln_le s b
  have hge := L.to_ge hn
  have hto := L.to_le hn
  have hx : U.At s (min b (L.to s (L.ln s b))) := by
    by_cases h : b ≤ L.to s (L.ln s b)
    · rw [Nat.min_eq_left h]; exact hA
    · rw [Nat.min_eq_right (by omega)]; exact (L.at_fr _ hn).2
  obtain ⟨d, m, hd⟩ := U.at_from (L.at_fr _ hn).1 hx (by omega)
  have hu := U.units_st s _ _ d m (by omega) hd
  have hc := U.cut_st2 s _ (L.to s (L.ln s b)) _ d m hto (by omega) hd
  unfold ofs posL posC content
  rw [Int.toNat_natCast, if_pos hn, hu, hc]
  omega
theorem ofs_at (s : ByteArray) (l c : Int) : U.At s (ofs s l c) ∧ ofs s l c ≤ s.size := by
  unfold ofs
  by_cases h : l.toNat < L.mny s
  · rw [if_pos h]
    have hz := content_size h
    have hge := L.to_ge h
    have hto := L.to_le h
    obtain ⟨j, n, hj, _, hle, _⟩ := U.cut_facts (content s l.toNat) c
    unfold content at hj
    obtain ⟨d, hd⟩ := U.st_out s _ _ hto (L.hard h) j 0 0 _ n hj
    rw [Nat.add_zero] at hd
    exact ⟨U.at_to (L.at_fr _ h).1 hd, by omega⟩
  · rw [if_neg h]; exact ⟨L.at_size s, Nat.le_refl _⟩
theorem ofs_line (s : ByteArray) (l c : Int) (h : l.toNat < L.mny s) : L.fr s l.toNat ≤ ofs s l c ∧ ofs s l c ≤ L.to s l.toNat ∧ posL s (ofs s l c) = l.toNat ∧ (posC s (ofs s l c) : Int) ≤ max c 0 := by
  have hz := content_size h
  have hge := L.to_ge h
  have hto := L.to_le h
  obtain ⟨j, n, hj, hn, hle, _⟩ := U.cut_facts (content s l.toNat) c
  have e : ofs s l c = L.fr s l.toNat + U.cut (content s l.toNat) c := by unfold ofs; rw [if_pos h]
  have hk1 : L.fr s l.toNat ≤ ofs s l c := by omega
  have hk2 : ofs s l c ≤ L.to s l.toNat := by omega
  have hln : L.ln s (ofs s l c) = l.toNat := L.ln_eq h hk1 (fun h1 => by have := (L.fr_up h1).1; omega)
  refine ⟨hk1, hk2, hln, ?_⟩
  unfold posC
  rw [hln, Nat.min_eq_left hk2]
  by_cases hc : c < 0
  · have h0 := U.cut_below (content s l.toNat) c hc
    have := U.units_le (s.extract (L.fr s l.toNat) (ofs s l c))
    rw [U.ext2_len s _ _ (by omega)] at this
    omega
  · unfold content at hj
    obtain ⟨d, hd⟩ := U.st_out s _ _ hto (L.hard h) j 0 0 _ n hj
    rw [Nat.add_zero] at hd
    have hu := U.units_st s _ _ d n (by unfold content at hle hz; omega) hd
    rw [e]
    unfold content
    rw [hu]
    have := hn (by omega)
    omega
theorem ofs_none (s : ByteArray) (l c : Int) (h : ¬ l.toNat < L.mny s) : ofs s l c = s.size := by unfold ofs; rw [if_neg h]
/-- Offset of Pos of Offset is Offset -/
theorem ofs_ofs (s : ByteArray) (l c : Int) : ofs s (posL s (ofs s l c) : Nat) (posC s (ofs s l c) : Nat) = ofs s l c := by
  obtain ⟨hA, hle⟩ := ofs_at s l c
  rw [ofs_pos s _ hA hle]
  by_cases h : l.toNat < L.mny s
  · obtain ⟨_, h2, h3, _⟩ := ofs_line s l c h
    unfold posL at h3
    rw [h3, Nat.min_eq_left h2]
  · rw [ofs_none s l c h, L.ln_size, L.to_last, Nat.min_self]
/-- of two offsets the places stand in order -/
theorem pos_mono (s : ByteArray) {i j : Int} (h : i ≤ j) : posL s (bgnAt s i) < posL s (bgnAt s j) ∨ (posL s (bgnAt s i) = posL s (bgnAt s j) ∧ posC s (bgnAt s i) ≤ posC s (bgnAt s j)) := by
  have hb := U.bgnAt_mono s h
  have hAi := U.at_bgn s i
  have hAj := U.at_bgn s j
  have hlj : bgnAt s j ≤ s.size := by obtain ⟨_, _, _, h, _⟩ := U.bgnAt_facts s j; exact h
  generalize bgnAt s i = a at *
  generalize bgnAt s j = b at *
  have hm := L.ln_mono s hb
  by_cases hlt : L.ln s a < L.ln s b
  · exact Or.inl hlt
  have e : L.ln s a = L.ln s b := by omega
  refine Or.inr ⟨e, ?_⟩
  have hn := L.ln_lt s b
  have hfa := L.ln_le s a
  have hge := L.to_ge hn
  have hto := L.to_le hn
  rw [e] at hfa
  unfold posC
  rw [e]
  have hx : ∀ x, U.At s x → U.At s (min x (L.to s (L.ln s b))) := fun x hx => by
    by_cases h : x ≤ L.to s (L.ln s b)
    · rw [Nat.min_eq_left h]; exact hx
    · rw [Nat.min_eq_right (by omega)]; exact (L.at_fr _ hn).2
  obtain ⟨d, m, hd⟩ := U.at_from (L.at_fr _ hn).1 (hx a hAi) (by omega)
  obtain ⟨d', m', hd'⟩ := U.at_from (L.at_fr _ hn).1 (hx b hAj) (by omega)
  rw [U.units_st s _ _ d m (by omega) hd, U.units_st s _ _ d' m' (by omega) hd']
  by_cases hdd : d ≤ d'
  · obtain ⟨y, hy⟩ := U.st_split s hd hd' hdd
    exact (U.st_mono s y _ _ _ _ hy).2.1
  · obtain ⟨y, hy⟩ := U.st_split s hd' hd (by omega)
    have h1 := (U.st_mono s y _ _ _ _ hy).1
    have e2 : min a (L.to s (L.ln s b)) = min b (L.to s (L.ln s b)) := by omega
    have u1 := U.units_st s _ _ d m (by omega) hd
    rw [e2, U.units_st s _ _ d' m' (by omega) hd'] at u1
    omega
end Go.Proofs.YtjeopabnddekgaaDoor
