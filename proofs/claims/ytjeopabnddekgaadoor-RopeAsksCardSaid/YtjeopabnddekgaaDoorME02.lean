/- Plain arithmetic of UTF-8: what is repaired is valid and has as many units. Conditions: none. -/
import Derived.Test.YtjeopabnddekgaaDoorME01
namespace Go.Proofs.YtjeopabnddekgaaDoor.U
open Go

set_option maxRecDepth 100000 in
set_option maxHeartbeats 4000000 in
/-- a character hangs on its own bytes alone -/
theorem dn_local (n n' b0 b1 b2 b3 c1 c2 c3 : Nat) (hg : ¬ ((Lib.decodeN n b0 b1 b2 b3).1 = 65533 ∧ (Lib.decodeN n b0 b1 b2 b3).2 = 1)) (hn : (Lib.decodeN n b0 b1 b2 b3).2 ≤ n')
    (h1 : 2 ≤ (Lib.decodeN n b0 b1 b2 b3).2 → c1 = b1) (h2 : 3 ≤ (Lib.decodeN n b0 b1 b2 b3).2 → c2 = b2) (h3 : 4 ≤ (Lib.decodeN n b0 b1 b2 b3).2 → c3 = b3) :
    Lib.decodeN n' b0 c1 c2 c3 = Lib.decodeN n b0 b1 b2 b3 := by
  by_cases k0 : b0 < 128
  · unfold Lib.decodeN
    rw [if_pos k0, if_pos k0]
  by_cases k1 : b0 / 32 = 6 ∧ (1 < n ∧ b1 / 64 = 2)
  · have e : Lib.decodeN n b0 b1 b2 b3 = (if b0 % 32 * 64 + b1 % 64 ≥ 128 then (b0 % 32 * 64 + b1 % 64, 2) else (65533, 1)) := by
      unfold Lib.decodeN
      rw [if_neg k0, if_pos k1]
    rw [e] at hg hn h1 h2 h3 ⊢
    split at hg
    · rename_i hc
      rw [if_pos hc] at hn h1 h2 h3 ⊢
      obtain rfl := h1 (Nat.le_refl _)
      unfold Lib.decodeN
      rw [if_neg k0, if_pos ⟨k1.1, by simp only at hn; omega, k1.2.2⟩, if_pos hc]
    · exact absurd ⟨rfl, rfl⟩ hg
  by_cases k2 : b0 / 16 = 14 ∧ (1 < n ∧ b1 / 64 = 2) ∧ (2 < n ∧ b2 / 64 = 2)
  · have e : Lib.decodeN n b0 b1 b2 b3 = (if b0 % 16 * 4096 + b1 % 64 * 64 + b2 % 64 ≥ 2048 ∧ (b0 % 16 * 4096 + b1 % 64 * 64 + b2 % 64 < 55296 ∨ (57344 ≤ b0 % 16 * 4096 + b1 % 64 * 64 + b2 % 64 ∧ b0 % 16 * 4096 + b1 % 64 * 64 + b2 % 64 ≤ 1114111)) then (b0 % 16 * 4096 + b1 % 64 * 64 + b2 % 64, 3) else (65533, 1)) := by
      unfold Lib.decodeN
      rw [if_neg k0, if_neg k1, if_pos k2]
    rw [e] at hg hn h1 h2 h3 ⊢
    split at hg
    · rename_i hc
      rw [if_pos hc] at hn h1 h2 h3 ⊢
      obtain rfl := h1 (by simp only; omega)
      obtain rfl := h2 (Nat.le_refl _)
      unfold Lib.decodeN
      simp only at hn
      rw [if_neg k0, if_neg (by omega), if_pos ⟨k2.1, ⟨by omega, k2.2.1.2⟩, by omega, k2.2.2.2⟩, if_pos hc]
    · exact absurd ⟨rfl, rfl⟩ hg
  by_cases k3 : b0 / 8 = 30 ∧ (1 < n ∧ b1 / 64 = 2) ∧ (2 < n ∧ b2 / 64 = 2) ∧ (3 < n ∧ b3 / 64 = 2)
  · have e : Lib.decodeN n b0 b1 b2 b3 = (if b0 % 8 * 262144 + b1 % 64 * 4096 + b2 % 64 * 64 + b3 % 64 ≥ 65536 ∧ (b0 % 8 * 262144 + b1 % 64 * 4096 + b2 % 64 * 64 + b3 % 64 < 55296 ∨ (57344 ≤ b0 % 8 * 262144 + b1 % 64 * 4096 + b2 % 64 * 64 + b3 % 64 ∧ b0 % 8 * 262144 + b1 % 64 * 4096 + b2 % 64 * 64 + b3 % 64 ≤ 1114111)) then (b0 % 8 * 262144 + b1 % 64 * 4096 + b2 % 64 * 64 + b3 % 64, 4) else (65533, 1)) := by
      unfold Lib.decodeN
      rw [if_neg k0, if_neg k1, if_neg k2, if_pos k3]
    rw [e] at hg hn h1 h2 h3 ⊢
    split at hg
    · rename_i hc
      rw [if_pos hc] at hn h1 h2 h3 ⊢
      obtain rfl := h1 (by simp only; omega)
      obtain rfl := h2 (by simp only; omega)
      obtain rfl := h3 (Nat.le_refl _)
      unfold Lib.decodeN
      simp only at hn
      rw [if_neg k0, if_neg (by omega), if_neg (by omega), if_pos ⟨k3.1, ⟨by omega, k3.2.1.2⟩, ⟨by omega, k3.2.2.1.2⟩, by omega, k3.2.2.2.2⟩, if_pos hc]
    · exact absurd ⟨rfl, rfl⟩ hg
  · exfalso
    apply hg
    unfold Lib.decodeN
    rw [if_neg k0, if_neg k1, if_neg k2, if_neg k3]
    exact ⟨rfl, rfl⟩

/-- a character that stands elsewhere, too, is the same there -/
theorem same_char (s t : ByteArray) (p q : Nat) (hp : p < s.size) (hg : bad s p = false) (hq : q + wd s p ≤ t.size) (hb : ∀ k, k < wd s p → t.get! (q + k) = s.get! (p + k)) : ch t q = ch s p ∧ wd t q = wd s p := by
  have hf := facts s p hp
  have hn : ¬ (ch s p = 65533 ∧ wd s p = 1) := fun hx => by rw [(bad_iff s p).2 hx] at hg; cases hg
  have h0 := hb 0 (by omega)
  rw [Nat.add_zero, Nat.add_zero] at h0
  have hl := dn_local (s.size - p) (t.size - q) (s.get! p).toNat (s.get! (p + 1)).toNat (s.get! (p + 2)).toNat (s.get! (p + 3)).toNat (t.get! (q + 1)).toNat (t.get! (q + 2)).toNat (t.get! (q + 3)).toNat
    (by rw [← ch_eq, ← wd_eq]; exact hn) (by rw [← wd_eq]; omega) (by rw [← wd_eq]; intro h; rw [hb 1 (by omega)]) (by rw [← wd_eq]; intro h; rw [hb 2 (by omega)]) (by rw [← wd_eq]; intro h; rw [hb 3 (by omega)])
  rw [ch_eq t q, wd_eq t q, ch_eq s p, wd_eq s p, h0, hl]
  exact ⟨rfl, rfl⟩

theorem get_list (t : ByteArray) (q : Nat) : t.get! q = t.data.toList.getD q 0 := (Lib.getD_get!' t q).symm
theorem get_app (t : ByteArray) (l m r : List UInt8) (h : t.data.toList = l ++ (m ++ r)) (k : Nat) (hk : k < m.length) : t.get! (l.length + k) = m.getD k 0 := by
  rw [get_list, h]
  simp only [List.getD]
  rw [List.getElem?_append_right (by omega), Nat.add_sub_cancel_left, List.getElem?_append_left hk]
theorem stretch_length (s : ByteArray) (p n : Nat) : (stretch s p n).length = n := by unfold stretch; rw [List.length_map, List.length_range]
theorem stretch_getD (s : ByteArray) (p n k : Nat) (hk : k < n) : (stretch s p n).getD k 0 = s.get! (p + k) := by
  unfold stretch
  simp [List.getD, hk]

/-- where a piece stands, it is what is next, and no invalid byte -/
theorem piece_next (s t : ByteArray) (p : Nat) (l r : List UInt8) (hp : p < s.size) (h : t.data.toList = l ++ (piece s p ++ r)) :
    ch t l.length = ch s p ∧ wd t l.length = (piece s p).length ∧ bad t l.length = false := by
  have hsz : t.size = l.length + ((piece s p).length + r.length) := by rw [Lib.size_eq, h, List.length_append, List.length_append]
  cases hb : bad s p
  · have hl : (piece s p).length = wd s p := by rw [piece_good hb, stretch_length]
    obtain ⟨h1, h2⟩ := same_char s t p l.length hp hb (by omega) (fun k hk => by rw [get_app t l _ r h k (by omega), piece_good hb, stretch_getD s p _ k hk])
    refine ⟨h1, by omega, ?_⟩
    cases hx : bad t l.length
    · rfl
    · have hy := (bad_iff _ _).1 hx
      rw [h1, h2] at hy
      rw [(bad_iff s p).2 hy] at hb
      cases hb
  · have hpc := piece_bad hb
    have hl : (piece s p).length = 3 := by rw [hpc]; rfl
    have g := fun k hk => get_app t l _ r h k hk
    have g0 := g 0 (by omega)
    have g1 := g 1 (by omega)
    have g2 := g 2 (by omega)
    rw [hpc] at g0 g1 g2
    rw [Nat.add_zero] at g0
    have hd : Lib.decodeN (t.size - l.length) (t.get! l.length).toNat (t.get! (l.length + 1)).toNat (t.get! (l.length + 2)).toNat (t.get! (l.length + 3)).toNat = (65533, 3) := by
      rw [g0, g1, g2]
      show Lib.decodeN _ 239 191 189 _ = _
      unfold Lib.decodeN
      rw [if_neg (by omega), if_neg (by omega), if_pos (by omega), if_pos (by omega)]
    have hc : ch t l.length = 65533 := by rw [ch_eq, hd]
    have hw : wd t l.length = 3 := by rw [wd_eq, hd]
    refine ⟨by rw [hc, ((bad_iff s p).1 hb).1], by rw [hw, hl], good_of_wd (by omega)⟩

theorem fix_scan (s t : ByteArray) : ∀ f pos (l : List UInt8), t.data.toList = l ++ fixFrom s f pos → s.size ≤ pos + f → ∀ F, t.size ≤ l.length + F → vFrom t F l.length = true ∧ unitsFrom t F l.length = unitsFrom s f pos
  | 0, pos, l, h, hf, F, hF => by
    have hz : t.size = l.length := by rw [Lib.size_eq, h]; simp [fixFrom]
    rw [vFrom_end t F _ (by omega), unitsFrom_end t F _ (by omega), unitsFrom_end s 0 pos (by omega)]
    exact ⟨rfl, rfl⟩
  | f + 1, pos, l, h, hf, F, hF => by
    by_cases hp : pos < s.size
    · rw [fixFrom_step s f pos hp] at h
      obtain ⟨h1, h2, h3⟩ := piece_next s t pos l _ hp h
      have hpl := piece_le hp
      have hsz : t.size = l.length + ((piece s pos).length + (fixFrom s f (pos + wd s pos)).length) := by rw [Lib.size_eq, h, List.length_append, List.length_append]
      obtain ⟨F', rfl⟩ : ∃ F', F = F' + 1 := ⟨F - 1, by omega⟩
      have hlt : l.length < t.size := by omega
      have ih := fix_scan s t f (pos + wd s pos) (l ++ piece s pos) (by rw [List.append_assoc]; exact h) (by have := wd_pos hp; omega) F' (by rw [List.length_append]; omega)
      rw [List.length_append, ← h2] at ih
      rw [vFrom_step t F' _ hlt h3, unitsFrom_step t F' _ hlt, unitsFrom_step s f pos hp]
      refine ⟨ih.1, ?_⟩
      rw [ih.2]
      unfold un
      rw [h1]
    · rw [fixFrom_end s _ pos hp, List.append_nil] at h
      have hz : t.size = l.length := by rw [Lib.size_eq, h]
      rw [vFrom_end t F _ (by omega), unitsFrom_end t F _ (by omega), unitsFrom_end s _ pos hp]
      exact ⟨rfl, rfl⟩
theorem fixS_list (s : ByteArray) : (fixS s).data.toList = fixL s := rfl
theorem fix_valid (s : ByteArray) : valid (fixS s) = true := (fix_scan s (fixS s) s.size 0 [] rfl (by omega) (fixS s).size (by simp)).1
theorem fix_units (s : ByteArray) : units (fixS s) = units s := (fix_scan s (fixS s) s.size 0 [] rfl (by omega) (fixS s).size (by simp)).2
theorem fix_fix (s : ByteArray) : fixS (fixS s) = fixS s := fixS_valid _ (fix_valid s)
theorem fix_same (s : ByteArray) : fixS s = s ↔ valid s = true := ⟨fun h => by rw [← h]; exact fix_valid s, fixS_valid s⟩
theorem fixFrom_len (s : ByteArray) : ∀ f pos, pos ≤ s.size → (fixFrom s f pos).length ≤ 3 * (s.size - pos)
  | 0, _, _ => by simp [fixFrom]
  | f + 1, pos, h => by
    by_cases hp : pos < s.size
    · rw [fixFrom_step s f pos hp, List.length_append]
      have := fixFrom_len s f (pos + wd s pos) (wd_le hp)
      have := (piece_le hp).1
      have := wd_le hp
      omega
    · rw [fixFrom_end s _ pos hp]; simp
theorem fix_size (s : ByteArray) : (fixS s).size ≤ 3 * s.size := by
  have := fixFrom_len s s.size 0 (Nat.zero_le _)
  rw [Lib.size_eq, fixS_list]
  exact this
end Go.Proofs.YtjeopabnddekgaaDoor.U

namespace Go.Proofs.YtjeopabnddekgaaDoor.U
open Go

/-- j steps of a scan from place q, m units being counted -/
def st (s : ByteArray) : Nat → Nat → Nat → Nat × Nat
  | 0, q, m => (q, m)
  | j + 1, q, m => if q < s.size then st s j (q + wd s q) (m + un s q) else (q, m)
theorem st_step (s : ByteArray) (j q m : Nat) (h : q < s.size) : st s (j + 1) q m = st s j (q + wd s q) (m + un s q) := by simp only [st, if_pos h]
theorem st_end (s : ByteArray) (j q m : Nat) (h : ¬ q < s.size) : st s j q m = (q, m) := by
  cases j
  · rfl
  · simp only [st, if_neg h]
theorem st_mono (s : ByteArray) : ∀ j q m p n, st s j q m = (p, n) → q ≤ p ∧ m ≤ n ∧ (q ≤ s.size → p ≤ s.size)
  | 0, q, m, p, n, h => by
    simp only [st, Prod.mk.injEq] at h
    omega
  | j + 1, q, m, p, n, h => by
    by_cases hq : q < s.size
    · rw [st_step s j q m hq] at h
      have := st_mono s j _ _ p n h
      have := wd_le hq
      omega
    · rw [st_end s _ q m hq] at h
      simp only [Prod.mk.injEq] at h
      omega

/-! ### units -/
theorem unitsFrom_fuel (s : ByteArray) : ∀ f g q, s.size ≤ q + f → s.size ≤ q + g → unitsFrom s f q = unitsFrom s g q
  | 0, g, q, h, _ => by rw [unitsFrom_end s 0 q (by omega), unitsFrom_end s g q (by omega)]
  | f + 1, g, q, h, hg => by
    by_cases hq : q < s.size
    · obtain ⟨g', rfl⟩ : ∃ g', g = g' + 1 := ⟨g - 1, by omega⟩
      have := wd_pos hq
      rw [unitsFrom_step s f q hq, unitsFrom_step s g' q hq, unitsFrom_fuel s f g' _ (by omega) (by omega)]
    · rw [unitsFrom_end s _ q hq, unitsFrom_end s g q hq]
theorem st_units (s : ByteArray) : ∀ j q m p n, st s j q m = (p, n) → ∀ f g, s.size ≤ q + f → s.size ≤ p + g → m + unitsFrom s f q = n + unitsFrom s g p
  | 0, q, m, p, n, h, f, g, hf, hg => by
    simp only [st, Prod.mk.injEq] at h
    obtain ⟨rfl, rfl⟩ := h
    rw [unitsFrom_fuel s f g q hf hg]
  | j + 1, q, m, p, n, h, f, g, hf, hg => by
    by_cases hq : q < s.size
    · rw [st_step s j q m hq] at h
      obtain ⟨f', rfl⟩ : ∃ f', f = f' + 1 := ⟨f - 1, by omega⟩
      have := wd_pos hq
      have ih := st_units s j _ _ p n h f' g (by omega) hg
      rw [unitsFrom_step s f' q hq]
      omega
    · rw [st_end s _ q m hq] at h
      simp only [Prod.mk.injEq] at h
      obtain ⟨rfl, rfl⟩ := h
      rw [unitsFrom_end s f q hq, unitsFrom_end s g q hq]
theorem units_of_end (s : ByteArray) (j n : Nat) (h : st s j 0 0 = (s.size, n)) : units s = n := by
  have := st_units s j 0 0 s.size n h s.size 0 (by omega) (by omega)
  unfold units
  rw [unitsFrom_end s 0 s.size (by omega)] at this
  omega
theorem units_past (s : ByteArray) (j p n : Nat) (h : st s j 0 0 = (p, n)) (hp : p < s.size) : n + un s p ≤ units s := by
  have := st_units s j 0 0 p n h s.size (s.size + 1) (by omega) (by omega)
  rw [unitsFrom_step s _ p hp] at this
  unfold units
  omega

/-! ### a scan comes to each item's beginning, and to the end -/
theorem st_bg (s : ByteArray) : ∀ f q m i, q ≤ i → i < s.size → s.size ≤ q + f → ∃ j n, st s j q m = (bg s f q i, n)
  | 0, q, m, i, h1, h2, h3 => by omega
  | f + 1, q, m, i, h1, h2, h3 => by
    by_cases h : i < q + wd s q
    · exact ⟨0, m, by rw [bg_stop s f q i h]; rfl⟩
    · have hq : q < s.size := by omega
      have := wd_pos hq
      obtain ⟨j, n, hj⟩ := st_bg s f (q + wd s q) (m + un s q) i (by omega) h2 (by omega)
      exact ⟨j + 1, n, by rw [st_step s j q m hq, hj, bg_step s f q i h]⟩
theorem st_to_end (s : ByteArray) : ∀ f q m, q ≤ s.size → s.size ≤ q + f → ∃ j n, st s j q m = (s.size, n)
  | 0, q, m, h1, h2 => ⟨0, m, by rw [show s.size = q by omega]; rfl⟩
  | f + 1, q, m, h1, h2 => by
    by_cases hq : q < s.size
    · have := wd_pos hq
      obtain ⟨j, n, hj⟩ := st_to_end s f (q + wd s q) (m + un s q) (wd_le hq) (by omega)
      exact ⟨j + 1, n, by rw [st_step s j q m hq, hj]⟩
    · exact ⟨0, m, by rw [show s.size = q by omega]; rfl⟩
theorem st_start (s : ByteArray) : ∀ j q m p n, st s j q m = (p, n) → p < s.size → ∀ f, s.size ≤ q + f → bg s f q p = p
  | 0, q, m, p, n, h, hp, f, hf => by
    simp only [st, Prod.mk.injEq] at h
    obtain ⟨rfl, rfl⟩ := h
    obtain ⟨f', rfl⟩ : ∃ f', f = f' + 1 := ⟨f - 1, by omega⟩
    have := wd_pos hp
    exact bg_stop s f' q q (by omega)
  | j + 1, q, m, p, n, h, hp, f, hf => by
    by_cases hq : q < s.size
    · rw [st_step s j q m hq] at h
      have hm := st_mono s j _ _ p n h
      have := wd_pos hq
      obtain ⟨f', rfl⟩ : ∃ f', f = f' + 1 := ⟨f - 1, by omega⟩
      rw [bg_step s f' q p (by omega)]
      exact st_start s j _ _ p n h hp f' (by omega)
    · rw [st_end s _ q m hq] at h
      simp only [Prod.mk.injEq] at h
      omega

/-! ### cut -/
theorem cut_uni (s : ByteArray) (u : Int) : ∀ j q m p n, st s j q m = (p, n) → (n : Int) ≤ u → (p = s.size ∨ (p < s.size ∧ u < ((n + un s p : Nat) : Int))) → ∀ f, s.size ≤ q + f → cutFrom s u f q m = p
  | 0, q, m, p, n, h, hn, hp, f, hf => by
    simp only [st, Prod.mk.injEq] at h
    obtain ⟨rfl, rfl⟩ := h
    rcases hp with hp | ⟨hp, hu⟩
    · exact cutFrom_end s u f q m (by omega)
    · obtain ⟨f', rfl⟩ : ∃ f', f = f' + 1 := ⟨f - 1, by omega⟩
      exact cutFrom_stop s u f' q m hp hu
  | j + 1, q, m, p, n, h, hn, hp, f, hf => by
    by_cases hq : q < s.size
    · rw [st_step s j q m hq] at h
      have hm := st_mono s j _ _ p n h
      have := wd_pos hq
      obtain ⟨f', rfl⟩ : ∃ f', f = f' + 1 := ⟨f - 1, by omega⟩
      rw [cutFrom_step s u f' q m hq (by omega)]
      exact cut_uni s u j _ _ p n h hn hp f' (by omega)
    · rw [st_end s _ q m hq] at h
      simp only [Prod.mk.injEq] at h
      rw [cutFrom_end s u f q m hq]
      omega
theorem cut_st (s : ByteArray) (u : Int) : ∀ f q m, q ≤ s.size → s.size ≤ q + f → ∃ j n, st s j q m = (cutFrom s u f q m, n) ∧ ((m : Int) ≤ u → (n : Int) ≤ u) ∧ cutFrom s u f q m ≤ s.size ∧ (cutFrom s u f q m < s.size → u < ((n + un s (cutFrom s u f q m) : Nat) : Int))
  | 0, q, m, h1, h2 => by
    rw [cutFrom_end s u 0 q m (by omega)]
    exact ⟨0, m, rfl, id, h1, fun h => by omega⟩
  | f + 1, q, m, h1, h2 => by
    by_cases hq : q < s.size
    · by_cases hu : u < ((m + un s q : Nat) : Int)
      · rw [cutFrom_stop s u f q m hq hu]
        exact ⟨0, m, rfl, id, h1, fun _ => hu⟩
      · have := wd_pos hq
        obtain ⟨j, n, h3, h4, h5, h6⟩ := cut_st s u f (q + wd s q) (m + un s q) (wd_le hq) (by omega)
        rw [cutFrom_step s u f q m hq hu]
        exact ⟨j + 1, n, by rw [st_step s j q m hq, h3], fun _ => h4 (by omega), h5, h6⟩
    · rw [cutFrom_end s u _ q m hq]
      exact ⟨0, m, rfl, id, h1, fun h => absurd h hq⟩

/-! ### a string's beginning -/
theorem ext_get (s : ByteArray) (p i : Nat) (hi : i < p) : (s.extract 0 p).get! i = s.get! i := by
  rw [get_list, get_list, Lib.extract_data]
  simp only [List.getD, List.drop_zero]
  rw [List.getElem?_take, if_pos (by omega)]
theorem ext_len (s : ByteArray) (p : Nat) (hp : p ≤ s.size) : (s.extract 0 p).size = p := by rw [ByteArray.size_extract]; omega
theorem ext_item (s : ByteArray) (p q : Nat) (hp : p ≤ s.size) (hq : q < p) (hw : q + wd s q ≤ p) : wd (s.extract 0 p) q = wd s q ∧ un (s.extract 0 p) q = un s q := by
  have hz := ext_len s p hp
  have hqs : q < s.size := by omega
  cases hb : bad s q
  · have := same_char s (s.extract 0 p) q q hqs hb (by omega) (fun k hk => ext_get s p (q + k) (by omega))
    unfold un
    rw [this.1, this.2]
    exact ⟨rfl, rfl⟩
  · have hx : bad (s.extract 0 p) q = true := by
      cases hy : bad (s.extract 0 p) q
      · have hwt := wd_le (s := s.extract 0 p) (i := q) (by omega)
        have := same_char (s.extract 0 p) s q q (by omega) hy (by omega) (fun k hk => (ext_get s p (q + k) (by omega)).symm)
        have hz := (bad_iff s q).1 hb
        rw [this.1, this.2] at hz
        rw [(bad_iff _ q).2 hz] at hy
        cases hy
      · rfl
    rw [(bad_un hx).1, (bad_un hx).2, (bad_un hb).1, (bad_un hb).2]
    exact ⟨rfl, rfl⟩
theorem st_ext (s : ByteArray) : ∀ j q m p n, st s j q m = (p, n) → p ≤ s.size → st (s.extract 0 p) j q m = (p, n)
  | 0, q, m, p, n, h, _ => h
  | j + 1, q, m, p, n, h, hp => by
    have hz := ext_len s p hp
    by_cases hq : q < s.size
    · rw [st_step s j q m hq] at h
      have hm := st_mono s j _ _ p n h
      have := wd_pos hq
      obtain ⟨h1, h2⟩ := ext_item s p q hp (by omega) (by omega)
      rw [st_step _ j q m (by omega), h1, h2]
      exact st_ext s j _ _ p n h hp
    · rw [st_end s _ q m hq] at h
      simp only [Prod.mk.injEq] at h
      obtain ⟨rfl, rfl⟩ := h
      rw [st_end _ _ q m (by omega)]
theorem units_ext (s : ByteArray) (j p n : Nat) (h : st s j 0 0 = (p, n)) (hp : p ≤ s.size) : units (s.extract 0 p) = n := by
  have := st_ext s j 0 0 p n h hp
  exact units_of_end _ j n (by rw [ext_len s p hp]; exact this)

/-! ### what the statement on the way back asks -/
theorem reach (s : ByteArray) (i : Nat) (h : i < s.size) : ∃ j n, st s j 0 0 = (bgn s i, n) := st_bg s s.size 0 0 i (Nat.zero_le _) h (by omega)
theorem cut_back (s : ByteArray) (j p n : Nat) (h : st s j 0 0 = (p, n)) (hp : p ≤ s.size) : cut s (units (s.extract 0 p) : Nat) = p := by
  rw [units_ext s j p n h hp]
  unfold cut
  refine cut_uni s _ j 0 0 p n h (Int.le_refl _) ?_ s.size (by omega)
  by_cases hlt : p < s.size
  · have := un_le hlt
    exact Or.inr ⟨hlt, by omega⟩
  · exact Or.inl (by omega)
theorem start_back (s : ByteArray) (j p n : Nat) (h : st s j 0 0 = (p, n)) (hp : p < s.size) : bgn s p = p := st_start s j 0 0 p n h hp s.size (by omega)
theorem cut_facts (s : ByteArray) (u : Int) : ∃ j n, st s j 0 0 = (cut s u, n) ∧ (0 ≤ u → (n : Int) ≤ u) ∧ cut s u ≤ s.size ∧ (cut s u < s.size → u < ((n + un s (cut s u) : Nat) : Int)) := by
  obtain ⟨j, n, h1, h2, h3, h4⟩ := cut_st s u s.size 0 0 (Nat.zero_le _) (by omega)
  exact ⟨j, n, h1, fun h => h2 (by omega), h3, h4⟩
end Go.Proofs.YtjeopabnddekgaaDoor.U
