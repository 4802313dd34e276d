/- Plain arithmetic of UTF-8: what is repaired is valid and has as many units. Conditions: none. -/
import Derived.Test.YteccfoiegjhppaaUtfMathF
namespace Go.Proofs.Yteccfoiegjhppaa.U
open Go

set_option maxRecDepth 100000 in
set_option maxHeartbeats 4000000 in
/-- a character hangs on its own bytes alone -/
theorem dn_local (n n' b0 b1 b2 b3 c1 c2 c3 : Nat) (hg : ¬ ((Lib.decodeN n b0 b1 b2 b3).1 = 65533 ∧ (Lib.decodeN n b0 b1 b2 b3).2 = 1)) (hn : (Lib.decodeN n b0 b1 b2 b3).2 ≤ n')
    (h1 : 2 ≤ (Lib.decodeN n b0 b1 b2 b3).2 → c1 = b1) (h2 : 3 ≤ (Lib.decodeN n b0 b1 b2 b3).2 → c2 = b2) (h3 : 4 ≤ (Lib.decodeN n b0 b1 b2 b3).2 → c3 = b3) :
    Lib.decodeN n' b0 c1 c2 c3 = Lib.decodeN n b0 b1 b2 b3 := by
  by_cases k0 : b0 < 128
  · unfold Lib.decodeN
    rw [if_pos k0, if_pos k0]
  by_cases k1 : b0 / 32 = 6 ∧ (1 < n ∧ b1 / 64 = 2)
  · have e : Lib.decodeN n b0 b1 b2 b3 = (if b0 % 32 * 64 + b1 % 64 ≥ 128 then (b0 % 32 * 64 + b1 % 64, 2) else (65533, 1)) := by
      unfold Lib.decodeN
      rw [if_neg k0, if_pos k1]
    rw [e] at hg hn h1 h2 h3 ⊢
    split at hg
    · rename_i hc
      rw [if_pos hc] at hn h1 h2 h3 ⊢
      obtain rfl := h1 (Nat.le_refl _)
      unfold Lib.decodeN
      rw [if_neg k0, if_pos ⟨k1.1, by simp only at hn; omega, k1.2.2⟩, if_pos hc]
    · exact absurd ⟨rfl, rfl⟩ hg
  by_cases k2 : b0 / 16 = 14 ∧ (1 < n ∧ b1 / 64 = 2) ∧ (2 < n ∧ b2 / 64 = 2)
  · have e : Lib.decodeN n b0 b1 b2 b3 = (if b0 % 16 * 4096 + b1 % 64 * 64 + b2 % 64 ≥ 2048 ∧ (b0 % 16 * 4096 + b1 % 64 * 64 + b2 % 64 < 55296 ∨ (57344 ≤ b0 % 16 * 4096 + b1 % 64 * 64 + b2 % 64 ∧ b0 % 16 * 4096 + b1 % 64 * 64 + b2 % 64 ≤ 1114111)) then (b0 % 16 * 4096 + b1 % 64 * 64 + b2 % 64, 3) else (65533, 1)) := by
      unfold Lib.decodeN
      rw [if_neg k0, if_neg k1, if_pos k2]
    rw [e] at hg hn h1 h2 h3 ⊢
    split at hg
    · rename_i hc
      rw [if_pos hc] at hn h1 h2 h3 ⊢
      obtain rfl := h1 (by simp only; omega)
      obtain rfl := h2 (Nat.le_refl _)
      unfold Lib.decodeN
      simp only at hn
      rw [if_neg k0, if_neg (by omega), if_pos ⟨k2.1, ⟨by omega, k2.2.1.2⟩, by omega, k2.2.2.2⟩, if_pos hc]
    · exact absurd ⟨rfl, rfl⟩ hg
  by_cases k3 : b0 / 8 = 30 ∧ (1 < n ∧ b1 / 64 = 2) ∧ (2 < n ∧ b2 / 64 = 2) ∧ (3 < n ∧ b3 / 64 = 2)
  · have e : Lib.decodeN n b0 b1 b2 b3 = (if b0 % 8 * 262144 + b1 % 64 * 4096 + b2 % 64 * 64 + b3 % 64 ≥ 65536 ∧ (b0 % 8 * 262144 + b1 % 64 * 4096 + b2 % 64 * 64 + b3 % 64 < 55296 ∨ (57344 ≤ b0 % 8 * 262144 + b1 % 64 * 4096 + b2 % 64 * 64 + b3 % 64 ∧ b0 % 8 * 262144 + b1 % 64 * 4096 + b2 % 64 * 64 + b3 % 64 ≤ 1114111)) then (b0 % 8 * 262144 + b1 % 64 * 4096 + b2 % 64 * 64 + b3 % 64, 4) else (65533, 1)) := by
      unfold Lib.decodeN
      rw [if_neg k0, if_neg k1, if_neg k2, if_pos k3]
    rw [e] at hg hn h1 h2 h3 ⊢
    split at hg
    · rename_i hc
      rw [if_pos hc] at hn h1 h2 h3 ⊢
      obtain rfl := h1 (by simp only; omega)
      obtain rfl := h2 (by simp only; omega)
      obtain rfl := h3 (Nat.le_refl _)
      unfold Lib.decodeN
      simp only at hn
      rw [if_neg k0, if_neg (by omega), if_neg (by omega), if_pos ⟨k3.1, ⟨by omega, k3.2.1.2⟩, ⟨by omega, k3.2.2.1.2⟩, by omega, k3.2.2.2.2⟩, if_pos hc]
    · exact absurd ⟨rfl, rfl⟩ hg
  · exfalso
    apply hg
    unfold Lib.decodeN
    rw [if_neg k0, if_neg k1, if_neg k2, if_neg k3]
    exact ⟨rfl, rfl⟩

/-- a character that stands elsewhere, too, is the same there -/
theorem same_char (s t : ByteArray) (p q : Nat) (hp : p < s.size) (hg : bad s p = false) (hq : q + wd s p ≤ t.size) (hb : ∀ k, k < wd s p → t.get! (q + k) = s.get! (p + k)) : ch t q = ch s p ∧ wd t q = wd s p := by
  have hf := facts s p hp
  have hn : ¬ (ch s p = 65533 ∧ wd s p = 1) := fun hx => by rw [(bad_iff s p).2 hx] at hg; cases hg
  have h0 := hb 0 (by omega)
  rw [Nat.add_zero, Nat.add_zero] at h0
  have hl := dn_local (s.size - p) (t.size - q) (s.get! p).toNat (s.get! (p + 1)).toNat (s.get! (p + 2)).toNat (s.get! (p + 3)).toNat (t.get! (q + 1)).toNat (t.get! (q + 2)).toNat (t.get! (q + 3)).toNat
    (by rw [← ch_eq, ← wd_eq]; exact hn) (by rw [← wd_eq]; omega) (by rw [← wd_eq]; intro h; rw [hb 1 (by omega)]) (by rw [← wd_eq]; intro h; rw [hb 2 (by omega)]) (by rw [← wd_eq]; intro h; rw [hb 3 (by omega)])
  rw [ch_eq t q, wd_eq t q, ch_eq s p, wd_eq s p, h0, hl]
  exact ⟨rfl, rfl⟩

theorem get_list (t : ByteArray) (q : Nat) : t.get! q = t.data.toList.getD q 0 := (Lib.getD_get!' t q).symm
theorem get_app (t : ByteArray) (l m r : List UInt8) (h : t.data.toList = l ++ (m ++ r)) (k : Nat) (hk : k < m.length) : t.get! (l.length + k) = m.getD k 0 := by
  rw [get_list, h]
  simp only [List.getD]
  rw [List.getElem?_append_right (by omega), Nat.add_sub_cancel_left, List.getElem?_append_left hk]
theorem stretch_length (s : ByteArray) (p n : Nat) : (stretch s p n).length = n := by unfold stretch; rw [List.length_map, List.length_range]
theorem stretch_getD (s : ByteArray) (p n k : Nat) (hk : k < n) : (stretch s p n).getD k 0 = s.get! (p + k) := by
  unfold stretch
  simp [List.getD, hk]

/-- where a piece stands, it is what is next, and no invalid byte -/
theorem piece_next (s t : ByteArray) (p : Nat) (l r : List UInt8) (hp : p < s.size) (h : t.data.toList = l ++ (piece s p ++ r)) :
    ch t l.length = ch s p ∧ wd t l.length = (piece s p).length ∧ bad t l.length = false := by
  have hsz : t.size = l.length + ((piece s p).length + r.length) := by rw [Lib.size_eq, h, List.length_append, List.length_append]
  cases hb : bad s p
  · have hl : (piece s p).length = wd s p := by rw [piece_good hb, stretch_length]
    obtain ⟨h1, h2⟩ := same_char s t p l.length hp hb (by omega) (fun k hk => by rw [get_app t l _ r h k (by omega), piece_good hb, stretch_getD s p _ k hk])
    refine ⟨h1, by omega, ?_⟩
    cases hx : bad t l.length
    · rfl
    · have hy := (bad_iff _ _).1 hx
      rw [h1, h2] at hy
      rw [(bad_iff s p).2 hy] at hb
      cases hb
  · have hpc := piece_bad hb
    have hl : (piece s p).length = 3 := by rw [hpc]; rfl
    have g := fun k hk => get_app t l _ r h k hk
    have g0 := g 0 (by omega)
    have g1 := g 1 (by omega)
    have g2 := g 2 (by omega)
    rw [hpc] at g0 g1 g2
    rw [Nat.add_zero] at g0
    have hd : Lib.decodeN (t.size - l.length) (t.get! l.length).toNat (t.get! (l.length + 1)).toNat (t.get! (l.length + 2)).toNat (t.get! (l.length + 3)).toNat = (65533, 3) := by
      rw [g0, g1, g2]
      show Lib.decodeN _ 239 191 189 _ = _
      unfold Lib.decodeN
      rw [if_neg (by omega), if_neg (by omega), if_pos (by omega), if_pos (by omega)]
    have hc : ch t l.length = 65533 := by rw [ch_eq, hd]
    have hw : wd t l.length = 3 := by rw [wd_eq, hd]
    refine ⟨by rw [hc, ((bad_iff s p).1 hb).1], by rw [hw, hl], good_of_wd (by omega)⟩

theorem fix_scan (s t : ByteArray) : ∀ f pos (l : List UInt8), t.data.toList = l ++ fixFrom s f pos → s.size ≤ pos + f → ∀ F, t.size ≤ l.length + F → vFrom t F l.length = true ∧ unitsFrom t F l.length = unitsFrom s f pos
  | 0, pos, l, h, hf, F, hF => by
    have hz : t.size = l.length := by rw [Lib.size_eq, h]; simp [fixFrom]
    rw [vFrom_end t F _ (by omega), unitsFrom_end t F _ (by omega), unitsFrom_end s 0 pos (by omega)]
    exact ⟨rfl, rfl⟩
  | f + 1, pos, l, h, hf, F, hF => by
    by_cases hp : pos < s.size
    · rw [fixFrom_step s f pos hp] at h
      obtain ⟨h1, h2, h3⟩ := piece_next s t pos l _ hp h
      have hpl := piece_le hp
      have hsz : t.size = l.length + ((piece s pos).length + (fixFrom s f (pos + wd s pos)).length) := by rw [Lib.size_eq, h, List.length_append, List.length_append]
      obtain ⟨F', rfl⟩ : ∃ F', F = F' + 1 := ⟨F - 1, by omega⟩
      have hlt : l.length < t.size := by omega
      have ih := fix_scan s t f (pos + wd s pos) (l ++ piece s pos) (by rw [List.append_assoc]; exact h) (by have := wd_pos hp; omega) F' (by rw [List.length_append]; omega)
      rw [List.length_append, ← h2] at ih
      rw [vFrom_step t F' _ hlt h3, unitsFrom_step t F' _ hlt, unitsFrom_step s f pos hp]
      refine ⟨ih.1, ?_⟩
      rw [ih.2]
      unfold un
      rw [h1]
    · rw [fixFrom_end s _ pos hp, List.append_nil] at h
      have hz : t.size = l.length := by rw [Lib.size_eq, h]
      rw [vFrom_end t F _ (by omega), unitsFrom_end t F _ (by omega), unitsFrom_end s _ pos hp]
      exact ⟨rfl, rfl⟩
theorem fixS_list (s : ByteArray) : (fixS s).data.toList = fixL s := rfl
theorem fix_valid (s : ByteArray) : valid (fixS s) = true := (fix_scan s (fixS s) s.size 0 [] rfl (by omega) (fixS s).size (by simp)).1
theorem fix_units (s : ByteArray) : units (fixS s) = units s := (fix_scan s (fixS s) s.size 0 [] rfl (by omega) (fixS s).size (by simp)).2
theorem fix_fix (s : ByteArray) : fixS (fixS s) = fixS s := fixS_valid _ (fix_valid s)
theorem fix_same (s : ByteArray) : fixS s = s ↔ valid s = true := ⟨fun h => by rw [← h]; exact fix_valid s, fixS_valid s⟩
theorem fixFrom_len (s : ByteArray) : ∀ f pos, pos ≤ s.size → (fixFrom s f pos).length ≤ 3 * (s.size - pos)
  | 0, _, _ => by simp [fixFrom]
  | f + 1, pos, h => by
    by_cases hp : pos < s.size
    · rw [fixFrom_step s f pos hp, List.length_append]
      have := fixFrom_len s f (pos + wd s pos) (wd_le hp)
      have := (piece_le hp).1
      have := wd_le hp
      omega
    · rw [fixFrom_end s _ pos hp]; simp
theorem fix_size (s : ByteArray) : (fixS s).size ≤ 3 * s.size := by
  have := fixFrom_len s s.size 0 (Nat.zero_le _)
  rw [Lib.size_eq, fixS_list]
  exact this
end Go.Proofs.Yteccfoiegjhppaa.U
