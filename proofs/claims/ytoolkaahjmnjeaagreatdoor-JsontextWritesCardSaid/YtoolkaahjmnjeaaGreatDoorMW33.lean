/- What a number's text is: the writer's test and the reader's own agree. Conditions: none. -/
import Derived.Test.YtoolkaahjmnjeaaGreatDoorMW02
import Derived.Test.YtoolkaahjmnjeaaGreatDoorMW32
import Derived.Test.YtoolkaahjmnjeaaGreatDoorMW18
import Derived.Test.YtoolkaahjmnjeaaGreatDoorMW21
namespace Go.Proofs.YtoolkaahjmnjeaaGreatDoor
open Go Go.RowKit Go.Lib

/-- the rest of a string from a place on -/
def suf (s : ByteArray) (p : Nat) : ByteArray := s.extract p s.size
theorem suf_size (s : ByteArray) (p : Nat) : (suf s p).size = s.size - p := by unfold suf; rw [ByteArray.size_extract]; omega
theorem suf_get {s : ByteArray} {p i : Nat} (h : p + i < s.size) : (suf s p).get! i = s.get! (p + i) := get_part h (Nat.le_refl _)
theorem suf_pk (s : ByteArray) (p i : Nat) : J.pk (suf s p) i = J.pk s (p + i) := by
  unfold J.pk
  by_cases h : p + i < s.size
  · rw [if_pos h, if_pos (by rw [suf_size]; omega), suf_get h]
  · rw [if_neg h, if_neg (by rw [suf_size]; omega)]
theorem suf_sk (s x : ByteArray) (p i : Nat) : J.sk (suf s p) x i = J.sk s x (p + i) := by unfold J.sk; rw [suf_pk]
theorem suf_list (s : ByteArray) (p : Nat) : suf s p = ⟨(s.data.toList.drop p).toArray⟩ := (drop_extract s p).symm
theorem suf_suf (s : ByteArray) (p i : Nat) : suf (suf s p) i = suf s (p + i) := by
  rw [suf_list, suf_list, suf_list]
  show (⟨((s.data.toList.drop p).drop i).toArray⟩ : ByteArray) = _
  rw [List.drop_drop]
theorem suf_zero (s : ByteArray) : suf s 0 = s := by rw [suf_list, List.drop_zero]
theorem suf_saF (s x : ByteArray) (p : Nat) : ∀ f q, p + J.saF (suf s p) x f q = J.saF s x f (p + q)
  | 0, _ => rfl
  | f + 1, q => by
    unfold J.saF
    rw [suf_sk]
    split
    · rw [suf_saF s x p f (q + 1)]; rfl
    · rfl
theorem suf_sa (s x : ByteArray) (p : Nat) : p + J.sa (suf s p) x 0 = J.sa s x p := by
  unfold J.sa
  rw [suf_saF, suf_size]
  rfl
theorem ca_suf (s x : ByteArray) (p : Nat) : caS (suf s p) x = if J.sk s x p = true then (suf s (p + 1), true) else (suf s p, false) := by
  have h := suf_sk s x p 0
  rw [Nat.add_zero] at h
  unfold caS
  rw [h]
  have e : (suf s p).extract 1 (suf s p).size = suf s (p + 1) := suf_suf s p 1
  rw [e]
theorem ca_yes {s x : ByteArray} {p : Nat} (h : J.sk s x p = true) : caS (suf s p) x = (suf s (p + 1), true) := by rw [ca_suf, if_pos h]
theorem ca_no {s x : ByteArray} {p : Nat} (h : J.sk s x p = false) : caS (suf s p) x = (suf s p, false) := by rw [ca_suf, if_neg (by rw [h]; decide)]
/-- the writer's cut at the reader's place -/
def cut2 (s : ByteArray) (x : Nat × Nat) : ByteArray × Bool := (suf s x.1, decide (x.2 = 0))
theorem cd_suf (s : ByteArray) (p : Nat) : cdS (suf s p) = cut2 s (J.ds s p 0) := by
  have h := suf_sa s J.dgs p
  rw [J.sa_dg s p] at h
  have e : cdS (suf s p) = (suf (suf s p) (J.sa (suf s p) J.dgs 0), decide (0 < J.sa (suf s p) J.dgs 0)) := rfl
  rw [e, suf_suf, h]
  unfold J.ds cut2
  rw [if_pos rfl]
  by_cases hd : J.dg s p = p
  · simp only [hd, if_true]
    rw [decide_eq_false (show ¬ 0 < J.sa (suf s p) J.dgs 0 by omega)]
    rfl
  · simp only [if_neg hd]
    rw [decide_eq_true (show 0 < J.sa (suf s p) J.dgs 0 by omega)]
    rfl
theorem sk45 (s : ByteArray) (p : Nat) : J.sk s c45 p = J.is s p 0 45 := J.sk_is p (by decide) am45
theorem sk46 (s : ByteArray) (p : Nat) : J.sk s c46 p = J.is s p 0 46 := J.sk_is p (by decide) am46
theorem am48 (c : Nat) : J.am c48 c = decide (c = 48) := J.am_one 48 c (by decide)
theorem sk48 (s : ByteArray) (p : Nat) : J.sk s c48 p = J.is s p 0 48 := J.sk_is p (by decide) am48
theorem skEe (s : ByteArray) (p : Nat) : J.sk s cEe p = (J.is s p 0 101 || J.is s p 0 69) := sk_two (a := 101) (b := 69) p (by decide) (by decide) (by decide) (by decide)
theorem skpm (s : ByteArray) (p : Nat) : J.sk s cpm p = (J.is s p 0 43 || J.is s p 0 45) := sk_two (a := 43) (b := 45) p (by decide) (by decide) (by decide) (by decide)
theorem ca_fst45 (s : ByteArray) (p : Nat) : (caS (suf s p) c45).1 = suf s (J.bp s p 0 45) := by
  cases h : J.is s p 0 45
  · rw [ca_no (by rw [sk45, h]), J.bp_no h]
  · rw [ca_yes (by rw [sk45, h]), J.bp_yes h]
theorem ca_fstpm (s : ByteArray) (p : Nat) : (caS (suf s p) cpm).1 = suf s (J.sg s p 0) := by
  unfold J.sg
  cases h : (J.is s p 0 43 || J.is s p 0 45)
  · rw [ca_no (by rw [skpm, h]), if_neg (by decide)]
  · rw [ca_yes (by rw [skpm, h]), if_pos rfl]
theorem ci_is (s : ByteArray) (p : Nat) : ciS (suf s p) = cut2 s (J.n2 s (J.bp s p 0 45) 0) := by
  unfold ciS
  rw [ca_fst45]
  generalize J.bp s p 0 45 = q
  unfold J.n2
  cases h : J.is s q 0 48
  · rw [ca_no (by rw [sk48, h]), if_neg Bool.false_ne_true, if_neg (by decide)]
    exact cd_suf s q
  · rw [ca_yes (by rw [sk48, h]), if_pos rfl, if_pos rfl]
    rfl
theorem n2_is (s : ByteArray) (x : Nat × Nat) : n2S (cut2 s x) = cut2 s (J.n3 s x) := by
  obtain ⟨q, e⟩ := x
  unfold n2S cut2 J.n3
  simp only
  by_cases he : e = 0
  · subst he
    cases h : J.is s q 0 46
    · rw [ca_no (by rw [sk46, h]), if_neg (by simp), if_neg (by decide)]
    · rw [ca_yes (by rw [sk46, h]), if_pos rfl]
      show cdS (suf s (q + 1)) = _
      exact cd_suf s (q + 1)
  · rw [decide_eq_false he, Bool.false_and, if_neg (by decide), J.is_wrong q 46 he, if_neg (by decide), decide_eq_false he]
theorem n3_is (s : ByteArray) (x : Nat × Nat) : n3S (cut2 s x) = cut2 s (J.n4 s x) := by
  obtain ⟨q, e⟩ := x
  unfold n3S cut2 J.n4
  simp only
  by_cases he : e = 0
  · subst he
    cases h : (J.is s q 0 101 || J.is s q 0 69)
    · rw [ca_no (by rw [skEe, h]), if_neg (by simp), if_neg (by decide)]
    · rw [ca_yes (by rw [skEe, h]), if_pos rfl]
      show cdS (caS (suf s (q + 1)) cpm).1 = _
      rw [ca_fstpm]
      exact cd_suf s _
  · rw [decide_eq_false he, Bool.false_and, if_neg (by decide), J.is_wrong q 101 he, J.is_wrong q 69 he, if_neg (by decide), decide_eq_false he]
theorem num_cut (x : ByteArray) : n3S (n2S (ciS x)) = cut2 x (J.nm x 0 0) := by
  have h := ci_is x 0
  rw [suf_zero] at h
  rw [h, n2_is, n3_is]
  rfl
/-- a number's text is read whole -/
theorem numS_iff (x : ByteArray) : numS x = true ↔ J.nm x 0 0 = (x.size, 0) := by
  have h := (J.nm_le (s := x) (p := 0) 0 (Nat.zero_le _)).2
  have e : numS x = (decide ((J.nm x 0 0).2 = 0) && decide (x.size - (J.nm x 0 0).1 = 0)) := by
    unfold numS
    rw [num_cut]
    unfold bothS cut2
    rw [suf_size]
  rw [e, Bool.and_eq_true, decide_eq_true_eq, decide_eq_true_eq]
  constructor
  · rintro ⟨h1, h2⟩
    exact Prod.ext (by show _ = x.size; omega) h1
  · intro h1
    rw [h1]
    exact ⟨rfl, by simp⟩
/-- its first byte -/
theorem nm_first {s : ByteArray} {p : Nat} (h : (J.nm s p 0).2 = 0) : J.pk s p = 45 ∨ J.dgt (J.pk s p) = true := by
  by_cases h45 : J.pk s p = 45
  · exact .inl h45
  · cases hd : J.dgt (J.pk s p)
    · exfalso
      have h1 : J.is s p 0 45 = false := by rw [is_pk (by decide)]; exact decide_eq_false h45
      have h2 : J.is s p 0 48 = false := by rw [is_pk (by decide)]; exact decide_eq_false (fun e => by rw [e] at hd; exact absurd hd (by decide))
      unfold J.nm at h
      rw [J.bp_no h1] at h
      unfold J.n2 at h
      rw [if_neg (by rw [h2]; decide), J.ds_none (dg_no hd), n_wrong] at h
      exact absurd h (show ¬ (30 : Nat) = 0 by decide)
    · exact .inr rfl
end Go.Proofs.YtoolkaahjmnjeaaGreatDoor

namespace Go.Proofs.YtoolkaahjmnjeaaGreatDoor.U
open Go

set_option maxRecDepth 100000 in
set_option maxHeartbeats 4000000 in
/-- a character hangs on its own bytes alone -/
theorem dn_local (n n' b0 b1 b2 b3 c1 c2 c3 : Nat) (hg : ¬ ((Lib.decodeN n b0 b1 b2 b3).1 = 65533 ∧ (Lib.decodeN n b0 b1 b2 b3).2 = 1)) (hn : (Lib.decodeN n b0 b1 b2 b3).2 ≤ n')
    (h1 : 2 ≤ (Lib.decodeN n b0 b1 b2 b3).2 → c1 = b1) (h2 : 3 ≤ (Lib.decodeN n b0 b1 b2 b3).2 → c2 = b2) (h3 : 4 ≤ (Lib.decodeN n b0 b1 b2 b3).2 → c3 = b3) :
    Lib.decodeN n' b0 c1 c2 c3 = Lib.decodeN n b0 b1 b2 b3 := by
  by_cases k0 : b0 < 128
  · unfold Lib.decodeN
    rw [if_pos k0, if_pos k0]
  by_cases k1 : b0 / 32 = 6 ∧ (1 < n ∧ b1 / 64 = 2)
  · have e : Lib.decodeN n b0 b1 b2 b3 = (if b0 % 32 * 64 + b1 % 64 ≥ 128 then (b0 % 32 * 64 + b1 % 64, 2) else (65533, 1)) := by
      unfold Lib.decodeN
      rw [if_neg k0, if_pos k1]
    rw [e] at hg hn h1 h2 h3 ⊢
    split at hg
    · rename_i hc
      rw [if_pos hc] at hn h1 h2 h3 ⊢
      obtain rfl := h1 (Nat.le_refl _)
      unfold Lib.decodeN
      rw [if_neg k0, if_pos ⟨k1.1, by simp only at hn; omega, k1.2.2⟩, if_pos hc]
    · exact absurd ⟨rfl, rfl⟩ hg
  by_cases k2 : b0 / 16 = 14 ∧ (1 < n ∧ b1 / 64 = 2) ∧ (2 < n ∧ b2 / 64 = 2)
  · have e : Lib.decodeN n b0 b1 b2 b3 = (if b0 % 16 * 4096 + b1 % 64 * 64 + b2 % 64 ≥ 2048 ∧ (b0 % 16 * 4096 + b1 % 64 * 64 + b2 % 64 < 55296 ∨ (57344 ≤ b0 % 16 * 4096 + b1 % 64 * 64 + b2 % 64 ∧ b0 % 16 * 4096 + b1 % 64 * 64 + b2 % 64 ≤ 1114111)) then (b0 % 16 * 4096 + b1 % 64 * 64 + b2 % 64, 3) else (65533, 1)) := by
      unfold Lib.decodeN
      rw [if_neg k0, if_neg k1, if_pos k2]
    rw [e] at hg hn h1 h2 h3 ⊢
    split at hg
    · rename_i hc
      rw [if_pos hc] at hn h1 h2 h3 ⊢
      obtain rfl := h1 (by simp only; omega)
      obtain rfl := h2 (Nat.le_refl _)
      unfold Lib.decodeN
      simp only at hn
      rw [if_neg k0, if_neg (by omega), if_pos ⟨k2.1, ⟨by omega, k2.2.1.2⟩, by omega, k2.2.2.2⟩, if_pos hc]
    · exact absurd ⟨rfl, rfl⟩ hg
  by_cases k3 : b0 / 8 = 30 ∧ (1 < n ∧ b1 / 64 = 2) ∧ (2 < n ∧ b2 / 64 = 2) ∧ (3 < n ∧ b3 / 64 = 2)
  · have e : Lib.decodeN n b0 b1 b2 b3 = (if b0 % 8 * 262144 + b1 % 64 * 4096 + b2 % 64 * 64 + b3 % 64 ≥ 65536 ∧ (b0 % 8 * 262144 + b1 % 64 * 4096 + b2 % 64 * 64 + b3 % 64 < 55296 ∨ (57344 ≤ b0 % 8 * 262144 + b1 % 64 * 4096 + b2 % 64 * 64 + b3 % 64 ∧ b0 % 8 * 262144 + b1 % 64 * 4096 + b2 % 64 * 64 + b3 % 64 ≤ 1114111)) then (b0 % 8 * 262144 + b1 % 64 * 4096 + b2 % 64 * 64 + b3 % 64, 4) else (65533, 1)) := by
      unfold Lib.decodeN
      rw [if_neg k0, if_neg k1, if_neg k2, if_pos k3]
    rw [e] at hg hn h1 h2 h3 ⊢
    split at hg
    · rename_i hc
      rw [if_pos hc] at hn h1 h2 h3 ⊢
      obtain rfl := h1 (by simp only; omega)
      obtain rfl := h2 (by simp only; omega)
      obtain rfl := h3 (Nat.le_refl _)
      unfold Lib.decodeN
      simp only at hn
      rw [if_neg k0, if_neg (by omega), if_neg (by omega), if_pos ⟨k3.1, ⟨by omega, k3.2.1.2⟩, ⟨by omega, k3.2.2.1.2⟩, by omega, k3.2.2.2.2⟩, if_pos hc]
    · exact absurd ⟨rfl, rfl⟩ hg
  · exfalso
    apply hg
    unfold Lib.decodeN
    rw [if_neg k0, if_neg k1, if_neg k2, if_neg k3]
    exact ⟨rfl, rfl⟩

/-- a character that stands elsewhere, too, is the same there -/
theorem same_char (s t : ByteArray) (p q : Nat) (hp : p < s.size) (hg : bad s p = false) (hq : q + wd s p ≤ t.size) (hb : ∀ k, k < wd s p → t.get! (q + k) = s.get! (p + k)) : ch t q = ch s p ∧ wd t q = wd s p := by
  have hf := facts s p hp
  have hn : ¬ (ch s p = 65533 ∧ wd s p = 1) := fun hx => by rw [(bad_iff s p).2 hx] at hg; cases hg
  have h0 := hb 0 (by omega)
  rw [Nat.add_zero, Nat.add_zero] at h0
  have hl := dn_local (s.size - p) (t.size - q) (s.get! p).toNat (s.get! (p + 1)).toNat (s.get! (p + 2)).toNat (s.get! (p + 3)).toNat (t.get! (q + 1)).toNat (t.get! (q + 2)).toNat (t.get! (q + 3)).toNat
    (by rw [← ch_eq, ← wd_eq]; exact hn) (by rw [← wd_eq]; omega) (by rw [← wd_eq]; intro h; rw [hb 1 (by omega)]) (by rw [← wd_eq]; intro h; rw [hb 2 (by omega)]) (by rw [← wd_eq]; intro h; rw [hb 3 (by omega)])
  rw [ch_eq t q, wd_eq t q, ch_eq s p, wd_eq s p, h0, hl]
  exact ⟨rfl, rfl⟩

theorem get_list (t : ByteArray) (q : Nat) : t.get! q = t.data.toList.getD q 0 := (Lib.getD_get!' t q).symm
theorem get_app (t : ByteArray) (l m r : List UInt8) (h : t.data.toList = l ++ (m ++ r)) (k : Nat) (hk : k < m.length) : t.get! (l.length + k) = m.getD k 0 := by
  rw [get_list, h]
  simp only [List.getD]
  rw [List.getElem?_append_right (by omega), Nat.add_sub_cancel_left, List.getElem?_append_left hk]
theorem stretch_length (s : ByteArray) (p n : Nat) : (stretch s p n).length = n := by unfold stretch; rw [List.length_map, List.length_range]
theorem stretch_getD (s : ByteArray) (p n k : Nat) (hk : k < n) : (stretch s p n).getD k 0 = s.get! (p + k) := by
  unfold stretch
  simp [List.getD, hk]

/-- where a piece stands, it is what is next, and no invalid byte -/
theorem piece_next (s t : ByteArray) (p : Nat) (l r : List UInt8) (hp : p < s.size) (h : t.data.toList = l ++ (piece s p ++ r)) :
    ch t l.length = ch s p ∧ wd t l.length = (piece s p).length ∧ bad t l.length = false := by
  have hsz : t.size = l.length + ((piece s p).length + r.length) := by rw [Lib.size_eq, h, List.length_append, List.length_append]
  cases hb : bad s p
  · have hl : (piece s p).length = wd s p := by rw [piece_good hb, stretch_length]
    obtain ⟨h1, h2⟩ := same_char s t p l.length hp hb (by omega) (fun k hk => by rw [get_app t l _ r h k (by omega), piece_good hb, stretch_getD s p _ k hk])
    refine ⟨h1, by omega, ?_⟩
    cases hx : bad t l.length
    · rfl
    · have hy := (bad_iff _ _).1 hx
      rw [h1, h2] at hy
      rw [(bad_iff s p).2 hy] at hb
      cases hb
  · have hpc := piece_bad hb
    have hl : (piece s p).length = 3 := by rw [hpc]; rfl
    have g := fun k hk => get_app t l _ r h k hk
    have g0 := g 0 (by omega)
    have g1 := g 1 (by omega)
    have g2 := g 2 (by omega)
    rw [hpc] at g0 g1 g2
    rw [Nat.add_zero] at g0
    have hd : Lib.decodeN (t.size - l.length) (t.get! l.length).toNat (t.get! (l.length + 1)).toNat (t.get! (l.length + 2)).toNat (t.get! (l.length + 3)).toNat = (65533, 3) := by
      rw [g0, g1, g2]
      show Lib.decodeN _ 239 191 189 _ = _
      unfold Lib.decodeN
      rw [if_neg (by omega), if_neg (by omega), if_pos (by omega), if_pos (by omega)]
    have hc : ch t l.length = 65533 := by rw [ch_eq, hd]
    have hw : wd t l.length = 3 := by rw [wd_eq, hd]
    refine ⟨by rw [hc, ((bad_iff s p).1 hb).1], by rw [hw, hl], good_of_wd (by omega)⟩

theorem fix_scan (s t : ByteArray) : ∀ f pos (l : List UInt8), t.data.toList = l ++ fixFrom s f pos → s.size ≤ pos + f → ∀ F, t.size ≤ l.length + F → vFrom t F l.length = true ∧ unitsFrom t F l.length = unitsFrom s f pos
  | 0, pos, l, h, hf, F, hF => by
    have hz : t.size = l.length := by rw [Lib.size_eq, h]; simp [fixFrom]
    rw [vFrom_end t F _ (by omega), unitsFrom_end t F _ (by omega), unitsFrom_end s 0 pos (by omega)]
    exact ⟨rfl, rfl⟩
  | f + 1, pos, l, h, hf, F, hF => by
    by_cases hp : pos < s.size
    · rw [fixFrom_step s f pos hp] at h
      obtain ⟨h1, h2, h3⟩ := piece_next s t pos l _ hp h
      have hpl := piece_le hp
      have hsz : t.size = l.length + ((piece s pos).length + (fixFrom s f (pos + wd s pos)).length) := by rw [Lib.size_eq, h, List.length_append, List.length_append]
      obtain ⟨F', rfl⟩ : ∃ F', F = F' + 1 := ⟨F - 1, by omega⟩
      have hlt : l.length < t.size := by omega
      have ih := fix_scan s t f (pos + wd s pos) (l ++ piece s pos) (by rw [List.append_assoc]; exact h) (by have := wd_pos hp; omega) F' (by rw [List.length_append]; omega)
      rw [List.length_append, ← h2] at ih
      rw [vFrom_step t F' _ hlt h3, unitsFrom_step t F' _ hlt, unitsFrom_step s f pos hp]
      refine ⟨ih.1, ?_⟩
      rw [ih.2]
      unfold un
      rw [h1]
    · rw [fixFrom_end s _ pos hp, List.append_nil] at h
      have hz : t.size = l.length := by rw [Lib.size_eq, h]
      rw [vFrom_end t F _ (by omega), unitsFrom_end t F _ (by omega), unitsFrom_end s _ pos hp]
      exact ⟨rfl, rfl⟩
theorem fixS_list (s : ByteArray) : (fixS s).data.toList = fixL s := rfl
theorem fix_valid (s : ByteArray) : valid (fixS s) = true := (fix_scan s (fixS s) s.size 0 [] rfl (by omega) (fixS s).size (by simp)).1
theorem fix_units (s : ByteArray) : units (fixS s) = units s := (fix_scan s (fixS s) s.size 0 [] rfl (by omega) (fixS s).size (by simp)).2
theorem fix_fix (s : ByteArray) : fixS (fixS s) = fixS s := fixS_valid _ (fix_valid s)
theorem fix_same (s : ByteArray) : fixS s = s ↔ valid s = true := ⟨fun h => by rw [← h]; exact fix_valid s, fixS_valid s⟩
theorem fixFrom_len (s : ByteArray) : ∀ f pos, pos ≤ s.size → (fixFrom s f pos).length ≤ 3 * (s.size - pos)
  | 0, _, _ => by simp [fixFrom]
  | f + 1, pos, h => by
    by_cases hp : pos < s.size
    · rw [fixFrom_step s f pos hp, List.length_append]
      have := fixFrom_len s f (pos + wd s pos) (wd_le hp)
      have := (piece_le hp).1
      have := wd_le hp
      omega
    · rw [fixFrom_end s _ pos hp]; simp
theorem fix_size (s : ByteArray) : (fixS s).size ≤ 3 * s.size := by
  have := fixFrom_len s s.size 0 (Nat.zero_le _)
  rw [Lib.size_eq, fixS_list]
  exact this
end Go.Proofs.YtoolkaahjmnjeaaGreatDoor.U

namespace Go.Proofs.YtoolkaahjmnjeaaGreatDoor
open Go

theorem rb_else {c : Nat} (h1 : ¬ c < 32) (h2 : ¬ c = 34) (h3 : ¬ c = 92) : rb c = [c.toUInt8] := by
  unfold rb
  rw [if_neg h2, if_neg h3, if_neg (by omega), if_neg (by omega), if_neg (by omega), if_neg (by omega), if_neg (by omega), if_neg h1]

/-- bytes as they are written in quotes -/
def rbs (l : List UInt8) : List UInt8 := (l.map fun b => rb b.toNat).flatten
theorem rbs_append (a b : List UInt8) : rbs (a ++ b) = rbs a ++ rbs b := by unfold rbs; rw [List.map_append, List.flatten_append]
theorem rb_high {b : UInt8} (h : 128 ≤ b.toNat) : rb b.toNat = [b] := by
  rw [rb_else (by omega) (by omega) (by omega)]
  congr 1
  exact UInt8.ofNat_toNat
theorem rbs_high : ∀ (l : List UInt8), (∀ b ∈ l, 128 ≤ b.toNat) → rbs l = l
  | [], _ => rfl
  | b :: l, h => by
    have e := rbs_high l (fun x hx => h x (List.mem_cons_of_mem _ hx))
    unfold rbs at e ⊢
    rw [List.map_cons, List.flatten_cons, e, rb_high (h b (List.mem_cons_self ..))]
    rfl
set_option maxHeartbeats 2000000 in
set_option maxRecDepth 100000 in
theorem dn_high (n b0 b1 b2 b3 : Nat) (h0 : b0 < 256) (h : 128 ≤ b0) :
    (Lib.decodeN n b0 b1 b2 b3 = (65533, 1)) ∨ (128 ≤ (Lib.decodeN n b0 b1 b2 b3).1 ∧ (1 < (Lib.decodeN n b0 b1 b2 b3).2 → 128 ≤ b1) ∧ (2 < (Lib.decodeN n b0 b1 b2 b3).2 → 128 ≤ b2) ∧ (3 < (Lib.decodeN n b0 b1 b2 b3).2 → 128 ≤ b3)) := by
  unfold Lib.decodeN
  rw [if_neg (by omega)]
  split
  · split
    · right; refine ⟨?_, ?_, ?_, ?_⟩ <;> (try intro) <;> simp only at * <;> omega
    · left; rfl
  split
  · split
    · right; refine ⟨?_, ?_, ?_, ?_⟩ <;> (try intro) <;> simp only at * <;> omega
    · left; rfl
  split
  · split
    · right; refine ⟨?_, ?_, ?_, ?_⟩ <;> (try intro) <;> simp only at * <;> omega
    · left; rfl
  · left; rfl
theorem piece_rbs {s : ByteArray} {p : Nat} (hp : p < s.size) : rbs (U.piece s p) = pq s p := by
  have hf := U.facts s p hp
  by_cases ha : (s.get! p).toNat < 128
  · obtain ⟨e1, e2, e3⟩ := U.next_ascii s p ha
    have e4 : U.piece s p = [s.get! p] := by
      rw [U.piece_good e3, e2]
      unfold U.stretch
      rfl
    rw [e4]
    show rb (s.get! p).toNat ++ [] = _
    rw [List.append_nil]
    unfold pq
    rw [e1]
    split
    · rfl
    · rename_i hh
      rw [e4, rb_else (by omega) (by omega) (by omega)]
      congr 1
      exact UInt8.ofNat_toNat
  · have hd := dn_high (s.size - p) (s.get! p).toNat (s.get! (p + 1)).toNat (s.get! (p + 2)).toNat (s.get! (p + 3)).toNat (s.get! p).toNat_lt (by omega)
    rw [← U.wd_eq, ← U.ch_eq] at hd
    cases hb : U.bad s p
    · have hn : ¬ (U.ch s p = 65533 ∧ U.wd s p = 1) := fun hx => by rw [(U.bad_iff s p).2 hx] at hb; cases hb
      rcases hd with hd | ⟨h1, h2, h3, h4⟩
      · exfalso
        rw [← Lib.decode_at] at hd
        exact hn (Prod.mk.inj hd)
      · unfold pq
        rw [if_neg (by omega)]
        refine rbs_high _ ?_
        rw [U.piece_good hb]
        unfold U.stretch
        intro b hm
        obtain ⟨k, hk, rfl⟩ := List.mem_map.1 hm
        have hk := List.mem_range.1 hk
        have : k = 0 ∨ k = 1 ∨ k = 2 ∨ k = 3 := by omega
        rcases this with rfl | rfl | rfl | rfl
        · show 128 ≤ (s.get! p).toNat; omega
        · exact h2 (by omega)
        · exact h3 (by omega)
        · exact h4 (by omega)
    · have hx := (U.bad_iff s p).1 hb
      rw [U.piece_bad hb]
      unfold pq
      rw [if_neg (by omega), U.piece_bad hb]
      exact rbs_high _ (by decide)
theorem fix_rbs (s : ByteArray) : ∀ f pos, rbs (U.fixFrom s f pos) = qF s f pos
  | 0, _ => rfl
  | f + 1, pos => by
    by_cases hp : pos < s.size
    · rw [U.fixFrom_step s f pos hp, qF_step s f pos hp, rbs_append, piece_rbs hp, fix_rbs s f _]
    · rw [U.fixFrom_end s _ pos hp, qF_end s _ pos hp]; rfl
theorem fixFrom_len (s : ByteArray) : ∀ f pos, pos ≤ s.size → (U.fixFrom s f pos).length ≤ 3 * (s.size - pos)
  | 0, _, _ => Nat.zero_le _
  | f + 1, pos, h => by
    by_cases hp : pos < s.size
    · have h1 := (U.piece_le hp).1
      have h2 := U.wd_le hp
      have h3 := fixFrom_len s f (pos + U.wd s pos) h2
      rw [U.fixFrom_step s f pos hp, List.length_append]
      omega
    · rw [U.fixFrom_end s _ pos hp]; exact Nat.zero_le _
theorem fixS_len (s : ByteArray) : (U.fixS s).size ≤ 3 * s.size := by
  have h := fixFrom_len s s.size 0 (Nat.zero_le _)
  show (U.fixL s).toArray.size ≤ _
  rw [List.size_toArray]
  exact h
end Go.Proofs.YtoolkaahjmnjeaaGreatDoor
