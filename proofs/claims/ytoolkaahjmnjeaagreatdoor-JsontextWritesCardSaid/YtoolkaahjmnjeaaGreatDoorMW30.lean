/- The program's reader reads the same wherever the same bytes stand: words, escapes, characters, strings, names. Conditions: none. -/
import Derived.Test.YtoolkaahjmnjeaaGreatDoorMW29
namespace Go.Proofs.YtoolkaahjmnjeaaGreatDoor
open Go

/-- words -/
theorem al_shift {s s' w : ByteArray} {p p' : Nat} : ∀ (k n e : Nat), (∀ i, i < k → 0 < (w.get! i).toNat) → J.al s w k (p, 0) = (p + n, e) → Sh s p s' p' n → (¬ e = 0 → J.pk s' (p' + n) = 0) → J.al s' w k (p', 0) = (p' + n, e)
  | 0, n, e, _, h, _, _ => by
    have h1 := congrArg Prod.fst h
    have h2 := congrArg Prod.snd h
    simp only [J.al] at h1 h2
    rw [← h2, show n = 0 by omega]; rfl
  | k + 1, n, e, hw, h, hS, hB => by
    have hp : p ≤ s.size := by have := hS.1; omega
    have hle := J.al_le (s := s) (w := w) 0 hp k
    have hc := hw k (Nat.lt_succ_self k)
    have hk := al_shift (s := s) (s' := s') (w := w) (p := p) (p' := p') k
    unfold J.al at h ⊢
    generalize hx : J.al s w k (p, 0) = x at *
    obtain ⟨i, hi⟩ : ∃ i, x.1 = p + i := ⟨x.1 - p, by omega⟩
    have hx' : x = (p + i, x.2) := by rw [← hi]
    generalize (w.get! k).toNat = c at *
    by_cases h0 : x.2 = 0
    · rw [hi, h0] at h
      cases hb : J.is s (p + i) 0 c
      · rw [J.tk_no hb] at h
        have h1 := congrArg Prod.fst h
        have h2 := congrArg Prod.snd h
        simp only at h1 h2
        obtain rfl : n = i := by omega
        have r := hk n 0 (fun j hj => hw j (by omega)) (hx'.trans (by rw [h0])) hS (fun hh => absurd rfl hh)
        rw [r]
        have hz := hB (by omega)
        rw [← h2]
        exact J.tk_no (by rw [is_pk hc, hz]; exact decide_eq_false (by omega))
      · rw [J.tk_yes hb] at h
        have h1 := congrArg Prod.fst h
        have h2 := congrArg Prod.snd h
        simp only at h1 h2
        have r := hk i 0 (fun j hj => hw j (by omega)) (hx'.trans (by rw [h0])) (hS.sub (i := 0) (m := i) (by omega)) (fun hh => absurd rfl hh)
        rw [r, ← h2, show n = i + 1 by omega]
        rw [is_pk hc, hS.pk (i := i) (by omega), ← is_pk hc] at hb
        exact J.tk_yes hb
    · rw [J.tk_wrong c h0] at h
      have h1 := congrArg Prod.fst h
      have h2 := congrArg Prod.snd h
      simp only at h1 h2
      obtain rfl : n = i := by omega
      have r := hk n e (fun j hj => hw j (by omega)) (by rw [hx', h2]) hS hB
      rw [r]
      exact J.tk_wrong c (by omega)
theorem al_first {s w : ByteArray} {p : Nat} (h : J.is s p 0 (w.get! 0).toNat = true) : ∀ k, p + 1 ≤ (J.al s w (k + 1) (p, 0)).1
  | 0 => by
    show _ ≤ (J.tk s p 0 _).1
    rw [J.tk_yes h]; exact Nat.le_refl _
  | k + 1 => by
    have h1 := al_first h k
    have h2 := J.al_le (s := s) (w := w) 0 (Nat.le_of_lt (is_lt h)) (k + 1)
    have h3 := J.tk_le (s := s) (J.al s w (k + 1) (p, 0)).2 (w.get! (k + 1)).toNat h2.2
    show _ ≤ (J.tk s _ _ _).1
    omega
theorem al_err {s w : ByteArray} {p : Nat} : ∀ k, (J.al s w k (p, 0)).2 = 0 ∨ (J.al s w k (p, 0)).2 = 30
  | 0 => .inl rfl
  | k + 1 => by
    have ih := al_err (s := s) (w := w) (p := p) k
    show (J.tk s _ _ _).2 = 0 ∨ (J.tk s _ _ _).2 = 30
    unfold J.tk
    split
    · split
      · exact .inl rfl
      · exact .inr rfl
    · exact ih
/-- hexadecimal digits -/
theorem hxF_shift {s s' : ByteArray} : ∀ (f p p' a n x e : Nat), J.hxF s f p a = (x, p + n, e) → Sh s p s' p' n → (¬ e = 0 → J.pk s' (p' + n) = 0) → J.hxF s' f p' a = (x, p' + n, e)
  | 0, p, p', a, n, x, e, h, _, _ => by
    have h1 := congrArg Prod.fst h
    have h2 := congrArg (·.2.1) h
    have h3 := congrArg (·.2.2) h
    simp only [J.hxF] at h1 h2 h3
    rw [← h1, ← h3, show n = 0 by omega]; rfl
  | f + 1, p, p', a, n, x, e, h, hS, hB => by
    by_cases hd : p < s.size ∧ 0 ≤ J.hv (s.get! p).toNat
    · rw [J.hxF_step hd.1 hd.2] at h
      have hle := (J.hxF_le (s := s) f (p + 1) (a * 16 + (J.hv (s.get! p).toNat).toNat) hd.1).1
      rw [h] at hle
      simp only at hle
      have hb : s.get! p = s'.get! p' := hS.2.2 0 (by omega)
      have hp' : p' < s'.size := by have := hS.2.1; omega
      rw [hb] at h hd
      rw [J.hxF_step hp' hd.2]
      obtain ⟨m, rfl⟩ : ∃ m, n = 1 + m := ⟨n - 1, by omega⟩
      rw [show p + (1 + m) = p + 1 + m by omega, show p' + (1 + m) = p' + 1 + m by omega] at *
      exact hxF_shift f (p + 1) (p' + 1) _ m x e h (hS.sub (i := 1) (by omega)) hB
    · rw [J.hxF_wrong hd] at h
      have h1 := congrArg Prod.fst h
      have h2 := congrArg (·.2.1) h
      have h3 := congrArg (·.2.2) h
      simp only at h1 h2 h3
      obtain rfl : n = 0 := by omega
      have hz := hB (by omega)
      rw [J.hxF_wrong (fun hh => by have := hv_pk.1 hh; rw [Nat.add_zero] at hz; rw [hz] at this; exact absurd this (by decide)), ← h1, ← h3]
      rfl
theorem hxF_err {s : ByteArray} : ∀ (f p a : Nat), (J.hxF s f p a).2.2 = 0 ∨ (J.hxF s f p a).2.2 = 30
  | 0, _, _ => .inl rfl
  | f + 1, p, a => by
    unfold J.hxF
    split
    · exact hxF_err f _ _
    · exact .inr rfl
theorem es_err {s : ByteArray} {p : Nat} : (J.es s p).2.2 = 0 ∨ (J.es s p).2.2 = 30 := by
  unfold J.es
  split
  · exact .inl rfl
  · split
    · exact hxF_err _ _ _
    · exact .inr rfl
theorem sgn_pos (k : Nat) (h : k < 8) : 0 < J.sgn k := by
  have h1 : ∀ a, a < 8 → 0 < J.sgn a := by decide
  exact h1 k h
theorem es_shift {s s' : ByteArray} {p p' n x e : Nat} (h : J.es s p = (x, p + n, e)) (hS : Sh s p s' p' n) (hB : ¬ e = 0 → J.pk s' (p' + n) = 0) : J.es s' p' = (x, p' + n, e) := by
  have hp : p ≤ s.size := by have := hS.1; omega
  by_cases hn : n = 0
  · subst hn
    have hz : ¬ e = 0 := fun h0 => by
      have := es_go (s := s) (p := p) (by rw [h]; exact h0)
      rw [h] at this
      simp only at this
      omega
    have hz := hB hz
    rw [Nat.add_zero] at hz
    have e1 : J.es s' p' = (0, p', 30) := by
      rw [J.es_none (fun j hj => by rw [is_pk (sgn_pos j hj), hz]; exact decide_eq_false (by have := sgn_pos j hj; omega)), if_neg (by rw [is_pk (by decide), hz]; decide)]
    rw [e1]
    unfold J.es at h
    split at h
    · have h2 := congrArg (·.2.1) h
      simp only at h2
      omega
    · split at h
      · rename_i hi
        have := (J.hxF_le (s := s) 4 (p + 1) 0 (is_lt hi)).1
        rw [h] at this
        simp only at this
        omega
      · have h1 := congrArg Prod.fst h
        have h3 := congrArg (·.2.2) h
        simp only at h1 h3
        rw [← h1, ← h3]; rfl
  · have h0 := hS.pk0 (Nat.pos_of_ne_zero hn)
    have hq : ∀ j, j < 8 → J.is s' p' 0 (J.sgn j) = J.is s p 0 (J.sgn j) := fun j hj => by rw [is_pk (sgn_pos j hj), is_pk (sgn_pos j hj), h0]
    have h117 : J.is s' p' 0 117 = J.is s p 0 117 := by rw [is_pk (by decide), is_pk (by decide), h0]
    have hf : (List.range 8).find? (fun k => J.is s' p' 0 (J.sgn k)) = (List.range 8).find? (fun k => J.is s p 0 (J.sgn k)) := by
      have h1 : ∀ l : List Nat, (∀ j ∈ l, j < 8) → l.find? (fun k => J.is s' p' 0 (J.sgn k)) = l.find? (fun k => J.is s p 0 (J.sgn k)) := by
        intro l
        induction l with
        | nil => intro _; rfl
        | cons a l ih =>
          intro hl
          rw [List.find?_cons, List.find?_cons, hq a (hl a (List.mem_cons_self ..)), ih (fun j hj => hl j (List.mem_cons_of_mem _ hj))]
      exact h1 _ (fun j hj => List.mem_range.1 hj)
    unfold J.es at h ⊢
    rw [hf, h117]
    split
    · rename_i k hk
      rw [hk] at h
      have h1 := congrArg Prod.fst h
      have h2 := congrArg (·.2.1) h
      have h3 := congrArg (·.2.2) h
      simp only at h1 h2 h3
      rw [← h1, ← h3, show n = 1 by omega]
    · rename_i hk
      rw [hk] at h
      simp only at h
      cases hb : J.is s p 0 117
      · rw [if_neg (by rw [hb]; decide)] at h
        have h2 := congrArg (·.2.1) h
        simp only at h2
        omega
      · rw [if_pos hb] at h
        rw [if_pos rfl]
        obtain ⟨m, rfl⟩ : ∃ m, n = 1 + m := ⟨n - 1, by omega⟩
        rw [show p + (1 + m) = p + 1 + m by omega, show p' + (1 + m) = p' + 1 + m by omega] at *
        exact hxF_shift 4 (p + 1) (p' + 1) 0 m x e h (hS.sub (i := 1) (by omega)) hB
set_option maxHeartbeats 2000000 in
set_option maxRecDepth 100000 in
theorem dn_same {n n' b0 b1 b2 b3 c1 c2 c3 : Nat} (hb : ¬ ((Lib.decodeN n b0 b1 b2 b3).1 = 65533 ∧ (Lib.decodeN n b0 b1 b2 b3).2 = 1)) (hn : (Lib.decodeN n b0 b1 b2 b3).2 ≤ n')
    (h1 : 1 < (Lib.decodeN n b0 b1 b2 b3).2 → c1 = b1) (h2 : 2 < (Lib.decodeN n b0 b1 b2 b3).2 → c2 = b2) (h3 : 3 < (Lib.decodeN n b0 b1 b2 b3).2 → c3 = b3) : Lib.decodeN n' b0 c1 c2 c3 = Lib.decodeN n b0 b1 b2 b3 := by
  unfold Lib.decodeN at hb hn h1 h2 h3 ⊢
  by_cases g0 : b0 < 128
  · rw [if_pos g0, if_pos g0]
  · rw [if_neg g0] at hb hn h1 h2 h3 ⊢
    rw [if_neg g0]
    by_cases g1 : b0 / 32 = 6 ∧ (1 < n ∧ b1 / 64 = 2)
    · rw [if_pos g1] at hb hn h1 h2 h3 ⊢
      by_cases k1 : b0 % 32 * 64 + b1 % 64 ≥ 128
      · rw [if_pos k1] at hb hn h1 h2 h3 ⊢
        have e1 := h1 (by show 1 < 2; decide)
        simp only at hn
        subst e1
        rw [if_pos ⟨g1.1, by omega, g1.2.2⟩, if_pos k1]
      · rw [if_neg k1] at hb; exact absurd ⟨rfl, rfl⟩ hb
    · rw [if_neg g1] at hb hn h1 h2 h3 ⊢
      by_cases g2 : b0 / 16 = 14 ∧ (1 < n ∧ b1 / 64 = 2) ∧ (2 < n ∧ b2 / 64 = 2)
      · rw [if_pos g2] at hb hn h1 h2 h3 ⊢
        split at hb
        · rename_i k2
          rw [if_pos k2] at hn h1 h2 h3 ⊢
          have e1 := h1 (by show 1 < 3; decide)
          have e2 := h2 (by show 2 < 3; decide)
          simp only at hn
          subst e1 e2
          rw [if_neg (by omega), if_pos ⟨g2.1, ⟨by omega, g2.2.1.2⟩, by omega, g2.2.2.2⟩, if_pos k2]
        · exact absurd ⟨rfl, rfl⟩ hb
      · rw [if_neg g2] at hb hn h1 h2 h3 ⊢
        by_cases g3 : b0 / 8 = 30 ∧ (1 < n ∧ b1 / 64 = 2) ∧ (2 < n ∧ b2 / 64 = 2) ∧ (3 < n ∧ b3 / 64 = 2)
        · rw [if_pos g3] at hb hn h1 h2 h3 ⊢
          split at hb
          · rename_i k3
            rw [if_pos k3] at hn h1 h2 h3 ⊢
            have e1 := h1 (by show 1 < 4; decide)
            have e2 := h2 (by show 2 < 4; decide)
            have e3 := h3 (by show 3 < 4; decide)
            simp only at hn
            subst e1 e2 e3
            rw [if_neg (by omega), if_neg (by omega), if_pos ⟨g3.1, ⟨by omega, g3.2.1.2⟩, ⟨by omega, g3.2.2.1.2⟩, by omega, g3.2.2.2.2⟩, if_pos k3]
          · exact absurd ⟨rfl, rfl⟩ hb
        · rw [if_neg g3] at hb; exact absurd ⟨rfl, rfl⟩ hb
theorem dec_shift {s s' : ByteArray} {p p' : Nat} (hp : p < s.size) (hb : U.bad s p = false) (hS : Sh s p s' p' (U.wd s p)) : U.ch s' p' = U.ch s p ∧ U.wd s' p' = U.wd s p ∧ U.bad s' p' = false := by
  have hf := U.facts s p hp
  have h0 : (s'.get! p').toNat = (s.get! p).toNat := by have := hS.2.2 0 (by omega); rw [Nat.add_zero, Nat.add_zero] at this; rw [this]
  have hbb := of_decide_eq_false (show decide (U.ch s p = 65533 ∧ U.wd s p = 1) = false from hb)
  have key : Lib.decodeN (s'.size - p') (s'.get! p').toNat (s'.get! (p' + 1)).toNat (s'.get! (p' + 2)).toNat (s'.get! (p' + 3)).toNat = Lib.decodeN (s.size - p) (s.get! p).toNat (s.get! (p + 1)).toNat (s.get! (p + 2)).toNat (s.get! (p + 3)).toNat := by
    rw [h0]
    refine dn_same ?_ ?_ ?_ ?_ ?_
    · rw [← U.ch_eq, ← U.wd_eq]; exact hbb
    · rw [← U.wd_eq]; have := hS.2.1; omega
    · rw [← U.wd_eq]; intro hh; rw [hS.2.2 1 hh]
    · rw [← U.wd_eq]; intro hh; rw [hS.2.2 2 hh]
    · rw [← U.wd_eq]; intro hh; rw [hS.2.2 3 hh]
  have e1 : U.ch s' p' = U.ch s p := by rw [U.ch_eq, U.ch_eq, key]
  have e2 : U.wd s' p' = U.wd s p := by rw [U.wd_eq, U.wd_eq, key]
  exact ⟨e1, e2, by unfold U.bad; rw [e1, e2]; exact hb⟩
theorem cr_err {s : ByteArray} {q : Nat} : (cr s q).2.2 = 0 ∨ (cr s q).2.2 = 30 := by
  unfold cr
  split
  · exact es_err
  · split
    · exact .inl rfl
    · exact .inr rfl
/-- a character -/
theorem cr_shift {s s' : ByteArray} {q q' n x e : Nat} (h : cr s q = (x, q + n, e)) (hS : Sh s q s' q' n) (hB : ¬ e = 0 → J.pk s' (q' + n) = 0) : cr s' q' = (x, q' + n, e) := by
  unfold cr at h ⊢
  cases hb : J.is s q 0 92
  · rw [if_neg (by rw [hb]; decide)] at h
    by_cases hg : q < s.size ∧ U.bad s q = false ∧ 32 ≤ U.ch s q
    · rw [if_pos hg] at h
      have h1 := congrArg Prod.fst h
      have h2 := congrArg (·.2.1) h
      have h3 := congrArg (·.2.2) h
      simp only at h1 h2 h3
      have hn : n = U.wd s q := by omega
      rw [hn] at hS hB ⊢
      have hf := U.facts s q hg.1
      obtain ⟨d1, d2, d3⟩ := dec_shift hg.1 hg.2.1 hS
      rw [is_pk (by decide), hS.pk0 (by omega), ← is_pk (by decide)] at hb
      rw [if_neg (by rw [hb]; decide), if_pos ⟨by have := hS.2.1; omega, d3, by rw [d1]; exact hg.2.2⟩, d1, d2, h1, ← h3]
    · rw [if_neg hg] at h
      have h1 := congrArg Prod.fst h
      have h2 := congrArg (·.2.1) h
      have h3 := congrArg (·.2.2) h
      simp only at h1 h2 h3
      obtain rfl : n = 0 := by omega
      have hz := hB (by omega)
      rw [Nat.add_zero] at hz
      rw [if_neg (by rw [is_pk (by decide), hz]; decide), if_neg (fun hh => by
        have hk : (s'.get! q').toNat = 0 := by unfold J.pk at hz; rw [if_pos hh.1] at hz; exact hz
        have := (U.next_ascii s' q' (by rw [hk]; decide)).1
        omega), ← h1, ← h3]
      rfl
  · rw [if_pos hb] at h
    have hq := is_lt hb
    have hle := (J.es_le (s := s) (p := q + 1) hq).1
    rw [h] at hle
    simp only at hle
    rw [is_pk (by decide), hS.pk0 (by omega), ← is_pk (by decide)] at hb
    rw [if_pos hb]
    obtain ⟨m, rfl⟩ : ∃ m, n = 1 + m := ⟨n - 1, by omega⟩
    rw [show q + (1 + m) = q + 1 + m by omega, show q' + (1 + m) = q' + 1 + m by omega] at *
    exact es_shift h (hS.sub (i := 1) (by omega)) hB
theorem Sh.le {s s' : ByteArray} {p p' n : Nat} (h : Sh s p s' p' n) : p ≤ s.size ∧ p' ≤ s'.size := ⟨by have := h.1; omega, by have := h.2.1; omega⟩
/-- a string -/
theorem ptx_shift {s s' : ByteArray} : ∀ (f q q' n e f' : Nat) (L M : List Nat), ptx s f q L = (M, q + n, e) → s.size + 1 ≤ q + f → s'.size + 1 ≤ q' + f' → Sh s q s' q' n → (¬ e = 0 → J.pk s' (q' + n) = 0) → ptx s' f' q' L = (M, q' + n, e)
  | 0, q, q', n, e, f', L, M, _, hf, _, hS, _ => by have := hS.le; omega
  | f + 1, q, q', n, e, f', L, M, h, hf, hf', hS, hB => by
    have hle := hS.le
    obtain ⟨g, rfl⟩ : ∃ g, f' = g + 1 := ⟨f' - 1, by omega⟩
    unfold ptx at h ⊢
    cases hb : J.is s q 0 34
    · rw [if_neg (by rw [hb]; decide)] at h
      have hcle := cr_le hle.1
      obtain ⟨i, hi⟩ : ∃ i, (cr s q).2.1 = q + i := ⟨(cr s q).2.1 - q, by omega⟩
      have hc : cr s q = ((cr s q).1, q + i, (cr s q).2.2) := by rw [← hi]
      by_cases h0 : (cr s q).2.2 = 0
      · rw [if_pos h0] at h
        have hgo := cr_go h0
        have h2 := (ptx_le s f (cr s q).2.1 (joi L (cr s q).1) hcle.2).1
        rw [h] at h2
        simp only at h2
        have hc' := cr_shift (hc.trans (by rw [h0])) (hS.sub (i := 0) (m := i) (by omega)) (fun hh => absurd rfl hh)
        rw [is_pk (by decide), hS.pk0 (by omega), ← is_pk (by decide)] at hb
        rw [Nat.add_zero] at hc'
        rw [if_neg (by rw [hb]; decide), hc', if_pos rfl]
        rw [hi] at h
        obtain ⟨m, rfl⟩ : ∃ m, n = i + m := ⟨n - i, by omega⟩
        rw [show q + (i + m) = q + i + m by omega, show q' + (i + m) = q' + i + m by omega] at *
        exact ptx_shift f (q + i) (q' + i) m e g _ M h (by omega) (by omega) (hS.sub (i := i) (by omega)) hB
      · rw [if_neg h0] at h
        have h1 := congrArg Prod.fst h
        have h2 := congrArg (·.2.1) h
        have h3 := congrArg (·.2.2) h
        simp only at h1 h2 h3
        obtain rfl : n = i := by omega
        have hc' := cr_shift (hc.trans (by rw [h3])) hS hB
        have hz := hB (by omega)
        rw [if_neg (by
          rw [is_pk (by decide)]
          intro hh
          have hh := of_decide_eq_true hh
          by_cases hn : n = 0
          · rw [hn, Nat.add_zero] at hz; omega
          · rw [is_pk (by decide), hS.pk0 (Nat.pos_of_ne_zero hn)] at hb
            exact of_decide_eq_false hb hh), hc', if_neg (by show ¬ e = 0; omega), ← h1]
    · rw [if_pos hb] at h
      have h1 := congrArg Prod.fst h
      have h2 := congrArg (·.2.1) h
      have h3 := congrArg (·.2.2) h
      simp only at h1 h2 h3
      obtain rfl : n = 1 := by omega
      rw [is_pk (by decide), hS.pk0 (by omega), ← is_pk (by decide)] at hb
      rw [if_pos hb, h1, ← h3]
theorem ptw_shift {s s' : ByteArray} {p p' n e : Nat} {M : List Nat} (h : ptw s p = (M, p + n, e)) (hS : Sh s p s' p' n) (hB : ¬ e = 0 → J.pk s' (p' + n) = 0) : ptw s' p' = (M, p' + n, e) := by
  unfold ptw at h ⊢
  cases hb : J.is s p 0 34
  · rw [if_neg (by rw [hb]; decide)] at h
    have h1 := congrArg Prod.fst h
    have h2 := congrArg (·.2.1) h
    have h3 := congrArg (·.2.2) h
    simp only at h1 h2 h3
    obtain rfl : n = 0 := by omega
    have hz := hB (by omega)
    rw [Nat.add_zero] at hz
    rw [if_neg (by rw [is_pk (by decide), hz]; decide), ← h1, ← h3]; rfl
  · rw [if_pos hb] at h
    have hp := is_lt hb
    have h2 := (ptx_le s (s.size - p) (p + 1) [] hp).1
    rw [h] at h2
    simp only at h2
    rw [is_pk (by decide), hS.pk0 (by omega), ← is_pk (by decide)] at hb
    rw [if_pos hb]
    have := hS.2.1
    obtain ⟨m, rfl⟩ : ∃ m, n = 1 + m := ⟨n - 1, by omega⟩
    rw [show p + (1 + m) = p + 1 + m by omega, show p' + (1 + m) = p' + 1 + m by omega] at *
    exact ptx_shift _ (p + 1) (p' + 1) m e _ [] M h (by omega) (by omega) (hS.sub (i := 1) (by omega)) hB
theorem ptx_err {s : ByteArray} : ∀ (f q : Nat) (L : List Nat), (ptx s f q L).2.2 = 0 ∨ (ptx s f q L).2.2 = 30
  | 0, _, _ => .inr rfl
  | f + 1, q, L => by
    unfold ptx
    split
    · exact .inl rfl
    · split
      · exact ptx_err f _ _
      · exact cr_err
theorem ptw_err {s : ByteArray} {p : Nat} : (ptw s p).2.2 = 0 ∨ (ptw s p).2.2 = 30 := by
  unfold ptw
  split
  · exact ptx_err _ _ _
  · exact .inr rfl
theorem nmc_err {s : ByteArray} {q : Nat} : (nmc s q).2.2 = 0 ∨ (nmc s q).2.2 = 30 := by
  unfold nmc
  split
  · split
    · exact .inl rfl
    · exact .inr rfl
  · exact ptw_err
/-- a name and the colon -/
theorem nmc_shift {s s' : ByteArray} {q q' n e : Nat} {x : ByteArray} (h : nmc s q = (x, q + n, e)) (hS : Sh s q s' q' n) (hB : ¬ e = 0 → J.pk s' (q' + n) = 0) : nmc s' q' = (x, q' + n, e) := by
  have hle := hS.le
  have b1 := J.bl_le (s := s) 0 hle.1
  obtain ⟨i1, h1⟩ : ∃ i, J.bl s q 0 = q + i := ⟨J.bl s q 0 - q, by omega⟩
  have b2 := ptw_le b1.2
  rw [h1] at b1 b2
  obtain ⟨i2, h2⟩ : ∃ i, (ptw s (q + i1)).2.1 = q + i1 + i := ⟨(ptw s (q + i1)).2.1 - (q + i1), by have := b2.1; omega⟩
  have hw : ptw s (q + i1) = ((ptw s (q + i1)).1, q + i1 + i2, (ptw s (q + i1)).2.2) := by rw [← h2]
  have mid : ∀ i, i ≤ n → (i = n → ¬ e = 0) → (J.pk s (q + i) = J.pk s' (q' + i) ∨ J.ws (J.pk s' (q' + i)) = false) := fun i hi hh => by
    by_cases e1 : i = n
    · rw [e1, hB (hh e1)]; exact .inr (by decide)
    · exact .inl (hS.pk (by omega))
  unfold nmc at h ⊢
  rw [h1] at h
  by_cases h0 : (ptw s (q + i1)).2.2 = 0
  · rw [if_pos h0] at h
    have hq2 : q + i1 + i2 ≤ s.size := by have := b2.2; omega
    have b3 := J.bl_le (s := s) 0 hq2
    obtain ⟨i3, h3⟩ : ∃ i, J.bl s (q + i1 + i2) 0 = q + i1 + i2 + i := ⟨J.bl s (q + i1 + i2) 0 - (q + i1 + i2), by omega⟩
    rw [h2, h3] at h
    have hn : i1 + i2 + i3 ≤ n ∧ (i1 + i2 + i3 = n → ¬ e = 0) := by
      split at h
      · have e2 := congrArg (·.2.1) h
        simp only at e2
        exact ⟨by omega, by omega⟩
      · have e2 := congrArg (·.2.1) h
        have e3 := congrArg (·.2.2) h
        simp only at e2 e3
        exact ⟨by omega, by omega⟩
    have r1 := bl_shift i1 q q' h1 (hS.sub (i := 0) (m := i1) (by omega)) (mid i1 (by omega) (fun hh => hn.2 (by omega)))
    have r2 := ptw_shift (hw.trans (by rw [h0])) (hS.sub (i := i1) (m := i2) (by omega)) (fun hh => absurd rfl hh)
    have r3 := bl_shift i3 (q + i1 + i2) (q' + i1 + i2) h3 (by have := hS.sub (i := i1 + i2) (m := i3) (by omega); rwa [← Nat.add_assoc, ← Nat.add_assoc] at this) (by have := mid (i1 + i2 + i3) hn.1 hn.2; simp only [← Nat.add_assoc] at this; exact this)
    rw [r1, r2, if_pos rfl]
    show (if J.is s' (J.bl s' (q' + i1 + i2) 0) 0 58 = true then _ else _) = _
    rw [r3]
    cases hb : J.is s (q + i1 + i2 + i3) 0 58
    · rw [if_neg (by rw [hb]; decide)] at h
      have e1 := congrArg Prod.fst h
      have e2 := congrArg (·.2.1) h
      have e3 := congrArg (·.2.2) h
      simp only at e1 e2 e3
      have hz := hB (by omega)
      rw [show q' + i1 + i2 + i3 = q' + n by omega]
      rw [if_neg (by rw [is_pk (by decide), hz]; decide), ← e1, ← e3]
    · rw [if_pos hb] at h
      have e1 := congrArg Prod.fst h
      have e2 := congrArg (·.2.1) h
      have e3 := congrArg (·.2.2) h
      simp only at e1 e2 e3
      have hk := hS.pk (i := i1 + i2 + i3) (by omega)
      simp only [← Nat.add_assoc] at hk
      rw [is_pk (by decide), hk, ← is_pk (by decide)] at hb
      rw [if_pos hb, ← e1, ← e3, show q' + n = q' + i1 + i2 + i3 + 1 by omega]
  · rw [if_neg h0] at h
    have e1 := congrArg Prod.fst h
    have e2 := congrArg (·.2.1) h
    have e3 := congrArg (·.2.2) h
    simp only at e1 e2 e3
    have hne : ¬ e = 0 := by rw [← e3]; exact h0
    have r1 := bl_shift i1 q q' h1 (hS.sub (i := 0) (m := i1) (by omega)) (mid i1 (by omega) (fun hh => hne))
    have r2 := ptw_shift (hw.trans (by rw [e3])) (hS.sub (i := i1) (m := i2) (by omega)) (fun _ => by rw [show q' + i1 + i2 = q' + n by omega]; exact hB hne)
    rw [r1, r2, if_neg (by exact hne), ← e1, show q' + n = q' + i1 + i2 by omega]
end Go.Proofs.YtoolkaahjmnjeaaGreatDoor
