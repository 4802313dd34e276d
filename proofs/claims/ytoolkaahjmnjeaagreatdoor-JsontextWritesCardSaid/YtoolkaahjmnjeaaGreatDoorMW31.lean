/- The program's reader reads the same wherever the same bytes stand: lists, objects, values; at a text's end, and where it is too deep. Conditions: none. -/
import Derived.Test.YtoolkaahjmnjeaaGreatDoorMW30
namespace Go.Proofs.YtoolkaahjmnjeaaGreatDoor
open Go

/-- a byte with which no value goes on, and no blank -/
def C2 (s : ByteArray) (q : Nat) (s' : ByteArray) (q' : Nat) : Prop := J.pk s q = J.pk s' q' ∨ (st1 (J.pk s' q') ∧ J.ws (J.pk s' q') = false)
theorem C2.c1 {s s' : ByteArray} {q q' : Nat} (h : C2 s q s' q') : C1 s q s' q' := h.imp_right fun x => x.1
theorem C2.ws {s s' : ByteArray} {q q' : Nat} (h : C2 s q s' q') : J.pk s q = J.pk s' q' ∨ J.ws (J.pk s' q') = false := h.imp_right fun x => x.2
theorem st1_zero : st1 0 := by unfold st1; decide
/-- what is wrong there, and what elsewhere -/
def Bd (s : ByteArray) (q e : Nat) (s' : ByteArray) (q' e' : Nat) : Prop := (J.pk s' q' = 0 ∧ e' = 30) ∨ (e = 31 ∧ J.pk s q = J.pk s' q' ∧ e' = 31)
theorem Bd.c2 {s s' : ByteArray} {q e q' e' : Nat} (h : Bd s q e s' q' e') : C2 s q s' q' := by
  rcases h with ⟨h, _⟩ | ⟨_, h, _⟩
  · exact .inr (by rw [h]; exact ⟨st1_zero, by decide⟩)
  · exact .inl h
theorem Bd.low {s s' : ByteArray} {q e q' e' : Nat} (h : Bd s q e s' q' e') (he : e = 30) : J.pk s' q' = 0 ∧ e' = 30 := by
  rcases h with h | ⟨h1, _⟩
  · exact h
  · omega
def Rs (s : ByteArray) (q e : Nat) (s' : ByteArray) (q' e' : Nat) : Prop := (e = 0 ∧ e' = 0 ∧ C2 s q s' q') ∨ (¬ e = 0 ∧ Bd s q e s' q' e')
def Rb (s : ByteArray) (q e : Nat) (s' : ByteArray) (q' e' : Nat) : Prop := (e = 0 ∧ e' = 0) ∨ (¬ e = 0 ∧ Bd s q e s' q' e')
theorem Rb.c2 {s s' : ByteArray} {p p' n e e' i : Nat} (hS : Sh s p s' p' n) (h : Rb s (p + n) e s' (p' + n) e') (hi : i ≤ n) (hlt : e = 0 → i < n) : C2 s (p + i) s' (p' + i) := by
  by_cases e1 : i < n
  · exact .inl (hS.pk e1)
  · obtain rfl : i = n := by omega
    rcases h with ⟨h, _⟩ | ⟨_, h⟩
    · exact absurd (hlt h) e1
    · exact h.c2
/-- items that are read alike -/
def Like {A : Type} (s s' : ByteArray) (one one' : Nat → A → A × Nat × Nat) : Prop := ∀ q q' n a x e e', one q a = (x, q + n, e) → Sh s q s' q' n → Rs s (q + n) e s' (q' + n) e' → (one' q' a).2 = (q' + n, e') ∧ (e = 0 → (one' q' a).1 = x)
def LikeV (s s' : ByteArray) (v v' : Nat → VR) : Prop := ∀ q q' n x e e', v q = (x, q + n, e) → Sh s q s' q' n → Rs s (q + n) e s' (q' + n) e' → (v' q').2 = (q' + n, e') ∧ (e = 0 → (v' q').1 = x)
theorem triple {A : Type} {x : A × Nat × Nat} {a : A} {p e : Nat} (h : x = (a, p, e)) : x.1 = a ∧ x.2.1 = p ∧ x.2.2 = e := by subst h; exact ⟨rfl, rfl, rfl⟩
theorem triple_of {A : Type} {x : A × Nat × Nat} {p e : Nat} (h : x.2 = (p, e)) : x = (x.1, p, e) := by rw [← h]
theorem is_same {s s' : ByteArray} {p p' n i c : Nat} (hS : Sh s p s' p' n) (hi : i < n) (hc : 0 < c) : J.is s' (p' + i) 0 c = J.is s (p + i) 0 c := by rw [is_pk hc, is_pk hc, hS.pk hi]
theorem is_same0 {s s' : ByteArray} {p p' n c : Nat} (hS : Sh s p s' p' n) (hi : 0 < n) (hc : 0 < c) : J.is s' p' 0 c = J.is s p 0 c := is_same (i := 0) hS hi hc
theorem is_none {s : ByteArray} {p c : Nat} (h : J.pk s p = 0) (hc : 0 < c) : J.is s p 0 c = false := by rw [is_pk hc, h]; exact decide_eq_false (by omega)
theorem itG_shift {A : Type} {s s' : ByteArray} {c : Nat} {one one' : Nat → A → A × Nat × Nat} (hL : Like s s' one one') (hle : ∀ q a, q ≤ s.size → Le s q (one q a).2.1) (hc : 0 < c) :
    ∀ (f q q' n : Nat) (a x : A) (e e' f' : Nat), itG s c one f q a = (x, q + n, e) → s.size + 1 ≤ q + f → s'.size + 1 ≤ q' + f' → Sh s q s' q' n → Rb s (q + n) e s' (q' + n) e' → (itG s' c one' f' q' a).2 = (q' + n, e') ∧ (e = 0 → (itG s' c one' f' q' a).1 = x)
  | 0, q, q', n, a, x, e, e', f', _, hf, _, hS, _ => by have := hS.le; omega
  | f + 1, q, q', n, a, x, e, e', f', h, hf, hf', hS, hR => by
    have hq := hS.le
    obtain ⟨g, rfl⟩ : ∃ g, f' = g + 1 := ⟨f' - 1, by omega⟩
    unfold itG at h ⊢
    cases hb : J.is s q 0 44
    · rw [if_neg (by rw [hb]; decide)] at h
      cases hd : J.is s q 0 c
      · rw [if_neg (by rw [hd]; decide)] at h
        obtain ⟨h1, h2, h3⟩ := triple h
        simp only at h1 h2 h3
        obtain rfl : n = 0 := by omega
        rcases hR with ⟨h4, _⟩ | ⟨_, h4⟩
        · omega
        · obtain ⟨h5, h6⟩ := h4.low h3.symm
          rw [Nat.add_zero] at h5
          rw [if_neg (by rw [is_none h5 (by decide)]; decide), if_neg (by rw [is_none h5 hc]; decide), h6]
          exact ⟨rfl, fun h0 => by omega⟩
      · rw [if_pos hd] at h
        obtain ⟨h1, h2, h3⟩ := triple h
        simp only at h1 h2 h3
        obtain rfl : n = 1 := by omega
        rw [if_neg (by rw [is_same0 hS (by omega) (by decide), hb]; decide), if_pos (by rw [is_same0 hS (by omega) hc]; exact hd)]
        rcases hR with ⟨_, h5⟩ | ⟨h4, _⟩
        · rw [h5]; exact ⟨rfl, fun _ => h1⟩
        · omega
    · rw [if_pos hb] at h
      have hq1 := is_lt hb
      have hl1 := hle (q + 1) a hq1
      obtain ⟨i, hi⟩ : ∃ i, (one (q + 1) a).2.1 = q + 1 + i := ⟨(one (q + 1) a).2.1 - (q + 1), by have := hl1.1; omega⟩
      have ho : one (q + 1) a = ((one (q + 1) a).1, q + 1 + i, (one (q + 1) a).2.2) := by rw [← hi]
      by_cases h0 : (one (q + 1) a).2.2 = 0
      · rw [if_pos h0, hi] at h
        have hl2 := itG_le (c := c) hle f (q + 1 + i) (one (q + 1) a).1 (by have := hl1.2; omega)
        rw [h] at hl2
        simp only at hl2
        obtain ⟨m, rfl⟩ : ∃ m, n = 1 + i + m := ⟨n - (1 + i), by omega⟩
        have hgo : e = 0 → 1 + i < 1 + i + m := fun he => by
          by_cases hm : m = 0
          · exfalso
            obtain ⟨f2, rfl⟩ : ∃ f2, f = f2 + 1 := ⟨f - 1, by omega⟩
            unfold itG at h
            split at h
            · rename_i hx
              have hl3 := hle (q + 1 + i + 1) (one (q + 1) a).1 (is_lt hx)
              split at h
              · have hl4 := itG_le (c := c) hle f2 _ (one (q + 1 + i + 1) (one (q + 1) a).1).1 hl3.2
                rw [h] at hl4
                simp only at hl4
                have := hl3.1
                omega
              · rename_i hy
                have := (triple h).2.2
                omega
            · split at h
              · have := (triple h).2.1
                simp only at this
                omega
              · have := (triple h).2.2
                simp only at this
                omega
          · omega
        have hC := Rb.c2 (i := 1 + i) hS hR (by omega) hgo
        rw [← Nat.add_assoc, ← Nat.add_assoc] at hC
        have r1 := hL (q + 1) (q' + 1) i a _ 0 0 (ho.trans (by rw [h0])) (hS.sub (i := 1) (by omega)) (.inl ⟨rfl, rfl, hC⟩)
        have r1e := triple_of r1.1
        rw [r1.2 rfl] at r1e
        rw [if_pos (by rw [is_same0 hS (by omega) (by decide)]; exact hb), r1e, if_pos rfl]
        rw [show q + (1 + i + m) = q + 1 + i + m by omega, show q' + (1 + i + m) = q' + 1 + i + m by omega] at *
        exact itG_shift hL hle hc f (q + 1 + i) (q' + 1 + i) m _ x e e' g h (by omega) (by omega) (by have := hS.sub (i := 1 + i) (m := m) (by omega); rwa [← Nat.add_assoc, ← Nat.add_assoc] at this) hR
      · rw [if_neg h0] at h
        obtain ⟨h1, h2, h3⟩ := triple h
        obtain rfl : n = 1 + i := by omega
        have hne : ¬ e = 0 := by omega
        rcases hR with ⟨h4, _⟩ | ⟨_, h4⟩
        · exact absurd h4 hne
        · rw [← Nat.add_assoc, ← Nat.add_assoc] at h4
          have r1 := hL (q + 1) (q' + 1) i a _ e e' (ho.trans (by rw [h3])) (hS.sub (i := 1) (by omega)) (.inr ⟨hne, h4⟩)
          have he' : ¬ e' = 0 := by rcases h4 with ⟨_, h5⟩ | ⟨_, _, h5⟩ <;> omega
          rw [if_pos (by rw [is_same0 hS (by omega) (by decide)]; exact hb), if_neg (by rw [r1.1]; exact he')]
          rw [show q' + (1 + i) = q' + 1 + i by omega]
          exact ⟨r1.1, fun h => absurd h hne⟩
theorem itG_go {A : Type} {s : ByteArray} {c : Nat} {one : Nat → A → A × Nat × Nat} (hle : ∀ q a, q ≤ s.size → Le s q (one q a).2.1) {f q : Nat} {a : A} (h : (itG s c one f q a).2.2 = 0) : q < (itG s c one f q a).2.1 := by
  cases f with
  | zero => cases h
  | succ f =>
    unfold itG at h ⊢
    split
    · rename_i hx
      rw [if_pos hx] at h
      have hl3 := hle (q + 1) a (is_lt hx)
      split
      · rename_i hy
        have hl4 := itG_le (c := c) hle f _ (one (q + 1) a).1 hl3.2
        have := hl3.1
        omega
      · rename_i hy
        rw [if_neg hy] at h
        exact absurd h hy
    · rename_i hx
      rw [if_neg hx] at h
      split
      · exact Nat.lt_succ_self q
      · rename_i hy
        rw [if_neg hy] at h
        cases h
theorem itB_shift {A : Type} {s s' : ByteArray} {c q q' n e e' : Nat} {one one' : Nat → A → A × Nat × Nat} {a x : A} (hL : Like s s' one one') (hle : ∀ q a, q ≤ s.size → Le s q (one q a).2.1) (hc : 0 < c)
    (h : itB s c one q a = (x, q + n, e)) (hS : Sh s q s' q' n) (hR : Rb s (q + n) e s' (q' + n) e') (hz : J.is s' q' 0 c = true → 0 < n) : (itB s' c one' q' a).2 = (q' + n, e') ∧ (e = 0 → (itB s' c one' q' a).1 = x) := by
  have hq := hS.le
  unfold itB at h ⊢
  cases hb : J.is s q 0 c
  · rw [if_neg (by rw [hb]; decide)] at h
    have hb' : J.is s' q' 0 c = false := by
      cases hx : J.is s' q' 0 c
      · rfl
      · have hp := hz hx
        rw [is_same0 hS hp hc, hb] at hx
        cases hx
    rw [if_neg (by rw [hb']; decide)]
    have hl1 := hle q a hq.1
    obtain ⟨i, hi⟩ : ∃ i, (one q a).2.1 = q + i := ⟨(one q a).2.1 - q, by have := hl1.1; omega⟩
    have ho : one q a = ((one q a).1, q + i, (one q a).2.2) := by rw [← hi]
    by_cases h0 : (one q a).2.2 = 0
    · rw [if_pos h0, hi] at h
      have hl2 := itG_le (c := c) hle (s.size + 1) (q + i) (one q a).1 (by have := hl1.2; omega)
      have hgo := itG_go (c := c) hle (f := s.size + 1) (q := q + i) (a := (one q a).1)
      rw [h] at hl2 hgo
      simp only at hl2 hgo
      obtain ⟨m, rfl⟩ : ∃ m, n = i + m := ⟨n - i, by omega⟩
      have hC := Rb.c2 (i := i) hS hR (by omega) (fun he => by have := hgo he; omega)
      have r1 := hL q q' i a _ 0 0 (ho.trans (by rw [h0])) (hS.sub (i := 0) (by omega)) (.inl ⟨rfl, rfl, hC⟩)
      have r1e := triple_of r1.1
      rw [r1.2 rfl] at r1e
      rw [r1e, if_pos rfl]
      rw [show q + (i + m) = q + i + m by omega, show q' + (i + m) = q' + i + m by omega] at *
      exact itG_shift hL hle hc (s.size + 1) (q + i) (q' + i) m _ x e e' (s'.size + 1) h (by omega) (by omega) (hS.sub (i := i) (by omega)) hR
    · rw [if_neg h0] at h
      obtain ⟨h1, h2, h3⟩ := triple h
      obtain rfl : n = i := by omega
      have hne : ¬ e = 0 := by omega
      rcases hR with ⟨h4, _⟩ | ⟨_, h4⟩
      · exact absurd h4 hne
      · have r1 := hL q q' n a _ e e' (ho.trans (by rw [h3])) hS (.inr ⟨hne, h4⟩)
        have he' : ¬ e' = 0 := by rcases h4 with ⟨_, h5⟩ | ⟨_, _, h5⟩ <;> omega
        rw [if_neg (by rw [r1.1]; exact he')]
        exact ⟨r1.1, fun h => absurd h hne⟩
  · rw [if_pos hb] at h
    obtain ⟨h1, h2, h3⟩ := triple h
    simp only at h1 h2 h3
    obtain rfl : n = 1 := by omega
    rw [if_pos (by rw [is_same0 hS (by omega) hc]; exact hb)]
    rcases hR with ⟨_, h5⟩ | ⟨h4, _⟩
    · rw [h5]; exact ⟨rfl, fun _ => h1⟩
    · omega
/-- brackets: the first one stands there in both -/
theorem its_shift {A : Type} {s s' : ByteArray} {c d p p' n e e' : Nat} {one one' : Nat → A → A × Nat × Nat} {a x : A} (hL : Like s s' one one') (hle : ∀ q a, q ≤ s.size → Le s q (one q a).2.1) (hc : 0 < c)
    (h0 : J.pk s p = J.pk s' p') (h1 : 0 < J.pk s p) (h : its s c one d p a = (x, p + n, e)) (hS : Sh s p s' p' n) (hR : Rb s (p + n) e s' (p' + n) e') : (its s' c one' d p' a).2 = (p' + n, e') ∧ (e = 0 → (its s' c one' d p' a).1 = x) := by
  unfold its at h ⊢
  by_cases hd : d = 64
  · rw [if_pos hd] at h ⊢
    obtain ⟨h2, h3, h4⟩ := triple h
    simp only at h2 h3 h4
    obtain rfl : n = 0 := by omega
    rcases hR with ⟨h5, _⟩ | ⟨_, h5⟩
    · omega
    · rcases h5 with ⟨h6, _⟩ | ⟨_, _, h6⟩
      · rw [Nat.add_zero] at h6; omega
      · rw [h6]; exact ⟨rfl, fun hh => by omega⟩
  · rw [if_neg hd] at h ⊢
    have hp := pk_pos h1
    have b1 := J.bl_le (s := s) (p := p + 1) 0 hp
    obtain ⟨i, hi⟩ : ∃ i, J.bl s (p + 1) 0 = p + 1 + i := ⟨J.bl s (p + 1) 0 - (p + 1), by omega⟩
    rw [hi] at h b1
    have b2 := itB_le (c := c) hle (p + 1 + i) a b1.2
    rw [h] at b2
    simp only at b2
    obtain ⟨m, rfl⟩ : ∃ m, n = 1 + i + m := ⟨n - (1 + i), by omega⟩
    have hgo1 : e = 0 → 0 < m := fun he => by
      by_cases hm : m = 0
      · exfalso
        subst hm
        unfold itB at h
        split at h
        · have := (triple h).2.1
          simp only at this
          omega
        · split at h
          · rename_i hy
            have hl1 := hle (p + 1 + i) a b1.2
            have hl2 := itG_go (c := c) hle (f := s.size + 1) (q := (one (p + 1 + i) a).2.1) (a := (one (p + 1 + i) a).1) (by rw [h]; exact he)
            rw [h] at hl2
            simp only at hl2
            have := hl1.1
            omega
          · rename_i hy
            have := (triple h).2.2
            omega
      · omega
    have hC := Rb.c2 (i := 1 + i) hS hR (by omega) (fun he => by have := hgo1 he; omega)
    rw [← Nat.add_assoc, ← Nat.add_assoc] at hC
    have r1 := bl_shift i (p + 1) (p' + 1) hi (hS.sub (i := 1) (by omega)) hC.ws
    rw [r1]
    rw [show p + (1 + i + m) = p + 1 + i + m by omega, show p' + (1 + i + m) = p' + 1 + i + m by omega] at *
    refine itB_shift hL hle hc h (by have := hS.sub (i := 1 + i) (m := m) (by omega); rwa [← Nat.add_assoc, ← Nat.add_assoc] at this) hR ?_
    intro hj
    by_cases hm : m = 0
    · exfalso
      subst hm
      have hne : ¬ e = 0 := fun he => absurd (hgo1 he) (by omega)
      rcases hR with ⟨h5, _⟩ | ⟨_, h5⟩
      · exact hne h5
      · rw [is_pk hc] at hj
        have hj := of_decide_eq_true hj
        unfold Bd at h5
        simp only [Nat.add_zero] at h5
        rcases h5 with ⟨h6, _⟩ | ⟨h6, h7, _⟩
        · omega
        · have hx : J.is s (p + 1 + i) 0 c = true := by rw [is_pk hc]; exact decide_eq_true (by omega)
          unfold itB at h
          rw [if_pos hx] at h
          have := (triple h).2.1
          simp only at this
          omega
    · omega
theorem lo_shift {s s' : ByteArray} {v v' : Nat → VR} (hV : LikeV s s' v v') : Like s s' (lo v) (lo v') := by
  intro q q' n a x e e' h hS hR
  unfold lo at h ⊢
  by_cases h0 : (v q).2.2 = 0
  · rw [if_pos h0] at h
    obtain ⟨h1, h2, h3⟩ := triple h
    simp only at h1 h2 h3
    rcases hR with ⟨h4, h5, h6⟩ | ⟨h4, _⟩
    · have r := hV q q' n (v q).1 0 0 (by rw [← h2, ← h0]) hS (.inl ⟨rfl, rfl, h6⟩)
      rw [if_pos (by rw [r.1]), r.1, r.2 rfl, h5]
      exact ⟨rfl, fun _ => h1⟩
    · omega
  · rw [if_neg h0] at h
    obtain ⟨h1, h2, h3⟩ := triple h
    simp only at h1 h2 h3
    rcases hR with ⟨h4, _⟩ | ⟨h4, h5⟩
    · omega
    · have r := hV q q' n (v q).1 e e' (by rw [← h2, ← h3]) hS (.inr ⟨h4, h5⟩)
      have he' : ¬ e' = 0 := by rcases h5 with ⟨_, h6⟩ | ⟨_, _, h6⟩ <;> omega
      rw [if_neg (by rw [r.1]; exact he')]
      exact ⟨r.1, fun hh => absurd hh h4⟩
theorem fo_shift {s s' : ByteArray} {v v' : Nat → VR} (hle : ∀ q, q ≤ s.size → Le s q (v q).2.1) (hV : LikeV s s' v v') : Like s s' (fo s v) (fo s' v') := by
  intro q q' n a x e e' h hS hR
  have hq := hS.le
  have l1 := nmc_le hq.1
  obtain ⟨i, hi⟩ : ∃ i, (nmc s q).2.1 = q + i := ⟨(nmc s q).2.1 - q, by have := l1.1; omega⟩
  have hm : nmc s q = ((nmc s q).1, q + i, (nmc s q).2.2) := by rw [← hi]
  unfold fo at h ⊢
  by_cases h0 : (nmc s q).2.2 = 0
  · rw [if_pos h0, hi] at h
    have l2 := hle (q + i) (by have := l1.2; omega)
    obtain ⟨m, hm2⟩ : ∃ m, (v (q + i)).2.1 = q + i + m := ⟨(v (q + i)).2.1 - (q + i), by have := l2.1; omega⟩
    have hn : n = i + m := by
      split at h
      · have := (triple h).2.1; simp only at this; omega
      · have := (triple h).2.1; simp only at this; omega
    subst hn
    have r0 := nmc_shift (hm.trans (by rw [h0])) (hS.sub (i := 0) (m := i) (by omega)) (fun hh => absurd rfl hh)
    simp only [Nat.add_zero] at r0
    rw [r0, if_pos rfl]
    show (if (v' (q' + i)).2.2 = 0 then _ else (a, (v' (q' + i)).2) : V.T × Nat × Nat).2 = _ ∧ (_ → (if (v' (q' + i)).2.2 = 0 then (a.put (nmc s q).1 (v' (q' + i)).1.1 (v' (q' + i)).1.2.1 (v' (q' + i)).1.2.2.1 (v' (q' + i)).1.2.2.2, (v' (q' + i)).2.1, 0) else (a, (v' (q' + i)).2) : V.T × Nat × Nat).1 = _)
    rw [show q + (i + m) = q + i + m by omega, show q' + (i + m) = q' + i + m by omega] at *
    by_cases h1 : (v (q + i)).2.2 = 0
    · rw [if_pos h1] at h
      obtain ⟨g1, g2, g3⟩ := triple h
      simp only at g1 g2 g3
      rcases hR with ⟨h4, h5, h6⟩ | ⟨h4, _⟩
      · have r := hV (q + i) (q' + i) m (v (q + i)).1 0 0 (by rw [← hm2, ← h1]) (hS.sub (i := i) (by omega)) (.inl ⟨rfl, rfl, h6⟩)
        rw [if_pos (by rw [r.1]), r.1, r.2 rfl, h5]
        exact ⟨rfl, fun _ => g1⟩
      · omega
    · rw [if_neg h1] at h
      obtain ⟨g1, g2, g3⟩ := triple h
      simp only at g1 g2 g3
      rcases hR with ⟨h4, _⟩ | ⟨h4, h5⟩
      · omega
      · have r := hV (q + i) (q' + i) m (v (q + i)).1 e e' (by rw [← hm2, ← g3]) (hS.sub (i := i) (by omega)) (.inr ⟨h4, h5⟩)
        have he' : ¬ e' = 0 := by rcases h5 with ⟨_, h6⟩ | ⟨_, _, h6⟩ <;> omega
        rw [if_neg (by rw [r.1]; exact he')]
        exact ⟨r.1, fun hh => absurd hh h4⟩
  · rw [if_neg h0] at h
    obtain ⟨h1, h2, h3⟩ := triple h
    simp only at h1 h2 h3
    obtain rfl : n = i := by omega
    have h30 : e = 30 := by rcases nmc_err (s := s) (q := q) with h | h <;> omega
    rcases hR with ⟨h4, _⟩ | ⟨h4, h5⟩
    · omega
    · obtain ⟨h6, h7⟩ := h5.low h30
      have r0 := nmc_shift (hm.trans (by rw [h3])) hS (fun _ => h6)
      rw [r0, if_neg h4, h7, h30]
      exact ⟨rfl, fun hh => by omega⟩
end Go.Proofs.YtoolkaahjmnjeaaGreatDoor
