/- The program's reader: what a value's last byte is; what becomes of a value where fewer brackets may be opened. Conditions: none. -/
import Derived.Test.YtoolkaahjmnjeaaGreatDoorMW32
namespace Go.Proofs.YtoolkaahjmnjeaaGreatDoor
open Go

def LastD (s : ByteArray) (q : Nat) : Prop := ∃ r, q = r + 1 ∧ J.dgt (J.pk s r) = true
def LastN (s : ByteArray) (q : Nat) : Prop := ∃ r, q = r + 1 ∧ J.ws (J.pk s r) = false
theorem dg_last {s : ByteArray} : ∀ (n p : Nat), J.dg s p = p + n → 0 < n → LastD s (J.dg s p)
  | 0, _, _, h => by omega
  | n + 1, p, h, _ => by
    cases hw : J.dgt (J.pk s p)
    · rw [dg_no hw] at h; omega
    · by_cases hn : n = 0
      · exact ⟨p, by omega, hw⟩
      · rw [dg_go hw] at h ⊢
        exact dg_last n (p + 1) (by omega) (by omega)
theorem ds_last {s : ByteArray} {p : Nat} (hp : p ≤ s.size) (h : (J.ds s p 0).2 = 0) : LastD s (J.ds s p 0).1 := by
  unfold J.ds at h ⊢
  rw [if_pos rfl] at h ⊢
  simp only at h ⊢
  split at h
  · cases h
  · have := (J.dg_le (s := s) hp).1
    exact dg_last (J.dg s p - p) p (by omega) (by omega)
theorem n2_last {s : ByteArray} {p : Nat} (hp : p ≤ s.size) (h : (J.n2 s p 0).2 = 0) : LastD s (J.n2 s p 0).1 := by
  unfold J.n2 at h ⊢
  split
  · rename_i hb
    rw [is_pk (by decide)] at hb
    exact ⟨p, rfl, by rw [of_decide_eq_true hb]; decide⟩
  · rename_i hb
    rw [if_neg hb] at h
    exact ds_last hp h
theorem n3_last {s : ByteArray} {x : Nat × Nat} (hx : x.1 ≤ s.size) (h0 : x.2 = 0) (hl : LastD s x.1) (h : (J.n3 s x).2 = 0) : LastD s (J.n3 s x).1 := by
  unfold J.n3 at h ⊢
  rw [h0] at h ⊢
  split
  · rename_i hb
    rw [if_pos hb] at h
    exact ds_last (is_lt hb) h
  · exact hl
theorem n4_last {s : ByteArray} {x : Nat × Nat} (hx : x.1 ≤ s.size) (h0 : x.2 = 0) (hl : LastD s x.1) (h : (J.n4 s x).2 = 0) : LastD s (J.n4 s x).1 := by
  unfold J.n4 at h ⊢
  rw [h0] at h ⊢
  split
  · rename_i hb
    rw [if_pos hb] at h
    exact ds_last (J.sg_le 0 (J.is2_lt hb)).2 h
  · exact hl
theorem n3_err {s : ByteArray} {x : Nat × Nat} (h : (J.n3 s x).2 = 0) : x.2 = 0 := by
  by_cases h0 : x.2 = 0
  · exact h0
  · unfold J.n3 at h
    rw [if_neg (by rw [J.is_wrong x.1 46 h0]; decide)] at h
    exact h
theorem n4_err {s : ByteArray} {x : Nat × Nat} (h : (J.n4 s x).2 = 0) : x.2 = 0 := by
  by_cases h0 : x.2 = 0
  · exact h0
  · unfold J.n4 at h
    rw [if_neg (by rw [J.is_wrong x.1 101 h0, J.is_wrong x.1 69 h0]; decide)] at h
    exact h
theorem nm_last {s : ByteArray} {p : Nat} (hp : p ≤ s.size) (h : (J.nm s p 0).2 = 0) : LastD s (J.nm s p 0).1 := by
  unfold J.nm at h ⊢
  have b1 := J.bp_le (s := s) 0 45 hp
  have b2 := J.n2_le (s := s) 0 b1.2
  have b3 := J.n3_le (s := s) b2.2
  have e3 := n4_err h
  have e2 := n3_err e3
  exact n4_last b3.2 e3 (n3_last b2.2 e2 (n2_last b1.2 e2) e3) h
theorem LastD.n {s : ByteArray} {q : Nat} (h : LastD s q) : LastN s q := by
  obtain ⟨r, e, h⟩ := h
  refine ⟨r, e, ?_⟩
  have h1 := of_decide_eq_true h
  exact decide_eq_false (by omega)
theorem al_last {s w : ByteArray} {p k : Nat} (hw : J.ws (w.get! k).toNat = false) (hc : 0 < (w.get! k).toNat) (h : (J.al s w (k + 1) (p, 0)).2 = 0) : LastN s (J.al s w (k + 1) (p, 0)).1 := by
  unfold J.al at h ⊢
  unfold J.tk at h ⊢
  split
  · rename_i h0
    rw [if_pos h0] at h
    split
    · rename_i hb
      rw [is_pk hc] at hb
      exact ⟨_, rfl, by rw [of_decide_eq_true hb]; exact hw⟩
    · rename_i hb
      rw [if_neg hb] at h
      cases h
  · rename_i h0
    rw [if_neg h0] at h
    exact absurd h h0
theorem is_last {s : ByteArray} {q c : Nat} (hc : 0 < c) (hw : J.ws c = false) (h : J.is s q 0 c = true) : LastN s (q + 1) := by
  rw [is_pk hc] at h
  exact ⟨q, rfl, by rw [of_decide_eq_true h]; exact hw⟩
theorem ptx_last {s : ByteArray} : ∀ (f q : Nat) (L : List Nat), (ptx s f q L).2.2 = 0 → LastN s (ptx s f q L).2.1
  | 0, _, _, h => by cases h
  | f + 1, q, L, h => by
    unfold ptx at h ⊢
    split
    · rename_i hb; exact is_last (by decide) (by decide) hb
    · rename_i hb
      rw [if_neg hb] at h
      split
      · rename_i h0
        rw [if_pos h0] at h
        exact ptx_last f _ _ h
      · rename_i h0
        rw [if_neg h0] at h
        exact absurd h h0
theorem ptw_last {s : ByteArray} {p : Nat} (h : (ptw s p).2.2 = 0) : LastN s (ptw s p).2.1 := by
  unfold ptw at h ⊢
  split
  · rename_i hb
    rw [if_pos hb] at h
    exact ptx_last _ _ _ h
  · rename_i hb
    rw [if_neg hb] at h
    cases h
theorem itG_last {A : Type} {s : ByteArray} {c : Nat} {one : Nat → A → A × Nat × Nat} (hc : 0 < c) (hw : J.ws c = false) : ∀ (f q : Nat) (a : A), (itG s c one f q a).2.2 = 0 → LastN s (itG s c one f q a).2.1
  | 0, _, _, h => by cases h
  | f + 1, q, a, h => by
    unfold itG at h ⊢
    split
    · rename_i hb
      rw [if_pos hb] at h
      split
      · rename_i h0
        rw [if_pos h0] at h
        exact itG_last hc hw f _ _ h
      · rename_i h0
        rw [if_neg h0] at h
        exact absurd h h0
    · rename_i hb
      rw [if_neg hb] at h
      split
      · rename_i hd; exact is_last hc hw hd
      · rename_i hd
        rw [if_neg hd] at h
        cases h
theorem its_last {A : Type} {s : ByteArray} {c d p : Nat} {one : Nat → A → A × Nat × Nat} {a : A} (hc : 0 < c) (hw : J.ws c = false) (h : (its s c one d p a).2.2 = 0) : LastN s (its s c one d p a).2.1 := by
  unfold its at h ⊢
  split
  · rename_i hd
    rw [if_pos hd] at h
    cases h
  · rename_i hd
    rw [if_neg hd] at h
    unfold itB at h ⊢
    split
    · rename_i hb; exact is_last hc hw hb
    · rename_i hb
      rw [if_neg hb] at h
      split
      · rename_i h0
        rw [if_pos h0] at h
        exact itG_last hc hw _ _ _ h
      · rename_i h0
        rw [if_neg h0] at h
        exact absurd h h0
theorem br_last {s : ByteArray} {d p : Nat} {v : Nat → VR} (hp : p ≤ s.size) (h : (br s d v p).2.2 = 0) : LastN s (br s d v p).2.1 := by
  unfold br at h ⊢
  split
  · rename_i g; rw [if_pos g] at h; exact al_last (w := wn) (k := 3) (by decide) (by decide) h
  · rename_i g1
    rw [if_neg g1] at h
    split
    · rename_i g; rw [if_pos g] at h; exact al_last (w := wf) (k := 4) (by decide) (by decide) h
    · rename_i g2
      rw [if_neg g2] at h
      split
      · rename_i g; rw [if_pos g] at h; exact al_last (w := wt) (k := 3) (by decide) (by decide) h
      · rename_i g3
        rw [if_neg g3] at h
        split
        · rename_i g; rw [if_pos g] at h; exact ptw_last h
        · rename_i g4
          rw [if_neg g4] at h
          split
          · rename_i g; rw [if_pos g] at h; exact its_last (by decide) (by decide) h
          · rename_i g5
            rw [if_neg g5] at h
            split
            · rename_i g; rw [if_pos g] at h; exact its_last (by decide) (by decide) h
            · rename_i g6
              rw [if_neg g6] at h
              exact (nm_last hp h).n
/-! ### fewer brackets may be opened -/
def Dl {A : Type} (x y : A × Nat × Nat) : Prop := x.2.2 = 0 → y = x ∨ y.2.2 = 31
theorem itG_dl {A : Type} {s : ByteArray} {c : Nat} {one one' : Nat → A → A × Nat × Nat} (ho : ∀ q a, Dl (one q a) (one' q a)) : ∀ (f q : Nat) (a : A), Dl (itG s c one f q a) (itG s c one' f q a)
  | 0, _, _ => fun _ => .inl rfl
  | f + 1, q, a => by
    intro h
    unfold itG at h ⊢
    by_cases hb : J.is s q 0 44 = true
    · rw [if_pos hb] at h
      rw [if_pos hb, if_pos hb]
      by_cases h0 : (one (q + 1) a).2.2 = 0
      · rw [if_pos h0] at h
        rw [if_pos h0]
        rcases ho (q + 1) a h0 with e | e
        · rw [e, if_pos h0]
          exact itG_dl ho f _ _ h
        · rw [if_neg (by omega)]; exact .inr e
      · rw [if_neg h0] at h; exact absurd h h0
    · rw [if_neg hb, if_neg hb]; exact .inl rfl
theorem its_dl {A : Type} {s : ByteArray} {c d d' p : Nat} {one one' : Nat → A → A × Nat × Nat} {a : A} (ho : d' = 64 ∨ ∀ q a, Dl (one q a) (one' q a)) : Dl (its s c one d p a) (its s c one' d' p a) := by
  intro h
  unfold its at h ⊢
  by_cases hd' : d' = 64
  · rw [if_pos hd']; exact .inr rfl
  · rw [if_neg hd']
    by_cases hd : d = 64
    · rw [if_pos hd] at h; cases h
    · rw [if_neg hd] at h ⊢
      have ho := ho.resolve_left hd'
      unfold itB at h ⊢
      by_cases hb : J.is s (J.bl s (p + 1) 0) 0 c = true
      · rw [if_pos hb, if_pos hb]; exact .inl rfl
      · rw [if_neg hb] at h
        rw [if_neg hb, if_neg hb]
        by_cases h0 : (one (J.bl s (p + 1) 0) a).2.2 = 0
        · rw [if_pos h0] at h
          rw [if_pos h0]
          rcases ho _ a h0 with e | e
          · rw [e, if_pos h0]
            exact itG_dl ho _ _ _ h
          · rw [if_neg (by omega)]; exact .inr e
        · rw [if_neg h0] at h; exact absurd h h0
theorem lo_dl {v v' : Nat → VR} (hv : ∀ q, Dl (v q) (v' q)) (q : Nat) (a : V.T) : Dl (lo v q a) (lo v' q a) := by
  intro h
  unfold lo at h ⊢
  by_cases h0 : (v q).2.2 = 0
  · rcases hv q h0 with e | e
    · rw [e]; exact .inl rfl
    · rw [if_pos h0, if_neg (by omega)]; exact .inr e
  · rw [if_neg h0] at h; exact absurd h h0
theorem fo_dl {s : ByteArray} {v v' : Nat → VR} (hv : ∀ q, Dl (v q) (v' q)) (q : Nat) (a : V.T) : Dl (fo s v q a) (fo s v' q a) := by
  intro h
  unfold fo at h ⊢
  by_cases h1 : (nmc s q).2.2 = 0
  · rw [if_pos h1] at h
    rw [if_pos h1, if_pos h1]
    by_cases h0 : (v (nmc s q).2.1).2.2 = 0
    · rcases hv _ h0 with e | e
      · rw [e]; exact .inl rfl
      · rw [if_pos h0, if_neg (by omega)]; exact .inr e
    · rw [if_neg h0] at h; exact absurd h h0
  · rw [if_neg h1, if_neg h1]; exact .inl rfl
theorem br_dl {s : ByteArray} {d d' p : Nat} {v v' : Nat → VR} (hv : d' = 64 ∨ ∀ q, Dl (v q) (v' q)) : Dl (br s d v p) (br s d' v' p) := by
  intro h
  unfold br at h ⊢
  by_cases g1 : J.pk s p = 110
  · rw [if_pos g1, if_pos g1]; exact .inl rfl
  · rw [if_neg g1] at h
    rw [if_neg g1, if_neg g1]
    by_cases g2 : J.pk s p = 102
    · rw [if_pos g2, if_pos g2]; exact .inl rfl
    · rw [if_neg g2] at h
      rw [if_neg g2, if_neg g2]
      by_cases g3 : J.pk s p = 116
      · rw [if_pos g3, if_pos g3]; exact .inl rfl
      · rw [if_neg g3] at h
        rw [if_neg g3, if_neg g3]
        by_cases g4 : J.pk s p = 34
        · rw [if_pos g4, if_pos g4]; exact .inl rfl
        · rw [if_neg g4] at h
          rw [if_neg g4, if_neg g4]
          by_cases g5 : J.pk s p = 91
          · rw [if_pos g5] at h
            rw [if_pos g5, if_pos g5]
            rcases its_dl (one' := lo v') (d' := d') (hv.imp_right fun hv => lo_dl hv) h with e | e
            · rw [e]; exact .inl rfl
            · exact .inr e
          · rw [if_neg g5] at h
            rw [if_neg g5, if_neg g5]
            by_cases g6 : J.pk s p = 123
            · rw [if_pos g6] at h
              rw [if_pos g6, if_pos g6]
              rcases its_dl (one' := fo s v') (d' := d') (hv.imp_right fun hv => fo_dl hv) h with e | e
              · rw [e]; exact .inl rfl
              · exact .inr e
            · rw [if_neg g6, if_neg g6]; exact .inl rfl
theorem ar_dl {s : ByteArray} {x y : VR} (h : Dl x y) : Dl (ar s x) (ar s y) := by
  intro h2
  by_cases h0 : x.2.2 = 0
  · rcases h h0 with e | e
    · rw [e]; exact .inl rfl
    · right; unfold ar; rw [if_neg (by omega)]; exact e
  · unfold ar at h2; rw [if_neg h0] at h2; exact absurd h2 h0
theorem vl_dl (s : ByteArray) : ∀ (n : Nat), n + 1 ≤ 64 → ∀ p, Dl (vl s (n + 1) p) (vl s n p)
  | 0, hn, p => by
    rw [vl_is s (0 + 1) p hn, vl_is s 0 p (by omega)]
    exact ar_dl (br_dl (.inl rfl))
  | n + 1, hn, p => by
    rw [vl_is s (n + 1 + 1) p hn, vl_is s (n + 1) p (by omega)]
    exact ar_dl (br_dl (.inr fun q => vl_dl s n (by omega) q))
end Go.Proofs.YtoolkaahjmnjeaaGreatDoor
