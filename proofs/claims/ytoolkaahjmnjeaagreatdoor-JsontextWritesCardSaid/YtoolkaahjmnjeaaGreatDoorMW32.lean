/- The program's reader reads the same wherever the same bytes stand: values, whole. Conditions: none. -/
import Derived.Test.YtoolkaahjmnjeaaGreatDoorMW31
namespace Go.Proofs.YtoolkaahjmnjeaaGreatDoor
open Go

theorem Sh.extract {s s' : ByteArray} {p p' n : Nat} (h : Sh s p s' p' n) : s.extract p (p + n) = s'.extract p' (p' + n) := by
  apply ByteArray.ext
  rw [ByteArray.data_extract, ByteArray.data_extract]
  have h1 : p + n ≤ s.data.size := h.1
  have h2 : p' + n ≤ s'.data.size := h.2.1
  apply Array.ext
  · rw [Array.size_extract, Array.size_extract]; omega
  · intro i hi hj
    have hi' : i < n := by rw [Array.size_extract] at hi; omega
    rw [Array.getElem_extract, Array.getElem_extract]
    have h3 := h.2.2 i hi'
    rw [J.at_get (show p + i < s.size by have := h.1; omega), J.at_get (show p' + i < s'.size by have := h.2.1; omega)] at h3
    exact h3
theorem leaf {s s' : ByteArray} {q q' e e' : Nat} {X : Prop} (h : (e = 0 ∧ e' = 0 ∧ X) ∨ (¬ e = 0 ∧ Bd s q e s' q' e')) (he : e = 0 ∨ e = 30) : e' = e ∧ (¬ e = 0 → J.pk s' q' = 0) := by
  rcases h with ⟨h1, h2, _⟩ | ⟨h1, h2⟩
  · exact ⟨by omega, fun h => absurd h1 h⟩
  · obtain ⟨h3, h4⟩ := h2.low (he.resolve_left h1)
    exact ⟨by omega, fun _ => h3⟩
theorem n2_go {s : ByteArray} {p : Nat} (hp : p ≤ s.size) (h : (J.n2 s p 0).2 = 0) : p < (J.n2 s p 0).1 := by
  unfold J.n2 at h ⊢
  split
  · exact Nat.lt_succ_self p
  · rename_i hb
    rw [if_neg hb] at h
    unfold J.ds at h ⊢
    rw [if_pos rfl] at h ⊢
    simp only at h ⊢
    split at h
    · cases h
    · have := (J.dg_le (s := s) hp).1
      omega
theorem nm_go {s : ByteArray} {p : Nat} (hp : p ≤ s.size) (h : (J.nm s p 0).2 = 0) : p < (J.nm s p 0).1 := by
  have h1 := J.bp_le (s := s) 0 45 hp
  have h2 := n2_go (s := s) h1.2
  have h2' := J.n2_le (s := s) 0 h1.2
  unfold J.nm at h ⊢
  generalize J.n2 s (J.bp s p 0 45) 0 = x at *
  have h3 := J.n3_le (s := s) h2'.2
  have h4 := J.n4_le (s := s) h3.2
  by_cases h0 : x.2 = 0
  · have := h2 h0
    omega
  · have e3 : J.n3 s x = x := by unfold J.n3; rw [if_neg (by rw [J.is_wrong x.1 46 h0]; decide)]
    have e4 : J.n4 s x = x := by unfold J.n4; rw [if_neg (by rw [J.is_wrong x.1 101 h0, J.is_wrong x.1 69 h0]; decide)]
    rw [e3, e4] at h
    exact absurd h h0
theorem ptw_go {s : ByteArray} {p : Nat} (h : (ptw s p).2.2 = 0) : p < (ptw s p).2.1 := by
  unfold ptw at h ⊢
  split
  · rename_i hb
    have := (ptx_le s (s.size - p) (p + 1) [] (is_lt hb)).1
    omega
  · rename_i hb
    rw [if_neg hb] at h
    cases h
theorem its_go {A : Type} {s : ByteArray} {c d p : Nat} {one : Nat → A → A × Nat × Nat} {a : A} (hle : ∀ q a, q ≤ s.size → Le s q (one q a).2.1) (hp : p < s.size) (h : (its s c one d p a).2.2 = 0) : p < (its s c one d p a).2.1 := by
  unfold its at h ⊢
  split
  · rename_i hd
    rw [if_pos hd] at h
    cases h
  · have b1 := J.bl_le (s := s) (p := p + 1) 0 hp
    have b2 := itB_le (c := c) hle (J.bl s (p + 1) 0) a b1.2
    omega
theorem wn_pos : ∀ i, i < 4 → 0 < (wn.get! i).toNat := by decide
theorem wf_pos : ∀ i, i < 5 → 0 < (wf.get! i).toNat := by decide
theorem wt_pos : ∀ i, i < 4 → 0 < (wt.get! i).toNat := by decide
theorem pk_is' {s : ByteArray} {p k : Nat} (h : J.pk s p = k) (hk : 0 < k) : J.is s p 0 k = true := by rw [is_pk hk]; exact decide_eq_true h
theorem br_go {s : ByteArray} {d p : Nat} {v : Nat → VR} (hle : ∀ q, q ≤ s.size → Le s q (v q).2.1) (hp : p ≤ s.size) (h : (br s d v p).2.2 = 0) : p < (br s d v p).2.1 := by
  unfold br at h ⊢
  split
  · rename_i hk; exact al_first (w := wn) (pk_is' hk (by decide)) 3
  · rename_i g1
    rw [if_neg g1] at h
    split
    · rename_i hk; exact al_first (w := wf) (pk_is' hk (by decide)) 4
    · rename_i g2
      rw [if_neg g2] at h
      split
      · rename_i hk; exact al_first (w := wt) (pk_is' hk (by decide)) 3
      · rename_i g3
        rw [if_neg g3] at h
        split
        · rename_i hk; rw [if_pos hk] at h; exact ptw_go h
        · rename_i g4
          rw [if_neg g4] at h
          split
          · rename_i hk; rw [if_pos hk] at h; exact its_go (fun q a hq => lo_le hle q a hq) (pk_lt_size hk (by decide)) h
          · rename_i g5
            rw [if_neg g5] at h
            split
            · rename_i hk; rw [if_pos hk] at h; exact its_go (fun q a hq => fo_le hle q a hq) (pk_lt_size hk (by decide)) h
            · rename_i g6
              rw [if_neg g6] at h
              exact nm_go hp h
theorem br_shift {s s' : ByteArray} {d p p' n e e' : Nat} {v v' : Nat → VR} {x : Nat × ByteArray × V.T × V.T} (hle : ∀ q, q ≤ s.size → Le s q (v q).2.1) (hV : LikeV s s' v v')
    (h : br s d v p = (x, p + n, e)) (hS : Sh s p s' p' n) (hR : (e = 0 ∧ e' = 0 ∧ C1 s (p + n) s' (p' + n)) ∨ (¬ e = 0 ∧ Bd s (p + n) e s' (p' + n) e')) : (br s' d v' p').2 = (p' + n, e') ∧ (e = 0 → (br s' d v' p').1 = x) := by
  have hp := hS.le
  have hn0 : n = 0 → J.pk s p = J.pk s' p' ∨ J.pk s' p' = 0 := fun hn => by
    subst hn
    rcases hR with ⟨h1, _, _⟩ | ⟨_, h1⟩
    · have := br_go hle hp.1 (d := d) (by rw [h]; exact h1)
      rw [h] at this
      simp only at this
      omega
    · rcases h1 with ⟨h2, _⟩ | ⟨_, h2, _⟩
      · exact .inr h2
      · exact .inl h2
  have hk0 : J.pk s p = J.pk s' p' ∨ (n = 0 ∧ J.pk s' p' = 0) := by
    by_cases hn : n = 0
    · exact (hn0 hn).imp_right fun h => ⟨hn, h⟩
    · exact .inl (hS.pk0 (Nat.pos_of_ne_zero hn))
  have hRb : Rb s (p + n) e s' (p' + n) e' := hR.imp_left fun h => ⟨h.1, h.2.1⟩
  have word : ∀ (k : Nat) (w : ByteArray) (kk : Nat), (∀ i, i < k + 1 → 0 < (w.get! i).toNat) → J.pk s p = (w.get! 0).toNat → ((kk, ⟨#[]⟩, V.T.nil, V.T.nil), J.al s w (k + 1) (p, 0)) = (x, p + n, e) →
      J.pk s' p' = J.pk s p ∧ J.al s' w (k + 1) (p', 0) = (p' + n, e') ∧ x = (kk, ⟨#[]⟩, V.T.nil, V.T.nil) := fun k w kk hw hk hh => by
    obtain ⟨g1, g2, g3⟩ := triple hh
    simp only at g1 g2 g3
    have hal : J.al s w (k + 1) (p, 0) = (p + n, e) := by rw [← g2, ← g3]
    have he : e = 0 ∨ e = 30 := by rw [← g3]; exact al_err (k + 1)
    obtain ⟨k1, k2⟩ := leaf hR he
    have hf := al_first (w := w) (pk_is' hk (hw 0 (Nat.succ_pos k))) k
    have := al_shift (k + 1) n e hw hal hS k2
    exact ⟨(hS.pk0 (by omega)).symm, by rw [this, k1], g1.symm⟩
  unfold br at h
  by_cases c1 : J.pk s p = 110
  · rw [if_pos c1] at h
    obtain ⟨w1, w2, w3⟩ := word 3 wn 0 wn_pos c1 h
    unfold br
    rw [if_pos (by rw [w1]; exact c1), w2, w3]
    exact ⟨rfl, fun _ => rfl⟩
  · rw [if_neg c1] at h
    by_cases c2 : J.pk s p = 102
    · rw [if_pos c2] at h
      obtain ⟨w1, w2, w3⟩ := word 4 wf 1 wf_pos c2 h
      unfold br
      rw [if_neg (by rw [w1]; exact c1), if_pos (by rw [w1]; exact c2), w2, w3]
      exact ⟨rfl, fun _ => rfl⟩
    · rw [if_neg c2] at h
      by_cases c3 : J.pk s p = 116
      · rw [if_pos c3] at h
        obtain ⟨w1, w2, w3⟩ := word 3 wt 2 wt_pos c3 h
        unfold br
        rw [if_neg (by rw [w1]; exact c1), if_neg (by rw [w1]; exact c2), if_pos (by rw [w1]; exact c3), w2, w3]
        exact ⟨rfl, fun _ => rfl⟩
      · rw [if_neg c3] at h
        by_cases c4 : J.pk s p = 34
        · rw [if_pos c4] at h
          obtain ⟨g1, g2, g3⟩ := triple h
          simp only at g1 g2 g3
          have he : e = 0 ∨ e = 30 := by rw [← g3]; exact ptw_err
          obtain ⟨k1, k2⟩ := leaf hR he
          have hw : p < (ptw s p).2.1 := by
            unfold ptw
            rw [if_pos (pk_is' c4 (by decide))]
            exact (ptx_le s (s.size - p) (p + 1) [] (pk_lt_size c4 (by decide))).1
          have w1 := (hS.pk0 (by omega)).symm
          have r := ptw_shift (M := (ptw s p).1) (by rw [← g2, ← g3]) hS k2
          unfold br
          rw [if_neg (by rw [w1]; exact c1), if_neg (by rw [w1]; exact c2), if_neg (by rw [w1]; exact c3), if_pos (by rw [w1]; exact c4), r, k1]
          exact ⟨rfl, fun _ => g1⟩
        · rw [if_neg c4] at h
          by_cases c5 : J.pk s p = 91
          · rw [if_pos c5] at h
            obtain ⟨g1, g2, g3⟩ := triple h
            simp only at g1 g2 g3
            rcases hk0 with w1 | ⟨w1, w2⟩
            · have r := its_shift (c := 93) (lo_shift hV) (fun q a hq => lo_le hle q a hq) (by decide) w1 (by omega) (x := (its s 93 (lo v) d p .nil).1) (n := n) (e := e) (by rw [← g2, ← g3]) hS hRb
              have w1 := w1.symm
              unfold br
              rw [if_neg (by rw [w1]; exact c1), if_neg (by rw [w1]; exact c2), if_neg (by rw [w1]; exact c3), if_neg (by rw [w1]; exact c4), if_pos (by rw [w1]; exact c5)]
              refine ⟨r.1, fun h0 => ?_⟩
              show (5, _, (its s' 93 (lo v') d p' .nil).1, _) = x
              rw [r.2 h0]
              exact g1
            · subst w1
              rcases hR with ⟨h1, _⟩ | ⟨_, h1⟩
              · have := its_go (c := 93) (d := d) (a := V.T.nil) (fun q a hq => lo_le hle q a hq) (pk_lt_size c5 (by decide)) (by rw [g3]; exact h1)
                omega
              · rcases h1 with ⟨_, h2⟩ | ⟨_, h3, _⟩
                · have q1 : J.nm s' p' 0 = (p', 30) := by
                    have hd : J.dg s' p' = p' := dg_no (by rw [w2]; decide)
                    have hb : J.bp s' p' 0 45 = p' := J.bp_no (is_none w2 (by decide))
                    have h22 : J.n2 s' p' 0 = (p', 30) := by unfold J.n2; rw [if_neg (by rw [is_none w2 (by decide)]; decide), J.ds_none hd]
                    unfold J.nm
                    rw [hb, h22]
                    have h33 : J.n3 s' (p', 30) = (p', 30) := by unfold J.n3; rw [if_neg (by rw [J.is_wrong p' 46 (by decide : ¬ 30 = 0)]; decide)]
                    rw [h33]
                    unfold J.n4; rw [if_neg (by rw [J.is_wrong p' 101 (by decide : ¬ 30 = 0), J.is_wrong p' 69 (by decide : ¬ 30 = 0)]; decide)]
                  unfold br
                  rw [if_neg (by omega), if_neg (by omega), if_neg (by omega), if_neg (by omega), if_neg (by omega), if_neg (by omega), q1, h2]
                  exact ⟨rfl, fun h0 => by
                    have := its_go (c := 93) (d := d) (a := V.T.nil) (fun q a hq => lo_le hle q a hq) (pk_lt_size c5 (by decide)) (by rw [g3]; exact h0)
                    omega⟩
                · rw [Nat.add_zero, Nat.add_zero] at h3
                  omega
          · rw [if_neg c5] at h
            by_cases c6 : J.pk s p = 123
            · rw [if_pos c6] at h
              obtain ⟨g1, g2, g3⟩ := triple h
              simp only at g1 g2 g3
              rcases hk0 with w1 | ⟨w1, w2⟩
              · have r := its_shift (c := 125) (fo_shift hle hV) (fun q a hq => fo_le hle q a hq) (by decide) w1 (by omega) (x := (its s 125 (fo s v) d p .nil).1) (n := n) (e := e) (by rw [← g2, ← g3]) hS hRb
                have w1 := w1.symm
                unfold br
                rw [if_neg (by rw [w1]; exact c1), if_neg (by rw [w1]; exact c2), if_neg (by rw [w1]; exact c3), if_neg (by rw [w1]; exact c4), if_neg (by rw [w1]; exact c5), if_pos (by rw [w1]; exact c6)]
                refine ⟨r.1, fun h0 => ?_⟩
                show (6, _, _, (its s' 125 (fo s' v') d p' .nil).1) = x
                rw [r.2 h0]
                exact g1
              · subst w1
                have hng : ¬ e = 0 := fun h1 => by
                  have := its_go (c := 125) (d := d) (a := V.T.nil) (fun q a hq => fo_le hle q a hq) (pk_lt_size c6 (by decide)) (by rw [g3]; exact h1)
                  omega
                rcases hR with ⟨h1, _⟩ | ⟨_, h1⟩
                · exact absurd h1 hng
                · rcases h1 with ⟨_, h2⟩ | ⟨_, h3, _⟩
                  · have q1 : J.nm s' p' 0 = (p', 30) := by
                      have hd : J.dg s' p' = p' := dg_no (by rw [w2]; decide)
                      have hb : J.bp s' p' 0 45 = p' := J.bp_no (is_none w2 (by decide))
                      have h22 : J.n2 s' p' 0 = (p', 30) := by unfold J.n2; rw [if_neg (by rw [is_none w2 (by decide)]; decide), J.ds_none hd]
                      unfold J.nm
                      rw [hb, h22]
                      have h33 : J.n3 s' (p', 30) = (p', 30) := by unfold J.n3; rw [if_neg (by rw [J.is_wrong p' 46 (by decide : ¬ 30 = 0)]; decide)]
                      rw [h33]
                      unfold J.n4; rw [if_neg (by rw [J.is_wrong p' 101 (by decide : ¬ 30 = 0), J.is_wrong p' 69 (by decide : ¬ 30 = 0)]; decide)]
                    unfold br
                    rw [if_neg (by omega), if_neg (by omega), if_neg (by omega), if_neg (by omega), if_neg (by omega), if_neg (by omega), q1, h2]
                    exact ⟨rfl, fun h0 => absurd h0 hng⟩
                  · rw [Nat.add_zero, Nat.add_zero] at h3
                    omega
            · rw [if_neg c6] at h
              obtain ⟨g1, g2, g3⟩ := triple h
              simp only at g1 g2 g3
              have he : e = 0 ∨ e = 30 := by rw [← g3]; exact nm_err
              obtain ⟨k1, k2⟩ := leaf hR he
              have hC : C1 s (p + n) s' (p' + n) := by
                rcases hR with ⟨_, _, h1⟩ | ⟨h1, _⟩
                · exact h1
                · exact .inr (by rw [k2 h1]; exact st1_zero)
              have r := nm_shift (n := n) (e := e) (by rw [← g2, ← g3]) hS hC
              have hk : ∀ c, 0 < c → ¬ J.pk s p = c → ¬ J.pk s' p' = c := fun c hc hne => by
                rcases hk0 with w1 | ⟨_, w2⟩
                · rw [← w1]; exact hne
                · omega
              unfold br
              rw [if_neg (hk _ (by decide) c1), if_neg (hk _ (by decide) c2), if_neg (hk _ (by decide) c3), if_neg (hk _ (by decide) c4), if_neg (hk _ (by decide) c5), if_neg (hk _ (by decide) c6), r, k1]
              refine ⟨rfl, fun _ => ?_⟩
              rw [g2] at g1
              rw [← g1, hS.extract]
theorem inn_shift {s s' : ByteArray} {n : Nat} (h : ∀ m, m < n → LikeV s s' (vl s m) (vl s' m)) : LikeV s s' (inn s n) (inn s' n) := by
  cases n with
  | zero =>
    intro q q' n x e e' h hS hR
    have h : (((0, ⟨#[]⟩, .nil, .nil), q, 30) : VR) = (x, q + n, e) := h
    obtain ⟨g1, g2, g3⟩ := triple h
    simp only at g1 g2 g3
    obtain rfl : n = 0 := by omega
    rcases hR with ⟨h1, _⟩ | ⟨h1, h2⟩
    · omega
    · obtain ⟨_, h4⟩ := h2.low g3.symm
      rw [h4]
      exact ⟨rfl, fun h0 => absurd h0 h1⟩
  | succ n => exact h n (Nat.lt_succ_self n)
theorem vl_shift {s s' : ByteArray} : ∀ (n : Nat), n ≤ 64 → LikeV s s' (vl s n) (vl s' n)
  | n, hn => by
    have hI : LikeV s s' (inn s n) (inn s' n) := inn_shift fun m hm => vl_shift m (by omega)
    have hle := inn_le s n
    intro q q' N x e e' h hS hR
    have hq := hS.le
    rw [vl_is s n q hn] at h
    rw [vl_is s' n q' hn]
    generalize inn s n = v at *
    generalize inn s' n = v' at *
    generalize 64 - n = d at *
    have b1 := J.bl_le (s := s) 0 hq.1
    obtain ⟨i1, h1⟩ : ∃ i, J.bl s q 0 = q + i := ⟨J.bl s q 0 - q, by omega⟩
    rw [h1] at h b1
    have b2 := br_le (d := d) hle (q + i1) b1.2
    have hgo := br_go (d := d) hle b1.2
    obtain ⟨i2, h2⟩ : ∃ i, (br s d v (q + i1)).2.1 = q + i1 + i := ⟨(br s d v (q + i1)).2.1 - (q + i1), by have := b2.1; omega⟩
    have hbr : br s d v (q + i1) = ((br s d v (q + i1)).1, q + i1 + i2, (br s d v (q + i1)).2.2) := by rw [← h2]
    unfold ar at h
    by_cases h0 : (br s d v (q + i1)).2.2 = 0
    · rw [if_pos h0, h2] at h
      have hgo := hgo h0
      have b3 := J.bl_le (s := s) (p := q + i1 + i2) 0 (by have := b2.2; omega)
      obtain ⟨i3, h3⟩ : ∃ i, J.bl s (q + i1 + i2) 0 = q + i1 + i2 + i := ⟨J.bl s (q + i1 + i2) 0 - (q + i1 + i2), by omega⟩
      rw [h3] at h
      obtain ⟨g1, g2, g3⟩ := triple h
      simp only at g1 g2 g3
      obtain rfl : N = i1 + i2 + i3 := by omega
      rcases hR with ⟨_, h5, hC⟩ | ⟨h4, _⟩
      · have r1 := bl_shift i1 q q' h1 (hS.sub (i := 0) (m := i1) (by omega)) (.inl (hS.pk (i := i1) (by omega)))
        have hC1 : C1 s (q + i1 + i2) s' (q' + i1 + i2) := by
          by_cases e3 : i3 = 0
          · subst e3
            have := hC.c1
            rw [show q + (i1 + i2 + 0) = q + i1 + i2 by omega, show q' + (i1 + i2 + 0) = q' + i1 + i2 by omega] at this
            exact this
          · have := hS.pk (i := i1 + i2) (by omega)
            rw [← Nat.add_assoc, ← Nat.add_assoc] at this
            exact .inl this
        have r2 := br_shift (d := d) (p' := q' + i1) (e' := 0) hle hI (hbr.trans (by rw [h0])) (hS.sub (i := i1) (m := i2) (by omega)) (.inl ⟨rfl, rfl, hC1⟩)
        have r2e := triple_of r2.1
        rw [r2.2 rfl] at r2e
        have r3 := bl_shift i3 (q + i1 + i2) (q' + i1 + i2) h3 (by have := hS.sub (i := i1 + i2) (m := i3) (by omega); rwa [← Nat.add_assoc, ← Nat.add_assoc] at this) (by have := hC.ws; simp only [← Nat.add_assoc] at this; exact this)
        rw [r1, r2e]
        unfold ar
        rw [if_pos rfl, r3, h5, g1]
        exact ⟨by rw [show q' + (i1 + i2 + i3) = q' + i1 + i2 + i3 by omega], fun _ => rfl⟩
      · omega
    · rw [if_neg h0] at h
      rw [h] at h2 h0
      simp only at h2 h0
      obtain rfl : N = i1 + i2 := by omega
      rcases hR with ⟨h4, _⟩ | ⟨h4, h5⟩
      · exact absurd h4 h0
      · have hb1 : C2 s (q + i1) s' (q' + i1) := by
          by_cases e2 : i2 = 0
          · subst e2; exact h5.c2
          · exact .inl (hS.pk (by omega))
        have r1 := bl_shift i1 q q' h1 (hS.sub (i := 0) (m := i1) (by omega)) hb1.ws
        rw [← Nat.add_assoc, ← Nat.add_assoc] at h5
        have r2 := br_shift (d := d) (p' := q' + i1) (e' := e') hle hI (h.trans (by rw [Nat.add_assoc])) (hS.sub (i := i1) (m := i2) (by omega)) (.inr ⟨h4, h5⟩)
        have he' : ¬ e' = 0 := by rcases h5 with ⟨_, h6⟩ | ⟨_, _, h6⟩ <;> omega
        rw [r1, ar_wrong (by rw [r2.1]; exact he'), show q' + (i1 + i2) = q' + i1 + i2 by omega]
        exact ⟨r2.1, fun h0 => absurd h0 h4⟩
/-- what may be wrong -/
def ErrOk {A : Type} (s : ByteArray) (x : A × Nat × Nat) : Prop := x.2.2 = 0 ∨ x.2.2 = 30 ∨ (x.2.2 = 31 ∧ (J.pk s x.2.1 = 91 ∨ J.pk s x.2.1 = 123))
theorem itG_err {A : Type} {s : ByteArray} {c : Nat} {one : Nat → A → A × Nat × Nat} (ho : ∀ q a, ErrOk s (one q a)) : ∀ (f q : Nat) (a : A), ErrOk s (itG s c one f q a)
  | 0, _, _ => .inr (.inl rfl)
  | f + 1, q, a => by
    unfold itG
    split
    · split
      · exact itG_err ho f _ _
      · exact ho _ _
    · split
      · exact .inl rfl
      · exact .inr (.inl rfl)
theorem its_err {A : Type} {s : ByteArray} {c d p : Nat} {one : Nat → A → A × Nat × Nat} {a : A} (ho : ∀ q a, ErrOk s (one q a)) (hp : J.pk s p = 91 ∨ J.pk s p = 123) : ErrOk s (its s c one d p a) := by
  unfold its
  split
  · exact .inr (.inr ⟨rfl, hp⟩)
  · unfold itB
    split
    · exact .inl rfl
    · split
      · exact itG_err ho _ _ _
      · exact ho _ _
theorem lo_err {s : ByteArray} {v : Nat → VR} (hv : ∀ q, ErrOk s (v q)) (q : Nat) (a : V.T) : ErrOk s (lo v q a) := by
  unfold lo
  split
  · exact .inl rfl
  · exact hv q
theorem fo_err {s : ByteArray} {v : Nat → VR} (hv : ∀ q, ErrOk s (v q)) (q : Nat) (a : V.T) : ErrOk s (fo s v q a) := by
  unfold fo
  split
  · split
    · exact .inl rfl
    · exact hv _
  · rcases nmc_err (s := s) (q := q) with h | h
    · exact .inl h
    · exact .inr (.inl h)
theorem br_err {s : ByteArray} {d p : Nat} {v : Nat → VR} (hv : ∀ q, ErrOk s (v q)) : ErrOk s (br s d v p) := by
  have two : ∀ {A : Type} (x : A × Nat × Nat), x.2.2 = 0 ∨ x.2.2 = 30 → ErrOk s x := fun x h => h.imp_right .inl
  unfold br
  split
  · exact two _ (al_err 4)
  · split
    · exact two _ (al_err 5)
    · split
      · exact two _ (al_err 4)
      · split
        · exact two _ ptw_err
        · split
          · rename_i hk; exact its_err (A := V.T) (fun q a => lo_err hv q a) (.inl hk)
          · split
            · rename_i hk; exact its_err (A := V.T) (fun q a => fo_err hv q a) (.inr hk)
            · exact two _ nm_err
theorem vl_err (s : ByteArray) : ∀ (n p : Nat), n ≤ 64 → ErrOk s (vl s n p)
  | n, p, hn => by
    have hv : ∀ q, ErrOk s (inn s n q) := by
      cases n with
      | zero => exact fun q => .inr (.inl rfl)
      | succ n => exact fun q => vl_err s n q (by omega)
    rw [vl_is s n p hn]
    unfold ar
    split
    · exact .inl rfl
    · exact br_err hv
end Go.Proofs.YtoolkaahjmnjeaaGreatDoor
