/- The program's reader: blanks around a text, a text in brackets, and in braces. Conditions: none. -/
import Derived.Test.YtoolkaahjmnjeaaGreatDoorMW35
import Derived.Test.YtoolkaahjmnjeaaGreatDoorMW36
namespace Go.Proofs.YtoolkaahjmnjeaaGreatDoor
open Go

theorem bl_run {s : ByteArray} : ∀ (m p : Nat), (∀ i, i < m → J.ws (J.pk s (p + i)) = true) → J.bl s p 0 = J.bl s (p + m) 0
  | 0, _, _ => rfl
  | m + 1, p, h => by
    have h0 := h 0 (by omega)
    rw [Nat.add_zero] at h0
    rw [bl_go h0, bl_run m (p + 1) (fun i hi => by rw [show p + 1 + i = p + (i + 1) by omega]; exact h (i + 1) (by omega)), show p + 1 + m = p + (m + 1) by omega]
theorem bl_all {s : ByteArray} : ∀ (m p : Nat), m ≤ J.bl s p 0 - p → ∀ i, i < m → J.ws (J.pk s (p + i)) = true
  | 0, _, _, i, hi => by omega
  | m + 1, p, h, i, hi => by
    cases hw : J.ws (J.pk s p)
    · rw [bl_no hw] at h; omega
    · by_cases h0 : i = 0
      · rw [h0]; exact hw
      · rw [bl_go hw] at h
        have := bl_all (s := s) m (p + 1) (by omega) (i - 1) (by omega)
        rwa [show p + 1 + (i - 1) = p + i by omega] at this
theorem pk_get {s : ByteArray} {p : Nat} (h : p < s.size) : J.pk s p = (s.get! p).toNat := if_pos h
/-- a whole text, somewhere in another, where no number goes on behind it -/
theorem val_in {s s' : ByteArray} {n p' : Nat} {x : Nat × ByteArray × V.T × V.T} (hn : n ≤ 64) (h : vl s n 0 = (x, s.size, 0)) (hS : Sh s 0 s' p' s.size) (hC : st1 (J.pk s' (p' + s.size))) : vl s' n p' = (x, J.bl s' (p' + s.size) 0, 0) := by
  have hI : LikeV s s' (inn s n) (inn s' n) := inn_shift fun m hm => vl_shift m (by omega)
  have hle := inn_le s n
  rw [vl_is s n 0 hn] at h
  rw [vl_is s' n p' hn]
  generalize inn s n = v at *
  generalize inn s' n = v' at *
  generalize 64 - n = d at *
  have b1 := J.bl_le (s := s) 0 (Nat.zero_le s.size)
  obtain ⟨i1, h1⟩ : ∃ i, J.bl s 0 0 = 0 + i := ⟨J.bl s 0 0, by omega⟩
  rw [h1] at h b1
  have b2 := br_le (d := d) hle (0 + i1) b1.2
  have hgo := br_go (d := d) hle b1.2
  obtain ⟨i2, h2⟩ : ∃ i, (br s d v (0 + i1)).2.1 = 0 + i1 + i := ⟨(br s d v (0 + i1)).2.1 - (0 + i1), by have := b2.1; omega⟩
  have hbr : br s d v (0 + i1) = ((br s d v (0 + i1)).1, 0 + i1 + i2, (br s d v (0 + i1)).2.2) := by rw [← h2]
  unfold ar at h
  by_cases h0 : (br s d v (0 + i1)).2.2 = 0
  · rw [if_pos h0, h2] at h
    have hgo := hgo h0
    have hb2 : 0 + i1 + i2 ≤ s.size := by have := b2.2; omega
    obtain ⟨g1, g2, _⟩ := triple h
    simp only at g1 g2
    obtain ⟨i3, h3⟩ : ∃ i3, s.size = i1 + i2 + i3 := ⟨s.size - (i1 + i2), by omega⟩
    have r1 := bl_shift i1 0 p' h1 (hS.sub (i := 0) (m := i1) (by omega)) (.inl (hS.pk (i := i1) (by omega)))
    have hC1 : C1 s (0 + i1 + i2) s' (p' + i1 + i2) := by
      by_cases e3 : i3 = 0
      · refine .inr ?_
        rw [show p' + i1 + i2 = p' + s.size by omega]
        exact hC
      · have := hS.pk (i := i1 + i2) (by omega)
        rw [← Nat.add_assoc, ← Nat.add_assoc] at this
        exact .inl this
    have r2 := br_shift (d := d) (p' := p' + i1) (e' := 0) hle hI (hbr.trans (by rw [h0])) (hS.sub (i := i1) (m := i2) (by omega)) (.inl ⟨rfl, rfl, hC1⟩)
    have r2e := triple_of r2.1
    rw [r2.2 rfl] at r2e
    have hall := bl_all (s := s) i3 (0 + i1 + i2) (by omega)
    have r3 : J.bl s' (p' + i1 + i2) 0 = J.bl s' (p' + s.size) 0 := by
      rw [bl_run i3 (p' + i1 + i2) (fun i hi => by
        have := hS.pk (i := i1 + i2 + i) (by omega)
        rw [show p' + i1 + i2 + i = p' + (i1 + i2 + i) by omega, ← this, show 0 + (i1 + i2 + i) = 0 + i1 + i2 + i by omega]
        exact hall i hi), show p' + i1 + i2 + i3 = p' + s.size by omega]
    rw [r1, r2e]
    unfold ar
    rw [if_pos rfl, r3, g1]
  · rw [if_neg h0] at h
    rw [h] at h0
    exact absurd rfl h0
/-- and back, where nothing but blanks stands behind it -/
theorem val_out {s s' : ByteArray} {n p' : Nat} {x : Nat × ByteArray × V.T × V.T} (hn : n ≤ 64) (h : vl s' n p' = (x, s'.size, 0)) (hS : Sh s 0 s' p' s.size) (hC : ∀ i, p' + s.size ≤ i → i < s'.size → J.ws (J.pk s' i) = true) : vl s n 0 = (x, s.size, 0) := by
  have hI : LikeV s' s (inn s' n) (inn s n) := inn_shift fun m hm => vl_shift m (by omega)
  have hle := inn_le s' n
  have hp := hS.le.2
  have hT := hS.symm
  rw [vl_is s' n p' hn] at h
  rw [vl_is s n 0 hn]
  generalize inn s' n = v at *
  generalize inn s n = v' at *
  generalize 64 - n = d at *
  have b1 := J.bl_le (s := s') 0 hp
  obtain ⟨i1, h1⟩ : ∃ i, J.bl s' p' 0 = p' + i := ⟨J.bl s' p' 0 - p', by omega⟩
  rw [h1] at h b1
  have b2 := br_le (d := d) hle (p' + i1) b1.2
  have hgo := br_go (d := d) hle b1.2
  have hla := br_last (d := d) (v := v) b1.2
  obtain ⟨i2, h2⟩ : ∃ i, (br s' d v (p' + i1)).2.1 = p' + i1 + i := ⟨(br s' d v (p' + i1)).2.1 - (p' + i1), by have := b2.1; omega⟩
  have hbr : br s' d v (p' + i1) = ((br s' d v (p' + i1)).1, p' + i1 + i2, (br s' d v (p' + i1)).2.2) := by rw [← h2]
  unfold ar at h
  by_cases h0 : (br s' d v (p' + i1)).2.2 = 0
  · rw [if_pos h0, h2] at h
    have hgo := hgo h0
    have hla := hla h0
    have hb2 : p' + i1 + i2 ≤ s'.size := by have := b2.2; omega
    obtain ⟨g1, g2, _⟩ := triple h
    simp only at g1 g2
    have hm : i1 + i2 ≤ s.size := by
      obtain ⟨r, hr, hw⟩ := hla
      by_cases hlt : i1 + i2 ≤ s.size
      · exact hlt
      · have := hC r (by omega) (by omega)
        rw [hw] at this
        cases this
    obtain ⟨i3, h3⟩ : ∃ i3, s.size = i1 + i2 + i3 := ⟨s.size - (i1 + i2), by omega⟩
    have r1 := bl_shift i1 p' 0 h1 (hT.sub (i := 0) (m := i1) (by omega)) (.inl (hT.pk (i := i1) (by omega)))
    have hC1 : C1 s' (p' + i1 + i2) s (0 + i1 + i2) := by
      by_cases e3 : i3 = 0
      · refine .inr ?_
        rw [show J.pk s (0 + i1 + i2) = 0 by unfold J.pk; rw [if_neg (by omega)]]
        exact st1_zero
      · have := hT.pk (i := i1 + i2) (by omega)
        rw [← Nat.add_assoc, ← Nat.add_assoc] at this
        exact .inl this
    have r2 := br_shift (d := d) (p' := 0 + i1) (e' := 0) hle hI (hbr.trans (by rw [h0])) (hT.sub (i := i1) (m := i2) (by omega)) (.inl ⟨rfl, rfl, hC1⟩)
    have r2e := triple_of r2.1
    rw [r2.2 rfl] at r2e
    have hall := bl_all (s := s') i3 (p' + i1 + i2) (by have := hS.2.1; omega)
    have r3 : J.bl s (0 + i1 + i2) 0 = s.size := by
      rw [bl_run i3 (0 + i1 + i2) (fun i hi => by
        have := hT.pk (i := i1 + i2 + i) (by omega)
        rw [show 0 + i1 + i2 + i = 0 + (i1 + i2 + i) by omega, ← this, show p' + (i1 + i2 + i) = p' + i1 + i2 + i by omega]
        exact hall i hi), show 0 + i1 + i2 + i3 = s.size by omega]
      exact bl_end (Nat.lt_irrefl _)
    rw [r1, r2e]
    unfold ar
    rw [if_pos rfl, r3, g1]
  · rw [if_neg h0] at h
    rw [h] at h0
    exact absurd rfl h0
theorem Sh.more {s s' : ByteArray} {p p' n : Nat} (h : Sh s p s' p' n) (b : ByteArray) : Sh s p (s' ++ b) p' n :=
  ⟨h.1, by rw [ByteArray.size_append]; have := h.2.1; omega, fun i hi => by rw [get_left (by have := h.2.1; omega)]; exact h.2.2 i hi⟩
theorem sh_behind (a s : ByteArray) : Sh s 0 (a ++ s) a.size s.size :=
  ⟨by omega, by rw [ByteArray.size_append]; omega, fun i hi => by rw [Nat.zero_add, get_right hi]⟩
theorem prs_inv {s : ByteArray} {x : Nat × ByteArray × V.T × V.T} {p : Nat} (h : prs s = (x, p, 0)) : vl s 64 0 = (x, s.size, 0) ∧ p = 0 := by
  have hle : (vl s 64 0).2.1 ≤ s.size := (vl_le s 64 0 (Nat.zero_le _)).2
  unfold prs at h
  by_cases h0 : (vl s 64 0).2.2 = 0
  · rw [if_pos h0] at h
    by_cases h1 : (vl s 64 0).2.1 < s.size
    · rw [if_pos h1] at h
      have := (triple h).2.2
      simp only at this
      omega
    · rw [if_neg h1] at h
      obtain ⟨g1, g2, _⟩ := triple h
      simp only at g1 g2
      have e : vl s 64 0 = ((vl s 64 0).1, (vl s 64 0).2.1, (vl s 64 0).2.2) := rfl
      exact ⟨by rw [e, g1, h0, show (vl s 64 0).2.1 = s.size by omega], by omega⟩
  · rw [if_neg h0] at h
    exact absurd (triple h).2.2 h0
theorem prs_of {s : ByteArray} {x : Nat × ByteArray × V.T × V.T} (h : vl s 64 0 = (x, s.size, 0)) : prs s = (x, 0, 0) := by
  unfold prs
  rw [h, if_pos rfl, if_neg (Nat.lt_irrefl _)]
theorem prs_not {s : ByteArray} {x : Nat × ByteArray × V.T × V.T} {q e : Nat} (h : vl s 64 0 = (x, q, e)) (he : ¬ e = 0) : prs s = ((0, ⟨#[]⟩, .nil, .nil), q, e) := by
  unfold prs
  rw [h, if_neg he]
/-- blanks around a text -/
def bk1 : ByteArray := ⟨#[10, 32, 9]⟩
def bk2 : ByteArray := ⟨#[13, 32]⟩
theorem wide_at (s : ByteArray) : Sh s 0 (bk1 ++ s ++ bk2) 3 s.size ∧ (bk1 ++ s ++ bk2).size = s.size + 5 ∧ J.bl (bk1 ++ s ++ bk2) 0 0 = J.bl (bk1 ++ s ++ bk2) 3 0 ∧ At (bk1 ++ s ++ bk2) (3 + s.size) 13 ∧ At (bk1 ++ s ++ bk2) (3 + s.size + 1) 32 := by
  have hz : (bk1 ++ s ++ bk2).size = s.size + 5 := by rw [ByteArray.size_append, ByteArray.size_append]; show 3 + s.size + 2 = _; omega
  have a0 : ∀ i c, At bk1 i c → At (bk1 ++ s ++ bk2) i c := fun i c h => (h.left s).left bk2
  have p0 := (a0 0 10 ⟨by decide, by decide⟩).pk
  have p1 := (a0 1 32 ⟨by decide, by decide⟩).pk
  have p2 := (a0 2 9 ⟨by decide, by decide⟩).pk
  have hq : (bk1 ++ s).size = 3 + s.size := ByteArray.size_append
  refine ⟨(sh_behind bk1 s).more bk2, hz, ?_, (show At bk2 0 13 from ⟨by decide, by decide⟩).right (bk1 ++ s) (by rw [hq, Nat.add_zero]), (show At bk2 1 32 from ⟨by decide, by decide⟩).right (bk1 ++ s) (by rw [hq])⟩
  have hw : ∀ i, i < 3 → J.ws (J.pk (bk1 ++ s ++ bk2) (0 + i)) = true := fun i hi => by
    have : i = 0 ∨ i = 1 ∨ i = 2 := by omega
    rcases this with rfl | rfl | rfl
    · rw [p0]; decide
    · rw [p1]; decide
    · rw [p2]; decide
  exact bl_run 3 0 hw
theorem vl_bl {s : ByteArray} {n p q : Nat} (hn : n ≤ 64) (h : J.bl s p 0 = J.bl s q 0) : vl s n p = vl s n q := by rw [vl_is s n p hn, vl_is s n q hn, h]
theorem around_yes {s : ByteArray} {x : Nat × ByteArray × V.T × V.T} (h : vl s 64 0 = (x, s.size, 0)) : prs (bk1 ++ s ++ bk2) = (x, 0, 0) := by
  obtain ⟨hS, hz, hb, a1, a2⟩ := wide_at s
  refine prs_of ?_
  rw [vl_bl (Nat.le_refl _) hb, val_in (Nat.le_refl _) h hS (by rw [a1.pk]; unfold st1; decide)]
  have : J.bl (bk1 ++ s ++ bk2) (3 + s.size) 0 = (bk1 ++ s ++ bk2).size := by
    rw [bl_go (by rw [a1.pk]; decide), bl_go (by rw [a2.pk]; decide), bl_end (by omega)]
    omega
  rw [this]
theorem around_no {s : ByteArray} (h : ¬ (prs s).2.2 = 0) : ¬ (prs (bk1 ++ s ++ bk2)).2.2 = 0 := by
  intro h0
  obtain ⟨hS, hz, hb, a1, a2⟩ := wide_at s
  obtain ⟨hv, _⟩ := prs_inv (s := bk1 ++ s ++ bk2) (x := (prs (bk1 ++ s ++ bk2)).1) (p := (prs (bk1 ++ s ++ bk2)).2.1) (by rw [← h0])
  rw [vl_bl (Nat.le_refl _) hb] at hv
  have := val_out (Nat.le_refl _) hv hS (fun i h1 h2 => by
    have : i = 3 + s.size ∨ i = 3 + s.size + 1 := by omega
    rcases this with rfl | rfl
    · rw [a1.pk]; decide
    · rw [a2.pk]; decide)
  rw [prs_of this] at h
  exact h rfl
/-- in brackets, behind a one -/
def lb : ByteArray := ⟨#[91, 32, 49, 32, 44]⟩
def inL (s : ByteArray) : ByteArray := lb ++ s ++ ⟨#[93]⟩
theorem inL_at (s : ByteArray) : Sh s 0 (inL s) 5 s.size ∧ (inL s).size = s.size + 6 ∧ At (inL s) (5 + s.size) 93 ∧ ∀ i c, At lb i c → At (inL s) i c := by
  have hq : (lb ++ s).size = 5 + s.size := ByteArray.size_append
  exact ⟨(sh_behind lb s).more _, by unfold inL; rw [ByteArray.size_append, hq]; show 5 + s.size + 1 = _; omega, (show At ⟨#[93]⟩ 0 93 from ⟨by decide, by decide⟩).right (lb ++ s) (by rw [hq, Nat.add_zero]), fun i c h => (h.left s).left _⟩
/-- the digit one, a blank behind it -/
theorem one_blank {s : ByteArray} {p d c : Nat} (v : Nat → VR) (h : At s p 49) (h1 : At s (p + 1) 32) (h2 : At s (p + 2) c) (hc : J.ws c = false) : ar s (br s d v (J.bl s p 0)) = ((3, ⟨#[49]⟩, .nil, .nil), p + 2, 0) := by
  rw [h.bl (by decide)]
  have hn : J.nm s p 0 = (p + 1, 0) := by
    unfold J.nm
    have hd : J.dg s p = p + 1 := by
      rw [J.dg_step h.1 (by rw [h.2]; decide), J.dg_stop (fun e => by rw [h1.2] at e; exact absurd e.2 (by decide))]
    have hb : J.bp s p 0 45 = p := J.bp_no (by rw [h.is]; decide)
    have h2 : J.n2 s p 0 = (p + 1, 0) := by
      unfold J.n2
      rw [if_neg (by rw [h.is]; decide), J.ds_some (by rw [hd]; omega), hd]
    have h3 : J.n3 s (p + 1, 0) = (p + 1, 0) := by unfold J.n3; rw [if_neg (by rw [h1.is]; decide)]
    have h4 : J.n4 s (p + 1, 0) = (p + 1, 0) := by unfold J.n4; rw [if_neg (by rw [h1.is, h1.is]; decide)]
    rw [hb, h2, h3, h4]
  have hx : s.extract p (p + 1) = ⟨#[49]⟩ := by
    have hS : Sh s p ⟨#[49]⟩ 0 1 := ⟨h.1, by decide, fun i hi => by
      have : i = 0 := by omega
      subst this
      apply UInt8.toNat_inj.1
      rw [Nat.add_zero, h.2]; decide⟩
    rw [hS.extract]
    decide +kernel
  have hbr : br s d v p = ((3, ⟨#[49]⟩, .nil, .nil), p + 1, 0) := by
    unfold br
    rw [h.pk, if_neg (by decide), if_neg (by decide), if_neg (by decide), if_neg (by decide), if_neg (by decide), if_neg (by decide), hn, hx]
  rw [hbr]
  unfold ar
  rw [if_pos rfl]
  show (_, J.bl s (p + 1) 0, 0) = _
  rw [bl_go (by rw [h1.pk]; decide)]
  show (_, J.bl s (p + 2) 0, 0) = _
  rw [h2.bl hc]
theorem inL_vl (s : ByteArray) (r : VR) (h : vl (inL s) 63 5 = r) : (r.2.2 = 0 → At (inL s) r.2.1 93 → vl (inL s) 64 0 = ((5, ⟨#[]⟩, .cons ⟨#[]⟩ 3 ⟨#[49]⟩ .nil .nil (.cons ⟨#[]⟩ r.1.1 r.1.2.1 r.1.2.2.1 r.1.2.2.2 .nil), .nil), J.bl (inL s) (r.2.1 + 1) 0, 0)) ∧
    (¬ r.2.2 = 0 → (vl (inL s) 64 0).2 = r.2) := by
  obtain ⟨_, hz, _, ha⟩ := inL_at s
  have a0 := ha 0 91 ⟨by decide, by decide⟩
  have a1 := ha 1 32 ⟨by decide, by decide⟩
  have a2 := ha 2 49 ⟨by decide, by decide⟩
  have a3 := ha 3 32 ⟨by decide, by decide⟩
  have a4 := ha 4 44 ⟨by decide, by decide⟩
  have hone : vl (inL s) 63 2 = ((3, ⟨#[49]⟩, .nil, .nil), 4, 0) := by
    rw [vl_is _ 63 2 (by omega)]
    exact one_blank _ a2 a3 a4 (by decide)
  have hits : its (inL s) 93 (lo (vl (inL s) 63)) 0 0 .nil = itG (inL s) 93 (lo (vl (inL s) 63)) ((inL s).size + 1) 4 (.cons ⟨#[]⟩ 3 ⟨#[49]⟩ .nil .nil .nil) := by
    unfold its
    rw [if_neg (by decide), bl_go (by rw [a1.pk]; decide), show 0 + 1 + 1 = 2 from rfl, a2.bl (by decide)]
    unfold itB
    have : lo (vl (inL s) 63) 2 .nil = (.cons ⟨#[]⟩ 3 ⟨#[49]⟩ .nil .nil .nil, 4, 0) := by unfold lo; rw [hone, if_pos rfl]; rfl
    rw [if_neg (by rw [a2.is]; decide), this, if_pos rfl]
  have hbr : br (inL s) 0 (vl (inL s) 63) 0 = ((5, ⟨#[]⟩, (its (inL s) 93 (lo (vl (inL s) 63)) 0 0 .nil).1, .nil), (its (inL s) 93 (lo (vl (inL s) 63)) 0 0 .nil).2) := by
    conv => lhs; unfold br
    rw [a0.pk, if_neg (by decide), if_neg (by decide), if_neg (by decide), if_neg (by decide), if_pos rfl]
  have hvl : vl (inL s) 64 0 = ar (inL s) (br (inL s) 0 (vl (inL s) 63) 0) := by
    rw [vl_is _ 64 0 (Nat.le_refl _), a0.bl (by decide)]
    rfl
  rw [hvl, hbr, hits]
  have hstep : itG (inL s) 93 (lo (vl (inL s) 63)) ((inL s).size + 1) 4 (.cons ⟨#[]⟩ 3 ⟨#[49]⟩ .nil .nil .nil) = if (lo (vl (inL s) 63) 5 (.cons ⟨#[]⟩ 3 ⟨#[49]⟩ .nil .nil .nil)).2.2 = 0 then itG (inL s) 93 (lo (vl (inL s) 63)) (inL s).size (lo (vl (inL s) 63) 5 (.cons ⟨#[]⟩ 3 ⟨#[49]⟩ .nil .nil .nil)).2.1 (lo (vl (inL s) 63) 5 (.cons ⟨#[]⟩ 3 ⟨#[49]⟩ .nil .nil .nil)).1 else lo (vl (inL s) 63) 5 (.cons ⟨#[]⟩ 3 ⟨#[49]⟩ .nil .nil .nil) :=
    itG_comma (by rw [a4.is]; decide)
  rw [hstep]
  constructor
  · intro h0 hat
    have hlo : lo (vl (inL s) 63) 5 (.cons ⟨#[]⟩ 3 ⟨#[49]⟩ .nil .nil .nil) = (.cons ⟨#[]⟩ 3 ⟨#[49]⟩ .nil .nil (.cons ⟨#[]⟩ r.1.1 r.1.2.1 r.1.2.2.1 r.1.2.2.2 .nil), r.2.1, 0) := by
      unfold lo; rw [h, if_pos h0]; rfl
    rw [hlo, if_pos rfl, hz]
    have : itG (inL s) 93 (lo (vl (inL s) 63)) (s.size + 6) r.2.1 (.cons ⟨#[]⟩ 3 ⟨#[49]⟩ .nil .nil (.cons ⟨#[]⟩ r.1.1 r.1.2.1 r.1.2.2.1 r.1.2.2.2 .nil)) = (.cons ⟨#[]⟩ 3 ⟨#[49]⟩ .nil .nil (.cons ⟨#[]⟩ r.1.1 r.1.2.1 r.1.2.2.1 r.1.2.2.2 .nil), r.2.1 + 1, 0) := by
      unfold itG
      rw [if_neg (by rw [hat.is]; decide), if_pos (by rw [hat.is]; decide)]
    rw [this]
    unfold ar
    rw [if_pos rfl]
  · intro h0
    have hlo : (lo (vl (inL s) 63) 5 (.cons ⟨#[]⟩ 3 ⟨#[49]⟩ .nil .nil .nil)).2 = r.2 := by
      unfold lo; rw [h, if_neg h0]
    rw [if_neg (by rw [hlo]; exact h0), ar_wrong (by show ¬ (lo (vl (inL s) 63) 5 _).2.2 = 0; rw [hlo]; exact h0)]
    exact hlo
/-- in braces, as two fields of one name -/
def o1 : ByteArray := ⟨#[123, 34, 107, 34, 32, 58]⟩
def o2 : ByteArray := ⟨#[44, 32, 34, 107, 34, 58]⟩
def inO (s : ByteArray) : ByteArray := o1 ++ s ++ o2 ++ s ++ ⟨#[125]⟩
theorem inO_at (s : ByteArray) : Sh s 0 (inO s) 6 s.size ∧ Sh s 0 (inO s) (12 + s.size) s.size ∧ (inO s).size = 2 * s.size + 13 ∧ At (inO s) (12 + s.size + s.size) 125 ∧ (∀ i c, At o1 i c → At (inO s) i c) ∧ ∀ i c, At o2 i c → At (inO s) (6 + s.size + i) c := by
  have q1 : (o1 ++ s).size = 6 + s.size := ByteArray.size_append
  have q2 : (o1 ++ s ++ o2).size = 12 + s.size := by rw [ByteArray.size_append, q1]; show 6 + s.size + 6 = _; omega
  have q3 : (o1 ++ s ++ o2 ++ s).size = 12 + s.size + s.size := by rw [ByteArray.size_append, q2]
  have hb := sh_behind (o1 ++ s ++ o2) s
  rw [q2] at hb
  exact ⟨(((sh_behind o1 s).more _).more _).more _, hb.more _, by unfold inO; rw [ByteArray.size_append, q3]; show 12 + s.size + s.size + 1 = _; omega,
    (show At ⟨#[125]⟩ 0 125 from ⟨by decide, by decide⟩).right (o1 ++ s ++ o2 ++ s) (by rw [q3, Nat.add_zero]), fun i c h => (((h.left s).left _).left _).left _, fun i c h => ((h.right (o1 ++ s) (by rw [q1])).left _).left _⟩
theorem text_k {s : ByteArray} {p : Nat} (h1 : At s p 34) (h2 : At s (p + 1) 107) (h3 : At s (p + 2) 34) : ptw s p = ([107], p + 3, 0) := by
  unfold ptw
  have := h3.1
  rw [if_pos (by rw [h1.is]; decide), show s.size - p = (s.size - p - 2) + 1 + 1 by omega]
  unfold ptx
  rw [if_neg (by rw [h2.is]; decide), h2.cr (by decide) (by decide) (by decide), if_pos rfl]
  show ptx s (s.size - p - 2 + 1) (p + 1 + 1) (joi [] 107) = _
  unfold ptx
  rw [if_pos (by rw [show p + 1 + 1 = p + 2 by omega, h3.is]; decide)]
  rfl
theorem inO_vl (s : ByteArray) (r t : VR) (h : vl (inO s) 63 6 = r) (ht : vl (inO s) 63 (12 + s.size) = t) : (r.2.2 = 0 → r.2.1 = 6 + s.size → t.2.2 = 0 → t.2.1 = 12 + s.size + s.size →
      vl (inO s) 64 0 = ((6, ⟨#[]⟩, .nil, .cons ⟨#[107]⟩ t.1.1 t.1.2.1 t.1.2.2.1 t.1.2.2.2 .nil), (inO s).size, 0)) ∧
    (¬ r.2.2 = 0 → (vl (inO s) 64 0).2 = r.2) := by
  obtain ⟨_, _, hz, hend, ha, hb⟩ := inO_at s
  have a0 := ha 0 123 ⟨by decide, by decide⟩
  have a1 := ha 1 34 ⟨by decide, by decide⟩
  have a2 := ha 2 107 ⟨by decide, by decide⟩
  have a3 := ha 3 34 ⟨by decide, by decide⟩
  have a4 := ha 4 32 ⟨by decide, by decide⟩
  have a5 := ha 5 58 ⟨by decide, by decide⟩
  have b0 := hb 0 44 ⟨by decide, by decide⟩
  have b1 := hb 1 32 ⟨by decide, by decide⟩
  have b2 := hb 2 34 ⟨by decide, by decide⟩
  have b3 := hb 3 107 ⟨by decide, by decide⟩
  have b4 := hb 4 34 ⟨by decide, by decide⟩
  have b5 := hb 5 58 ⟨by decide, by decide⟩
  have hn1 : nmc (inO s) 1 = (⟨#[107]⟩, 6, 0) := by
    unfold nmc
    rw [a1.bl (by decide), text_k a1 a2 a3, if_pos rfl]
    show (if J.is (inO s) (J.bl (inO s) 4 0) 0 58 = true then _ else _) = _
    rw [bl_go (by rw [a4.pk]; decide), show 4 + 1 = 5 from rfl, a5.bl (by decide), if_pos (by rw [a5.is]; decide)]
    rfl
  have hn2 : nmc (inO s) (7 + s.size) = (⟨#[107]⟩, 12 + s.size, 0) := by
    have e : J.bl (inO s) (7 + s.size) 0 = 8 + s.size := by
      rw [show 7 + s.size = 6 + s.size + 1 by omega, bl_go (by rw [b1.pk]; decide), show 6 + s.size + 1 + 1 = 6 + s.size + 2 by omega, b2.bl (by decide)]
      omega
    unfold nmc
    rw [e, text_k (p := 8 + s.size) (by rw [show 8 + s.size = 6 + s.size + 2 by omega]; exact b2) (by rw [show 8 + s.size + 1 = 6 + s.size + 3 by omega]; exact b3) (by rw [show 8 + s.size + 2 = 6 + s.size + 4 by omega]; exact b4), if_pos rfl]
    show (if J.is (inO s) (J.bl (inO s) (8 + s.size + 3) 0) 0 58 = true then _ else _) = _
    rw [show 8 + s.size + 3 = 6 + s.size + 5 by omega, b5.bl (by decide), if_pos (by rw [b5.is]; decide), show 6 + s.size + 5 + 1 = 12 + s.size by omega]
    rfl
  have hbr : br (inO s) 0 (vl (inO s) 63) 0 = ((6, ⟨#[]⟩, .nil, (its (inO s) 125 (fo (inO s) (vl (inO s) 63)) 0 0 .nil).1), (its (inO s) 125 (fo (inO s) (vl (inO s) 63)) 0 0 .nil).2) := by
    conv => lhs; unfold br
    rw [a0.pk, if_neg (by decide), if_neg (by decide), if_neg (by decide), if_neg (by decide), if_neg (by decide), if_pos rfl]
  have hits : its (inO s) 125 (fo (inO s) (vl (inO s) 63)) 0 0 .nil = if (fo (inO s) (vl (inO s) 63) 1 .nil).2.2 = 0 then itG (inO s) 125 (fo (inO s) (vl (inO s) 63)) ((inO s).size + 1) (fo (inO s) (vl (inO s) 63) 1 .nil).2.1 (fo (inO s) (vl (inO s) 63) 1 .nil).1 else fo (inO s) (vl (inO s) 63) 1 .nil := by
    unfold its
    rw [if_neg (by decide), show 0 + 1 = 1 from rfl, a1.bl (by decide)]
    unfold itB
    rw [if_neg (by rw [a1.is]; decide)]
  have hvl : vl (inO s) 64 0 = ar (inO s) (br (inO s) 0 (vl (inO s) 63) 0) := by
    rw [vl_is _ 64 0 (Nat.le_refl _), a0.bl (by decide)]
    rfl
  rw [hvl, hbr, hits]
  clear hvl hbr hits
  generalize vl (inO s) 63 = vv at *
  constructor
  · intro h0 h1 h2 h3
    have hf1 : fo (inO s) vv 1 .nil = (.cons ⟨#[107]⟩ r.1.1 r.1.2.1 r.1.2.2.1 r.1.2.2.2 .nil, 6 + s.size, 0) := by
      unfold fo
      rw [hn1, if_pos rfl]
      show (if (vv 6).2.2 = 0 then _ else _) = _
      rw [h, if_pos h0]
      rw [h1]
      rfl
    have hf2 : fo (inO s) vv (7 + s.size) (.cons ⟨#[107]⟩ r.1.1 r.1.2.1 r.1.2.2.1 r.1.2.2.2 .nil) = (.cons ⟨#[107]⟩ t.1.1 t.1.2.1 t.1.2.2.1 t.1.2.2.2 .nil, 12 + s.size + s.size, 0) := by
      unfold fo
      rw [hn2, if_pos rfl]
      show (if (vv (12 + s.size)).2.2 = 0 then _ else _) = _
      rw [ht, if_pos h2]
      rw [h3]
      unfold V.T.put
      rw [if_pos rfl]
    rw [hf1, if_pos rfl]
    have hg : itG (inO s) 125 (fo (inO s) vv) ((inO s).size + 1) (6 + s.size) (.cons ⟨#[107]⟩ r.1.1 r.1.2.1 r.1.2.2.1 r.1.2.2.2 .nil) = (.cons ⟨#[107]⟩ t.1.1 t.1.2.1 t.1.2.2.1 t.1.2.2.2 .nil, 12 + s.size + s.size + 1, 0) := by
      rw [itG_comma (by have := b0.is 44; rw [Nat.add_zero] at this; rw [this]; decide), show 6 + s.size + 1 = 7 + s.size by omega, hf2, if_pos rfl]
      obtain ⟨F, hF⟩ : ∃ F, (inO s).size = F + 1 := ⟨2 * s.size + 12, by omega⟩
      rw [hF]
      unfold itG
      rw [if_neg (by rw [hend.is]; decide), if_pos (by rw [hend.is]; decide)]
    rw [hg]
    unfold ar
    rw [if_pos rfl]
    show (_, J.bl (inO s) (12 + s.size + s.size + 1) 0, 0) = _
    rw [bl_end (by rw [hz]; omega), hz, show 12 + s.size + s.size + 1 = 2 * s.size + 13 by omega]
  · intro h0
    have hf1 : (fo (inO s) vv 1 .nil).2 = r.2 := by
      unfold fo
      rw [hn1, if_pos rfl]
      show (if (vv 6).2.2 = 0 then _ else (_, (vv 6).2) : V.T × Nat × Nat).2 = _
      rw [h, if_neg h0]
    generalize fo (inO s) vv 1 .nil = y at *
    have e : ¬ y.2.2 = 0 := by rw [hf1]; exact h0
    rw [if_neg e, ar_wrong e]
    exact hf1
/-- what becomes of a text in brackets, and in braces -/
theorem around_in {s : ByteArray} {x : Nat × ByteArray × V.T × V.T} (h : vl s 64 0 = (x, s.size, 0)) :
    (prs (inL s) = ((5, ⟨#[]⟩, .cons ⟨#[]⟩ 3 ⟨#[49]⟩ .nil .nil (.cons ⟨#[]⟩ x.1 x.2.1 x.2.2.1 x.2.2.2 .nil), .nil), 0, 0) ∧ prs (inO s) = ((6, ⟨#[]⟩, .nil, .cons ⟨#[107]⟩ x.1 x.2.1 x.2.2.1 x.2.2.2 .nil), 0, 0)) ∨
    ∃ q q', prs (inL s) = ((0, ⟨#[]⟩, .nil, .nil), q, 31) ∧ prs (inO s) = ((0, ⟨#[]⟩, .nil, .nil), q', 31) := by
  obtain ⟨lS, lz, le, _⟩ := inL_at s
  obtain ⟨oS, oS2, oz, oe, _, ob⟩ := inO_at s
  have ob0 := ob 0 44 ⟨by decide, by decide⟩
  rw [Nat.add_zero] at ob0
  rcases vl_dl s 63 (by omega) 0 (by rw [h]) with e | e
  · rw [show 63 + 1 = 64 from rfl, h] at e
    have v1 := val_in (by omega) e lS (by rw [le.pk]; unfold st1; decide)
    rw [le.bl (by decide)] at v1
    have v2 := val_in (by omega) e oS (by rw [ob0.pk]; unfold st1; decide)
    rw [ob0.bl (by decide)] at v2
    have v3 := val_in (by omega) e oS2 (by rw [oe.pk]; unfold st1; decide)
    rw [oe.bl (by decide)] at v3
    left
    constructor
    · refine prs_of ?_
      rw [(inL_vl s _ v1).1 rfl le, bl_end (by show ¬ 5 + s.size + 1 < _; omega), lz, show 5 + s.size + 1 = s.size + 6 by omega]
    · refine prs_of ?_
      rw [(inO_vl s _ _ v2 v3).1 rfl rfl rfl rfl]
  · right
    have hle := vl_le s 63 0 (Nat.zero_le _)
    have herr := vl_err s 63 0 (by omega)
    obtain ⟨q, hq⟩ : ∃ q, (vl s 63 0).2.1 = q := ⟨_, rfl⟩
    rw [hq] at hle
    unfold ErrOk at herr
    rw [e, hq] at herr
    have hbr : J.pk s q = 91 ∨ J.pk s q = 123 := by
      rcases herr with h | h | ⟨_, h⟩
      · omega
      · omega
      · exact h
    have hlt : q < s.size := pk_pos (by omega)
    have hv : vl s 63 0 = ((vl s 63 0).1, 0 + q, 31) := by rw [← e, ← hq, Nat.zero_add]
    have go : ∀ s' p', Sh s 0 s' p' s.size → (vl s' 63 p').2 = (p' + q, 31) := fun s' p' hS =>
      (vl_shift 63 (by omega) 0 p' q _ 31 31 hv (hS.sub (i := 0) (m := q) (by omega)) (.inr ⟨by decide, .inr ⟨rfl, hS.pk hlt, rfl⟩⟩)).1
    have g1 := go (inL s) 5 lS
    have g2 := go (inO s) 6 oS
    have k1 := (inL_vl s _ rfl).2 (by rw [g1]; exact (by decide : ¬ 31 = 0))
    have k2 := (inO_vl s _ _ rfl rfl).2 (by rw [g2]; exact (by decide : ¬ 31 = 0))
    rw [g1] at k1
    rw [g2] at k2
    exact ⟨5 + q, 6 + q, prs_not (x := (vl (inL s) 64 0).1) (by rw [← k1]) (by decide), prs_not (x := (vl (inO s) 64 0).1) (by rw [← k2]) (by decide)⟩
end Go.Proofs.YtoolkaahjmnjeaaGreatDoor
