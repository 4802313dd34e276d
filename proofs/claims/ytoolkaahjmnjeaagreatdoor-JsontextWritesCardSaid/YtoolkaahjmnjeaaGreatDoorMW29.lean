/- Which byte stands at a place of a string, and what the program's reader does there. Conditions: none. -/
import Derived.Test.YtoolkaahjmnjeaaGreatDoorMW28
namespace Go.Proofs.YtoolkaahjmnjeaaGreatDoor
open Go

/-- a byte stands at a place -/
def At (s : ByteArray) (p c : Nat) : Prop := p < s.size ∧ (s.get! p).toNat = c
theorem get_left {a b : ByteArray} {p : Nat} (h : p < a.size) : (a ++ b).get! p = a.get! p := by
  rw [J.at_get h, J.at_get (show p < (a ++ b).size by rw [ByteArray.size_append]; omega)]
  exact ByteArray.getElem_append_left h
theorem get_right {a b : ByteArray} {p : Nat} (h : p < b.size) : (a ++ b).get! (a.size + p) = b.get! p := by
  rw [J.at_get h, J.at_get (show a.size + p < (a ++ b).size by rw [ByteArray.size_append]; omega)]
  rw [ByteArray.getElem_append_right (by omega)]
  congr 1
  omega
theorem At.left {a : ByteArray} {p c : Nat} (h : At a p c) (b : ByteArray) : At (a ++ b) p c :=
  ⟨by rw [ByteArray.size_append]; have := h.1; omega, by rw [get_left h.1]; exact h.2⟩
theorem At.right {b : ByteArray} {p c : Nat} (h : At b p c) (a : ByteArray) {q : Nat} (hq : q = a.size + p) : At (a ++ b) q c := by
  subst hq
  exact ⟨by rw [ByteArray.size_append]; have := h.1; omega, by rw [get_right h.1]; exact h.2⟩
theorem At.is {s : ByteArray} {p c : Nat} (h : At s p c) (d : Nat) : J.is s p 0 d = decide (c = d) := by
  unfold J.is
  exact decide_eq_decide.2 ⟨fun e => h.2.symm.trans e.2.2, fun e => ⟨rfl, h.1, h.2.trans e⟩⟩
theorem At.pk {s : ByteArray} {p c : Nat} (h : At s p c) : J.pk s p = c := by unfold J.pk; rw [if_pos h.1]; exact h.2
theorem At.bl {s : ByteArray} {p c : Nat} (h : At s p c) (hc : J.ws c = false) : J.bl s p 0 = p := J.bl_stop (fun e => by rw [h.2, hc] at e; exact absurd e.2 (by decide))
theorem bl_end {s : ByteArray} {p : Nat} (h : ¬ p < s.size) : J.bl s p 0 = p := J.bl_stop (fun e => h e.1)
theorem At.bad {s : ByteArray} {p c : Nat} (h : At s p c) (hc : c < 128) : U.ch s p = c ∧ U.wd s p = 1 ∧ U.bad s p = false := by
  have := U.next_ascii s p (by rw [h.2]; exact hc)
  rw [h.2] at this
  exact this
/-- a character that is one byte, and no sign -/
theorem At.cr {s : ByteArray} {p c : Nat} (h : At s p c) (h1 : 32 ≤ c) (h2 : c < 128) (h3 : ¬ c = 92) : cr s p = (c, p + 1, 0) := by
  obtain ⟨e1, e2, e3⟩ := h.bad h2
  unfold Go.Proofs.YtoolkaahjmnjeaaGreatDoor.cr
  rw [if_neg (by rw [h.is]; simpa using h3), if_pos ⟨h.1, e3, by rw [e1]; exact h1⟩, e1, e2]
theorem ar_wrong {s : ByteArray} {r : VR} (h : ¬ r.2.2 = 0) : ar s r = r := by unfold ar; rw [if_neg h]
end Go.Proofs.YtoolkaahjmnjeaaGreatDoor

namespace Go.Proofs.YtoolkaahjmnjeaaGreatDoor
open Go

/-- the same bytes stand at two places -/
def Sh (s : ByteArray) (p : Nat) (s' : ByteArray) (p' n : Nat) : Prop := p + n ≤ s.size ∧ p' + n ≤ s'.size ∧ ∀ i, i < n → s.get! (p + i) = s'.get! (p' + i)
theorem Sh.sub {s s' : ByteArray} {p p' n : Nat} (h : Sh s p s' p' n) {i m : Nat} (hi : i + m ≤ n) : Sh s (p + i) s' (p' + i) m :=
  ⟨by have := h.1; omega, by have := h.2.1; omega, fun j hj => by rw [Nat.add_assoc, Nat.add_assoc]; exact h.2.2 _ (by omega)⟩
theorem Sh.pk {s s' : ByteArray} {p p' n : Nat} (h : Sh s p s' p' n) {i : Nat} (hi : i < n) : J.pk s (p + i) = J.pk s' (p' + i) := by
  unfold J.pk
  rw [if_pos (by have := h.1; omega), if_pos (by have := h.2.1; omega), h.2.2 i hi]
theorem Sh.pk0 {s s' : ByteArray} {p p' n : Nat} (h : Sh s p s' p' n) (hi : 0 < n) : J.pk s p = J.pk s' p' := h.pk (i := 0) hi
theorem Sh.symm {s s' : ByteArray} {p p' n : Nat} (h : Sh s p s' p' n) : Sh s' p' s p n := ⟨h.2.1, h.1, fun i hi => (h.2.2 i hi).symm⟩
theorem is_pk {s : ByteArray} {p c : Nat} (hc : 0 < c) : J.is s p 0 c = decide (J.pk s p = c) := by
  unfold J.is J.pk
  by_cases h : p < s.size
  · rw [if_pos h]; exact decide_eq_decide.2 ⟨fun e => e.2.2, fun e => ⟨rfl, h, e⟩⟩
  · rw [if_neg h]; exact decide_eq_decide.2 ⟨fun e => absurd e.2.1 h, fun e => by omega⟩
theorem dgt_pk {s : ByteArray} {p : Nat} : (p < s.size ∧ J.dgt (s.get! p).toNat = true) ↔ J.dgt (J.pk s p) = true := by
  unfold J.pk
  by_cases h : p < s.size
  · rw [if_pos h]; exact ⟨fun e => e.2, fun e => ⟨h, e⟩⟩
  · rw [if_neg h]; exact ⟨fun e => absurd e.1 h, fun e => absurd e (by decide)⟩
theorem ws_pk {s : ByteArray} {p : Nat} : (p < s.size ∧ J.ws (s.get! p).toNat = true) ↔ J.ws (J.pk s p) = true := by
  unfold J.pk
  by_cases h : p < s.size
  · rw [if_pos h]; exact ⟨fun e => e.2, fun e => ⟨h, e⟩⟩
  · rw [if_neg h]; exact ⟨fun e => absurd e.1 h, fun e => absurd e (by decide)⟩
theorem hv_pk {s : ByteArray} {p : Nat} : (p < s.size ∧ 0 ≤ J.hv (s.get! p).toNat) ↔ 0 ≤ J.hv (J.pk s p) := by
  unfold J.pk
  by_cases h : p < s.size
  · rw [if_pos h]; exact ⟨fun e => e.2, fun e => ⟨h, e⟩⟩
  · rw [if_neg h]; exact ⟨fun e => absurd e.1 h, fun e => absurd e (by decide)⟩
theorem pk_pos {s : ByteArray} {p : Nat} (h : 0 < J.pk s p) : p < s.size := by unfold J.pk at h; split at h; assumption; omega
theorem bl_go {s : ByteArray} {p : Nat} (h : J.ws (J.pk s p) = true) : J.bl s p 0 = J.bl s (p + 1) 0 := J.bl_step (ws_pk.2 h).1 (ws_pk.2 h).2
theorem bl_no {s : ByteArray} {p : Nat} (h : J.ws (J.pk s p) = false) : J.bl s p 0 = p := J.bl_stop (fun e => by rw [ws_pk.1 e] at h; cases h)
theorem dg_go {s : ByteArray} {p : Nat} (h : J.dgt (J.pk s p) = true) : J.dg s p = J.dg s (p + 1) := J.dg_step (dgt_pk.2 h).1 (dgt_pk.2 h).2
theorem dg_no {s : ByteArray} {p : Nat} (h : J.dgt (J.pk s p) = false) : J.dg s p = p := J.dg_stop (fun e => by rw [dgt_pk.1 e] at h; cases h)
theorem bl_rest {s : ByteArray} : ∀ (n p : Nat), p ≤ s.size → J.bl s p 0 = p + n → J.ws (J.pk s (p + n)) = false
  | 0, p, hp, h => by
    cases hw : J.ws (J.pk s p)
    · rfl
    · have h1 := (ws_pk.2 hw).1
      rw [bl_go hw] at h
      have := (J.bl_le (s := s) (p := p + 1) 0 h1).1
      omega
  | n + 1, p, hp, h => by
    cases hw : J.ws (J.pk s p)
    · rw [bl_no hw] at h; omega
    · rw [bl_go hw] at h
      rw [show p + (n + 1) = p + 1 + n by omega] at *
      exact bl_rest n (p + 1) (ws_pk.2 hw).1 h
/-- blanks -/
theorem bl_shift {s s' : ByteArray} : ∀ (n p p' : Nat), J.bl s p 0 = p + n → Sh s p s' p' n → (J.pk s (p + n) = J.pk s' (p' + n) ∨ J.ws (J.pk s' (p' + n)) = false) → J.bl s' p' 0 = p' + n
  | 0, p, p', h, hS, hC => by
    have h1 := bl_rest 0 p hS.1 h
    exact bl_no (hC.elim (fun e => by rw [Nat.add_zero, Nat.add_zero] at e; rw [← e]; exact h1) (fun e => e))
  | n + 1, p, p', h, hS, hC => by
    have h0 := hS.pk0 (Nat.succ_pos n)
    cases hw : J.ws (J.pk s p)
    · rw [bl_no hw] at h; omega
    · rw [bl_go hw] at h
      rw [h0] at hw
      rw [bl_go hw, bl_shift n (p + 1) (p' + 1) (by omega) (hS.sub (i := 1) (by omega)) (by rw [show p + 1 + n = p + (n + 1) by omega, show p' + 1 + n = p' + (n + 1) by omega]; exact hC)]
      omega
/-- digits -/
theorem dg_shift {s s' : ByteArray} : ∀ (n p p' : Nat), J.dg s p = p + n → Sh s p s' p' n → (J.pk s (p + n) = J.pk s' (p' + n) ∨ J.dgt (J.pk s' (p' + n)) = false) → J.dg s' p' = p' + n
  | 0, p, p', h, hS, hC => by
    have h1 : J.dgt (J.pk s p) = false := by
      cases hw : J.dgt (J.pk s p)
      · rfl
      · rw [dg_go hw] at h
        have := (J.dg_le (s := s) (p := p + 1) (dgt_pk.2 hw).1).1
        omega
    exact dg_no (hC.elim (fun e => by rw [Nat.add_zero, Nat.add_zero] at e; rw [← e]; exact h1) (fun e => e))
  | n + 1, p, p', h, hS, hC => by
    have h0 := hS.pk0 (Nat.succ_pos n)
    cases hw : J.dgt (J.pk s p)
    · rw [dg_no hw] at h; omega
    · rw [dg_go hw] at h
      rw [h0] at hw
      rw [dg_go hw, dg_shift n (p + 1) (p' + 1) (by omega) (hS.sub (i := 1) (by omega)) (by rw [show p + 1 + n = p + (n + 1) by omega, show p' + 1 + n = p' + (n + 1) by omega]; exact hC)]
      omega
theorem ds_shift {s s' : ByteArray} {n p p' e : Nat} (h : J.ds s p 0 = (p + n, e)) (hS : Sh s p s' p' n) (hC : J.pk s (p + n) = J.pk s' (p' + n) ∨ J.dgt (J.pk s' (p' + n)) = false) : J.ds s' p' 0 = (p' + n, e) := by
  unfold J.ds at *
  rw [if_pos rfl] at *
  have h1 := congrArg Prod.fst h
  have h2 := congrArg Prod.snd h
  simp only at h1 h2
  rw [dg_shift n p p' h1 hS hC, ← h2, h1]
  congr 1
  by_cases e : n = 0
  · rw [if_pos (by omega), if_pos (by omega)]
  · rw [if_neg (by omega), if_neg (by omega)]
/-- a byte with which no number goes on -/
def st1 (c : Nat) : Prop := J.dgt c = false ∧ ¬ c = 46 ∧ ¬ c = 101 ∧ ¬ c = 69 ∧ ¬ c = 43 ∧ ¬ c = 45 ∧ ¬ c = 48
def C1 (s : ByteArray) (q : Nat) (s' : ByteArray) (q' : Nat) : Prop := J.pk s q = J.pk s' q' ∨ st1 (J.pk s' q')
theorem Sh.look {s s' : ByteArray} {p p' n i c : Nat} (hS : Sh s p s' p' n) (hC : C1 s (p + n) s' (p' + n)) (hi : i ≤ n) (h : J.is s (p + i) 0 c = true → i < n) (hc : c = 46 ∨ c = 101 ∨ c = 69 ∨ c = 43 ∨ c = 45 ∨ c = 48) : J.is s' (p' + i) 0 c = J.is s (p + i) 0 c := by
  have hc0 : 0 < c := by omega
  rw [is_pk hc0] at h ⊢
  rw [is_pk hc0]
  by_cases e : i < n
  · rw [hS.pk e]
  · obtain rfl : i = n := by omega
    have h1 : ¬ J.pk s (p + i) = c := fun e2 => e (h (decide_eq_true e2))
    rw [decide_eq_false h1]
    refine decide_eq_false ?_
    rcases hC with h2 | h2
    · rw [← h2]; exact h1
    · obtain ⟨_, a1, a2, a3, a4, a5, a6⟩ := h2
      rcases hc with rfl | rfl | rfl | rfl | rfl | rfl <;> assumption
theorem C1.dgt {s s' : ByteArray} {q q' : Nat} (h : C1 s q s' q') : J.pk s q = J.pk s' q' ∨ J.dgt (J.pk s' q') = false := h.imp_right fun x => x.1
theorem C1.at {s s' : ByteArray} {p p' n i : Nat} (hS : Sh s p s' p' n) (hC : C1 s (p + n) s' (p' + n)) (hi : i ≤ n) : C1 s (p + i) s' (p' + i) := by
  by_cases e : i < n
  · exact .inl (hS.pk e)
  · obtain rfl : i = n := by omega
    exact hC
theorem is_lt {s : ByteArray} {p c : Nat} (h : J.is s p 0 c = true) : p < s.size := (J.of_is h).2.1
theorem n2_shift {s s' : ByteArray} {n p p' e : Nat} (h : J.n2 s p 0 = (p + n, e)) (hS : Sh s p s' p' n) (hC : C1 s (p + n) s' (p' + n)) : J.n2 s' p' 0 = (p' + n, e) := by
  unfold J.n2 at *
  have hl := hS.look (i := 0) (c := 48) hC (Nat.zero_le _) (fun e2 => by rw [Nat.add_zero] at e2; rw [if_pos e2] at h; have := congrArg Prod.fst h; simp only at this; omega) (by decide)
  rw [Nat.add_zero, Nat.add_zero] at hl
  rw [hl]
  cases hb : J.is s p 0 48
  · rw [if_neg (by rw [hb]; decide)] at h
    rw [if_neg (by decide)]
    exact ds_shift h hS hC.dgt
  · rw [if_pos hb] at h
    rw [if_pos rfl]
    have h1 := congrArg Prod.fst h
    have h2 := congrArg Prod.snd h
    simp only at h1 h2
    rw [← h2, show n = 1 by omega]
theorem ds_err {s : ByteArray} {p e : Nat} : (J.ds s p e).2 = e ∨ (J.ds s p e).2 = 30 := by
  unfold J.ds
  split
  · rename_i h
    subst h
    show (if _ then _ else _) = _ ∨ (if _ then _ else _) = _
    split
    · exact .inr rfl
    · exact .inl rfl
  · exact .inl rfl
theorem n3_shift {s s' : ByteArray} {n p p' e e0 : Nat} (h : J.n3 s (p, e0) = (p + n, e)) (hS : Sh s p s' p' n) (hC : C1 s (p + n) s' (p' + n)) : J.n3 s' (p', e0) = (p' + n, e) := by
  by_cases he : e0 = 0
  · subst he
    unfold J.n3 at *
    simp only at h ⊢
    have hle : ∀ hh : J.is s p 0 46 = true, p + 1 ≤ (J.ds s (p + 1) 0).1 := fun hh => (J.ds_le 0 (is_lt hh)).1
    have hl := hS.look (i := 0) (c := 46) hC (Nat.zero_le _) (fun e2 => by rw [Nat.add_zero] at e2; rw [if_pos e2] at h; have h1 := congrArg Prod.fst h; have := hle e2; simp only at h1; omega) (by decide)
    rw [Nat.add_zero, Nat.add_zero] at hl
    rw [hl]
    cases hb : J.is s p 0 46
    · rw [if_neg (by rw [hb]; decide)] at h
      rw [if_neg (by decide)]
      have h1 := congrArg Prod.fst h
      have h2 := congrArg Prod.snd h
      simp only at h1 h2
      rw [← h2, show n = 0 by omega]; rfl
    · rw [if_pos hb] at h
      rw [if_pos rfl]
      have h1 := congrArg Prod.fst h
      have := hle hb
      simp only at h1
      obtain ⟨m, rfl⟩ : ∃ m, n = 1 + m := ⟨n - 1, by omega⟩
      rw [show p + (1 + m) = p + 1 + m by omega, show p' + (1 + m) = p' + 1 + m by omega] at *
      exact ds_shift h (hS.sub (i := 1) (by omega)) hC.dgt
  · have hw : ∀ t q, J.n3 t (q, e0) = (q, e0) := fun t q => by unfold J.n3; rw [if_neg (by rw [J.is_wrong q 46 he]; decide)]
    rw [hw] at h ⊢
    have h1 := congrArg Prod.fst h
    have h2 := congrArg Prod.snd h
    simp only at h1 h2
    rw [← h2, show n = 0 by omega]; rfl
theorem n4_shift {s s' : ByteArray} {n p p' e e0 : Nat} (h : J.n4 s (p, e0) = (p + n, e)) (hS : Sh s p s' p' n) (hC : C1 s (p + n) s' (p' + n)) : J.n4 s' (p', e0) = (p' + n, e) := by
  by_cases he : e0 = 0
  · subst he
    unfold J.n4 at *
    simp only at h ⊢
    have hle : ∀ hh : (J.is s p 0 101 || J.is s p 0 69) = true, p + 1 ≤ J.sg s (p + 1) 0 ∧ J.sg s (p + 1) 0 ≤ (J.ds s (J.sg s (p + 1) 0) 0).1 := fun hh =>
      ⟨(J.sg_le 0 (J.is2_lt hh)).1, (J.ds_le 0 (J.sg_le 0 (J.is2_lt hh)).2).1⟩
    have hpos : ∀ hh : (J.is s p 0 101 || J.is s p 0 69) = true, 0 < n := fun hh => by rw [if_pos hh] at h; have h1 := congrArg Prod.fst h; have := hle hh; simp only at h1; omega
    have hl1 := hS.look (i := 0) (c := 101) hC (Nat.zero_le _) (fun e2 => hpos (by rw [Nat.add_zero] at e2; rw [e2]; rfl)) (by decide)
    have hl2 := hS.look (i := 0) (c := 69) hC (Nat.zero_le _) (fun e2 => hpos (by rw [Nat.add_zero] at e2; rw [e2, Bool.or_true])) (by decide)
    rw [Nat.add_zero, Nat.add_zero] at hl1 hl2
    rw [hl1, hl2]
    cases hb : (J.is s p 0 101 || J.is s p 0 69)
    · rw [if_neg (by rw [hb]; decide)] at h
      rw [if_neg (by decide)]
      have h1 := congrArg Prod.fst h
      have h2 := congrArg Prod.snd h
      simp only at h1 h2
      rw [← h2, show n = 0 by omega]; rfl
    · rw [if_pos hb] at h
      rw [if_pos rfl]
      have h1 := congrArg Prod.fst h
      have h3 := hle hb
      simp only at h1
      obtain ⟨m, rfl⟩ : ∃ m, n = 1 + m := ⟨n - 1, by omega⟩
      have hS1 := hS.sub (i := 1) (m := m) (by omega)
      rw [show p + (1 + m) = p + 1 + m by omega, show p' + (1 + m) = p' + 1 + m by omega] at *
      have hgo : ∀ hh : (J.is s (p + 1) 0 43 || J.is s (p + 1) 0 45) = true, 0 < m := fun hh => by
        have : J.sg s (p + 1) 0 = p + 1 + 1 := if_pos hh
        omega
      have hl3 := hS1.look (i := 0) (c := 43) hC (Nat.zero_le _) (fun e2 => hgo (by rw [Nat.add_zero] at e2; rw [e2]; rfl)) (by decide)
      have hl4 := hS1.look (i := 0) (c := 45) hC (Nat.zero_le _) (fun e2 => hgo (by rw [Nat.add_zero] at e2; rw [e2, Bool.or_true])) (by decide)
      rw [Nat.add_zero, Nat.add_zero] at hl3 hl4
      cases hg : (J.is s (p + 1) 0 43 || J.is s (p + 1) 0 45)
      · have e1 : J.sg s (p + 1) 0 = p + 1 := if_neg (by rw [hg]; decide)
        have e2 : J.sg s' (p' + 1) 0 = p' + 1 := if_neg (by rw [hl3, hl4, hg]; decide)
        rw [e1] at h
        rw [e2]
        exact ds_shift h hS1 hC.dgt
      · have e1 : J.sg s (p + 1) 0 = p + 1 + 1 := if_pos hg
        have e2 : J.sg s' (p' + 1) 0 = p' + 1 + 1 := if_pos (by rw [hl3, hl4, hg])
        have := hgo hg
        obtain ⟨k, rfl⟩ : ∃ k, m = 1 + k := ⟨m - 1, by omega⟩
        rw [e1] at h
        rw [e2]
        rw [show p + 1 + (1 + k) = p + 1 + 1 + k by omega, show p' + 1 + (1 + k) = p' + 1 + 1 + k by omega] at *
        exact ds_shift h (hS1.sub (i := 1) (by omega)) hC.dgt
  · have hw : ∀ t q, J.n4 t (q, e0) = (q, e0) := fun t q => by unfold J.n4; rw [if_neg (by rw [J.is_wrong q 101 he, J.is_wrong q 69 he]; decide)]
    rw [hw] at h ⊢
    have h1 := congrArg Prod.fst h
    have h2 := congrArg Prod.snd h
    simp only at h1 h2
    rw [← h2, show n = 0 by omega]; rfl
/-- numbers -/
theorem nm_shift {s s' : ByteArray} {n p p' e : Nat} (h : J.nm s p 0 = (p + n, e)) (hS : Sh s p s' p' n) (hC : C1 s (p + n) s' (p' + n)) : J.nm s' p' 0 = (p' + n, e) := by
  have hp : p ≤ s.size := by have := hS.1; omega
  have b1 := J.bp_le (s := s) 0 45 hp
  have b2 := J.n2_le (s := s) 0 b1.2
  have b3 := J.n3_le (s := s) b2.2
  have b4 := J.n4_le (s := s) b3.2
  unfold J.nm at *
  rw [h] at b4
  simp only at b4
  have hl := hS.look (i := 0) (c := 45) hC (Nat.zero_le _) (fun e2 => by rw [Nat.add_zero] at e2; have : J.bp s p 0 45 = p + 1 := J.bp_yes e2; omega) (by decide)
  rw [Nat.add_zero, Nat.add_zero] at hl
  obtain ⟨i1, e1, hi1⟩ : ∃ i, J.bp s p 0 45 = p + i ∧ J.bp s' p' 0 45 = p' + i := by
    cases hb : J.is s p 0 45
    · exact ⟨0, J.bp_no hb, J.bp_no (by rw [hl, hb])⟩
    · exact ⟨1, J.bp_yes hb, J.bp_yes (by rw [hl, hb])⟩
  rw [e1] at b1 b2 b3 b4 h
  rw [hi1]
  generalize hx2 : J.n2 s (p + i1) 0 = x2 at *
  obtain ⟨i2, e2⟩ : ∃ i, x2.1 = p + i1 + i := ⟨x2.1 - (p + i1), by omega⟩
  have hx2' : x2 = (p + i1 + i2, x2.2) := by rw [← e2]
  generalize hx3 : J.n3 s x2 = x3 at *
  obtain ⟨i3, e3⟩ : ∃ i, x3.1 = p + (i1 + i2) + i := ⟨x3.1 - (p + (i1 + i2)), by omega⟩
  have hx3' : x3 = (p + (i1 + i2) + i3, x3.2) := by rw [← e3]
  obtain ⟨i4, e4⟩ : ∃ i, n = i1 + i2 + i3 + i := ⟨n - (i1 + i2 + i3), by omega⟩
  have r2 := n2_shift (n := i2) (p' := p' + i1) (hx2.trans hx2') (hS.sub (i := i1) (by omega)) (by have := C1.at (i := i1 + i2) hS hC (by omega); rwa [← Nat.add_assoc, ← Nat.add_assoc] at this)
  rw [r2]
  rw [hx2'] at hx3
  rw [show p + i1 + i2 = p + (i1 + i2) by omega] at hx3
  have r3 := n3_shift (n := i3) (p' := p' + (i1 + i2)) (hx3.trans hx3') (hS.sub (i := i1 + i2) (by omega)) (by have := C1.at (i := i1 + i2 + i3) hS hC (by omega); rwa [show p + (i1 + i2 + i3) = p + (i1 + i2) + i3 by omega, show p' + (i1 + i2 + i3) = p' + (i1 + i2) + i3 by omega] at this)
  rw [show p' + i1 + i2 = p' + (i1 + i2) by omega, r3]
  rw [hx3'] at h
  rw [show p + (i1 + i2) + i3 = p + (i1 + i2 + i3) by omega] at h
  have r4 := n4_shift (n := i4) (p' := p' + (i1 + i2 + i3)) (h.trans (by rw [e4]; congr 1; omega)) (hS.sub (i := i1 + i2 + i3) (by omega)) (by rw [show p + (i1 + i2 + i3) + i4 = p + n by omega, show p' + (i1 + i2 + i3) + i4 = p' + n by omega]; exact hC)
  rw [show p' + (i1 + i2) + i3 = p' + (i1 + i2 + i3) by omega, r4]
  congr 1
  omega
theorem nm_err {s : ByteArray} {p : Nat} : (J.nm s p 0).2 = 0 ∨ (J.nm s p 0).2 = 30 := by
  unfold J.nm J.n4
  have h3 : (J.n3 s (J.n2 s (J.bp s p 0 45) 0)).2 = 0 ∨ (J.n3 s (J.n2 s (J.bp s p 0 45) 0)).2 = 30 := by
    unfold J.n3
    have h2 : (J.n2 s (J.bp s p 0 45) 0).2 = 0 ∨ (J.n2 s (J.bp s p 0 45) 0).2 = 30 := by
      unfold J.n2
      split
      · exact .inl rfl
      · exact ds_err
    split
    · rcases h2 with h2 | h2
      · rw [h2]; exact ds_err
      · rcases ds_err (s := s) (p := (J.n2 s (J.bp s p 0 45) 0).1 + 1) (e := (J.n2 s (J.bp s p 0 45) 0).2) with h | h
        · exact .inr (h.trans h2)
        · exact .inr h
    · exact h2
  split
  · rcases ds_err (s := s) (p := J.sg s ((J.n3 s (J.n2 s (J.bp s p 0 45) 0)).1 + 1) (J.n3 s (J.n2 s (J.bp s p 0 45) 0)).2) (e := (J.n3 s (J.n2 s (J.bp s p 0 45) 0)).2) with h | h
    · rw [h]; exact h3
    · exact .inr h
  · exact h3
end Go.Proofs.YtoolkaahjmnjeaaGreatDoor
