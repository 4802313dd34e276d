/- A string of JSON: the document's reading and the program's come to the same: pure. Conditions: none. -/
import Derived.Test.YtbdpghmpdghnbaaDoorMJ29
import Derived.Test.YtbdpghmpdghnbaaDoorMJ19
import Derived.Test.YtbdpghmpdghnbaaDoorMJ12
namespace Go.Proofs.YtbdpghmpdghnbaaDoor
open Go

theorem enc_snoc (L : List Nat) (c : Nat) : enc (L ++ [c]) = enc L ++ Utf8.encode (c : Int) := by
  unfold enc runesBytes
  rw [List.map_append, List.foldl_append]
  rfl
theorem enc_nil : enc [] = ⟨#[]⟩ := rfl
theorem enc_sur {c : Nat} (h : 55296 ≤ c ∧ c ≤ 57343) : Utf8.encode (c : Int) = J.fffd := by
  have hv : Utf8.valid (c : Int) = false := by
    unfold Utf8.valid
    simp only [Bool.or_eq_false_iff, Bool.and_eq_false_iff, decide_eq_false_iff_not]
    omega
  unfold Utf8.encode
  rw [hv]
  simp only [Bool.false_eq_true, if_false]
  decide +kernel
/-- how what is written so far stands to the runes so far -/
def Ht (out : ByteArray) (high : Nat) (L : List Nat) : Prop :=
  (high = 0 ∧ out = enc L ∧ ∀ l a, L = l ++ [a] → ¬ hig a) ∨ (0 < high ∧ hig high ∧ ∃ l, L = l ++ [high] ∧ out = enc l)
theorem Ht.fl {out : ByteArray} {high : Nat} {L : List Nat} (h : Ht out high L) : J.fl out high = enc L := by
  rcases h with ⟨h0, h1, _⟩ | ⟨h0, h1, l, rfl, rfl⟩
  · unfold J.fl; rw [if_neg (by omega), h1]
  · unfold J.fl; rw [if_pos h0, enc_snoc, enc_sur (by unfold hig at h1; omega)]
theorem joi_flat {L : List Nat} {c : Nat} (h : ∀ l a, L = l ++ [a] → ¬ (hig a ∧ low c)) : joi L c = L ++ [c] := by
  rcases List.eq_nil_or_concat L with rfl | ⟨l, a, rfl⟩
  · rfl
  · rw [List.concat_eq_append] at *
    exact joi_no (h l a rfl)
set_option maxRecDepth 100000 in
/-- one piece: a unit -/
theorem Ht.unit {out : ByteArray} {high : Nat} {L : List Nat} (h : Ht out high L) (c : Nat) (m : ByteArray) : Ht (J.ad out high (c : Int) m).1 (J.ad out high (c : Int) m).2 (joi L c) := by
  by_cases hj : 0 < high ∧ (56320 : Int) ≤ (c : Int) ∧ (c : Int) ≤ 57343
  · have hlow : low c := by unfold low; omega
    rcases h with ⟨h0, _⟩ | ⟨h0, h1, l, rfl, rfl⟩
    · omega
    · have e : J.ad (enc l) high (c : Int) m = (enc l ++ Utf8.encode (65536 + ((high : Int) - 55296) * 1024 + c - 56320), 0) := by unfold J.ad; rw [if_pos hj]
      rw [e, joi_yes ⟨h1, hlow⟩]
      unfold hig at h1
      unfold low at hlow
      refine .inl ⟨rfl, ?_, fun l' a e' => ?_⟩
      · rw [enc_snoc]
        simp only
        congr 2
        omega
      · have hz : 65536 + (high - 55296) * 1024 + (c - 56320) = a := List.head_eq_of_cons_eq (List.append_inj_right' e' (by simp))
        unfold hig; omega
  · have hfl := h.fl
    have hno : ∀ l a, L = l ++ [a] → ¬ (hig a ∧ low c) := fun l a e ⟨h1, h2⟩ => by
      rcases h with ⟨_, _, h3⟩ | ⟨h0, _, l', e', _⟩
      · exact h3 l a e h1
      · unfold low at h2
        exact hj ⟨h0, by omega, by omega⟩
    rw [joi_flat hno]
    by_cases h1 : (55296 : Int) ≤ (c : Int) ∧ (c : Int) ≤ 56319
    · have e : J.ad out high (c : Int) m = (J.fl out high, c) := by
        unfold J.ad; rw [if_neg hj, if_neg (by omega), if_pos h1]; rfl
      rw [e, hfl]
      exact .inr ⟨by show 0 < c; omega, by show hig c; unfold hig; omega, L, rfl, rfl⟩
    · have key : (J.ad out high (c : Int) m) = (enc L ++ Utf8.encode (c : Int), 0) := by
        unfold J.ad
        rw [if_neg hj, if_neg (by omega), if_neg h1, hfl]
        by_cases h2 : (56320 : Int) ≤ (c : Int) ∧ (c : Int) ≤ 57343
        · rw [if_pos h2, enc_sur (by omega)]
        · rw [if_neg h2]
      rw [key]
      refine .inl ⟨rfl, (enc_snoc L c).symm, fun l' a e' => ?_⟩
      have := (List.cons.inj (List.append_inj_right' e' rfl)).1
      rw [← this]; unfold hig; omega
/-- one piece: a character -/
theorem Ht.char {out : ByteArray} {high : Nat} {L : List Nat} (h : Ht out high L) (c : Nat) (m : ByteArray) (hs : c < 55296 ∨ 57344 ≤ c) (hm : Utf8.encode (c : Int) = m) : Ht (J.ad out high (-1) m).1 (J.ad out high (-1) m).2 (joi L c) := by
  have e : J.ad out high (-1) m = (J.fl out high ++ m, 0) := by
    unfold J.ad; rw [if_neg (by omega), if_pos (by decide)]
  rw [e, h.fl, joi_flat (fun l a _ hh => by have := hh.2; unfold low at this; omega)]
  refine .inl ⟨rfl, by rw [enc_snoc, hm], fun l' a e' => ?_⟩
  have := (List.cons.inj (List.append_inj_right' e' rfl)).1
  rw [← this]; unfold hig; omega
theorem list_eq8 {s t : ByteArray} (h : s.toList = t.toList) : s = t := by
  rw [Lib.toList_data, Lib.toList_data] at h
  exact ByteArray.ext (Array.toList_inj.1 h)
theorem ch_hi (s : ByteArray) (p : Nat) (h : 32 ≤ (s.get! p).toNat) : 32 ≤ U.ch s p := by
  by_cases ha : (s.get! p).toNat < 128
  · rw [(U.next_ascii s p ha).1]; exact h
  · rw [U.ch_eq]
    generalize (s.get! p).toNat = b0 at *
    unfold Lib.decodeN
    repeat' split
    all_goals (simp only at *; omega)
theorem ch_lo (s : ByteArray) (p : Nat) (h : ¬ 32 ≤ (s.get! p).toNat) : ¬ 32 ≤ U.ch s p := by
  rw [(U.next_ascii s p (by omega)).1]; exact h
/-- the strings' readings are the same -/
theorem tx_ptx (s : ByteArray) : ∀ (f q : Nat) (out : ByteArray) (high : Nat) (L : List Nat), Ht out high L → (J.tx s f q out high).2 = (ptx s f q L).2 ∧ ((ptx s f q L).2.2 = 0 → (J.tx s f q out high).1 = enc (ptx s f q L).1)
  | 0, q, out, high, L, _ => ⟨rfl, fun h => by cases h⟩
  | f + 1, q, out, high, L, h => by
    by_cases hlow : q < s.size ∧ 32 ≤ (s.get! q).toNat
    · obtain ⟨hq, h32⟩ := hlow
      by_cases h34 : (s.get! q).toNat = 34
      · rw [J.tx_end hq h34]
        unfold ptx
        rw [if_pos (J.is_yes hq h34)]
        exact ⟨rfl, fun _ => h.fl⟩
      · have n34 : J.is s q 0 34 = false := J.is_other 0 h34
        have e2 : ptx s (f + 1) q L = if (cr s q).2.2 = 0 then ptx s f (cr s q).2.1 (joi L (cr s q).1) else ([], (cr s q).2) := by
          conv => lhs; unfold ptx
          rw [if_neg (by rw [n34]; decide)]
        by_cases h92 : (s.get! q).toNat = 92
        · rw [J.tx_go hq h32 h34 (fun x => absurd h92 x), e2]
          have hck : J.ck s q = (((J.es s (q + 1)).1 : Int), (⟨#[]⟩ : ByteArray), (J.es s (q + 1)).2.1, (J.es s (q + 1)).2.2) := by unfold J.ck; rw [if_pos h92]
          have hcr : cr s q = J.es s (q + 1) := by unfold cr; rw [if_pos (J.is_yes hq h92)]
          rw [hck, hcr]
          simp only
          by_cases he : (J.es s (q + 1)).2.2 = 0
          · rw [if_pos he, if_pos he]
            exact tx_ptx s f _ _ _ _ (h.unit _ _)
          · rw [if_neg he, if_neg he]
            exact ⟨rfl, fun hh => absurd hh he⟩
        · have n92 : J.is s q 0 92 = false := J.is_other 0 h92
          cases hb : U.bad s q
          · have hck : J.ck s q = (-1, s.extract q (q + U.wd s q), q + U.wd s q, 0) := by unfold J.ck; rw [if_neg h92]
            have hcr : cr s q = (U.ch s q, q + U.wd s q, 0) := by unfold cr; rw [if_neg (by rw [n92]; decide), if_pos ⟨hq, hb, ch_hi s q h32⟩]
            rw [J.tx_go hq h32 h34 (fun _ => hb), e2, hck, hcr]
            simp only
            rw [if_pos trivial, if_pos trivial]
            exact tx_ptx s f _ _ _ _ (h.char _ _ (by rw [U.ch_eq]; exact U.dn_sur _ _ _ _ _) (list_eq8 (U.enc_good s q hq hb)))
          · have hcr : cr s q = (0, q, 30) := by unfold cr; rw [if_neg (by rw [n92]; decide), if_neg (fun x => by rw [hb] at x; cases x.2.1)]
            rw [J.tx_bad hq h32 h34 h92 hb, e2, hcr]
            exact ⟨rfl, fun hh => by cases hh⟩
    · have n34 : J.is s q 0 34 = false := by
        by_cases hq : q < s.size
        · exact J.is_other 0 (fun e => hlow ⟨hq, by omega⟩)
        · exact J.is_no_end 0 34 hq
      have n92 : J.is s q 0 92 = false := by
        by_cases hq : q < s.size
        · exact J.is_other 0 (fun e => hlow ⟨hq, by omega⟩)
        · exact J.is_no_end 0 92 hq
      have hcr : cr s q = (0, q, 30) := by
        unfold cr
        rw [if_neg (by rw [n92]; decide), if_neg (fun x => ch_lo s q (fun hh => hlow ⟨x.1, hh⟩) x.2.2)]
      rw [J.tx_low hlow]
      have e2 : ptx s (f + 1) q L = ([], q, 30) := by
        conv => lhs; unfold ptx
        rw [if_neg (by rw [n34]; decide), hcr]; rfl
      rw [e2]
      exact ⟨rfl, fun hh => by cases hh⟩
theorem tw_ptw (s : ByteArray) (p : Nat) : (J.tw s p).2 = (ptw s p).2 ∧ ((ptw s p).2.2 = 0 → (J.tw s p).1 = enc (ptw s p).1) := by
  unfold J.tw ptw
  by_cases h : J.is s p 0 34 = true
  · rw [if_pos h, if_pos h]
    exact tx_ptx s _ _ _ _ _ (.inl ⟨rfl, rfl, fun l a e => by simp at e⟩)
  · rw [if_neg h, if_neg h]
    exact ⟨rfl, fun hh => by cases hh⟩
end Go.Proofs.YtbdpghmpdghnbaaDoor
