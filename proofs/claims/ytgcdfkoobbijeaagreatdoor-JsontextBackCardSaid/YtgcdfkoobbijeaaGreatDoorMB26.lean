/- What a number's text is: the writer's test and the reader's own agree. Conditions: none. -/
import Derived.Test.YtgcdfkoobbijeaaGreatDoorMB03
import Derived.Test.YtgcdfkoobbijeaaGreatDoorMB25
namespace Go.Proofs.YtgcdfkoobbijeaaGreatDoor
open Go Go.RowKit Go.Lib

/-- the rest of a string from a place on -/
def suf (s : ByteArray) (p : Nat) : ByteArray := s.extract p s.size
theorem suf_size (s : ByteArray) (p : Nat) : (suf s p).size = s.size - p := by unfold suf; rw [ByteArray.size_extract]; omega
theorem suf_get {s : ByteArray} {p i : Nat} (h : p + i < s.size) : (suf s p).get! i = s.get! (p + i) := get_part h (Nat.le_refl _)
theorem suf_pk (s : ByteArray) (p i : Nat) : J.pk (suf s p) i = J.pk s (p + i) := by
  unfold J.pk
  by_cases h : p + i < s.size
  · rw [if_pos h, if_pos (by rw [suf_size]; omega), suf_get h]
  · rw [if_neg h, if_neg (by rw [suf_size]; omega)]
theorem suf_sk (s x : ByteArray) (p i : Nat) : J.sk (suf s p) x i = J.sk s x (p + i) := by unfold J.sk; rw [suf_pk]
theorem suf_list (s : ByteArray) (p : Nat) : suf s p = ⟨(s.data.toList.drop p).toArray⟩ := (drop_extract s p).symm
theorem suf_suf (s : ByteArray) (p i : Nat) : suf (suf s p) i = suf s (p + i) := by
  rw [suf_list, suf_list, suf_list]
  show (⟨((s.data.toList.drop p).drop i).toArray⟩ : ByteArray) = _
  rw [List.drop_drop]
theorem suf_zero (s : ByteArray) : suf s 0 = s := by rw [suf_list, List.drop_zero]
theorem suf_saF (s x : ByteArray) (p : Nat) : ∀ f q, p + J.saF (suf s p) x f q = J.saF s x f (p + q)
  | 0, _ => rfl
  | f + 1, q => by
    unfold J.saF
    rw [suf_sk]
    split
    · rw [suf_saF s x p f (q + 1)]; rfl
    · rfl
theorem suf_sa (s x : ByteArray) (p : Nat) : p + J.sa (suf s p) x 0 = J.sa s x p := by
  unfold J.sa
  rw [suf_saF, suf_size]
  rfl
theorem ca_suf (s x : ByteArray) (p : Nat) : caS (suf s p) x = if J.sk s x p = true then (suf s (p + 1), true) else (suf s p, false) := by
  have h := suf_sk s x p 0
  rw [Nat.add_zero] at h
  unfold caS
  rw [h]
  have e : (suf s p).extract 1 (suf s p).size = suf s (p + 1) := suf_suf s p 1
  rw [e]
theorem ca_yes {s x : ByteArray} {p : Nat} (h : J.sk s x p = true) : caS (suf s p) x = (suf s (p + 1), true) := by rw [ca_suf, if_pos h]
theorem ca_no {s x : ByteArray} {p : Nat} (h : J.sk s x p = false) : caS (suf s p) x = (suf s p, false) := by rw [ca_suf, if_neg (by rw [h]; decide)]
/-- the writer's cut at the reader's place -/
def cut2 (s : ByteArray) (x : Nat × Nat) : ByteArray × Bool := (suf s x.1, decide (x.2 = 0))
theorem cd_suf (s : ByteArray) (p : Nat) : cdS (suf s p) = cut2 s (J.ds s p 0) := by
  have h := suf_sa s J.dgs p
  rw [J.sa_dg s p] at h
  have e : cdS (suf s p) = (suf (suf s p) (J.sa (suf s p) J.dgs 0), decide (0 < J.sa (suf s p) J.dgs 0)) := rfl
  rw [e, suf_suf, h]
  unfold J.ds cut2
  rw [if_pos rfl]
  by_cases hd : J.dg s p = p
  · simp only [hd, if_true]
    rw [decide_eq_false (show ¬ 0 < J.sa (suf s p) J.dgs 0 by omega)]
    rfl
  · simp only [if_neg hd]
    rw [decide_eq_true (show 0 < J.sa (suf s p) J.dgs 0 by omega)]
    rfl
theorem sk45 (s : ByteArray) (p : Nat) : J.sk s c45 p = J.is s p 0 45 := J.sk_is p (by decide) am45
theorem sk46 (s : ByteArray) (p : Nat) : J.sk s c46 p = J.is s p 0 46 := J.sk_is p (by decide) am46
theorem am48 (c : Nat) : J.am c48 c = decide (c = 48) := J.am_one 48 c (by decide)
theorem sk48 (s : ByteArray) (p : Nat) : J.sk s c48 p = J.is s p 0 48 := J.sk_is p (by decide) am48
theorem skEe (s : ByteArray) (p : Nat) : J.sk s cEe p = (J.is s p 0 101 || J.is s p 0 69) := sk_two (a := 101) (b := 69) p (by decide) (by decide) (by decide) (by decide)
theorem skpm (s : ByteArray) (p : Nat) : J.sk s cpm p = (J.is s p 0 43 || J.is s p 0 45) := sk_two (a := 43) (b := 45) p (by decide) (by decide) (by decide) (by decide)
theorem ca_fst45 (s : ByteArray) (p : Nat) : (caS (suf s p) c45).1 = suf s (J.bp s p 0 45) := by
  cases h : J.is s p 0 45
  · rw [ca_no (by rw [sk45, h]), J.bp_no h]
  · rw [ca_yes (by rw [sk45, h]), J.bp_yes h]
theorem ca_fstpm (s : ByteArray) (p : Nat) : (caS (suf s p) cpm).1 = suf s (J.sg s p 0) := by
  unfold J.sg
  cases h : (J.is s p 0 43 || J.is s p 0 45)
  · rw [ca_no (by rw [skpm, h]), if_neg (by decide)]
  · rw [ca_yes (by rw [skpm, h]), if_pos rfl]
theorem ci_is (s : ByteArray) (p : Nat) : ciS (suf s p) = cut2 s (J.n2 s (J.bp s p 0 45) 0) := by
  unfold ciS
  rw [ca_fst45]
  generalize J.bp s p 0 45 = q
  unfold J.n2
  cases h : J.is s q 0 48
  · rw [ca_no (by rw [sk48, h]), if_neg Bool.false_ne_true, if_neg (by decide)]
    exact cd_suf s q
  · rw [ca_yes (by rw [sk48, h]), if_pos rfl, if_pos rfl]
    rfl
theorem n2_is (s : ByteArray) (x : Nat × Nat) : n2S (cut2 s x) = cut2 s (J.n3 s x) := by
  obtain ⟨q, e⟩ := x
  unfold n2S cut2 J.n3
  simp only
  by_cases he : e = 0
  · subst he
    cases h : J.is s q 0 46
    · rw [ca_no (by rw [sk46, h]), if_neg (by simp), if_neg (by decide)]
    · rw [ca_yes (by rw [sk46, h]), if_pos rfl]
      show cdS (suf s (q + 1)) = _
      exact cd_suf s (q + 1)
  · rw [decide_eq_false he, Bool.false_and, if_neg (by decide), J.is_wrong q 46 he, if_neg (by decide), decide_eq_false he]
theorem n3_is (s : ByteArray) (x : Nat × Nat) : n3S (cut2 s x) = cut2 s (J.n4 s x) := by
  obtain ⟨q, e⟩ := x
  unfold n3S cut2 J.n4
  simp only
  by_cases he : e = 0
  · subst he
    cases h : (J.is s q 0 101 || J.is s q 0 69)
    · rw [ca_no (by rw [skEe, h]), if_neg (by simp), if_neg (by decide)]
    · rw [ca_yes (by rw [skEe, h]), if_pos rfl]
      show cdS (caS (suf s (q + 1)) cpm).1 = _
      rw [ca_fstpm]
      exact cd_suf s _
  · rw [decide_eq_false he, Bool.false_and, if_neg (by decide), J.is_wrong q 101 he, J.is_wrong q 69 he, if_neg (by decide), decide_eq_false he]
theorem num_cut (x : ByteArray) : n3S (n2S (ciS x)) = cut2 x (J.nm x 0 0) := by
  have h := ci_is x 0
  rw [suf_zero] at h
  rw [h, n2_is, n3_is]
  rfl
/-- a number's text is read whole -/
theorem numS_iff (x : ByteArray) : numS x = true ↔ J.nm x 0 0 = (x.size, 0) := by
  have h := (J.nm_le (s := x) (p := 0) 0 (Nat.zero_le _)).2
  have e : numS x = (decide ((J.nm x 0 0).2 = 0) && decide (x.size - (J.nm x 0 0).1 = 0)) := by
    unfold numS
    rw [num_cut]
    unfold bothS cut2
    rw [suf_size]
  rw [e, Bool.and_eq_true, decide_eq_true_eq, decide_eq_true_eq]
  constructor
  · rintro ⟨h1, h2⟩
    exact Prod.ext (by show _ = x.size; omega) h1
  · intro h1
    rw [h1]
    exact ⟨rfl, by simp⟩
/-- its first byte -/
theorem nm_first {s : ByteArray} {p : Nat} (h : (J.nm s p 0).2 = 0) : J.pk s p = 45 ∨ J.dgt (J.pk s p) = true := by
  by_cases h45 : J.pk s p = 45
  · exact .inl h45
  · cases hd : J.dgt (J.pk s p)
    · exfalso
      have h1 : J.is s p 0 45 = false := by rw [is_pk (by decide)]; exact decide_eq_false h45
      have h2 : J.is s p 0 48 = false := by rw [is_pk (by decide)]; exact decide_eq_false (fun e => by rw [e] at hd; exact absurd hd (by decide))
      unfold J.nm at h
      rw [J.bp_no h1] at h
      unfold J.n2 at h
      rw [if_neg (by rw [h2]; decide), J.ds_none (dg_no hd), n_wrong] at h
      exact absurd h (show ¬ (30 : Nat) = 0 by decide)
    · exact .inr rfl
end Go.Proofs.YtgcdfkoobbijeaaGreatDoor
