/- The scanner: when a string is a name; a run from a place within a string: pure. Conditions: none. -/
import Derived.Test.YteccfoiegjhppaaDfMath
import Derived.Test.YteccfoiegjhppaaUtfMathB
namespace Go.Proofs.Yteccfoiegjhppaa.D
open Go U

theorem stp_7 {c : Nat} (hc : c < 24) : stp 7 c = if c = 3 ∨ c = 4 then 7 else -1 := by
  have : ∀ c : Fin 24, stp 7 c.1 = if c.1 = 3 ∨ c.1 = 4 then 7 else -1 := by decide +kernel
  exact this ⟨c, hc⟩
theorem stp_to7 {q c : Nat} (hq : q < 35) (hc : c < 24) (h : stp q c = 7) : (q = 0 ∧ c = 3) ∨ q = 7 := by
  have : ∀ (q : Fin 35) (c : Fin 24), stp q.1 c.1 = 7 → (q.1 = 0 ∧ c.1 = 3) ∨ q.1 = 7 := by decide +kernel
  exact this ⟨q, hq⟩ ⟨c, hc⟩ h
theorem bl_7 : ∀ (l : List UInt8) (q : Nat), q < 35 → q ≠ 0 → (bl q l).1 = 7 → q = 7
  | [], q, _, _, h => h
  | b :: r, q, hq, h0, h => by
    by_cases hs : stp q (cls b.toNat) < 0
    · rw [bl_stop hs] at h; exact h
    · rw [bl_go hs] at h
      have hin := stp_in hq (cls_lt b.toNat)
      have hpos := stp_pos hq (cls_lt b.toNat) (by omega)
      have := bl_7 r _ (by omega) (by omega) h
      rcases stp_to7 hq (cls_lt b.toNat) (by omega) with h1 | h1
      · exact absurd h1.1 h0
      · exact h1
/-- a letter's class or a digit's -/
def LD (b : UInt8) : Prop := cls b.toNat = 3 ∨ cls b.toNat = 4
instance (b : UInt8) : Decidable (LD b) := by unfold LD; infer_instance
theorem bl_name : ∀ (l : List UInt8), (bl 7 l).1 = 7 ∧ ((bl 7 l).2 = l.length ↔ ∀ b ∈ l, LD b)
  | [] => ⟨rfl, by simp [bl]⟩
  | b :: r => by
    have ih := bl_name r
    have hs := stp_7 (cls_lt b.toNat)
    by_cases h : LD b
    · have h' := h
      unfold LD at h'
      rw [if_pos h'] at hs
      rw [bl_go (by omega), hs]
      refine ⟨ih.1, ?_⟩
      simp only [List.length_cons, List.mem_cons, forall_eq_or_imp]
      exact ⟨fun e => ⟨h, ih.2.1 (by exact Nat.succ.inj e)⟩, fun e => congrArg (· + 1) (ih.2.2 e.2)⟩
    · have h' := h
      unfold LD at h'
      rw [if_neg h'] at hs
      rw [bl_stop (by omega)]
      exact ⟨rfl, ⟨fun e => by simp at e, fun e => absurd (e b (by simp)) h⟩⟩
/-- a name -/
def Nm (s : ByteArray) : Prop := 0 < s.size ∧ ∀ j, j < s.size → LD (s.get! j) ∧ ¬ (j = 0 ∧ cls (s.get! j).toNat = 4)
theorem mem_list {s : ByteArray} {P : UInt8 → Prop} : (∀ b ∈ s.data.toList, P b) ↔ ∀ j, j < s.size → P (s.get! j) := by
  constructor
  · intro h j hj
    rw [at_get hj]
    exact h _ (by rw [show s[j] = s.data.toList[j]'(by simpa using hj) from rfl]; exact List.getElem_mem _)
  · intro h b hb
    obtain ⟨j, hj, rfl⟩ := List.getElem_of_mem hb
    have hj' : j < s.size := by simpa using hj
    have := h j hj'
    rw [at_get hj'] at this
    exact this
theorem nm_iff (s : ByteArray) : ((run s).1 = 7 ∧ (run s).2 = s.size) ↔ Nm s := by
  by_cases h0 : 0 < s.size
  · by_cases hb : (s.get! 0).toNat < 128
    · rw [run_lo h0 hb]
      have hd := drop_at h0
      rw [List.drop_zero] at hd
      have hc := cls_lt (s.get! 0).toNat
      have hin := stp_in (show 0 < 35 by decide) hc
      have hpos := stp_0 hc
      have hlen : (s.data.toList.drop 1).length + 1 = s.size := by rw [List.length_drop]; simp; omega
      have hm : (∀ b ∈ s.data.toList, LD b) ↔ LD (s.get! 0) ∧ ∀ b ∈ s.data.toList.drop 1, LD b := by
        conv => lhs; rw [hd]
        simp only [List.mem_cons, forall_eq_or_imp]
      rw [hd, bl_go (by omega)]
      simp only
      by_cases h3 : cls (s.get! 0).toNat = 3
      · have e7 : stp 0 (cls (s.get! 0).toNat) = 7 := by rw [h3]; rfl
        rw [e7]
        have hn := bl_name (s.data.toList.drop (0 + 1))
        rw [Nat.zero_add] at hn ⊢
        constructor
        · intro h
          refine ⟨h0, fun j hj => ⟨?_, fun h2 => ?_⟩⟩
          · exact mem_list.1 (hm.2 ⟨Or.inl h3, hn.2.1 (by have := h.2; exact Nat.succ.inj (this.trans hlen.symm))⟩) j hj
          · rw [h2.1, h3] at h2; exact absurd h2.2 (by decide)
        · intro h
          refine ⟨hn.1, ?_⟩
          have := hn.2.2 (hm.1 (mem_list.2 fun j hj => (h.2 j hj).1)).2
          rw [show (7 : Int).toNat = 7 from rfl, this]
          exact hlen
      · constructor
        · intro h
          have h7 := bl_7 _ _ (by omega) (by omega) h.1
          rcases stp_to7 (show 0 < 35 by decide) hc (by omega) with h1 | h1
          · exact absurd h1.2 h3
          · cases h1
        · intro h
          have := (h.2 0 h0).1
          rcases this with h1 | h1
          · exact absurd h1 h3
          · exact absurd ⟨rfl, h1⟩ (h.2 0 h0).2
    · rw [run_hi h0 (by omega)]
      constructor
      · intro h; exact absurd h.1 (show ¬ 34 = 7 by decide)
      · intro h
        have := (h.2 0 h0).1
        unfold LD at this
        rw [cls_hi (by omega)] at this
        omega
  · constructor
    · intro h; rw [run_0 (by omega)] at h; exact absurd h.1 (by decide)
    · intro h; exact absurd h.1 h0
theorem cr_fuel (s : ByteArray) : ∀ f g q p, s.size ≤ p + f → s.size ≤ p + g → cr s f q p = cr s g q p
  | 0, g, q, p, hf, _ => by rw [cr_end s g q p (by omega)]; rfl
  | f + 1, g, q, p, hf, hg => by
    by_cases hp : p < s.size
    · obtain ⟨g', rfl⟩ : ∃ g', g = g' + 1 := ⟨g - 1, by omega⟩
      by_cases hs : stp q (cls (ch s p)) < 0
      · rw [cr_stop s _ q p hs, cr_stop s _ q p hs]
      · have := wd_pos hp
        rw [cr_step s f q p hp hs, cr_step s g' q p hp hs]
        exact cr_fuel s f g' _ _ (by omega) (by omega)
    · rw [cr_end s _ q p hp, cr_end s _ q p hp]
theorem ext_char (s : ByteArray) (k p : Nat) : ch (s.extract k s.size) p = ch s (k + p) ∧ wd (s.extract k s.size) p = wd s (k + p) := by
  have h1 := ext_decode (s.extract k s.size) p
  have h2 := ext_decode s (k + p)
  have e : (s.extract k s.size).extract p (s.extract k s.size).size = s.extract (k + p) s.size := by
    by_cases hk : k ≤ s.size
    · rw [ByteArray.extract_extract, ByteArray.size_extract]
      congr 1; omega
    · apply ByteArray.ext
      apply Array.ext
      · have h1 : ((s.extract k s.size).extract p (s.extract k s.size).size).size = 0 := by simp only [ByteArray.size_extract]; omega
        have h2 : (s.extract (k + p) s.size).size = 0 := by simp only [ByteArray.size_extract]; omega
        exact h1.trans h2.symm
      · intro i h3 _
        have h1 : ((s.extract k s.size).extract p (s.extract k s.size).size).size = 0 := by simp only [ByteArray.size_extract]; omega
        exact absurd (show i < ((s.extract k s.size).extract p (s.extract k s.size).size).size from h3) (by omega)
  rw [e] at h1
  unfold ch wd
  rw [← h1, h2]
  exact ⟨rfl, rfl⟩
theorem cr_ext (s : ByteArray) (k : Nat) (hk : k ≤ s.size) : ∀ f q p, cr (s.extract k s.size) f q p = ((cr s f q (k + p)).1, (cr s f q (k + p)).2 - k)
  | 0, q, p => by show (q, p) = (q, k + p - k); rw [Nat.add_sub_cancel_left]
  | f + 1, q, p => by
    have hz : (s.extract k s.size).size = s.size - k := by rw [ByteArray.size_extract]; omega
    have hc := ext_char s k p
    by_cases hp : p < (s.extract k s.size).size
    · by_cases hs : stp q (cls (ch s (k + p))) < 0
      · rw [cr_stop _ _ q p (by rw [hc.1]; exact hs), cr_stop s _ q (k + p) hs, Nat.add_sub_cancel_left]
      · rw [cr_step _ f q p hp (by rw [hc.1]; exact hs), cr_step s f q (k + p) (by omega) hs, hc.1, hc.2, cr_ext s k hk f _ _, Nat.add_assoc]
    · rw [cr_end _ _ q p hp, cr_end s _ q (k + p) (by omega), Nat.add_sub_cancel_left]
/-- the run from a place is that of the rest -/
theorem run_ext (s : ByteArray) (k : Nat) (hk : k ≤ s.size) (f : Nat) (hf : s.size ≤ k + f) : run (s.extract k s.size) = ((cr s f 0 k).1, (cr s f 0 k).2 - k) := by
  have hz : (s.extract k s.size).size = s.size - k := by rw [ByteArray.size_extract]; omega
  unfold run
  rw [cr_ext s k hk, Nat.add_zero, cr_fuel s _ f 0 k (by omega) hf]
theorem dn_one (n b0 b1 b2 b3 : Nat) (h0 : 128 ≤ b0) (hw : (Lib.decodeN n b0 b1 b2 b3).2 = 1) : (Lib.decodeN n b0 b1 b2 b3).1 = 65533 := by
  unfold Lib.decodeN at *
  repeat' split
  all_goals (simp only at *; try omega)
  all_goals (split at hw <;> (try split at hw) <;> (try split at hw) <;> simp_all <;> omega)
theorem bad_lone (s : ByteArray) (p : Nat) : bad s p = decide (wd s p = 1 ∧ 128 ≤ (s.get! p).toNat) := by
  by_cases h : (s.get! p).toNat < 128
  · rw [(next_ascii s p h).2.2]
    exact (decide_eq_false (by omega)).symm
  · unfold bad
    refine decide_eq_decide.2 ⟨fun e => ⟨e.2, by omega⟩, fun e => ⟨?_, e.1⟩⟩
    rw [ch_eq]
    exact dn_one _ _ _ _ _ e.2 (by rw [← wd_eq]; exact e.1)
theorem bl_take : ∀ (l : List UInt8) (q : Nat), bl q (l.take (bl q l).2) = bl q l
  | [], q => rfl
  | b :: r, q => by
    by_cases hs : stp q (cls b.toNat) < 0
    · rw [bl_stop hs]; rfl
    · rw [bl_go hs]
      simp only [List.take_succ_cons]
      rw [bl_go hs, bl_take r]
theorem ext_list (s : ByteArray) (p n : Nat) : (s.extract p n).data.toList = (s.data.toList.drop p).take (n - p) := by
  rw [ByteArray.data_extract, Array.toList_extract, List.extract_eq_take_drop]
theorem ext_get (s : ByteArray) (p n i : Nat) (hn : n ≤ s.size) (hi : p + i < n) : (s.extract p n).get! i = s.get! (p + i) := by
  rw [U.at_get (show i < (s.extract p n).size by rw [ByteArray.size_extract]; omega), U.at_get (show p + i < s.size by omega)]
  exact ByteArray.getElem_extract ..
end Go.Proofs.Yteccfoiegjhppaa.D
