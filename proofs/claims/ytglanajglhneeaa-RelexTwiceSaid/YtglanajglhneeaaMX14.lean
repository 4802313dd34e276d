/- The scanner: when a string is a name; a run from a place within a string: pure. Conditions: none. -/
import Derived.Test.YtglanajglhneeaaMX02
import Derived.Test.YtglanajglhneeaaMX01
namespace Go.Proofs.Ytglanajglhneeaa.D
open Go U

theorem stp_7 {c : Nat} (hc : c < 24) : stp 7 c = if c = 3 ∨ c = 4 then 7 else -1 := by
  have : ∀ c : Fin 24, stp 7 c.1 = if c.1 = 3 ∨ c.1 = 4 then 7 else -1 := by decide +kernel
  exact this ⟨c, hc⟩
theorem stp_to7 {q c : Nat} (hq : q < 35) (hc : c < 24) (h : stp q c = 7) : (q = 0 ∧ c = 3) ∨ q = 7 := by
  have : ∀ (q : Fin 35) (c : Fin 24), stp q.1 c.1 = 7 → (q.1 = 0 ∧ c.1 = 3) ∨ q.1 = 7 := by decide +kernel
  exact this ⟨q, hq⟩ ⟨c, hc⟩ h
theorem bl_7 : ∀ (l : List UInt8) (q : Nat), q < 35 → q ≠ 0 → (bl q l).1 = 7 → q = 7
  | [], q, _, _, h => h
  | b :: r, q, hq, h0, h => by
    by_cases hs : stp q (cls b.toNat) < 0
    · rw [bl_stop hs] at h; exact h
    · rw [bl_go hs] at h
      have hin := stp_in hq (cls_lt b.toNat)
      have hpos := stp_pos hq (cls_lt b.toNat) (by omega)
      have := bl_7 r _ (by omega) (by omega) h
      rcases stp_to7 hq (cls_lt b.toNat) (by omega) with h1 | h1
      · exact absurd h1.1 h0
      · exact h1
/-- a letter's class or a digit's -/
def LD (b : UInt8) : Prop := cls b.toNat = 3 ∨ cls b.toNat = 4
instance (b : UInt8) : Decidable (LD b) := by unfold LD; infer_instance
theorem bl_name : ∀ (l : List UInt8), (bl 7 l).1 = 7 ∧ ((bl 7 l).2 = l.length ↔ ∀ b ∈ l, LD b)
  | [] => ⟨rfl, by simp [bl]⟩
  | b :: r => by
    have ih := bl_name r
    have hs := stp_7 (cls_lt b.toNat)
    by_cases h : LD b
    · have h' := h
      unfold LD at h'
      rw [if_pos h'] at hs
      rw [bl_go (by omega), hs]
      refine ⟨ih.1, ?_⟩
      simp only [List.length_cons, List.mem_cons, forall_eq_or_imp]
      exact ⟨fun e => ⟨h, ih.2.1 (by exact Nat.succ.inj e)⟩, fun e => congrArg (· + 1) (ih.2.2 e.2)⟩
    · have h' := h
      unfold LD at h'
      rw [if_neg h'] at hs
      rw [bl_stop (by omega)]
      exact ⟨rfl, ⟨fun e => by simp at e, fun e => absurd (e b (by simp)) h⟩⟩
/-- a name -/
def Nm (s : ByteArray) : Prop := 0 < s.size ∧ ∀ j, j < s.size → LD (s.get! j) ∧ ¬ (j = 0 ∧ cls (s.get! j).toNat = 4)
theorem mem_list {s : ByteArray} {P : UInt8 → Prop} : (∀ b ∈ s.data.toList, P b) ↔ ∀ j, j < s.size → P (s.get! j) := by
  constructor
  · intro h j hj
    rw [at_get hj]
    exact h _ (by rw [show s[j] = s.data.toList[j]'(by simpa using hj) from rfl]; exact List.getElem_mem _)
  · intro h b hb
    obtain ⟨j, hj, rfl⟩ := List.getElem_of_mem hb
    have hj' : j < s.size := by simpa using hj
    have := h j hj'
    rw [at_get hj'] at this
    exact this
theorem nm_iff (s : ByteArray) : ((run s).1 = 7 ∧ (run s).2 = s.size) ↔ Nm s := by
  by_cases h0 : 0 < s.size
  · by_cases hb : (s.get! 0).toNat < 128
    · rw [run_lo h0 hb]
      have hd := drop_at h0
      rw [List.drop_zero] at hd
      have hc := cls_lt (s.get! 0).toNat
      have hin := stp_in (show 0 < 35 by decide) hc
      have hpos := stp_0 hc
      have hlen : (s.data.toList.drop 1).length + 1 = s.size := by rw [List.length_drop]; simp; omega
      have hm : (∀ b ∈ s.data.toList, LD b) ↔ LD (s.get! 0) ∧ ∀ b ∈ s.data.toList.drop 1, LD b := by
        conv => lhs; rw [hd]
        simp only [List.mem_cons, forall_eq_or_imp]
      rw [hd, bl_go (by omega)]
      simp only
      by_cases h3 : cls (s.get! 0).toNat = 3
      · have e7 : stp 0 (cls (s.get! 0).toNat) = 7 := by rw [h3]; rfl
        rw [e7]
        have hn := bl_name (s.data.toList.drop (0 + 1))
        rw [Nat.zero_add] at hn ⊢
        constructor
        · intro h
          refine ⟨h0, fun j hj => ⟨?_, fun h2 => ?_⟩⟩
          · exact mem_list.1 (hm.2 ⟨Or.inl h3, hn.2.1 (by have := h.2; exact Nat.succ.inj (this.trans hlen.symm))⟩) j hj
          · rw [h2.1, h3] at h2; exact absurd h2.2 (by decide)
        · intro h
          refine ⟨hn.1, ?_⟩
          have := hn.2.2 (hm.1 (mem_list.2 fun j hj => (h.2 j hj).1)).2
          rw [show (7 : Int).toNat = 7 from rfl, this]
          exact hlen
      · constructor
        · intro h
          have h7 := bl_7 _ _ (by omega) (by omega) h.1
          rcases stp_to7 (show 0 < 35 by decide) hc (by omega) with h1 | h1
          · exact absurd h1.2 h3
          · cases h1
        · intro h
          have := (h.2 0 h0).1
          rcases this with h1 | h1
          · exact absurd h1 h3
          · exact absurd ⟨rfl, h1⟩ (h.2 0 h0).2
    · rw [run_hi h0 (by omega)]
      constructor
      · intro h; exact absurd h.1 (show ¬ 34 = 7 by decide)
      · intro h
        have := (h.2 0 h0).1
        unfold LD at this
        rw [cls_hi (by omega)] at this
        omega
  · constructor
    · intro h; rw [run_0 (by omega)] at h; exact absurd h.1 (by decide)
    · intro h; exact absurd h.1 h0
theorem cr_fuel (s : ByteArray) : ∀ f g q p, s.size ≤ p + f → s.size ≤ p + g → cr s f q p = cr s g q p
  | 0, g, q, p, hf, _ => by rw [cr_end s g q p (by omega)]; rfl
  | f + 1, g, q, p, hf, hg => by
    by_cases hp : p < s.size
    · obtain ⟨g', rfl⟩ : ∃ g', g = g' + 1 := ⟨g - 1, by omega⟩
      by_cases hs : stp q (cls (ch s p)) < 0
      · rw [cr_stop s _ q p hs, cr_stop s _ q p hs]
      · have := wd_pos hp
        rw [cr_step s f q p hp hs, cr_step s g' q p hp hs]
        exact cr_fuel s f g' _ _ (by omega) (by omega)
    · rw [cr_end s _ q p hp, cr_end s _ q p hp]
theorem ext_char (s : ByteArray) (k p : Nat) : ch (s.extract k s.size) p = ch s (k + p) ∧ wd (s.extract k s.size) p = wd s (k + p) := by
  have h1 := ext_decode (s.extract k s.size) p
  have h2 := ext_decode s (k + p)
  have e : (s.extract k s.size).extract p (s.extract k s.size).size = s.extract (k + p) s.size := by
    by_cases hk : k ≤ s.size
    · rw [ByteArray.extract_extract, ByteArray.size_extract]
      congr 1; omega
    · apply ByteArray.ext
      apply Array.ext
      · have h1 : ((s.extract k s.size).extract p (s.extract k s.size).size).size = 0 := by simp only [ByteArray.size_extract]; omega
        have h2 : (s.extract (k + p) s.size).size = 0 := by simp only [ByteArray.size_extract]; omega
        exact h1.trans h2.symm
      · intro i h3 _
        have h1 : ((s.extract k s.size).extract p (s.extract k s.size).size).size = 0 := by simp only [ByteArray.size_extract]; omega
        exact absurd (show i < ((s.extract k s.size).extract p (s.extract k s.size).size).size from h3) (by omega)
  rw [e] at h1
  unfold ch wd
  rw [← h1, h2]
  exact ⟨rfl, rfl⟩
theorem cr_ext (s : ByteArray) (k : Nat) (hk : k ≤ s.size) : ∀ f q p, cr (s.extract k s.size) f q p = ((cr s f q (k + p)).1, (cr s f q (k + p)).2 - k)
  | 0, q, p => by show (q, p) = (q, k + p - k); rw [Nat.add_sub_cancel_left]
  | f + 1, q, p => by
    have hz : (s.extract k s.size).size = s.size - k := by rw [ByteArray.size_extract]; omega
    have hc := ext_char s k p
    by_cases hp : p < (s.extract k s.size).size
    · by_cases hs : stp q (cls (ch s (k + p))) < 0
      · rw [cr_stop _ _ q p (by rw [hc.1]; exact hs), cr_stop s _ q (k + p) hs, Nat.add_sub_cancel_left]
      · rw [cr_step _ f q p hp (by rw [hc.1]; exact hs), cr_step s f q (k + p) (by omega) hs, hc.1, hc.2, cr_ext s k hk f _ _, Nat.add_assoc]
    · rw [cr_end _ _ q p hp, cr_end s _ q (k + p) (by omega), Nat.add_sub_cancel_left]
/-- the run from a place is that of the rest -/
theorem run_ext (s : ByteArray) (k : Nat) (hk : k ≤ s.size) (f : Nat) (hf : s.size ≤ k + f) : run (s.extract k s.size) = ((cr s f 0 k).1, (cr s f 0 k).2 - k) := by
  have hz : (s.extract k s.size).size = s.size - k := by rw [ByteArray.size_extract]; omega
  unfold run
  rw [cr_ext s k hk, Nat.add_zero, cr_fuel s _ f 0 k (by omega) hf]
theorem dn_one (n b0 b1 b2 b3 : Nat) (h0 : 128 ≤ b0) (hw : (Lib.decodeN n b0 b1 b2 b3).2 = 1) : (Lib.decodeN n b0 b1 b2 b3).1 = 65533 := by
  unfold Lib.decodeN at *
  repeat' split
  all_goals (simp only at *; try omega)
  all_goals (split at hw <;> (try split at hw) <;> (try split at hw) <;> simp_all <;> omega)
theorem bad_lone (s : ByteArray) (p : Nat) : bad s p = decide (wd s p = 1 ∧ 128 ≤ (s.get! p).toNat) := by
  by_cases h : (s.get! p).toNat < 128
  · rw [(next_ascii s p h).2.2]
    exact (decide_eq_false (by omega)).symm
  · unfold bad
    refine decide_eq_decide.2 ⟨fun e => ⟨e.2, by omega⟩, fun e => ⟨?_, e.1⟩⟩
    rw [ch_eq]
    exact dn_one _ _ _ _ _ e.2 (by rw [← wd_eq]; exact e.1)
theorem bl_take : ∀ (l : List UInt8) (q : Nat), bl q (l.take (bl q l).2) = bl q l
  | [], q => rfl
  | b :: r, q => by
    by_cases hs : stp q (cls b.toNat) < 0
    · rw [bl_stop hs]; rfl
    · rw [bl_go hs]
      simp only [List.take_succ_cons]
      rw [bl_go hs, bl_take r]
theorem ext_list (s : ByteArray) (p n : Nat) : (s.extract p n).data.toList = (s.data.toList.drop p).take (n - p) := by
  rw [ByteArray.data_extract, Array.toList_extract, List.extract_eq_take_drop]
theorem ext_get (s : ByteArray) (p n i : Nat) (hn : n ≤ s.size) (hi : p + i < n) : (s.extract p n).get! i = s.get! (p + i) := by
  rw [U.at_get (show i < (s.extract p n).size by rw [ByteArray.size_extract]; omega), U.at_get (show p + i < s.size by omega)]
  exact ByteArray.getElem_extract ..
end Go.Proofs.Ytglanajglhneeaa.D

namespace Go.Proofs.Ytglanajglhneeaa.D
open Go U

theorem bl_app : ∀ (x m : List UInt8) (q0 q : Nat), bl q0 x = (q, x.length) → bl q0 (x ++ m) = ((bl q m).1, x.length + (bl q m).2)
  | [], m, q0, q, h => by
    injection h with h1 _
    subst h1
    simp
  | b :: r, m, q0, q, h => by
    by_cases hs : stp q0 (cls b.toNat) < 0
    · rw [bl_stop hs] at h
      injection h with _ h2
      simp at h2
    · rw [bl_go hs] at h
      injection h with h1 h2
      have := bl_app r m (stp q0 (cls b.toNat)).toNat q (by rw [← h1]; exact Prod.ext rfl (Nat.succ.inj h2))
      rw [List.cons_append, bl_go hs, this]
      simp only [List.length_cons]
      congr 1
      omega
theorem bl_stops : ∀ (l : List UInt8) (q0 : Nat) (h : (bl q0 l).2 < l.length), stp (bl q0 l).1 (cls (l[(bl q0 l).2]).toNat) < 0
  | [], q0, h => absurd h (Nat.not_lt_zero _)
  | b :: r, q0, h => by
    by_cases hs : stp q0 (cls b.toNat) < 0
    · simp only [bl_stop hs]; exact hs
    · simp only [bl_go hs] at h ⊢
      exact bl_stops r _ (by simpa using h)
theorem bl_none {q : Nat} (h : lon q = false) (m : List UInt8) : bl q m = (q, 0) := by
  cases m with
  | nil => rfl
  | cons b r =>
    refine bl_stop ?_
    unfold lon at h
    rw [List.any_eq_false] at h
    have := h (cls b.toNat) (List.mem_range.2 (cls_lt _))
    simpa using this
/-- the bytes of a run, and one more if the run could go on, decide it -/
theorem bl_looks (l m : List UInt8) (q0 q d : Nat) (h : bl q0 l = (q, d)) (hl : d + (if lon q = true then 1 else 0) ≤ l.length) : bl q0 (l.take (d + if lon q = true then 1 else 0) ++ m) = (q, d) := by
  have ht := bl_take l q0
  rw [h] at ht
  simp only at ht
  have hd : (l.take d).length = d := by rw [List.length_take]; omega
  have ha := fun m => bl_app (l.take d) m q0 q (by rw [ht, hd])
  cases hq : lon q
  · rw [if_neg (by decide), Nat.add_zero, ha, bl_none hq, hd]; rfl
  · rw [hq, if_pos rfl] at hl
    rw [if_pos rfl]
    have hs := bl_stops l q0 (by rw [h]; exact hl)
    simp only [h] at hs
    rw [List.take_succ_eq_append_getElem (show d < l.length from hl), List.append_assoc, ha, List.singleton_append, bl_stop hs, hd]; rfl
theorem get_app_left (x m : ByteArray) (k : Nat) (h : k < x.size) : (x ++ m).get! k = x.get! k := by
  rw [at_get (show k < (x ++ m).size by rw [ByteArray.size_append]; omega), at_get h]
  exact ByteArray.getElem_append_left h
theorem tok_run {x : ByteArray} {q d : Nat} (h : run x = (q, d)) : tok x = ⟨if q = 7 then wrd (x.extract 0 d) else kd q, d, lk x q d⟩ := by unfold tok; rw [h]
theorem lk_lo {x : ByteArray} {q d : Nat} (h : (x.get! 0).toNat < 128) : lk x q d = if lon q = true then 1 else 0 := by
  unfold lk
  by_cases hq : lon q = true
  · rw [if_pos hq, if_pos hq]
  · rw [if_neg hq, if_neg hq, if_neg (by omega)]
theorem tok_looks (r m : ByteArray) (h : 0 < r.size) (hl : (tok r).w + (tok r).l ≤ r.size) : tok (r.extract 0 ((tok r).w + (tok r).l) ++ m) = tok r := by
  have hf := run_fits r
  have h3 := hf.2.2 h
  obtain ⟨q, d, hR⟩ : ∃ q d, run r = (q, d) := ⟨_, _, rfl⟩
  rw [hR] at hf h3
  simp only at hf h3
  have hT := tok_run hR
  rw [hT] at hl ⊢
  simp only at hl ⊢
  have hxs : (r.extract 0 (d + lk r q d)).size = d + lk r q d := by rw [ByteArray.size_extract]; omega
  have hgx : ∀ k, k < d + lk r q d → (r.extract 0 (d + lk r q d) ++ m).get! k = r.get! k := fun k hk => by
    rw [get_app_left _ _ _ (by omega), ext_get r 0 _ k (by omega) (by omega), Nat.zero_add]
  have hys : (r.extract 0 (d + lk r q d) ++ m).size = d + lk r q d + m.size := by rw [ByteArray.size_append, hxs]
  have hw : (r.extract 0 (d + lk r q d) ++ m).extract 0 d = r.extract 0 d := by
    apply ByteArray.ext
    apply Array.toList_inj.1
    show ((r.extract 0 (d + lk r q d) ++ m).extract 0 d).data.toList = (r.extract 0 d).data.toList
    rw [ext_list, ext_list, List.drop_zero, List.drop_zero, ByteArray.data_append, Array.toList_append, ext_list, List.drop_zero, List.take_append_of_le_length (by rw [List.length_take]; simp; omega), List.take_take]
    congr 1; omega
  by_cases hb : (r.get! 0).toNat < 128
  · have hlk : lk r q d = if lon q = true then 1 else 0 := lk_lo hb
    rw [run_lo h hb] at hR
    have hlen : r.data.toList.length = r.size := by simp
    have hb2 := bl_looks r.data.toList m.data.toList 0 q d hR (by rw [hlen, ← hlk]; exact hl)
    have hrun : run (r.extract 0 (d + lk r q d) ++ m) = (q, d) := by
      rw [run_lo (by omega) (by rw [hgx 0 (by omega)]; exact hb), ByteArray.data_append, Array.toList_append, ext_list, List.drop_zero, Nat.sub_zero, hlk]
      exact hb2
    rw [tok_run hrun, hw, lk_lo (by rw [hgx 0 (by omega)]; exact hb), hlk]
  · have hR2 := run_hi h (by omega)
    rw [hR] at hR2
    have e1 : q = 34 := congrArg Prod.fst hR2
    have e2 : d = wd r 0 := congrArg Prod.snd hR2
    subst e1
    have hl34 : lon 34 = false := by decide +kernel
    have hbl := bad_lone r 0
    by_cases h1 : d = 1
    · have hlk : lk r 34 d = 3 := by
        have : lk r 34 d = min 3 (r.size - d + 1) := by unfold lk; rw [hl34, if_neg (by decide), if_pos ⟨h1, by omega⟩]
        rw [this] at hl ⊢
        omega
      have hbad : bad r 0 = true := by rw [hbl]; exact decide_eq_true ⟨by omega, by omega⟩
      have hbad2 : bad (r.extract 0 (d + lk r 34 d) ++ m) 0 = true := by
        cases hh : bad (r.extract 0 (d + lk r 34 d) ++ m) 0
        · have hf2 := facts (r.extract 0 (d + lk r 34 d) ++ m) 0 (by omega)
          have hs := same_char (r.extract 0 (d + lk r 34 d) ++ m) r 0 0 (by omega) hh (by omega) (fun k hk => by rw [Nat.zero_add, hgx k (by omega)])
          have : bad r 0 = bad (r.extract 0 (d + lk r 34 d) ++ m) 0 := by unfold bad; rw [hs.1, hs.2]
          rw [hbad, hh] at this
          exact this.symm
        · rfl
      have hrun : run (r.extract 0 (d + lk r 34 d) ++ m) = (34, 1) := by
        rw [run_hi (by omega) (by rw [hgx 0 (by omega)]; omega), bad_wd hbad2]
      have hlk2 : lk (r.extract 0 (d + lk r 34 d) ++ m) 34 1 = 3 := by
        have : lk (r.extract 0 (d + lk r 34 d) ++ m) 34 1 = min 3 ((r.extract 0 (d + lk r 34 d) ++ m).size - 1 + 1) := by
          unfold lk; rw [hl34, if_neg (by decide), if_pos ⟨rfl, by have := hgx 0 (by omega); unfold lk at this; rw [hl34] at this; rw [this]; omega⟩]
        rw [this, hys]
        omega
      rw [tok_run hrun, hlk2, hlk, h1, if_neg (by decide), if_neg (by decide)]
    · have hlk : lk r 34 d = 0 := by unfold lk; rw [hl34, if_neg (by decide), if_neg (fun hh => h1 hh.1)]
      have hgood : bad r 0 = false := by rw [hbl]; exact decide_eq_false (by omega)
      have hs := same_char r (r.extract 0 (d + lk r 34 d) ++ m) 0 0 h hgood (by omega) (fun k hk => by rw [Nat.zero_add, hgx k (by omega)])
      have hrun : run (r.extract 0 (d + lk r 34 d) ++ m) = (34, d) := by
        rw [run_hi (by omega) (by rw [hgx 0 (by omega)]; omega), hs.2, e2]
      have hlk2 : lk (r.extract 0 (d + lk r 34 d) ++ m) 34 d = 0 := by
        generalize r.extract 0 (d + lk r 34 d) ++ m = x
        unfold lk; rw [hl34, if_neg (by decide), if_neg (fun hh => h1 hh.1)]
      rw [tok_run hrun, hlk2, hlk, if_neg (by decide), if_neg (by decide)]
/-- as the law says it -/
theorem scan_looks (s m : ByteArray) (p : Nat) (hp : p < s.size) (hl : p + (tok (s.extract p s.size)).w + (tok (s.extract p s.size)).l ≤ s.size) :
    tok ((s.extract 0 (p + (tok (s.extract p s.size)).w + (tok (s.extract p s.size)).l) ++ m).extract p (s.extract 0 (p + (tok (s.extract p s.size)).w + (tok (s.extract p s.size)).l) ++ m).size) = tok (s.extract p s.size) := by
  have hz : (s.extract p s.size).size = s.size - p := by rw [ByteArray.size_extract]; omega
  have h := tok_looks (s.extract p s.size) m (by omega) (by omega)
  generalize (tok (s.extract p s.size)).w = a at *
  generalize (tok (s.extract p s.size)).l = b at *
  rw [← h]
  congr 1
  apply ByteArray.ext
  apply Array.toList_inj.1
  show ((s.extract 0 (p + a + b) ++ m).extract p (s.extract 0 (p + a + b) ++ m).size).data.toList = ((s.extract p s.size).extract 0 (a + b) ++ m).data.toList
  have hlen : (s.data.toList).length = s.size := by simp
  rw [ext_list, ByteArray.data_append, Array.toList_append, ByteArray.data_append, Array.toList_append, ByteArray.extract_extract, ext_list, ext_list, List.drop_zero, ByteArray.size_append, ByteArray.size_extract]
  rw [List.drop_append, List.drop_take, List.length_take]
  have e1 : p - min (p + a + b - 0) s.data.toList.length = 0 := by rw [hlen]; omega
  rw [e1, List.drop_zero, List.take_of_length_le (by rw [List.length_append, List.length_take, List.length_drop, hlen]; simp; omega)]
  congr 2
  omega
end Go.Proofs.Ytglanajglhneeaa.D

namespace Go.Proofs.Ytglanajglhneeaa.D
open Go U
theorem drop_nil {s : ByteArray} {p : Nat} (h : ¬ p < s.size) : s.data.toList.drop p = [] := List.drop_eq_nil_of_le (by simp; omega)
/-- the whole run from a place, by bytes -/
theorem cr_lo {s : ByteArray} {p : Nat} (hp : p < s.size) (hb : (s.get! p).toNat < 128) : cr s s.size 0 p = ((bl (stp 0 (cls (s.get! p).toNat)).toNat (s.data.toList.drop (p + 1))).1, p + 1 + (bl (stp 0 (cls (s.get! p).toNat)).toNat (s.data.toList.drop (p + 1))).2) := by
  obtain ⟨f, hf⟩ : ∃ f, s.size = f + 1 := ⟨s.size - 1, by omega⟩
  have hc := cls_lt (s.get! p).toNat
  have hin := stp_in (show 0 < 35 by decide) hc
  have hpos := stp_0 hc
  rw [hf, cr_step s f 0 p hp (by rw [cls_ch]; omega), cls_ch, (next_ascii s p hb).2.1, cr_bl s f _ (p + 1) (by omega) (by omega) (by omega) (by omega)]
theorem cr_hi {s : ByteArray} {p : Nat} (hp : p < s.size) (hb : 128 ≤ (s.get! p).toNat) : cr s s.size 0 p = (34, p + wd s p) := by
  obtain ⟨f, hf⟩ : ∃ f, s.size = f + 1 := ⟨s.size - 1, by omega⟩
  rw [hf, cr_step s f 0 p hp (by rw [cls_ch, cls_hi hb]; decide), cls_ch, cls_hi hb, cr_stop s f _ _ (by exact (by decide : (-1 : Int) < 0))]
  rfl
/-- a loop that stays in its state -/
theorem stay_go {s : ByteArray} {i q : Nat} (hi : i < s.size) (h : stp q (cls (s.get! i).toNat) = (q : Int)) : (bl q (s.data.toList.drop i)).1 = (bl q (s.data.toList.drop (i + 1))).1 ∧ (bl q (s.data.toList.drop i)).2 = (bl q (s.data.toList.drop (i + 1))).2 + 1 := by
  rw [drop_at hi, bl_go (by omega), h, Int.toNat_natCast]
  exact ⟨rfl, rfl⟩
theorem stay_stop {s : ByteArray} {i q : Nat} (hi : i < s.size) (h : stp q (cls (s.get! i).toNat) < 0) : bl q (s.data.toList.drop i) = (q, 0) := by rw [drop_at hi, bl_stop h]
theorem stay_end {s : ByteArray} {i q : Nat} (hi : ¬ i < s.size) : bl q (s.data.toList.drop i) = (q, 0) := by rw [drop_nil hi]; rfl
theorem one_step {s : ByteArray} {i q n : Nat} (hi : i < s.size) (h : stp q (cls (s.get! i).toNat) = (n : Int)) : bl q (s.data.toList.drop i) = ((bl n (s.data.toList.drop (i + 1))).1, (bl n (s.data.toList.drop (i + 1))).2 + 1) := by
  rw [drop_at hi, bl_go (by omega), h, Int.toNat_natCast]
/-- a run that begins in a state in which it stays -/
theorem run_stay {s : ByteArray} {p q : Nat} (hp : p < s.size) (hb : (s.get! p).toNat < 128) (h0 : stp 0 (cls (s.get! p).toNat) = (q : Int)) (hq : stp q (cls (s.get! p).toNat) = (q : Int)) (hs : ∀ l, (bl q l).1 = q) : cr s s.size 0 p = (q, p + (bl q (s.data.toList.drop p)).2) := by
  have h := stay_go hp hq
  rw [cr_lo hp hb, h0, Int.toNat_natCast, hs, h.2]
  congr 1
  omega
theorem stp_1 {c : Nat} (hc : c < 24) : stp 1 c = if c = 1 ∨ c = 2 then 1 else -1 := by
  have : ∀ c : Fin 24, stp 1 c.1 = if c.1 = 1 ∨ c.1 = 2 then 1 else -1 := by decide +kernel
  exact this ⟨c, hc⟩
theorem stp_8 {c : Nat} (hc : c < 24) : stp 8 c = if c = 4 then 8 else -1 := by
  have : ∀ c : Fin 24, stp 8 c.1 = if c.1 = 4 then 8 else -1 := by decide +kernel
  exact this ⟨c, hc⟩
theorem stp_3 {c : Nat} (hc : c < 24) : stp 3 c = if c = 2 then -1 else 3 := by
  have : ∀ c : Fin 24, stp 3 c.1 = if c.1 = 2 then -1 else 3 := by decide +kernel
  exact this ⟨c, hc⟩
theorem stp_9 {c : Nat} (hc : c < 24) : stp 9 c = if c = 5 then 11 else if c = 6 then 10 else if c = 2 then -1 else 9 := by
  have : ∀ c : Fin 24, stp 9 c.1 = if c.1 = 5 then 11 else if c.1 = 6 then 10 else if c.1 = 2 then -1 else 9 := by decide +kernel
  exact this ⟨c, hc⟩
theorem stp_10 {c : Nat} (hc : c < 24) : stp 10 c = if c = 2 then -1 else 9 := by
  have : ∀ c : Fin 24, stp 10 c.1 = if c.1 = 2 then -1 else 9 := by decide +kernel
  exact this ⟨c, hc⟩
theorem stp_4 {c : Nat} (hc : c < 24) : stp 4 c = if c = 8 then 5 else 4 := by
  have : ∀ c : Fin 24, stp 4 c.1 = if c.1 = 8 then 5 else 4 := by decide +kernel
  exact this ⟨c, hc⟩
theorem stp_5 {c : Nat} (hc : c < 24) : stp 5 c = if c = 8 then 5 else if c = 7 then 6 else 4 := by
  have : ∀ c : Fin 24, stp 5 c.1 = if c.1 = 8 then 5 else if c.1 = 7 then 6 else 4 := by decide +kernel
  exact this ⟨c, hc⟩
theorem bl_stays {q : Nat} (hq : ∀ c, c < 24 → stp q c = (q : Int) ∨ stp q c < 0) : ∀ l, (bl q l).1 = q
  | [] => rfl
  | b :: r => by
    rcases hq _ (cls_lt b.toNat) with h | h
    · rw [bl_go (by omega), h, Int.toNat_natCast]; exact bl_stays hq r
    · rw [bl_stop h]
theorem stays_1 : ∀ l, (bl 1 l).1 = 1 := bl_stays (fun c hc => by rw [stp_1 hc]; split <;> simp)
theorem stays_7 : ∀ l, (bl 7 l).1 = 7 := bl_stays (fun c hc => by rw [stp_7 hc]; split <;> simp)
theorem stays_8 : ∀ l, (bl 8 l).1 = 8 := bl_stays (fun c hc => by rw [stp_8 hc]; split <;> simp)
theorem stays_3 : ∀ l, (bl 3 l).1 = 3 := bl_stays (fun c hc => by rw [stp_3 hc]; split <;> simp)
end Go.Proofs.Ytglanajglhneeaa.D

namespace Go.Proofs.Ytglanajglhneeaa.D
open Go U
/-- the run from a state and a place, over characters -/
def rn (s : ByteArray) (q p : Nat) : Nat × Nat := cr s s.size q p
theorem rn_end {s : ByteArray} {q p : Nat} (h : ¬ p < s.size) : rn s q p = (q, p) := cr_end s _ q p h
theorem rn_stop {s : ByteArray} {q p : Nat} (h : stp q (cls (s.get! p).toNat) < 0) : rn s q p = (q, p) := cr_stop s _ q p (by rw [cls_ch]; exact h)
theorem rn_step {s : ByteArray} {q p n : Nat} (hp : p < s.size) (h : stp q (cls (s.get! p).toNat) = (n : Int)) : rn s q p = rn s n (p + wd s p) := by
  obtain ⟨f, hf⟩ : ∃ f, s.size = f + 1 := ⟨s.size - 1, by omega⟩
  have := wd_pos hp
  have h1 : cr s s.size q p = cr s (f + 1) q p := by rw [← hf]
  unfold rn
  rw [h1, cr_step s f q p hp (by rw [cls_ch, h]; omega), cls_ch, h, Int.toNat_natCast]
  exact cr_fuel s f s.size n _ (by omega) (by omega)
theorem rn_fin {s : ByteArray} {q p : Nat} (h : ∀ c, stp q c < 0) : rn s q p = (q, p) := rn_stop (h _)
/-- over bytes -/
def rb (s : ByteArray) (q i : Nat) : Nat × Nat := ((bl q (s.data.toList.drop i)).1, i + (bl q (s.data.toList.drop i)).2)
theorem rb_end {s : ByteArray} {q i : Nat} (h : ¬ i < s.size) : rb s q i = (q, i) := by unfold rb; rw [stay_end h]; rfl
theorem rb_stop {s : ByteArray} {q i : Nat} (hi : i < s.size) (h : stp q (cls (s.get! i).toNat) < 0) : rb s q i = (q, i) := by unfold rb; rw [stay_stop hi h]; rfl
theorem rb_step {s : ByteArray} {q i n : Nat} (hi : i < s.size) (h : stp q (cls (s.get! i).toNat) = (n : Int)) : rb s q i = rb s n (i + 1) := by
  unfold rb; rw [one_step hi h]; simp only; congr 1; omega
theorem rb_fin {s : ByteArray} {q i : Nat} (h : ∀ c, stp q c < 0) : rb s q i = (q, i) := by
  by_cases hi : i < s.size
  · exact rb_stop hi (h _)
  · exact rb_end hi
theorem rn_rb {s : ByteArray} {q p : Nat} (h0 : q ≠ 0) (hq : q < 35) (hp : p ≤ s.size) : rn s q p = rb s q p := cr_bl s s.size q p h0 hq hp (by omega)
theorem rb_stay {s : ByteArray} {q i : Nat} (h : ∀ l, (bl q l).1 = q) : (rb s q i).1 = q := h _
theorem rn_lo {s : ByteArray} {p : Nat} (hp : p < s.size) (hb : (s.get! p).toNat < 128) : rn s 0 p = rb s (stp 0 (cls (s.get! p).toNat)).toNat (p + 1) := cr_lo hp hb
theorem rn_hi {s : ByteArray} {p : Nat} (hp : p < s.size) (hb : 128 ≤ (s.get! p).toNat) : rn s 0 p = (34, p + wd s p) := cr_hi hp hb
theorem cls_one (k x : Nat) (h : ∀ y : Fin 128, cls y.1 = k ↔ y.1 = x) (hx : x < 128) (hk : k ≠ 0) (c : Nat) : cls c = k ↔ c = x := by
  by_cases hc : c < 128
  · exact h ⟨c, hc⟩
  · rw [cls_hi (by omega)]; omega
theorem cls_5 (c : Nat) : cls c = 5 ↔ c = 34 := cls_one 5 34 (by decide +kernel) (by decide) (by decide) c
theorem cls_6 (c : Nat) : cls c = 6 ↔ c = 92 := cls_one 6 92 (by decide +kernel) (by decide) (by decide) c
theorem cls_7 (c : Nat) : cls c = 7 ↔ c = 47 := cls_one 7 47 (by decide +kernel) (by decide) (by decide) c
theorem cls_8 (c : Nat) : cls c = 8 ↔ c = 42 := cls_one 8 42 (by decide +kernel) (by decide) (by decide) c
theorem cls_9 (c : Nat) : cls c = 9 ↔ c = 61 := cls_one 9 61 (by decide +kernel) (by decide) (by decide) c
theorem cls_10 (c : Nat) : cls c = 10 ↔ c = 33 := cls_one 10 33 (by decide +kernel) (by decide) (by decide) c
theorem cls_11 (c : Nat) : cls c = 11 ↔ c = 60 := cls_one 11 60 (by decide +kernel) (by decide) (by decide) c
theorem cls_12 (c : Nat) : cls c = 12 ↔ c = 62 := cls_one 12 62 (by decide +kernel) (by decide) (by decide) c
theorem cls_13 (c : Nat) : cls c = 13 ↔ c = 38 := cls_one 13 38 (by decide +kernel) (by decide) (by decide) c
theorem cls_14 (c : Nat) : cls c = 14 ↔ c = 124 := cls_one 14 124 (by decide +kernel) (by decide) (by decide) c
theorem cls_2 (c : Nat) : cls c = 2 ↔ (c = 10 ∨ c = 13) := by
  by_cases h : c < 128
  · have : ∀ c : Fin 128, cls c.1 = 2 ↔ (c.1 = 10 ∨ c.1 = 13) := by decide +kernel
    exact this ⟨c, h⟩
  · rw [cls_hi (by omega)]; omega
/-- a remark over lines -/
theorem blk_step {s : ByteArray} {i : Nat} (h1 : i + 1 < s.size) (hn : ¬ ((s.get! i).toNat = 42 ∧ (s.get! (i + 1)).toNat = 47)) : kd (rb s 4 i).1 = kd (rb s 4 (i + 1)).1 ∧ (rb s 4 i).2 = (rb s 4 (i + 1)).2 := by
  have c0 := cls_lt (s.get! i).toNat
  have c1 := cls_lt (s.get! (i + 1)).toNat
  by_cases h : cls (s.get! i).toNat = 8
  · have h7 : ¬ cls (s.get! (i + 1)).toNat = 7 := fun e => hn ⟨(cls_8 _).1 h, (cls_7 _).1 e⟩
    have e0 : rb s 4 i = rb s 5 (i + 1) := rb_step (by omega) (by rw [stp_4 c0, if_pos h]; rfl)
    rw [e0]
    by_cases h8 : cls (s.get! (i + 1)).toNat = 8
    · rw [rb_step (q := 5) (n := 5) h1 (by rw [stp_5 c1, if_pos h8]; rfl), rb_step (q := 4) (n := 5) h1 (by rw [stp_4 c1, if_pos h8]; rfl)]
      exact ⟨rfl, rfl⟩
    · rw [rb_step (q := 5) (n := 4) h1 (by rw [stp_5 c1, if_neg h8, if_neg h7]; rfl), rb_step (q := 4) (n := 4) h1 (by rw [stp_4 c1, if_neg h8]; rfl)]
      exact ⟨rfl, rfl⟩
  · have e0 : rb s 4 i = rb s 4 (i + 1) := rb_step (by omega) (by rw [stp_4 c0, if_neg h]; rfl)
    rw [e0]
    exact ⟨rfl, rfl⟩
theorem blk_done {s : ByteArray} {i : Nat} (h1 : i + 1 < s.size) (ha : (s.get! i).toNat = 42) (hb : (s.get! (i + 1)).toNat = 47) : rb s 4 i = (6, i + 2) := by
  have e0 : rb s 4 i = rb s 5 (i + 1) := rb_step (by omega) (by rw [ha]; decide +kernel)
  have e1 : rb s 5 (i + 1) = rb s 6 (i + 2) := rb_step (by omega) (by rw [hb]; decide +kernel)
  rw [e0, e1, rb_fin (fun c => by show (-1 : Int) < 0; decide)]
theorem blk_end {s : ByteArray} {i : Nat} (h1 : ¬ i + 1 < s.size) (hi : i ≤ s.size) : kd (rb s 4 i).1 = 4 ∧ (rb s 4 i).2 = s.size := by
  by_cases h : i < s.size
  · have c0 := cls_lt (s.get! i).toNat
    by_cases h8 : cls (s.get! i).toNat = 8
    · rw [rb_step (n := 5) h (by rw [stp_4 c0, if_pos h8]; rfl), rb_end (by omega)]
      exact ⟨rfl, by show i + 1 = _; omega⟩
    · rw [rb_step (n := 4) h (by rw [stp_4 c0, if_neg h8]; rfl), rb_end (by omega)]
      exact ⟨rfl, by show i + 1 = _; omega⟩
  · rw [rb_end h]
    exact ⟨rfl, by show i = _; omega⟩
/-- operators and brackets -/
def twl : List ByteArray := [⟨#[61, 61]⟩, ⟨#[33, 61]⟩, ⟨#[60, 61]⟩, ⟨#[62, 61]⟩, ⟨#[38, 38]⟩, ⟨#[124, 124]⟩]
def twk : List Nat := [27, 28, 30, 32, 39, 40]
def onl : ByteArray := ⟨#[40, 41, 123, 125, 44, 59, 61, 60, 62, 43, 45, 42, 37, 33]⟩
def onk : List Nat := [20, 21, 22, 23, 24, 25, 26, 29, 31, 33, 34, 35, 37, 38]
theorem ext_two {s : ByteArray} {p : Nat} (h : p + 2 ≤ s.size) : (s.extract p (p + 2)).toList = [s.get! p, s.get! (p + 1)] := by
  rw [Lib.toList_data, ext_list, drop_at (by omega), drop_at (show p + 1 < s.size by omega), show p + 2 - p = 2 by omega]
  rfl
theorem two_done {s : ByteArray} {p b c q1 q2 : Nat} (h : p + 1 < s.size) (hb : b < 128) (e1 : (s.get! p).toNat = b) (e2 : (s.get! (p + 1)).toNat = c) (h1 : stp 0 (cls b) = (q1 : Int)) (h2 : stp q1 (cls c) = (q2 : Int)) (h3 : ∀ c, stp q2 c < 0) : rn s 0 p = (q2, p + 2) := by
  rw [rn_lo (by omega) (by omega), e1, h1, Int.toNat_natCast, rb_step (n := q2) h (by rw [e2]; exact h2), rb_fin h3]
theorem sg_two {s : ByteArray} {p i : Nat} (hi : i < 6) (h : p + 2 ≤ s.size) (he : (s.extract p (p + 2)).toList = (twl.getD i ByteArray.empty).toList) : kd (rn s 0 p).1 = twk.getD i 0 ∧ (rn s 0 p).2 = p + 2 := by
  rw [ext_two h] at he
  have h6 : i = 0 ∨ i = 1 ∨ i = 2 ∨ i = 3 ∨ i = 4 ∨ i = 5 := by omega
  rcases h6 with rfl | rfl | rfl | rfl | rfl | rfl
  · have he : [s.get! p, s.get! (p + 1)] = [61, 61] := by rw [he]; simp only [Lib.toList_data]; rfl
    injection he with a1 a2
    injection a2 with a2 _
    rw [two_done (b := 61) (c := 61) (q1 := 12) (q2 := 13) (by omega) (by decide) (by rw [a1]; rfl) (by rw [a2]; rfl) (by decide +kernel) (by decide +kernel) (fun c => by show (-1 : Int) < 0; decide)]
    exact ⟨rfl, rfl⟩
  · have he : [s.get! p, s.get! (p + 1)] = [33, 61] := by rw [he]; simp only [Lib.toList_data]; rfl
    injection he with a1 a2
    injection a2 with a2 _
    rw [two_done (b := 33) (c := 61) (q1 := 14) (q2 := 15) (by omega) (by decide) (by rw [a1]; rfl) (by rw [a2]; rfl) (by decide +kernel) (by decide +kernel) (fun c => by show (-1 : Int) < 0; decide)]
    exact ⟨rfl, rfl⟩
  · have he : [s.get! p, s.get! (p + 1)] = [60, 61] := by rw [he]; simp only [Lib.toList_data]; rfl
    injection he with a1 a2
    injection a2 with a2 _
    rw [two_done (b := 60) (c := 61) (q1 := 16) (q2 := 17) (by omega) (by decide) (by rw [a1]; rfl) (by rw [a2]; rfl) (by decide +kernel) (by decide +kernel) (fun c => by show (-1 : Int) < 0; decide)]
    exact ⟨rfl, rfl⟩
  · have he : [s.get! p, s.get! (p + 1)] = [62, 61] := by rw [he]; simp only [Lib.toList_data]; rfl
    injection he with a1 a2
    injection a2 with a2 _
    rw [two_done (b := 62) (c := 61) (q1 := 18) (q2 := 19) (by omega) (by decide) (by rw [a1]; rfl) (by rw [a2]; rfl) (by decide +kernel) (by decide +kernel) (fun c => by show (-1 : Int) < 0; decide)]
    exact ⟨rfl, rfl⟩
  · have he : [s.get! p, s.get! (p + 1)] = [38, 38] := by rw [he]; simp only [Lib.toList_data]; rfl
    injection he with a1 a2
    injection a2 with a2 _
    rw [two_done (b := 38) (c := 38) (q1 := 20) (q2 := 21) (by omega) (by decide) (by rw [a1]; rfl) (by rw [a2]; rfl) (by decide +kernel) (by decide +kernel) (fun c => by show (-1 : Int) < 0; decide)]
    exact ⟨rfl, rfl⟩
  · have he : [s.get! p, s.get! (p + 1)] = [124, 124] := by rw [he]; simp only [Lib.toList_data]; rfl
    injection he with a1 a2
    injection a2 with a2 _
    rw [two_done (b := 124) (c := 124) (q1 := 22) (q2 := 23) (by omega) (by decide) (by rw [a1]; rfl) (by rw [a2]; rfl) (by decide +kernel) (by decide +kernel) (fun c => by show (-1 : Int) < 0; decide)]
    exact ⟨rfl, rfl⟩
/-- what is no sign's beginning -/
def Ns (c : Nat) : Prop := c = 1 ∨ c = 2 ∨ c = 3 ∨ c = 4 ∨ c = 5 ∨ c = 7
instance (c : Nat) : Decidable (Ns c) := by unfold Ns; infer_instance
theorem pairs (c d : Nat) (hc : c < 24) (hd : d < 24) (hn : ¬ Ns c) (h : 0 ≤ stp (stp 0 c).toNat d) : (c = 9 ∧ d = 9) ∨ (c = 10 ∧ d = 9) ∨ (c = 11 ∧ d = 9) ∨ (c = 12 ∧ d = 9) ∨ (c = 13 ∧ d = 13) ∨ (c = 14 ∧ d = 14) := by
  have : ∀ c d : Fin 24, ¬ Ns c.1 → 0 ≤ stp (stp 0 c.1).toNat d.1 → ((c.1 = 9 ∧ d.1 = 9) ∨ (c.1 = 10 ∧ d.1 = 9) ∨ (c.1 = 11 ∧ d.1 = 9) ∨ (c.1 = 12 ∧ d.1 = 9) ∨ (c.1 = 13 ∧ d.1 = 13) ∨ (c.1 = 14 ∧ d.1 = 14)) := by decide +kernel
  exact this ⟨c, hc⟩ ⟨d, hd⟩ hn h
theorem byte_eq {x : UInt8} {n : Nat} {y : UInt8} (h : x.toNat = n) (hy : y.toNat = n) : x = y := UInt8.toNat_inj.1 (h.trans hy.symm)
theorem sg_rest {s : ByteArray} {p : Nat} (hp : p < s.size) (hb : (s.get! p).toNat < 128) (hn : ¬ Ns (cls (s.get! p).toNat)) (hN : ∀ i, i < 6 → p + 2 ≤ s.size → ¬ (s.extract p (p + 2)).toList = (twl.getD i ByteArray.empty).toList) : rn s 0 p = ((stp 0 (cls (s.get! p).toNat)).toNat, p + 1) := by
  rw [rn_lo hp hb]
  by_cases h2 : p + 1 < s.size
  · refine rb_stop h2 (Decidable.byContradiction fun h => ?_)
    have hp2 := pairs _ _ (cls_lt _) (cls_lt (s.get! (p + 1)).toNat) hn (by omega)
    have hM : ∀ i, i < 6 → ¬ [s.get! p, s.get! (p + 1)] = (twl.getD i ByteArray.empty).toList := fun i hi => by
      have := hN i hi (by omega)
      rwa [ext_two (by omega)] at this
    rw [cls_9, cls_10, cls_11, cls_12, cls_13, cls_14, cls_9, cls_13, cls_14] at hp2
    rcases hp2 with ⟨a, b⟩ | ⟨a, b⟩ | ⟨a, b⟩ | ⟨a, b⟩ | ⟨a, b⟩ | ⟨a, b⟩
    · exact hM 0 (by decide) (by rw [byte_eq a (y := 61) rfl, byte_eq b (y := 61) rfl]; simp only [Lib.toList_data]; rfl)
    · exact hM 1 (by decide) (by rw [byte_eq a (y := 33) rfl, byte_eq b (y := 61) rfl]; simp only [Lib.toList_data]; rfl)
    · exact hM 2 (by decide) (by rw [byte_eq a (y := 60) rfl, byte_eq b (y := 61) rfl]; simp only [Lib.toList_data]; rfl)
    · exact hM 3 (by decide) (by rw [byte_eq a (y := 62) rfl, byte_eq b (y := 61) rfl]; simp only [Lib.toList_data]; rfl)
    · exact hM 4 (by decide) (by rw [byte_eq a (y := 38) rfl, byte_eq b (y := 38) rfl]; simp only [Lib.toList_data]; rfl)
    · exact hM 5 (by decide) (by rw [byte_eq a (y := 124) rfl, byte_eq b (y := 124) rfl]; simp only [Lib.toList_data]; rfl)
  · exact rb_end h2
theorem sg_one {s : ByteArray} {p j : Nat} (hj : j < 14) (hp : p < s.size) (hn : ¬ Ns (cls (s.get! p).toNat)) (hN : ∀ i, i < 6 → p + 2 ≤ s.size → ¬ (s.extract p (p + 2)).toList = (twl.getD i ByteArray.empty).toList) (he : (s.get! p).toNat = (onl.get! j).toNat) : kd (rn s 0 p).1 = onk.getD j 0 ∧ (rn s 0 p).2 = p + 1 := by
  have hk : ∀ j : Fin 14, (onl.get! j.1).toNat < 128 ∧ kd (stp 0 (cls (onl.get! j.1).toNat)).toNat = onk.getD j.1 0 := by decide +kernel
  have hkj := hk ⟨j, hj⟩
  rw [sg_rest hp (by rw [he]; exact hkj.1) hn hN, he]
  exact ⟨hkj.2, rfl⟩
theorem sg_odd {s : ByteArray} {p : Nat} (hp : p < s.size) (hn : ¬ Ns (cls (s.get! p).toNat)) (hN : ∀ i, i < 6 → p + 2 ≤ s.size → ¬ (s.extract p (p + 2)).toList = (twl.getD i ByteArray.empty).toList) (hO : ∀ j, j < 14 → ¬ (s.get! p).toNat = (onl.get! j).toNat) : kd (rn s 0 p).1 = 5 ∧ (rn s 0 p).2 = p + wd s p := by
  by_cases hb : (s.get! p).toNat < 128
  · have hk : ∀ b : Fin 128, (∃ j : Fin 14, b.1 = (onl.get! j.1).toNat) ∨ Ns (cls b.1) ∨ kd (stp 0 (cls b.1)).toNat = 5 := by decide +kernel
    rw [sg_rest hp hb hn hN, (next_ascii s p hb).2.1]
    refine ⟨?_, rfl⟩
    rcases hk ⟨_, hb⟩ with ⟨j, h⟩ | h | h
    · exact absurd h (hO j.1 j.2)
    · exact absurd h hn
    · exact h
  · rw [rn_hi hp (by omega)]
    exact ⟨rfl, rfl⟩
end Go.Proofs.Ytglanajglhneeaa.D

namespace Go.Proofs.Ytglanajglhneeaa.D
open Go U

def tkF (s : ByteArray) : Nat → Nat → List Tk
  | 0, _ => []
  | f + 1, p => if p < s.size then tok (s.extract p s.size) :: tkF s f (p + (tok (s.extract p s.size)).w) else []
def toks (s : ByteArray) : List Tk := tkF s s.size 0
theorem tkF_end (s : ByteArray) (f p : Nat) (h : ¬ p < s.size) : tkF s f p = [] := by
  cases f with
  | zero => rfl
  | succ f => simp only [tkF, if_neg h]
theorem tkF_step (s : ByteArray) (f p : Nat) (h : p < s.size) : tkF s (f + 1) p = tok (s.extract p s.size) :: tkF s f (p + (tok (s.extract p s.size)).w) := by simp only [tkF, if_pos h]
/-- of any token -/
theorem tok_fits (r : ByteArray) (h : 0 < r.size) : 0 < (tok r).w ∧ (tok r).w ≤ r.size ∧ (tok r).l ≤ 3 ∧ (tok r).w + (tok r).l ≤ r.size + 1 ∧ 0 < (tok r).k ∧ (tok r).k ≤ 40 := by
  have hf := run_fits r
  have h3 := hf.2.2 h
  have hk : ∀ q : Fin 35, q.1 ≠ 0 → 0 < kd q.1 ∧ kd q.1 ≤ 40 := by decide +kernel
  have hw : ∀ x, 0 < wrd x ∧ wrd x ≤ 40 := by
    intro x; unfold wrd; repeat' split
    all_goals decide
  unfold tok
  dsimp only
  have hl : lk r (run r).1 (run r).2 ≤ 3 ∧ (run r).2 + lk r (run r).1 (run r).2 ≤ r.size + 1 := by
    unfold lk
    split
    · omega
    · split <;> omega
  refine ⟨h3.2, hf.2.1, hl.1, hl.2, ?_⟩
  split
  · exact hw _
  · exact hk ⟨_, hf.1⟩ h3.1
theorem tok_at {s : ByteArray} {p : Nat} (h : p < s.size) : 0 < (tok (s.extract p s.size)).w ∧ p + (tok (s.extract p s.size)).w ≤ s.size ∧ (tok (s.extract p s.size)).l ≤ 3 ∧ p + (tok (s.extract p s.size)).w + (tok (s.extract p s.size)).l ≤ s.size + 1 ∧ 0 < (tok (s.extract p s.size)).k ∧ (tok (s.extract p s.size)).k ≤ 40 := by
  have hz : (s.extract p s.size).size = s.size - p := by rw [ByteArray.size_extract]; omega
  have := tok_fits (s.extract p s.size) (by omega)
  rw [hz] at this
  omega
theorem tkF_fuel (s : ByteArray) : ∀ f g p, s.size ≤ p + f → s.size ≤ p + g → tkF s f p = tkF s g p
  | 0, g, p, hf, _ => by rw [tkF_end s g p (by omega)]; rfl
  | f + 1, g, p, hf, hg => by
    by_cases hp : p < s.size
    · obtain ⟨g', rfl⟩ : ∃ g', g = g' + 1 := ⟨g - 1, by omega⟩
      have := tok_at hp
      rw [tkF_step s f p hp, tkF_step s g' p hp, tkF_fuel s f g' _ (by omega) (by omega)]
    · rw [tkF_end s _ p hp, tkF_end s _ p hp]
theorem tkF_len (s : ByteArray) : ∀ f p, (tkF s f p).length ≤ s.size - p
  | 0, p => Nat.zero_le _
  | f + 1, p => by
    by_cases hp : p < s.size
    · have := tok_at hp
      rw [tkF_step s f p hp, List.length_cons]
      have := tkF_len s f (p + (tok (s.extract p s.size)).w)
      omega
    · rw [tkF_end s _ p hp]; exact Nat.zero_le _
theorem toks_len (s : ByteArray) : (toks s).length ≤ s.size := tkF_len s s.size 0
/-- the scan has come to a place -/
def At (s : ByteArray) (pre : List Tk) (p : Nat) : Prop := p ≤ s.size ∧ pre.length ≤ p ∧ pre ++ tkF s (s.size - p) p = toks s
theorem At.begin (s : ByteArray) : At s [] 0 := ⟨Nat.zero_le _, Nat.le_refl _, rfl⟩
theorem At.step {s : ByteArray} {pre : List Tk} {p : Nat} (h : At s pre p) (hp : p < s.size) : At s (pre ++ [tok (s.extract p s.size)]) (p + (tok (s.extract p s.size)).w) := by
  have hw := tok_at hp
  refine ⟨hw.2.1, by have := h.2.1; rw [List.length_append, List.length_singleton]; omega, ?_⟩
  have h3 := h.2.2
  obtain ⟨f, hf⟩ : ∃ f, s.size - p = f + 1 := ⟨s.size - p - 1, by omega⟩
  rw [hf, tkF_step s f p hp] at h3
  rw [List.append_assoc, List.singleton_append, ← h3, tkF_fuel s _ f _ (by omega) (by omega)]
theorem At.done {s : ByteArray} {pre : List Tk} {p : Nat} (h : At s pre p) (hp : ¬ p < s.size) : pre = toks s := by
  have h3 := h.2.2
  rw [tkF_end s _ p hp, List.append_nil] at h3
  exact h3
theorem At.next {s : ByteArray} {pre : List Tk} {p : Nat} (h : At s pre p) (hp : p < s.size) : (toks s)[pre.length]? = some (tok (s.extract p s.size)) ∧ pre.length < (toks s).length := by
  have h3 := h.2.2
  obtain ⟨f, hf⟩ : ∃ f, s.size - p = f + 1 := ⟨s.size - p - 1, by omega⟩
  rw [hf, tkF_step s f p hp] at h3
  rw [← h3]
  exact ⟨by simp, by simp⟩
theorem At.pre {s : ByteArray} {pre : List Tk} {p : Nat} (h : At s pre p) : pre = (toks s).take pre.length := by
  rw [← h.2.2, List.take_left]
end Go.Proofs.Ytglanajglhneeaa.D

namespace Go.Proofs.Ytglanajglhneeaa.D
open Go U

theorem ext_ext (s : ByteArray) (k p : Nat) (hk : k ≤ s.size) : (s.extract k s.size).extract p (s.extract k s.size).size = s.extract (k + p) s.size := by
  rw [ByteArray.extract_extract, ByteArray.size_extract]
  congr 1; omega
theorem tkF_ext (s : ByteArray) (k : Nat) (hk : k ≤ s.size) : ∀ f p, tkF (s.extract k s.size) f p = tkF s f (k + p)
  | 0, p => rfl
  | f + 1, p => by
    have hz : (s.extract k s.size).size = s.size - k := by rw [ByteArray.size_extract]; omega
    by_cases hp : p < (s.extract k s.size).size
    · rw [tkF_step _ f p hp, tkF_step s f (k + p) (by omega), ext_ext s k p hk, tkF_ext s k hk f, Nat.add_assoc]
    · rw [tkF_end _ _ p hp, tkF_end s _ (k + p) (by omega)]
theorem toks_ext {s : ByteArray} {pre : List Tk} {p : Nat} (h : At s pre p) : toks (s.extract p s.size) = (toks s).drop pre.length := by
  have hz : (s.extract p s.size).size = s.size - p := by rw [ByteArray.size_extract]; have := h.1; omega
  unfold toks
  rw [tkF_ext s p h.1, hz, Nat.add_zero]
  conv => rhs; rw [show tkF s s.size 0 = toks s from rfl, ← h.2.2, List.drop_left]
/-- where the n-th token begins -/
def bg : List Tk → Nat → Nat
  | _, 0 => 0
  | [], _ + 1 => 0
  | t :: r, n + 1 => t.w + bg r n
theorem bg_zero (ts : List Tk) : bg ts 0 = 0 := by cases ts <;> rfl
theorem bg_succ : ∀ {ts : List Tk} {n : Nat} {t : Tk}, ts[n]? = some t → bg ts (n + 1) = bg ts n + t.w
  | [], n, t, h => by cases h
  | x :: r, 0, t, h => by
    cases h
    show x.w + bg r 0 = 0 + x.w
    rw [bg_zero]; omega
  | x :: r, n + 1, t, h => by
    show x.w + bg r (n + 1) = x.w + bg r n + t.w
    have : r[n]? = some t := h
    rw [bg_succ this]; omega
theorem bg_app : ∀ (a b : List Tk) (n : Nat), n ≤ a.length → bg (a ++ b) n = bg a n
  | a, b, 0, _ => by rw [bg_zero, bg_zero]
  | [], b, n + 1, h => absurd h (Nat.not_succ_le_zero _)
  | x :: r, b, n + 1, h => by
    show x.w + bg (r ++ b) n = x.w + bg r n
    rw [bg_app r b n (Nat.le_of_succ_le_succ h)]
theorem bg_take (ts : List Tk) (n m : Nat) (h : n ≤ m) (hm : m ≤ ts.length) : bg (ts.take m) n = bg ts n := by
  conv => rhs; rw [← List.take_append_drop m ts]
  rw [bg_app _ _ n (by rw [List.length_take]; omega)]
/-- all have a byte -/
def Pos (ts : List Tk) : Prop := ∀ t ∈ ts, 0 < t.w
theorem bg_step {ts : List Tk} (hp : Pos ts) {n : Nat} (h : n < ts.length) : bg ts n < bg ts (n + 1) := by
  have hx : ts[n]? = some ts[n] := List.getElem?_eq_getElem h
  have := hp _ (List.getElem_mem h)
  rw [bg_succ hx]; omega
theorem bg_mono {ts : List Tk} (hp : Pos ts) : ∀ {m n : Nat}, n ≤ m → m ≤ ts.length → bg ts n ≤ bg ts m
  | 0, n, h, _ => by obtain rfl : n = 0 := by omega
                     exact Nat.le_refl _
  | m + 1, n, h, hm => by
    by_cases e : n = m + 1
    · subst e; exact Nat.le_refl _
    · exact Nat.le_trans (bg_mono hp (show n ≤ m by omega) (by omega)) (Nat.le_of_lt (bg_step hp (by omega)))
theorem bg_lt {ts : List Tk} (hp : Pos ts) {m n : Nat} (h : n < m) (hm : m ≤ ts.length) : bg ts n < bg ts m := Nat.lt_of_lt_of_le (bg_step hp (by omega)) (bg_mono hp h hm)
theorem bg_inj {ts : List Tk} (hp : Pos ts) {m n : Nat} (hn : n ≤ ts.length) (hm : m ≤ ts.length) (h : bg ts n = bg ts m) : n = m := by
  rcases Nat.lt_trichotomy n m with h1 | h1 | h1
  · have := bg_lt hp h1 hm; omega
  · exact h1
  · have := bg_lt hp h1 hn; omega
theorem tkF_all (s : ByteArray) : ∀ f p, ∀ t ∈ tkF s f p, t.k < 256 ∧ t.w ≤ s.size ∧ t.l ≤ 3 ∧ 0 < t.w
  | 0, p, t, h => by simp [tkF] at h
  | f + 1, p, t, h => by
    by_cases hp : p < s.size
    · rw [tkF_step s f p hp] at h
      rcases List.mem_cons.1 h with rfl | h
      · have := tok_at hp; omega
      · exact tkF_all s f _ t h
    · rw [tkF_end s _ p hp] at h; cases h
theorem toks_pos (s : ByteArray) : Pos (toks s) := fun t h => (tkF_all s _ _ t h).2.2.2
/-- to the n-th token -/
theorem at_bg (s : ByteArray) : ∀ n, n ≤ (toks s).length → At s ((toks s).take n) (bg (toks s) n)
  | 0, _ => by rw [List.take_zero, bg_zero]; exact At.begin s
  | n + 1, hn => by
    have h1 := at_bg s n (by omega)
    have hl : ((toks s).take n).length = n := by rw [List.length_take]; omega
    by_cases hp : bg (toks s) n < s.size
    · have hnx := h1.next hp
      rw [hl] at hnx
      have h2 := h1.step hp
      rw [List.take_succ_eq_append_getElem (by omega)]
      rw [bg_succ hnx.1]
      have h3 := hnx.1
      rw [List.getElem?_eq_getElem (by omega)] at h3
      rw [Option.some.inj h3]
      exact h2
    · have := congrArg List.length (h1.done hp)
      rw [hl] at this
      omega
theorem bg_le (s : ByteArray) {n : Nat} (hn : n ≤ (toks s).length) : bg (toks s) n ≤ s.size := (at_bg s n hn).1
theorem bg_len (s : ByteArray) : bg (toks s) (toks s).length = s.size := by
  have h := at_bg s _ (Nat.le_refl _)
  refine Nat.le_antisymm h.1 (Nat.le_of_not_lt fun hp => ?_)
  have := (h.next hp).2
  rw [List.length_take] at this
  omega
theorem bg_lt_iff (s : ByteArray) {n : Nat} (hn : n ≤ (toks s).length) : bg (toks s) n < s.size ↔ n < (toks s).length := by
  constructor
  · intro h
    refine Nat.lt_of_le_of_ne hn fun e => ?_
    rw [e, bg_len] at h
    omega
  · intro h
    have := bg_lt (toks_pos s) h (Nat.le_refl _)
    rw [bg_len] at this
    exact this
theorem toks_nth (s : ByteArray) {n : Nat} (hn : n < (toks s).length) : (toks s)[n]? = some (tok (s.extract (bg (toks s) n) s.size)) := by
  have h := at_bg s n (by omega)
  have := (h.next ((bg_lt_iff s (by omega)).2 hn)).1
  rwa [List.length_take, Nat.min_eq_left (by omega)] at this
theorem toks_rest (s : ByteArray) {n : Nat} (hn : n ≤ (toks s).length) : toks (s.extract (bg (toks s) n) s.size) = (toks s).drop n := by
  have := toks_ext (at_bg s n hn)
  rwa [List.length_take, Nat.min_eq_left hn] at this
/-- how many end, with what was looked at, ahead of a place -/
def Wi (ts : List Tk) (c n : Nat) : Prop := n ≤ ts.length ∧ (∀ i t, i < n → ts[i]? = some t → bg ts i + t.w + t.l ≤ c) ∧ (∀ t, ts[n]? = some t → ¬ bg ts n + t.w + t.l ≤ c)
theorem Wi.uniq {ts : List Tk} {c n m : Nat} (h : Wi ts c n) (g : Wi ts c m) : n = m := by
  rcases Nat.lt_trichotomy n m with h1 | h1 | h1
  · obtain ⟨x, hx⟩ : ∃ x, ts[n]? = some x := ⟨_, List.getElem?_eq_getElem (show n < ts.length by have := g.1; omega)⟩
    exact absurd (g.2.1 n _ h1 hx) (h.2.2 _ hx)
  · exact h1
  · obtain ⟨x, hx⟩ : ∃ x, ts[m]? = some x := ⟨_, List.getElem?_eq_getElem (show m < ts.length by have := h.1; omega)⟩
    exact absurd (h.2.1 m _ h1 hx) (g.2.2 _ hx)
theorem Wi.le {ts : List Tk} {c n : Nat} (h : Wi ts c n) : bg ts n ≤ c := by
  cases n with
  | zero => rw [bg_zero]; exact Nat.zero_le _
  | succ n =>
    obtain ⟨x, hx⟩ : ∃ x, ts[n]? = some x := ⟨_, List.getElem?_eq_getElem (show n < ts.length by have := h.1; omega)⟩
    have := h.2.1 n _ (Nat.lt_succ_self n) hx
    rw [bg_succ hx]; omega
/-- the same first bytes: the same token -/
theorem tok_cut {x y : ByteArray} {p c : Nat} (hp : p < x.size) (hc : c ≤ x.size) (hy : c ≤ y.size) (he : x.extract 0 c = y.extract 0 c) (hl : p + (tok (x.extract p x.size)).w + (tok (x.extract p x.size)).l ≤ c) :
    tok (y.extract p y.size) = tok (x.extract p x.size) := by
  have hz : (x.extract p x.size).size = x.size - p := by rw [ByteArray.size_extract]; omega
  have hw := tok_at hp
  have h := tok_looks (x.extract p x.size) (y.extract (p + (tok (x.extract p x.size)).w + (tok (x.extract p x.size)).l) y.size) (by omega) (by omega)
  generalize (tok (x.extract p x.size)).w = a at *
  generalize (tok (x.extract p x.size)).l = b at *
  rw [← h]
  congr 1
  have e1 : (x.extract p x.size).extract 0 (a + b) = y.extract p (p + a + b) := by
    have e2 : (x.extract p x.size).extract 0 (a + b) = (x.extract 0 c).extract p (p + a + b) := by
      rw [ByteArray.extract_extract, ByteArray.extract_extract]
      congr 1 <;> omega
    rw [e2, he, ByteArray.extract_extract]
    congr 1 <;> omega
  rw [e1]
  apply ByteArray.ext
  apply Array.toList_inj.1
  rw [ByteArray.data_append, Array.toList_append]
  show (y.extract p y.size).data.toList = (y.extract p (p + a + b)).data.toList ++ (y.extract (p + a + b) y.size).data.toList
  rw [ext_list, ext_list, ext_list]
  have hlen : (y.data.toList).length = y.size := by simp
  rw [List.take_of_length_le (by rw [List.length_drop]; omega), List.take_of_length_le (l := y.data.toList.drop (p + a + b)) (by rw [List.length_drop]; omega)]
  rw [show p + a + b - p = a + b by omega, show p + a + b = p + (a + b) by omega, ← List.drop_drop, List.take_append_drop]
/-- what ends, with its looks, ahead of where the bytes differ, is the other's too -/
theorem cut_at {x y : ByteArray} {c : Nat} (hc : c ≤ x.size) (hy : c ≤ y.size) (he : x.extract 0 c = y.extract 0 c) : ∀ n, n ≤ (toks x).length → (∀ i t, i < n → (toks x)[i]? = some t → bg (toks x) i + t.w + t.l ≤ c) → n ≤ (toks y).length ∧ (toks y).take n = (toks x).take n ∧ bg (toks y) n = bg (toks x) n
  | 0, _, _ => ⟨Nat.zero_le _, by rw [List.take_zero, List.take_zero], by rw [bg_zero, bg_zero]⟩
  | n + 1, hn, h => by
    obtain ⟨i1, i2, i3⟩ := cut_at hc hy he n (by omega) (fun i t hi ht => h i t (by omega) ht)
    have hx := toks_nth x (show n < (toks x).length by omega)
    have hb := h n _ (Nat.lt_succ_self n) hx
    have hp : bg (toks x) n < x.size := (bg_lt_iff x (by omega)).2 (by omega)
    have hw := tok_at hp
    have hk := tok_cut hp hc hy he hb
    have hlt : n < (toks y).length := (bg_lt_iff y i1).1 (by omega)
    have hyn := toks_nth y hlt
    rw [i3, hk] at hyn
    refine ⟨hlt, ?_, ?_⟩
    · rw [List.take_add_one, List.take_add_one, i2, hyn, hx]
    · rw [bg_succ hyn, bg_succ hx, i3]
/-- a token of the one that begins where one of the other's does, behind the edit -/
def Mt (S T : List Tk) (oT nT : Nat) (i k : Nat) : Prop := k < S.length ∧ nT ≤ bg T i ∧ oT ≤ bg S k ∧ bg S k + nT = bg T i + oT
/-- the numbers of an edit -/
def IsNum (S T : List Tk) (oF oT nT : Nat) (a b c : Nat) : Prop := Wi S oF a ∧ a ≤ c ∧ (∀ i, a ≤ i → i < c → ∀ k, ¬ Mt S T oT nT i k) ∧ ((c < T.length ∧ Mt S T oT nT c b) ∨ (c = T.length ∧ b = S.length))
theorem IsNum.uniq {S T : List Tk} (hp : Pos S) {oF oT nT a b c a' b' c' : Nat} (h : IsNum S T oF oT nT a b c) (g : IsNum S T oF oT nT a' b' c') : a' = a ∧ b' = b ∧ c' = c := by
  obtain ⟨h1, h2, h3, h4⟩ := h
  obtain ⟨g1, g2, g3, g4⟩ := g
  obtain rfl := h1.uniq g1
  rcases h4 with ⟨h4, h5⟩ | ⟨h4, h5⟩
  · rcases g4 with ⟨g4, g5⟩ | ⟨g4, g5⟩
    · rcases Nat.lt_trichotomy c c' with e | e | e
      · exact absurd h5 (g3 c h2 e b)
      · subst e
        refine ⟨rfl, bg_inj hp (Nat.le_of_lt g5.1) (Nat.le_of_lt h5.1) ?_, rfl⟩
        have := h5.2.2.2
        have := g5.2.2.2
        omega
      · exact absurd g5 (h3 c' g2 e b')
    · exact absurd h5 (g3 c h2 (by omega) b)
  · rcases g4 with ⟨g4, g5⟩ | ⟨g4, g5⟩
    · exact absurd g5 (h3 c' g2 (by omega) b')
    · exact ⟨rfl, by omega, by omega⟩
/-- an edit: what is ahead of it and behind it is the same -/
structure Ed1 (s t : ByteArray) (oF oT nT : Nat) : Prop where
  h1 : oF ≤ oT
  h2 : oT ≤ s.size
  h3 : oF ≤ nT
  h4 : nT ≤ t.size
  h5 : s.size + nT = t.size + oT
  h6 : s.extract 0 oF = t.extract 0 oF
  h7 : s.extract oT s.size = t.extract nT t.size
theorem Ed1.fst {s t : ByteArray} {oF oT nT n : Nat} (h : Ed1 s t oF oT nT) (hw : Wi (toks s) oF n) : n ≤ (toks t).length ∧ (toks t).take n = (toks s).take n ∧ bg (toks t) n = bg (toks s) n :=
  cut_at (by have := h.1; have := h.2; omega) (by have := h.3; have := h.4; omega) h.h6 n hw.1 hw.2.1
theorem Ed1.behind {s t : ByteArray} {oF oT nT i k : Nat} (h : Ed1 s t oF oT nT) (hi : i ≤ (toks t).length) (hm : Mt (toks s) (toks t) oT nT i k) : (toks t).drop i = (toks s).drop k := by
  obtain ⟨m1, m2, m3, m4⟩ := hm
  rw [← toks_rest s (Nat.le_of_lt m1), ← toks_rest t hi]
  obtain ⟨d, hd⟩ : ∃ d, bg (toks s) k = oT + d := ⟨bg (toks s) k - oT, by omega⟩
  have e : bg (toks t) i = nT + d := by omega
  rw [hd, e, ← ext_ext s oT d h.2, ← ext_ext t nT d h.4, h.7]
theorem IsNum.whole {s t : ByteArray} {oF oT nT a b c : Nat} (h : Ed1 s t oF oT nT) (g : IsNum (toks s) (toks t) oF oT nT a b c) : toks t = (toks s).take a ++ ((toks t).drop a).take (c - a) ++ (toks s).drop b ∧ a ≤ b ∧ b ≤ (toks s).length ∧ c ≤ (toks t).length ∧ (toks t).take a = (toks s).take a ∧ (toks t).drop c = (toks s).drop b := by
  obtain ⟨g1, g2, g3, g4⟩ := g
  obtain ⟨f1, f2, f3⟩ := h.fst g1
  have hc : c ≤ (toks t).length := by rcases g4 with g4 | g4 <;> omega
  have hd : (toks t).drop c = (toks s).drop b := by
    rcases g4 with ⟨g4, g5⟩ | ⟨g4, g5⟩
    · exact h.behind hc g5
    · rw [g4, g5, List.drop_length, List.drop_length]
  have hb : b ≤ (toks s).length := by
    rcases g4 with ⟨g4, g5⟩ | ⟨g4, g5⟩
    · exact Nat.le_of_lt g5.1
    · omega
  have hab : a ≤ b := by
    rcases g4 with ⟨g4, g5⟩ | ⟨g4, g5⟩
    · refine Nat.le_of_not_lt fun e => ?_
      have := bg_lt (toks_pos s) e g1.1
      have := g1.le
      have := g5.2.2.1
      have := h.1
      omega
    · rw [g5]; exact g1.1
  refine ⟨?_, hab, hb, hc, f2, hd⟩
  rw [← f2, ← hd, List.append_assoc]
  conv => lhs; rw [← List.take_append_drop a (toks t)]
  congr 1
  conv => lhs; rw [← List.take_append_drop (c - a) ((toks t).drop a)]
  rw [List.drop_drop, show a + (c - a) = c by omega]
/-- of what is cut off: the first tokens that hang on no byte behind it are the whole's -/
theorem sure_of {r : ByteArray} {z n : Nat} (hz : z ≤ r.size) (h : Wi (toks (r.extract 0 z)) z n) : (toks (r.extract 0 z)).take n = (toks r).take n ∧ n ≤ (toks r).length := by
  have hzz : (r.extract 0 z).size = z := by rw [ByteArray.size_extract]; omega
  have := cut_at (x := r.extract 0 z) (y := r) (c := z) (by omega) hz (by rw [ByteArray.extract_extract]; congr 1; omega) n h.1 h.2.1
  exact ⟨this.2.1.symm, this.1⟩
end Go.Proofs.Ytglanajglhneeaa.D

namespace Go.Proofs.Ytglanajglhneeaa.D
open Go U
theorem put_list (s m : ByteArray) (a b : Nat) : (s.extract 0 a ++ m ++ s.extract b s.size).data.toList = s.data.toList.take a ++ m.data.toList ++ s.data.toList.drop b := by
  rw [ByteArray.data_append, Array.toList_append, ByteArray.data_append, Array.toList_append, ext_list, ext_list, List.drop_zero, Nat.sub_zero]
  congr 1
  rw [List.take_of_length_le]
  rw [List.length_drop]
  simp
theorem put_size (s m : ByteArray) (a b : Nat) (ha : a ≤ s.size) : (s.extract 0 a ++ m ++ s.extract b s.size).size = a + m.size + (s.size - b) := by
  rw [ByteArray.size_append, ByteArray.size_append, ByteArray.size_extract, ByteArray.size_extract]
  omega
theorem ba_ext {x y : ByteArray} (h : x.data.toList = y.data.toList) : x = y := ByteArray.ext (Array.toList_inj.1 h)
theorem ed1_put (s m : ByteArray) (a b : Nat) (h1 : a ≤ b) (h2 : b ≤ s.size) : Ed1 s (s.extract 0 a ++ m ++ s.extract b s.size) a b (a + m.size) := by
  have hz := put_size s m a b (by omega)
  have hl : s.data.toList.length = s.size := by simp
  have hm : m.data.toList.length = m.size := by simp
  refine ⟨h1, h2, by omega, by omega, by omega, ?_, ?_⟩
  · apply ba_ext
    rw [ext_list, ext_list, put_list, List.drop_zero, List.drop_zero, Nat.sub_zero, List.append_assoc, List.take_append_of_le_length (by rw [List.length_take]; omega), List.take_take]
    congr 1; omega
  · apply ba_ext
    rw [ext_list, ext_list, hz, put_list]
    have e : (s.data.toList.take a ++ m.data.toList).length = a + m.size := by rw [List.length_append, List.length_take, hm]; omega
    rw [← e, List.drop_left, e, List.take_of_length_le (by rw [List.length_drop]; omega), List.take_of_length_le (by rw [List.length_drop]; omega)]
end Go.Proofs.Ytglanajglhneeaa.D
