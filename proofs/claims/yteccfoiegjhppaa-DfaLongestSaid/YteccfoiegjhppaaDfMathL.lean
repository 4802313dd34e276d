/- A token hangs on its own bytes and those that were looked at: pure. Conditions: none. -/
import Derived.Test.YteccfoiegjhppaaDfMathB
import Derived.Test.YteccfoiegjhppaaUtfMathG
namespace Go.Proofs.Yteccfoiegjhppaa.D
open Go U

theorem bl_app : ∀ (x m : List UInt8) (q0 q : Nat), bl q0 x = (q, x.length) → bl q0 (x ++ m) = ((bl q m).1, x.length + (bl q m).2)
  | [], m, q0, q, h => by
    injection h with h1 _
    subst h1
    simp
  | b :: r, m, q0, q, h => by
    by_cases hs : stp q0 (cls b.toNat) < 0
    · rw [bl_stop hs] at h
      injection h with _ h2
      simp at h2
    · rw [bl_go hs] at h
      injection h with h1 h2
      have := bl_app r m (stp q0 (cls b.toNat)).toNat q (by rw [← h1]; exact Prod.ext rfl (Nat.succ.inj h2))
      rw [List.cons_append, bl_go hs, this]
      simp only [List.length_cons]
      congr 1
      omega
theorem bl_stops : ∀ (l : List UInt8) (q0 : Nat) (h : (bl q0 l).2 < l.length), stp (bl q0 l).1 (cls (l[(bl q0 l).2]).toNat) < 0
  | [], q0, h => absurd h (Nat.not_lt_zero _)
  | b :: r, q0, h => by
    by_cases hs : stp q0 (cls b.toNat) < 0
    · simp only [bl_stop hs]; exact hs
    · simp only [bl_go hs] at h ⊢
      exact bl_stops r _ (by simpa using h)
theorem bl_none {q : Nat} (h : lon q = false) (m : List UInt8) : bl q m = (q, 0) := by
  cases m with
  | nil => rfl
  | cons b r =>
    refine bl_stop ?_
    unfold lon at h
    rw [List.any_eq_false] at h
    have := h (cls b.toNat) (List.mem_range.2 (cls_lt _))
    simpa using this
/-- the bytes of a run, and one more if the run could go on, decide it -/
theorem bl_looks (l m : List UInt8) (q0 q d : Nat) (h : bl q0 l = (q, d)) (hl : d + (if lon q = true then 1 else 0) ≤ l.length) : bl q0 (l.take (d + if lon q = true then 1 else 0) ++ m) = (q, d) := by
  have ht := bl_take l q0
  rw [h] at ht
  simp only at ht
  have hd : (l.take d).length = d := by rw [List.length_take]; omega
  have ha := fun m => bl_app (l.take d) m q0 q (by rw [ht, hd])
  cases hq : lon q
  · rw [if_neg (by decide), Nat.add_zero, ha, bl_none hq, hd]; rfl
  · rw [hq, if_pos rfl] at hl
    rw [if_pos rfl]
    have hs := bl_stops l q0 (by rw [h]; exact hl)
    simp only [h] at hs
    rw [List.take_succ_eq_append_getElem (show d < l.length from hl), List.append_assoc, ha, List.singleton_append, bl_stop hs, hd]; rfl
theorem get_app_left (x m : ByteArray) (k : Nat) (h : k < x.size) : (x ++ m).get! k = x.get! k := by
  rw [at_get (show k < (x ++ m).size by rw [ByteArray.size_append]; omega), at_get h]
  exact ByteArray.getElem_append_left h
theorem tok_run {x : ByteArray} {q d : Nat} (h : run x = (q, d)) : tok x = ⟨if q = 7 then wrd (x.extract 0 d) else kd q, d, lk x q d⟩ := by unfold tok; rw [h]
theorem lk_lo {x : ByteArray} {q d : Nat} (h : (x.get! 0).toNat < 128) : lk x q d = if lon q = true then 1 else 0 := by
  unfold lk
  by_cases hq : lon q = true
  · rw [if_pos hq, if_pos hq]
  · rw [if_neg hq, if_neg hq, if_neg (by omega)]
theorem tok_looks (r m : ByteArray) (h : 0 < r.size) (hl : (tok r).w + (tok r).l ≤ r.size) : tok (r.extract 0 ((tok r).w + (tok r).l) ++ m) = tok r := by
  have hf := run_fits r
  have h3 := hf.2.2 h
  obtain ⟨q, d, hR⟩ : ∃ q d, run r = (q, d) := ⟨_, _, rfl⟩
  rw [hR] at hf h3
  simp only at hf h3
  have hT := tok_run hR
  rw [hT] at hl ⊢
  simp only at hl ⊢
  have hxs : (r.extract 0 (d + lk r q d)).size = d + lk r q d := by rw [ByteArray.size_extract]; omega
  have hgx : ∀ k, k < d + lk r q d → (r.extract 0 (d + lk r q d) ++ m).get! k = r.get! k := fun k hk => by
    rw [get_app_left _ _ _ (by omega), ext_get r 0 _ k (by omega) (by omega), Nat.zero_add]
  have hys : (r.extract 0 (d + lk r q d) ++ m).size = d + lk r q d + m.size := by rw [ByteArray.size_append, hxs]
  have hw : (r.extract 0 (d + lk r q d) ++ m).extract 0 d = r.extract 0 d := by
    apply ByteArray.ext
    apply Array.toList_inj.1
    show ((r.extract 0 (d + lk r q d) ++ m).extract 0 d).data.toList = (r.extract 0 d).data.toList
    rw [ext_list, ext_list, List.drop_zero, List.drop_zero, ByteArray.data_append, Array.toList_append, ext_list, List.drop_zero, List.take_append_of_le_length (by rw [List.length_take]; simp; omega), List.take_take]
    congr 1; omega
  by_cases hb : (r.get! 0).toNat < 128
  · have hlk : lk r q d = if lon q = true then 1 else 0 := lk_lo hb
    rw [run_lo h hb] at hR
    have hlen : r.data.toList.length = r.size := by simp
    have hb2 := bl_looks r.data.toList m.data.toList 0 q d hR (by rw [hlen, ← hlk]; exact hl)
    have hrun : run (r.extract 0 (d + lk r q d) ++ m) = (q, d) := by
      rw [run_lo (by omega) (by rw [hgx 0 (by omega)]; exact hb), ByteArray.data_append, Array.toList_append, ext_list, List.drop_zero, Nat.sub_zero, hlk]
      exact hb2
    rw [tok_run hrun, hw, lk_lo (by rw [hgx 0 (by omega)]; exact hb), hlk]
  · have hR2 := run_hi h (by omega)
    rw [hR] at hR2
    have e1 : q = 34 := congrArg Prod.fst hR2
    have e2 : d = wd r 0 := congrArg Prod.snd hR2
    subst e1
    have hl34 : lon 34 = false := by decide +kernel
    have hbl := bad_lone r 0
    by_cases h1 : d = 1
    · have hlk : lk r 34 d = 3 := by
        have : lk r 34 d = min 3 (r.size - d + 1) := by unfold lk; rw [hl34, if_neg (by decide), if_pos ⟨h1, by omega⟩]
        rw [this] at hl ⊢
        omega
      have hbad : bad r 0 = true := by rw [hbl]; exact decide_eq_true ⟨by omega, by omega⟩
      have hbad2 : bad (r.extract 0 (d + lk r 34 d) ++ m) 0 = true := by
        cases hh : bad (r.extract 0 (d + lk r 34 d) ++ m) 0
        · have hf2 := facts (r.extract 0 (d + lk r 34 d) ++ m) 0 (by omega)
          have hs := same_char (r.extract 0 (d + lk r 34 d) ++ m) r 0 0 (by omega) hh (by omega) (fun k hk => by rw [Nat.zero_add, hgx k (by omega)])
          have : bad r 0 = bad (r.extract 0 (d + lk r 34 d) ++ m) 0 := by unfold bad; rw [hs.1, hs.2]
          rw [hbad, hh] at this
          exact this.symm
        · rfl
      have hrun : run (r.extract 0 (d + lk r 34 d) ++ m) = (34, 1) := by
        rw [run_hi (by omega) (by rw [hgx 0 (by omega)]; omega), bad_wd hbad2]
      have hlk2 : lk (r.extract 0 (d + lk r 34 d) ++ m) 34 1 = 3 := by
        have : lk (r.extract 0 (d + lk r 34 d) ++ m) 34 1 = min 3 ((r.extract 0 (d + lk r 34 d) ++ m).size - 1 + 1) := by
          unfold lk; rw [hl34, if_neg (by decide), if_pos ⟨rfl, by have := hgx 0 (by omega); unfold lk at this; rw [hl34] at this; rw [this]; omega⟩]
        rw [this, hys]
        omega
      rw [tok_run hrun, hlk2, hlk, h1, if_neg (by decide), if_neg (by decide)]
    · have hlk : lk r 34 d = 0 := by unfold lk; rw [hl34, if_neg (by decide), if_neg (fun hh => h1 hh.1)]
      have hgood : bad r 0 = false := by rw [hbl]; exact decide_eq_false (by omega)
      have hs := same_char r (r.extract 0 (d + lk r 34 d) ++ m) 0 0 h hgood (by omega) (fun k hk => by rw [Nat.zero_add, hgx k (by omega)])
      have hrun : run (r.extract 0 (d + lk r 34 d) ++ m) = (34, d) := by
        rw [run_hi (by omega) (by rw [hgx 0 (by omega)]; omega), hs.2, e2]
      have hlk2 : lk (r.extract 0 (d + lk r 34 d) ++ m) 34 d = 0 := by
        generalize r.extract 0 (d + lk r 34 d) ++ m = x
        unfold lk; rw [hl34, if_neg (by decide), if_neg (fun hh => h1 hh.1)]
      rw [tok_run hrun, hlk2, hlk, if_neg (by decide), if_neg (by decide)]
/-- as the law says it -/
theorem scan_looks (s m : ByteArray) (p : Nat) (hp : p < s.size) (hl : p + (tok (s.extract p s.size)).w + (tok (s.extract p s.size)).l ≤ s.size) :
    tok ((s.extract 0 (p + (tok (s.extract p s.size)).w + (tok (s.extract p s.size)).l) ++ m).extract p (s.extract 0 (p + (tok (s.extract p s.size)).w + (tok (s.extract p s.size)).l) ++ m).size) = tok (s.extract p s.size) := by
  have hz : (s.extract p s.size).size = s.size - p := by rw [ByteArray.size_extract]; omega
  have h := tok_looks (s.extract p s.size) m (by omega) (by omega)
  generalize (tok (s.extract p s.size)).w = a at *
  generalize (tok (s.extract p s.size)).l = b at *
  rw [← h]
  congr 1
  apply ByteArray.ext
  apply Array.toList_inj.1
  show ((s.extract 0 (p + a + b) ++ m).extract p (s.extract 0 (p + a + b) ++ m).size).data.toList = ((s.extract p s.size).extract 0 (a + b) ++ m).data.toList
  have hlen : (s.data.toList).length = s.size := by simp
  rw [ext_list, ByteArray.data_append, Array.toList_append, ByteArray.data_append, Array.toList_append, ByteArray.extract_extract, ext_list, ext_list, List.drop_zero, ByteArray.size_append, ByteArray.size_extract]
  rw [List.drop_append, List.drop_take, List.length_take]
  have e1 : p - min (p + a + b - 0) s.data.toList.length = 0 := by rw [hlen]; omega
  rw [e1, List.drop_zero, List.take_of_length_le (by rw [List.length_append, List.length_take, List.length_drop, hlen]; simp; omega)]
  congr 2
  omega
end Go.Proofs.Yteccfoiegjhppaa.D
