/- The scanner's run, place by place: pure. Conditions: none. -/
import Derived.Test.YteccfoiegjhppaaDxMath
namespace Go.Proofs.Yteccfoiegjhppaa.D
open Go U
/-- the run from a state and a place, over characters -/
def rn (s : ByteArray) (q p : Nat) : Nat × Nat := cr s s.size q p
theorem rn_end {s : ByteArray} {q p : Nat} (h : ¬ p < s.size) : rn s q p = (q, p) := cr_end s _ q p h
theorem rn_stop {s : ByteArray} {q p : Nat} (h : stp q (cls (s.get! p).toNat) < 0) : rn s q p = (q, p) := cr_stop s _ q p (by rw [cls_ch]; exact h)
theorem rn_step {s : ByteArray} {q p n : Nat} (hp : p < s.size) (h : stp q (cls (s.get! p).toNat) = (n : Int)) : rn s q p = rn s n (p + wd s p) := by
  obtain ⟨f, hf⟩ : ∃ f, s.size = f + 1 := ⟨s.size - 1, by omega⟩
  have := wd_pos hp
  have h1 : cr s s.size q p = cr s (f + 1) q p := by rw [← hf]
  unfold rn
  rw [h1, cr_step s f q p hp (by rw [cls_ch, h]; omega), cls_ch, h, Int.toNat_natCast]
  exact cr_fuel s f s.size n _ (by omega) (by omega)
theorem rn_fin {s : ByteArray} {q p : Nat} (h : ∀ c, stp q c < 0) : rn s q p = (q, p) := rn_stop (h _)
/-- over bytes -/
def rb (s : ByteArray) (q i : Nat) : Nat × Nat := ((bl q (s.data.toList.drop i)).1, i + (bl q (s.data.toList.drop i)).2)
theorem rb_end {s : ByteArray} {q i : Nat} (h : ¬ i < s.size) : rb s q i = (q, i) := by unfold rb; rw [stay_end h]; rfl
theorem rb_stop {s : ByteArray} {q i : Nat} (hi : i < s.size) (h : stp q (cls (s.get! i).toNat) < 0) : rb s q i = (q, i) := by unfold rb; rw [stay_stop hi h]; rfl
theorem rb_step {s : ByteArray} {q i n : Nat} (hi : i < s.size) (h : stp q (cls (s.get! i).toNat) = (n : Int)) : rb s q i = rb s n (i + 1) := by
  unfold rb; rw [one_step hi h]; simp only; congr 1; omega
theorem rb_fin {s : ByteArray} {q i : Nat} (h : ∀ c, stp q c < 0) : rb s q i = (q, i) := by
  by_cases hi : i < s.size
  · exact rb_stop hi (h _)
  · exact rb_end hi
theorem rn_rb {s : ByteArray} {q p : Nat} (h0 : q ≠ 0) (hq : q < 35) (hp : p ≤ s.size) : rn s q p = rb s q p := cr_bl s s.size q p h0 hq hp (by omega)
theorem rb_stay {s : ByteArray} {q i : Nat} (h : ∀ l, (bl q l).1 = q) : (rb s q i).1 = q := h _
theorem rn_lo {s : ByteArray} {p : Nat} (hp : p < s.size) (hb : (s.get! p).toNat < 128) : rn s 0 p = rb s (stp 0 (cls (s.get! p).toNat)).toNat (p + 1) := cr_lo hp hb
theorem rn_hi {s : ByteArray} {p : Nat} (hp : p < s.size) (hb : 128 ≤ (s.get! p).toNat) : rn s 0 p = (34, p + wd s p) := cr_hi hp hb
theorem cls_one (k x : Nat) (h : ∀ y : Fin 128, cls y.1 = k ↔ y.1 = x) (hx : x < 128) (hk : k ≠ 0) (c : Nat) : cls c = k ↔ c = x := by
  by_cases hc : c < 128
  · exact h ⟨c, hc⟩
  · rw [cls_hi (by omega)]; omega
theorem cls_5 (c : Nat) : cls c = 5 ↔ c = 34 := cls_one 5 34 (by decide +kernel) (by decide) (by decide) c
theorem cls_6 (c : Nat) : cls c = 6 ↔ c = 92 := cls_one 6 92 (by decide +kernel) (by decide) (by decide) c
theorem cls_7 (c : Nat) : cls c = 7 ↔ c = 47 := cls_one 7 47 (by decide +kernel) (by decide) (by decide) c
theorem cls_8 (c : Nat) : cls c = 8 ↔ c = 42 := cls_one 8 42 (by decide +kernel) (by decide) (by decide) c
theorem cls_9 (c : Nat) : cls c = 9 ↔ c = 61 := cls_one 9 61 (by decide +kernel) (by decide) (by decide) c
theorem cls_10 (c : Nat) : cls c = 10 ↔ c = 33 := cls_one 10 33 (by decide +kernel) (by decide) (by decide) c
theorem cls_11 (c : Nat) : cls c = 11 ↔ c = 60 := cls_one 11 60 (by decide +kernel) (by decide) (by decide) c
theorem cls_12 (c : Nat) : cls c = 12 ↔ c = 62 := cls_one 12 62 (by decide +kernel) (by decide) (by decide) c
theorem cls_13 (c : Nat) : cls c = 13 ↔ c = 38 := cls_one 13 38 (by decide +kernel) (by decide) (by decide) c
theorem cls_14 (c : Nat) : cls c = 14 ↔ c = 124 := cls_one 14 124 (by decide +kernel) (by decide) (by decide) c
theorem cls_2 (c : Nat) : cls c = 2 ↔ (c = 10 ∨ c = 13) := by
  by_cases h : c < 128
  · have : ∀ c : Fin 128, cls c.1 = 2 ↔ (c.1 = 10 ∨ c.1 = 13) := by decide +kernel
    exact this ⟨c, h⟩
  · rw [cls_hi (by omega)]; omega
/-- a remark over lines -/
theorem blk_step {s : ByteArray} {i : Nat} (h1 : i + 1 < s.size) (hn : ¬ ((s.get! i).toNat = 42 ∧ (s.get! (i + 1)).toNat = 47)) : kd (rb s 4 i).1 = kd (rb s 4 (i + 1)).1 ∧ (rb s 4 i).2 = (rb s 4 (i + 1)).2 := by
  have c0 := cls_lt (s.get! i).toNat
  have c1 := cls_lt (s.get! (i + 1)).toNat
  by_cases h : cls (s.get! i).toNat = 8
  · have h7 : ¬ cls (s.get! (i + 1)).toNat = 7 := fun e => hn ⟨(cls_8 _).1 h, (cls_7 _).1 e⟩
    have e0 : rb s 4 i = rb s 5 (i + 1) := rb_step (by omega) (by rw [stp_4 c0, if_pos h]; rfl)
    rw [e0]
    by_cases h8 : cls (s.get! (i + 1)).toNat = 8
    · rw [rb_step (q := 5) (n := 5) h1 (by rw [stp_5 c1, if_pos h8]; rfl), rb_step (q := 4) (n := 5) h1 (by rw [stp_4 c1, if_pos h8]; rfl)]
      exact ⟨rfl, rfl⟩
    · rw [rb_step (q := 5) (n := 4) h1 (by rw [stp_5 c1, if_neg h8, if_neg h7]; rfl), rb_step (q := 4) (n := 4) h1 (by rw [stp_4 c1, if_neg h8]; rfl)]
      exact ⟨rfl, rfl⟩
  · have e0 : rb s 4 i = rb s 4 (i + 1) := rb_step (by omega) (by rw [stp_4 c0, if_neg h]; rfl)
    rw [e0]
    exact ⟨rfl, rfl⟩
theorem blk_done {s : ByteArray} {i : Nat} (h1 : i + 1 < s.size) (ha : (s.get! i).toNat = 42) (hb : (s.get! (i + 1)).toNat = 47) : rb s 4 i = (6, i + 2) := by
  have e0 : rb s 4 i = rb s 5 (i + 1) := rb_step (by omega) (by rw [ha]; decide +kernel)
  have e1 : rb s 5 (i + 1) = rb s 6 (i + 2) := rb_step (by omega) (by rw [hb]; decide +kernel)
  rw [e0, e1, rb_fin (fun c => by show (-1 : Int) < 0; decide)]
theorem blk_end {s : ByteArray} {i : Nat} (h1 : ¬ i + 1 < s.size) (hi : i ≤ s.size) : kd (rb s 4 i).1 = 4 ∧ (rb s 4 i).2 = s.size := by
  by_cases h : i < s.size
  · have c0 := cls_lt (s.get! i).toNat
    by_cases h8 : cls (s.get! i).toNat = 8
    · rw [rb_step (n := 5) h (by rw [stp_4 c0, if_pos h8]; rfl), rb_end (by omega)]
      exact ⟨rfl, by show i + 1 = _; omega⟩
    · rw [rb_step (n := 4) h (by rw [stp_4 c0, if_neg h8]; rfl), rb_end (by omega)]
      exact ⟨rfl, by show i + 1 = _; omega⟩
  · rw [rb_end h]
    exact ⟨rfl, by show i = _; omega⟩
/-- operators and brackets -/
def twl : List ByteArray := [⟨#[61, 61]⟩, ⟨#[33, 61]⟩, ⟨#[60, 61]⟩, ⟨#[62, 61]⟩, ⟨#[38, 38]⟩, ⟨#[124, 124]⟩]
def twk : List Nat := [27, 28, 30, 32, 39, 40]
def onl : ByteArray := ⟨#[40, 41, 123, 125, 44, 59, 61, 60, 62, 43, 45, 42, 37, 33]⟩
def onk : List Nat := [20, 21, 22, 23, 24, 25, 26, 29, 31, 33, 34, 35, 37, 38]
theorem ext_two {s : ByteArray} {p : Nat} (h : p + 2 ≤ s.size) : (s.extract p (p + 2)).toList = [s.get! p, s.get! (p + 1)] := by
  rw [Lib.toList_data, ext_list, drop_at (by omega), drop_at (show p + 1 < s.size by omega), show p + 2 - p = 2 by omega]
  rfl
theorem two_done {s : ByteArray} {p b c q1 q2 : Nat} (h : p + 1 < s.size) (hb : b < 128) (e1 : (s.get! p).toNat = b) (e2 : (s.get! (p + 1)).toNat = c) (h1 : stp 0 (cls b) = (q1 : Int)) (h2 : stp q1 (cls c) = (q2 : Int)) (h3 : ∀ c, stp q2 c < 0) : rn s 0 p = (q2, p + 2) := by
  rw [rn_lo (by omega) (by omega), e1, h1, Int.toNat_natCast, rb_step (n := q2) h (by rw [e2]; exact h2), rb_fin h3]
theorem sg_two {s : ByteArray} {p i : Nat} (hi : i < 6) (h : p + 2 ≤ s.size) (he : (s.extract p (p + 2)).toList = (twl.getD i ByteArray.empty).toList) : kd (rn s 0 p).1 = twk.getD i 0 ∧ (rn s 0 p).2 = p + 2 := by
  rw [ext_two h] at he
  have h6 : i = 0 ∨ i = 1 ∨ i = 2 ∨ i = 3 ∨ i = 4 ∨ i = 5 := by omega
  rcases h6 with rfl | rfl | rfl | rfl | rfl | rfl
  · have he : [s.get! p, s.get! (p + 1)] = [61, 61] := by rw [he]; simp only [Lib.toList_data]; rfl
    injection he with a1 a2
    injection a2 with a2 _
    rw [two_done (b := 61) (c := 61) (q1 := 12) (q2 := 13) (by omega) (by decide) (by rw [a1]; rfl) (by rw [a2]; rfl) (by decide +kernel) (by decide +kernel) (fun c => by show (-1 : Int) < 0; decide)]
    exact ⟨rfl, rfl⟩
  · have he : [s.get! p, s.get! (p + 1)] = [33, 61] := by rw [he]; simp only [Lib.toList_data]; rfl
    injection he with a1 a2
    injection a2 with a2 _
    rw [two_done (b := 33) (c := 61) (q1 := 14) (q2 := 15) (by omega) (by decide) (by rw [a1]; rfl) (by rw [a2]; rfl) (by decide +kernel) (by decide +kernel) (fun c => by show (-1 : Int) < 0; decide)]
    exact ⟨rfl, rfl⟩
  · have he : [s.get! p, s.get! (p + 1)] = [60, 61] := by rw [he]; simp only [Lib.toList_data]; rfl
    injection he with a1 a2
    injection a2 with a2 _
    rw [two_done (b := 60) (c := 61) (q1 := 16) (q2 := 17) (by omega) (by decide) (by rw [a1]; rfl) (by rw [a2]; rfl) (by decide +kernel) (by decide +kernel) (fun c => by show (-1 : Int) < 0; decide)]
    exact ⟨rfl, rfl⟩
  · have he : [s.get! p, s.get! (p + 1)] = [62, 61] := by rw [he]; simp only [Lib.toList_data]; rfl
    injection he with a1 a2
    injection a2 with a2 _
    rw [two_done (b := 62) (c := 61) (q1 := 18) (q2 := 19) (by omega) (by decide) (by rw [a1]; rfl) (by rw [a2]; rfl) (by decide +kernel) (by decide +kernel) (fun c => by show (-1 : Int) < 0; decide)]
    exact ⟨rfl, rfl⟩
  · have he : [s.get! p, s.get! (p + 1)] = [38, 38] := by rw [he]; simp only [Lib.toList_data]; rfl
    injection he with a1 a2
    injection a2 with a2 _
    rw [two_done (b := 38) (c := 38) (q1 := 20) (q2 := 21) (by omega) (by decide) (by rw [a1]; rfl) (by rw [a2]; rfl) (by decide +kernel) (by decide +kernel) (fun c => by show (-1 : Int) < 0; decide)]
    exact ⟨rfl, rfl⟩
  · have he : [s.get! p, s.get! (p + 1)] = [124, 124] := by rw [he]; simp only [Lib.toList_data]; rfl
    injection he with a1 a2
    injection a2 with a2 _
    rw [two_done (b := 124) (c := 124) (q1 := 22) (q2 := 23) (by omega) (by decide) (by rw [a1]; rfl) (by rw [a2]; rfl) (by decide +kernel) (by decide +kernel) (fun c => by show (-1 : Int) < 0; decide)]
    exact ⟨rfl, rfl⟩
/-- what is no sign's beginning -/
def Ns (c : Nat) : Prop := c = 1 ∨ c = 2 ∨ c = 3 ∨ c = 4 ∨ c = 5 ∨ c = 7
instance (c : Nat) : Decidable (Ns c) := by unfold Ns; infer_instance
theorem pairs (c d : Nat) (hc : c < 24) (hd : d < 24) (hn : ¬ Ns c) (h : 0 ≤ stp (stp 0 c).toNat d) : (c = 9 ∧ d = 9) ∨ (c = 10 ∧ d = 9) ∨ (c = 11 ∧ d = 9) ∨ (c = 12 ∧ d = 9) ∨ (c = 13 ∧ d = 13) ∨ (c = 14 ∧ d = 14) := by
  have : ∀ c d : Fin 24, ¬ Ns c.1 → 0 ≤ stp (stp 0 c.1).toNat d.1 → ((c.1 = 9 ∧ d.1 = 9) ∨ (c.1 = 10 ∧ d.1 = 9) ∨ (c.1 = 11 ∧ d.1 = 9) ∨ (c.1 = 12 ∧ d.1 = 9) ∨ (c.1 = 13 ∧ d.1 = 13) ∨ (c.1 = 14 ∧ d.1 = 14)) := by decide +kernel
  exact this ⟨c, hc⟩ ⟨d, hd⟩ hn h
theorem byte_eq {x : UInt8} {n : Nat} {y : UInt8} (h : x.toNat = n) (hy : y.toNat = n) : x = y := UInt8.toNat_inj.1 (h.trans hy.symm)
theorem sg_rest {s : ByteArray} {p : Nat} (hp : p < s.size) (hb : (s.get! p).toNat < 128) (hn : ¬ Ns (cls (s.get! p).toNat)) (hN : ∀ i, i < 6 → p + 2 ≤ s.size → ¬ (s.extract p (p + 2)).toList = (twl.getD i ByteArray.empty).toList) : rn s 0 p = ((stp 0 (cls (s.get! p).toNat)).toNat, p + 1) := by
  rw [rn_lo hp hb]
  by_cases h2 : p + 1 < s.size
  · refine rb_stop h2 (Decidable.byContradiction fun h => ?_)
    have hp2 := pairs _ _ (cls_lt _) (cls_lt (s.get! (p + 1)).toNat) hn (by omega)
    have hM : ∀ i, i < 6 → ¬ [s.get! p, s.get! (p + 1)] = (twl.getD i ByteArray.empty).toList := fun i hi => by
      have := hN i hi (by omega)
      rwa [ext_two (by omega)] at this
    rw [cls_9, cls_10, cls_11, cls_12, cls_13, cls_14, cls_9, cls_13, cls_14] at hp2
    rcases hp2 with ⟨a, b⟩ | ⟨a, b⟩ | ⟨a, b⟩ | ⟨a, b⟩ | ⟨a, b⟩ | ⟨a, b⟩
    · exact hM 0 (by decide) (by rw [byte_eq a (y := 61) rfl, byte_eq b (y := 61) rfl]; simp only [Lib.toList_data]; rfl)
    · exact hM 1 (by decide) (by rw [byte_eq a (y := 33) rfl, byte_eq b (y := 61) rfl]; simp only [Lib.toList_data]; rfl)
    · exact hM 2 (by decide) (by rw [byte_eq a (y := 60) rfl, byte_eq b (y := 61) rfl]; simp only [Lib.toList_data]; rfl)
    · exact hM 3 (by decide) (by rw [byte_eq a (y := 62) rfl, byte_eq b (y := 61) rfl]; simp only [Lib.toList_data]; rfl)
    · exact hM 4 (by decide) (by rw [byte_eq a (y := 38) rfl, byte_eq b (y := 38) rfl]; simp only [Lib.toList_data]; rfl)
    · exact hM 5 (by decide) (by rw [byte_eq a (y := 124) rfl, byte_eq b (y := 124) rfl]; simp only [Lib.toList_data]; rfl)
  · exact rb_end h2
theorem sg_one {s : ByteArray} {p j : Nat} (hj : j < 14) (hp : p < s.size) (hn : ¬ Ns (cls (s.get! p).toNat)) (hN : ∀ i, i < 6 → p + 2 ≤ s.size → ¬ (s.extract p (p + 2)).toList = (twl.getD i ByteArray.empty).toList) (he : (s.get! p).toNat = (onl.get! j).toNat) : kd (rn s 0 p).1 = onk.getD j 0 ∧ (rn s 0 p).2 = p + 1 := by
  have hk : ∀ j : Fin 14, (onl.get! j.1).toNat < 128 ∧ kd (stp 0 (cls (onl.get! j.1).toNat)).toNat = onk.getD j.1 0 := by decide +kernel
  have hkj := hk ⟨j, hj⟩
  rw [sg_rest hp (by rw [he]; exact hkj.1) hn hN, he]
  exact ⟨hkj.2, rfl⟩
theorem sg_odd {s : ByteArray} {p : Nat} (hp : p < s.size) (hn : ¬ Ns (cls (s.get! p).toNat)) (hN : ∀ i, i < 6 → p + 2 ≤ s.size → ¬ (s.extract p (p + 2)).toList = (twl.getD i ByteArray.empty).toList) (hO : ∀ j, j < 14 → ¬ (s.get! p).toNat = (onl.get! j).toNat) : kd (rn s 0 p).1 = 5 ∧ (rn s 0 p).2 = p + wd s p := by
  by_cases hb : (s.get! p).toNat < 128
  · have hk : ∀ b : Fin 128, (∃ j : Fin 14, b.1 = (onl.get! j.1).toNat) ∨ Ns (cls b.1) ∨ kd (stp 0 (cls b.1)).toNat = 5 := by decide +kernel
    rw [sg_rest hp hb hn hN, (next_ascii s p hb).2.1]
    refine ⟨?_, rfl⟩
    rcases hk ⟨_, hb⟩ with ⟨j, h⟩ | h | h
    · exact absurd h (hO j.1 j.2)
    · exact absurd h hn
    · exact h
  · rw [rn_hi hp (by omega)]
    exact ⟨rfl, rfl⟩
end Go.Proofs.Yteccfoiegjhppaa.D
