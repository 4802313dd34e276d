/- The scanner's table, and how it goes over bytes: pure. Conditions: none. -/
import Derived.Test.YteccfoiegjhppaaUtfMathB
namespace Go.Proofs.Yteccfoiegjhppaa.D
open Go U

/-- the class of a character's number -/
def cls (x : Nat) : Nat :=
  if x = 32 ∨ x = 9 then 1 else if x = 10 ∨ x = 13 then 2
  else if (97 ≤ x ∧ x ≤ 122) ∨ (65 ≤ x ∧ x ≤ 90) ∨ x = 95 then 3
  else if 48 ≤ x ∧ x ≤ 57 then 4
  else if x = 34 then 5 else if x = 92 then 6 else if x = 47 then 7 else if x = 42 then 8 else if x = 61 then 9
  else if x = 33 then 10 else if x = 60 then 11 else if x = 62 then 12 else if x = 38 then 13 else if x = 124 then 14
  else if x = 40 then 15 else if x = 41 then 16 else if x = 123 then 17 else if x = 125 then 18 else if x = 44 then 19
  else if x = 59 then 20 else if x = 43 then 21 else if x = 45 then 22 else if x = 37 then 23 else 0
theorem cls_hi {x : Nat} (h : 128 ≤ x) : cls x = 0 := by
  unfold cls
  repeat rw [if_neg (by omega)]
theorem cls_lt (x : Nat) : cls x < 24 := by
  by_cases h : 128 ≤ x
  · rw [cls_hi h]; decide
  · have : ∀ y : Fin 128, cls y.1 < 24 := by decide +kernel
    exact this ⟨x, by omega⟩
/-- where a state goes -/
def row : List (List Int) := [
  [34, 1, 1, 7, 8, 9, 34, 2, 32, 12, 14, 16, 18, 20, 22, 24, 25, 26, 27, 28, 29, 30, 31, 33],
  [-1, 1, 1, -1, -1, -1, -1, -1, -1, -1, -1, -1, -1, -1, -1, -1, -1, -1, -1, -1, -1, -1, -1, -1],
  [-1, -1, -1, -1, -1, -1, -1, 3, 4, -1, -1, -1, -1, -1, -1, -1, -1, -1, -1, -1, -1, -1, -1, -1],
  [3, 3, -1, 3, 3, 3, 3, 3, 3, 3, 3, 3, 3, 3, 3, 3, 3, 3, 3, 3, 3, 3, 3, 3],
  [4, 4, 4, 4, 4, 4, 4, 4, 5, 4, 4, 4, 4, 4, 4, 4, 4, 4, 4, 4, 4, 4, 4, 4],
  [4, 4, 4, 4, 4, 4, 4, 6, 5, 4, 4, 4, 4, 4, 4, 4, 4, 4, 4, 4, 4, 4, 4, 4],
  [],
  [-1, -1, -1, 7, 7, -1, -1, -1, -1, -1, -1, -1, -1, -1, -1, -1, -1, -1, -1, -1, -1, -1, -1, -1],
  [-1, -1, -1, -1, 8, -1, -1, -1, -1, -1, -1, -1, -1, -1, -1, -1, -1, -1, -1, -1, -1, -1, -1, -1],
  [9, 9, -1, 9, 9, 11, 10, 9, 9, 9, 9, 9, 9, 9, 9, 9, 9, 9, 9, 9, 9, 9, 9, 9],
  [9, 9, -1, 9, 9, 9, 9, 9, 9, 9, 9, 9, 9, 9, 9, 9, 9, 9, 9, 9, 9, 9, 9, 9],
  [],
  [-1, -1, -1, -1, -1, -1, -1, -1, -1, 13], [],
  [-1, -1, -1, -1, -1, -1, -1, -1, -1, 15], [],
  [-1, -1, -1, -1, -1, -1, -1, -1, -1, 17], [],
  [-1, -1, -1, -1, -1, -1, -1, -1, -1, 19], [],
  [-1, -1, -1, -1, -1, -1, -1, -1, -1, -1, -1, -1, -1, 21], [],
  [-1, -1, -1, -1, -1, -1, -1, -1, -1, -1, -1, -1, -1, -1, 23]]
def stp (q c : Nat) : Int := (row.getD q []).getD c (-1)
theorem stp_in {q c : Nat} (hq : q < 35) (hc : c < 24) : -1 ≤ stp q c ∧ stp q c < 35 := by
  have : ∀ (q : Fin 35) (c : Fin 24), -1 ≤ stp q.1 c.1 ∧ stp q.1 c.1 < 35 := by decide +kernel
  exact this ⟨q, hq⟩ ⟨c, hc⟩
theorem stp_0 {c : Nat} (hc : c < 24) : 0 < stp 0 c := by
  have : ∀ (c : Fin 24), 0 < stp 0 c.1 := by decide +kernel
  exact this ⟨c, hc⟩
theorem stp_pos {q c : Nat} (hq : q < 35) (hc : c < 24) (h : 0 ≤ stp q c) : 0 < stp q c := by
  have : ∀ (q : Fin 35) (c : Fin 24), 0 ≤ stp q.1 c.1 → 0 < stp q.1 c.1 := by decide +kernel
  exact this ⟨q, hq⟩ ⟨c, hc⟩ h
theorem stp_again {q : Nat} (hq : q < 35) (h0 : q ≠ 0) (h : 0 ≤ stp q 0) : stp (stp q 0).toNat 0 = stp q 0 := by
  have : ∀ (q : Fin 35), q.1 ≠ 0 → 0 ≤ stp q.1 0 → stp (stp q.1 0).toNat 0 = stp q.1 0 := by decide +kernel
  exact this ⟨q, hq⟩ h0 h
/-- does a state go anywhere? -/
def lon (q : Nat) : Bool := (List.range 24).any fun c => decide (0 ≤ stp q c)
def kds : List Nat := [0, 1, 36, 2, 4, 4, 3, 6, 7, 9, 9, 8, 26, 27, 38, 28, 29, 30, 31, 32, 5, 39, 5, 40, 20, 21, 22, 23, 24, 25, 33, 34, 35, 37, 5]
def kd (q : Nat) : Nat := kds.getD q 0
/-- over bytes: the last state, how many -/
def bl : Nat → List UInt8 → Nat × Nat
  | q, [] => (q, 0)
  | q, b :: r => if stp q (cls b.toNat) < 0 then (q, 0) else ((bl (stp q (cls b.toNat)).toNat r).1, (bl (stp q (cls b.toNat)).toNat r).2 + 1)
theorem bl_stop {q : Nat} {b : UInt8} {r : List UInt8} (h : stp q (cls b.toNat) < 0) : bl q (b :: r) = (q, 0) := by simp only [bl, if_pos h]
theorem bl_go {q : Nat} {b : UInt8} {r : List UInt8} (h : ¬ stp q (cls b.toNat) < 0) : bl q (b :: r) = ((bl (stp q (cls b.toNat)).toNat r).1, (bl (stp q (cls b.toNat)).toNat r).2 + 1) := by simp only [bl, if_neg h]
/-- over characters: the last state, the place -/
def cr (s : ByteArray) : Nat → Nat → Nat → Nat × Nat
  | 0, q, p => (q, p)
  | f + 1, q, p => if p < s.size then (if stp q (cls (ch s p)) < 0 then (q, p) else cr s f (stp q (cls (ch s p))).toNat (p + wd s p)) else (q, p)
theorem cr_end (s : ByteArray) (f q p : Nat) (h : ¬ p < s.size) : cr s f q p = (q, p) := by
  cases f with
  | zero => rfl
  | succ f => simp only [cr, if_neg h]
theorem cr_stop (s : ByteArray) (f q p : Nat) (h : stp q (cls (ch s p)) < 0) : cr s f q p = (q, p) := by
  cases f with
  | zero => rfl
  | succ f => simp only [cr, if_pos h, ite_self]
theorem cr_step (s : ByteArray) (f q p : Nat) (hp : p < s.size) (h : ¬ stp q (cls (ch s p)) < 0) : cr s (f + 1) q p = cr s f (stp q (cls (ch s p))).toNat (p + wd s p) := by
  simp only [cr, if_pos hp, if_neg h]
theorem dn_hi (n b0 b1 b2 b3 : Nat) (h0 : 128 ≤ b0) : 128 ≤ (Lib.decodeN n b0 b1 b2 b3).1 := by
  unfold Lib.decodeN
  repeat' split
  all_goals (simp only at *; omega)
theorem cls_ch (s : ByteArray) (p : Nat) : cls (ch s p) = cls (s.get! p).toNat := by
  by_cases h : (s.get! p).toNat < 128
  · rw [(next_ascii s p h).1]
  · rw [cls_hi (by rw [ch_eq]; exact dn_hi _ _ _ _ _ (by omega)), cls_hi (by omega)]
theorem drop_at {s : ByteArray} {p : Nat} (h : p < s.size) : s.data.toList.drop p = s.get! p :: s.data.toList.drop (p + 1) := by
  rw [List.drop_eq_getElem_cons (show p < s.data.toList.length by simpa using h), at_get h]
  rfl
theorem bl_run (s : ByteArray) (n : Nat) (h0 : 0 ≤ stp n 0) (hn : stp n 0 = (n : Int)) : ∀ (k p : Nat), p + k ≤ s.size → (∀ j, j < k → 128 ≤ (s.get! (p + j)).toNat) → bl n (s.data.toList.drop p) = ((bl n (s.data.toList.drop (p + k))).1, (bl n (s.data.toList.drop (p + k))).2 + k)
  | 0, p, _, _ => rfl
  | k + 1, p, hp, hb => by
    rw [drop_at (by omega)]
    have h1 := hb 0 (by omega)
    rw [Nat.add_zero] at h1
    rw [bl_go (by rw [cls_hi h1]; omega), cls_hi h1, hn, Int.toNat_natCast, bl_run s n h0 hn k (p + 1) (by omega) (fun j hj => by have := hb (j + 1) (by omega); rwa [show p + (j + 1) = p + 1 + j by omega] at this), show p + 1 + k = p + (k + 1) by omega]
    rfl
theorem cr_bl (s : ByteArray) : ∀ f q p, q ≠ 0 → q < 35 → p ≤ s.size → s.size ≤ p + f → cr s f q p = ((bl q (s.data.toList.drop p)).1, p + (bl q (s.data.toList.drop p)).2)
  | 0, q, p, _, _, hp, h => by
    rw [List.drop_eq_nil_of_le (by simp; omega)]
    rfl
  | f + 1, q, p, h0, hq, hp, h => by
    by_cases hlt : p < s.size
    · have hc := cls_lt (s.get! p).toNat
      have hw := wd_pos hlt
      have hw2 := wd_le hlt
      by_cases hs : stp q (cls (s.get! p).toNat) < 0
      · rw [cr_stop s _ q p (by rw [cls_ch]; exact hs), drop_at hlt, bl_stop hs]; rfl
      · have hin := stp_in hq hc
        have hpos := stp_pos hq hc (by omega)
        rw [cr_step s f q p hlt (by rw [cls_ch]; exact hs), cr_bl s f _ _ (by rw [cls_ch]; omega) (by rw [cls_ch]; omega) hw2 (by omega), drop_at hlt, bl_go hs, cls_ch]
        by_cases ha : (s.get! p).toNat < 128
        · rw [(next_ascii s p ha).2.1]; simp only; rw [Nat.add_assoc, Nat.add_comm 1]
        · have hz : cls (s.get! p).toNat = 0 := cls_hi (by omega)
          rw [hz] at hs hin hpos ⊢
          have hag := stp_again hq h0 (by omega)
          have hr := bl_run s (stp q 0).toNat (by rw [hag]; omega) (by rw [hag]; omega) (wd s p - 1) (p + 1) (by omega) (fun j hj => by have := inner s p (p + 1 + j) hlt (by omega) (by omega); omega)
          rw [show p + 1 + (wd s p - 1) = p + wd s p by omega] at hr
          rw [hr]
          simp only
          congr 1
          omega
    · rw [cr_end s _ q p hlt, List.drop_eq_nil_of_le (by simp; omega)]
      rfl
/-- what is at a place: the last state, how many bytes -/
def run (s : ByteArray) : Nat × Nat := cr s s.size 0 0
theorem bl_le : ∀ (l : List UInt8) (q : Nat), (bl q l).2 ≤ l.length
  | [], q => Nat.le_refl _
  | b :: r, q => by
    unfold bl
    split
    · exact Nat.zero_le _
    · have := bl_le r (stp q (cls b.toNat)).toNat
      simp only [List.length_cons]; omega
theorem bl_in : ∀ (l : List UInt8) (q : Nat), q < 35 → (bl q l).1 < 35
  | [], q, h => h
  | b :: r, q, h => by
    unfold bl
    split
    · exact h
    · rename_i hs
      have := stp_in h (cls_lt b.toNat)
      exact bl_in r _ (by omega)
theorem bl_ne : ∀ (l : List UInt8) (q : Nat), q < 35 → q ≠ 0 → (bl q l).1 ≠ 0
  | [], q, _, h0 => h0
  | b :: r, q, h, h0 => by
    unfold bl
    split
    · exact h0
    · rename_i hs
      have := stp_in h (cls_lt b.toNat)
      have := stp_pos h (cls_lt b.toNat) (by omega)
      exact bl_ne r _ (by omega) (by omega)
theorem stp_34 (c : Nat) : stp 34 c = -1 := rfl
/-- the whole run, by its first byte -/
theorem run_lo {s : ByteArray} (h : 0 < s.size) (hb : (s.get! 0).toNat < 128) : run s = bl 0 s.data.toList := by
  obtain ⟨f, hf⟩ : ∃ f, s.size = f + 1 := ⟨s.size - 1, by omega⟩
  have hc := cls_lt (s.get! 0).toNat
  have hin := stp_in (show 0 < 35 by decide) hc
  have hpos := stp_0 hc
  have ha := next_ascii s 0 hb
  unfold run
  rw [hf, cr_step s f 0 0 h (by rw [cls_ch]; omega), cls_ch, ha.2.1, cr_bl s f _ (0 + 1) (by omega) (by omega) (by omega) (by omega)]
  have hd := drop_at h
  rw [List.drop_zero] at hd
  conv => rhs; rw [hd, bl_go (by omega)]
  rw [Nat.add_comm (0 + 1)]
theorem run_hi {s : ByteArray} (h : 0 < s.size) (hb : 128 ≤ (s.get! 0).toNat) : run s = (34, wd s 0) := by
  obtain ⟨f, hf⟩ : ∃ f, s.size = f + 1 := ⟨s.size - 1, by omega⟩
  unfold run
  rw [hf, cr_step s f 0 0 h (by rw [cls_ch, cls_hi hb]; decide), cls_ch, cls_hi hb, cr_stop s f _ _ (by exact (by decide : (-1 : Int) < 0)), Nat.zero_add]
  rfl
theorem run_0 {s : ByteArray} (h : s.size = 0) : run s = (0, 0) := by unfold run; rw [h]; rfl
theorem run_fits (s : ByteArray) : (run s).1 < 35 ∧ (run s).2 ≤ s.size ∧ (0 < s.size → (run s).1 ≠ 0 ∧ 0 < (run s).2) := by
  by_cases h : 0 < s.size
  · by_cases hb : (s.get! 0).toNat < 128
    · rw [run_lo h hb]
      have hl := bl_le s.data.toList 0
      have hd := drop_at h
      rw [List.drop_zero] at hd
      have hc := cls_lt (s.get! 0).toNat
      have hin := stp_in (show 0 < 35 by decide) hc
      have hpos := stp_0 hc
      refine ⟨bl_in _ _ (by decide), by simpa using hl, fun _ => ?_⟩
      rw [hd]
      rw [bl_go (by omega)]
      exact ⟨bl_ne _ _ (by omega) (by omega), Nat.succ_pos _⟩
    · rw [run_hi h (by omega)]
      exact ⟨show 34 < 35 by decide, by have := wd_le h; simpa using this, fun _ => ⟨show 34 ≠ 0 by decide, wd_pos h⟩⟩
  · rw [run_0 (by omega)]; exact ⟨by decide, Nat.zero_le _, fun h2 => absurd h2 h⟩
/-- a name's kind -/
def wrd (x : ByteArray) : Nat :=
  if x.toList = [108, 101, 116] then 10 else if x.toList = [102, 110] then 11 else if x.toList = [105, 102] then 12
  else if x.toList = [101, 108, 115, 101] then 13 else if x.toList = [119, 104, 105, 108, 101] then 14
  else if x.toList = [114, 101, 116, 117, 114, 110] then 15 else if x.toList = [116, 114, 117, 101] then 16
  else if x.toList = [102, 97, 108, 115, 101] then 17 else 6
/-- a token -/
structure Tk where
  k : Nat
  w : Nat
  l : Nat
def lk (r : ByteArray) (q d : Nat) : Nat := if lon q = true then 1 else if d = 1 ∧ 128 ≤ (r.get! 0).toNat then min 3 (r.size - d + 1) else 0
/-- the token at the beginning -/
def tok (r : ByteArray) : Tk := ⟨if (run r).1 = 7 then wrd (r.extract 0 (run r).2) else kd (run r).1, (run r).2, lk r (run r).1 (run r).2⟩
end Go.Proofs.Yteccfoiegjhppaa.D
