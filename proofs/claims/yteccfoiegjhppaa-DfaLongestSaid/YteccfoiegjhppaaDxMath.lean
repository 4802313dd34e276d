/- The document's way of cutting a token, held against the scanner's run: pure. Conditions: none. -/
import Derived.Test.YteccfoiegjhppaaDfMathB
import Derived.Test.YteccfoiegjhppaaDfMathL
namespace Go.Proofs.Yteccfoiegjhppaa.D
open Go U
theorem drop_nil {s : ByteArray} {p : Nat} (h : ¬ p < s.size) : s.data.toList.drop p = [] := List.drop_eq_nil_of_le (by simp; omega)
/-- the whole run from a place, by bytes -/
theorem cr_lo {s : ByteArray} {p : Nat} (hp : p < s.size) (hb : (s.get! p).toNat < 128) : cr s s.size 0 p = ((bl (stp 0 (cls (s.get! p).toNat)).toNat (s.data.toList.drop (p + 1))).1, p + 1 + (bl (stp 0 (cls (s.get! p).toNat)).toNat (s.data.toList.drop (p + 1))).2) := by
  obtain ⟨f, hf⟩ : ∃ f, s.size = f + 1 := ⟨s.size - 1, by omega⟩
  have hc := cls_lt (s.get! p).toNat
  have hin := stp_in (show 0 < 35 by decide) hc
  have hpos := stp_0 hc
  rw [hf, cr_step s f 0 p hp (by rw [cls_ch]; omega), cls_ch, (next_ascii s p hb).2.1, cr_bl s f _ (p + 1) (by omega) (by omega) (by omega) (by omega)]
theorem cr_hi {s : ByteArray} {p : Nat} (hp : p < s.size) (hb : 128 ≤ (s.get! p).toNat) : cr s s.size 0 p = (34, p + wd s p) := by
  obtain ⟨f, hf⟩ : ∃ f, s.size = f + 1 := ⟨s.size - 1, by omega⟩
  rw [hf, cr_step s f 0 p hp (by rw [cls_ch, cls_hi hb]; decide), cls_ch, cls_hi hb, cr_stop s f _ _ (by exact (by decide : (-1 : Int) < 0))]
  rfl
/-- a loop that stays in its state -/
theorem stay_go {s : ByteArray} {i q : Nat} (hi : i < s.size) (h : stp q (cls (s.get! i).toNat) = (q : Int)) : (bl q (s.data.toList.drop i)).1 = (bl q (s.data.toList.drop (i + 1))).1 ∧ (bl q (s.data.toList.drop i)).2 = (bl q (s.data.toList.drop (i + 1))).2 + 1 := by
  rw [drop_at hi, bl_go (by omega), h, Int.toNat_natCast]
  exact ⟨rfl, rfl⟩
theorem stay_stop {s : ByteArray} {i q : Nat} (hi : i < s.size) (h : stp q (cls (s.get! i).toNat) < 0) : bl q (s.data.toList.drop i) = (q, 0) := by rw [drop_at hi, bl_stop h]
theorem stay_end {s : ByteArray} {i q : Nat} (hi : ¬ i < s.size) : bl q (s.data.toList.drop i) = (q, 0) := by rw [drop_nil hi]; rfl
theorem one_step {s : ByteArray} {i q n : Nat} (hi : i < s.size) (h : stp q (cls (s.get! i).toNat) = (n : Int)) : bl q (s.data.toList.drop i) = ((bl n (s.data.toList.drop (i + 1))).1, (bl n (s.data.toList.drop (i + 1))).2 + 1) := by
  rw [drop_at hi, bl_go (by omega), h, Int.toNat_natCast]
/-- a run that begins in a state in which it stays -/
theorem run_stay {s : ByteArray} {p q : Nat} (hp : p < s.size) (hb : (s.get! p).toNat < 128) (h0 : stp 0 (cls (s.get! p).toNat) = (q : Int)) (hq : stp q (cls (s.get! p).toNat) = (q : Int)) (hs : ∀ l, (bl q l).1 = q) : cr s s.size 0 p = (q, p + (bl q (s.data.toList.drop p)).2) := by
  have h := stay_go hp hq
  rw [cr_lo hp hb, h0, Int.toNat_natCast, hs, h.2]
  congr 1
  omega
theorem stp_1 {c : Nat} (hc : c < 24) : stp 1 c = if c = 1 ∨ c = 2 then 1 else -1 := by
  have : ∀ c : Fin 24, stp 1 c.1 = if c.1 = 1 ∨ c.1 = 2 then 1 else -1 := by decide +kernel
  exact this ⟨c, hc⟩
theorem stp_8 {c : Nat} (hc : c < 24) : stp 8 c = if c = 4 then 8 else -1 := by
  have : ∀ c : Fin 24, stp 8 c.1 = if c.1 = 4 then 8 else -1 := by decide +kernel
  exact this ⟨c, hc⟩
theorem stp_3 {c : Nat} (hc : c < 24) : stp 3 c = if c = 2 then -1 else 3 := by
  have : ∀ c : Fin 24, stp 3 c.1 = if c.1 = 2 then -1 else 3 := by decide +kernel
  exact this ⟨c, hc⟩
theorem stp_9 {c : Nat} (hc : c < 24) : stp 9 c = if c = 5 then 11 else if c = 6 then 10 else if c = 2 then -1 else 9 := by
  have : ∀ c : Fin 24, stp 9 c.1 = if c.1 = 5 then 11 else if c.1 = 6 then 10 else if c.1 = 2 then -1 else 9 := by decide +kernel
  exact this ⟨c, hc⟩
theorem stp_10 {c : Nat} (hc : c < 24) : stp 10 c = if c = 2 then -1 else 9 := by
  have : ∀ c : Fin 24, stp 10 c.1 = if c.1 = 2 then -1 else 9 := by decide +kernel
  exact this ⟨c, hc⟩
theorem stp_4 {c : Nat} (hc : c < 24) : stp 4 c = if c = 8 then 5 else 4 := by
  have : ∀ c : Fin 24, stp 4 c.1 = if c.1 = 8 then 5 else 4 := by decide +kernel
  exact this ⟨c, hc⟩
theorem stp_5 {c : Nat} (hc : c < 24) : stp 5 c = if c = 8 then 5 else if c = 7 then 6 else 4 := by
  have : ∀ c : Fin 24, stp 5 c.1 = if c.1 = 8 then 5 else if c.1 = 7 then 6 else 4 := by decide +kernel
  exact this ⟨c, hc⟩
theorem bl_stays {q : Nat} (hq : ∀ c, c < 24 → stp q c = (q : Int) ∨ stp q c < 0) : ∀ l, (bl q l).1 = q
  | [] => rfl
  | b :: r => by
    rcases hq _ (cls_lt b.toNat) with h | h
    · rw [bl_go (by omega), h, Int.toNat_natCast]; exact bl_stays hq r
    · rw [bl_stop h]
theorem stays_1 : ∀ l, (bl 1 l).1 = 1 := bl_stays (fun c hc => by rw [stp_1 hc]; split <;> simp)
theorem stays_7 : ∀ l, (bl 7 l).1 = 7 := bl_stays (fun c hc => by rw [stp_7 hc]; split <;> simp)
theorem stays_8 : ∀ l, (bl 8 l).1 = 8 := bl_stays (fun c hc => by rw [stp_8 hc]; split <;> simp)
theorem stays_3 : ∀ l, (bl 3 l).1 = 3 := bl_stays (fun c hc => by rw [stp_3 hc]; split <;> simp)
end Go.Proofs.Yteccfoiegjhppaa.D
