/- Plain arithmetic of UTF-8: two strings behind one another; a valid string's characters, one behind the other. Conditions: none. -/
import Derived.Test.YteoeamdfglmmoaaDoorUtfMathS
namespace Go.Proofs.YteoeamdfglmmoaaDoor.U
open Go

theorem app_size (x t : ByteArray) : (x ++ t).size = x.size + t.size := ByteArray.size_append
theorem app_list (x t : ByteArray) : (x ++ t).data.toList = x.data.toList ++ t.data.toList := by rw [ByteArray.data_append, Array.toList_append]
theorem app_left (x t : ByteArray) (i : Nat) (h : i < x.size) : (x ++ t).get! i = x.get! i := by
  rw [get_list, get_list, app_list]
  simp only [List.getD]
  rw [List.getElem?_append_left (by rw [← Lib.size_eq]; exact h)]
theorem app_right (x t : ByteArray) (i : Nat) : (x ++ t).get! (x.size + i) = t.get! i := by
  rw [get_list, get_list, app_list]
  simp only [List.getD]
  rw [List.getElem?_append_right (by rw [← Lib.size_eq]; omega), ← Lib.size_eq, Nat.add_sub_cancel_left]
theorem app_shift (x t : ByteArray) (q : Nat) : ch (x ++ t) (x.size + q) = ch t q ∧ wd (x ++ t) (x.size + q) = wd t q := by
  rw [ch_eq, ch_eq, wd_eq, wd_eq, app_size, Nat.add_sub_add_left, Nat.add_assoc, Nat.add_assoc, Nat.add_assoc, app_right, app_right, app_right, app_right]
  exact ⟨rfl, rfl⟩
theorem units_shift (x t : ByteArray) : ∀ f q, unitsFrom (x ++ t) f (x.size + q) = unitsFrom t f q
  | 0, _ => rfl
  | f + 1, q => by
    have hz := app_size x t
    have hs := app_shift x t q
    by_cases hq : q < t.size
    · rw [unitsFrom_step _ f _ (by omega), unitsFrom_step t f q hq, hs.2, Nat.add_assoc, units_shift x t f (q + wd t q)]
      unfold un
      rw [hs.1]
    · rw [unitsFrom_end _ _ _ (by omega), unitsFrom_end t _ q hq]
/-- the places that a scan of a valid string comes to hold characters -/
theorem valid_good (s : ByteArray) : ∀ j q m p n, st s j q m = (p, n) → p < s.size → ∀ f, s.size ≤ q + f → vFrom s f q = true → bad s p = false
  | 0, q, m, p, n, h, hp, f, hf, hv => by
    simp only [st, Prod.mk.injEq] at h
    obtain ⟨rfl, rfl⟩ := h
    obtain ⟨f', rfl⟩ : ∃ f', f = f' + 1 := ⟨f - 1, by omega⟩
    cases hb : bad s q
    · rfl
    · rw [vFrom_bad s f' q hp hb] at hv
      cases hv
  | j + 1, q, m, p, n, h, hp, f, hf, hv => by
    by_cases hq : q < s.size
    · rw [st_step s j q m hq] at h
      obtain ⟨f', rfl⟩ : ∃ f', f = f' + 1 := ⟨f - 1, by omega⟩
      have hw := wd_pos hq
      cases hb : bad s q
      · rw [vFrom_step s f' q hq hb] at hv
        exact valid_good s j _ _ p n h hp f' (by omega) hv
      · rw [vFrom_bad s f' q hq hb] at hv
        cases hv
    · rw [st_end s _ q m hq] at h
      simp only [Prod.mk.injEq] at h
      omega
theorem st_snoc (s : ByteArray) : ∀ j q m p n, st s j q m = (p, n) → p < s.size → st s (j + 1) q m = (p + wd s p, n + un s p)
  | 0, q, m, p, n, h, hp => by
    simp only [st, Prod.mk.injEq] at h
    obtain ⟨rfl, rfl⟩ := h
    rw [st_step s 0 q m hp]
    rfl
  | j + 1, q, m, p, n, h, hp => by
    by_cases hq : q < s.size
    · rw [st_step s j q m hq] at h
      rw [st_step s (j + 1) q m hq]
      exact st_snoc s j _ _ p n h hp
    · rw [st_end s _ q m hq] at h
      simp only [Prod.mk.injEq] at h
      omega
/-- units of a valid string behind which another one stands, from any place that a scan comes to -/
theorem units_app_from (x t : ByteArray) (hv : valid x = true) : ∀ f q i k, st x i 0 0 = (q, k) → q ≤ x.size → x.size ≤ q + f → ∀ g, (x ++ t).size ≤ q + g → unitsFrom (x ++ t) g q = unitsFrom x f q + units t
  | f, q, i, k, hi, hqx, hf, g, hg => by
    have hz := app_size x t
    induction f generalizing q i k g with
    | zero =>
      obtain rfl : q = x.size := by omega
      rw [unitsFrom_end x 0 _ (by omega), Nat.zero_add]
      have := units_shift x t g 0
      rw [Nat.add_zero] at this
      rw [this]
      unfold units
      exact unitsFrom_fuel t g t.size 0 (by omega) (by omega)
    | succ f ih =>
      by_cases hq : q < x.size
      · have hg1 := valid_good x i 0 0 q k hi hq x.size (by omega) hv
        have hw := wd_le hq
        have hw1 := wd_pos hq
        have hs := same_char x (x ++ t) q q hq hg1 (by omega) (fun k hk => app_left x t (q + k) (by omega))
        have hu : un (x ++ t) q = un x q := by unfold un; rw [hs.1]
        obtain ⟨g', rfl⟩ : ∃ g', g = g' + 1 := ⟨g - 1, by omega⟩
        rw [unitsFrom_step (x ++ t) g' q (by omega), unitsFrom_step x f q hq, hs.2, hu, ih (q + wd x q) (i + 1) _ (st_snoc x i 0 0 q k hi hq) hw (by omega) g' (by omega)]
        omega
      · obtain rfl : q = x.size := by omega
        rw [unitsFrom_end x _ _ (by omega), Nat.zero_add]
        have := units_shift x t g 0
        rw [Nat.add_zero] at this
        rw [this]
        unfold units
        exact unitsFrom_fuel t g t.size 0 (by omega) (by omega)
theorem units_app (x t : ByteArray) (hv : valid x = true) : units (x ++ t) = units x + units t :=
  units_app_from x t hv x.size 0 0 0 rfl (Nat.zero_le _) (by omega) (x ++ t).size (by omega)

/-- a character, written again, is its own bytes -/
theorem byte_of (b : UInt8) : UInt8.ofNat b.toNat = b := UInt8.ofNat_toNat
set_option maxRecDepth 100000 in
set_option maxHeartbeats 2000000 in
theorem enc_of (r : Nat) (hr : r ≤ 1114111) (hs : r < 55296 ∨ 57344 ≤ r) : (Utf8.encode (r : Int)).data.toList = (Lib.encodeRuneZ (r : Int)).map fun x => UInt8.ofNat x.toNat := by
  have hv : Utf8.valid (r : Int) = true := by
    unfold Utf8.valid
    simp only [Bool.or_eq_true, Bool.and_eq_true, decide_eq_true_eq]
    omega
  unfold Utf8.encode
  rw [hv]
  simp only [if_true, Int.toNat_natCast]
  by_cases h1 : r < 128
  · rw [if_pos h1, Lib.encodeRuneZ_one (by omega) (by omega)]
    rfl
  rw [if_neg h1]
  by_cases h2 : r < 2048
  · rw [if_pos h2, Lib.encodeRuneZ_two (by omega) (by omega)]
    simp only [List.map_cons, List.map_nil]
    rw [show (192 + (r : Int) / 64).toNat = 192 + r / 64 by omega, show (128 + (r : Int) % 64).toNat = 128 + r % 64 by omega]
  rw [if_neg h2]
  by_cases h3 : r < 65536
  · rw [if_pos h3, Lib.encodeRuneZ_three (by omega)]
    simp only [List.map_cons, List.map_nil]
    rw [show (224 + (r : Int) / 4096).toNat = 224 + r / 4096 by omega, show (128 + (r : Int) / 64 % 64).toNat = 128 + r / 64 % 64 by omega, show (128 + (r : Int) % 64).toNat = 128 + r % 64 by omega]
  rw [if_neg h3, Lib.encodeRuneZ_four (by omega) (by omega)]
  simp only [List.map_cons, List.map_nil]
  rw [show (240 + (r : Int) / 262144).toNat = 240 + r / 262144 by omega, show (128 + (r : Int) / 4096 % 64).toNat = 128 + r / 4096 % 64 by omega, show (128 + (r : Int) / 64 % 64).toNat = 128 + r / 64 % 64 by omega, show (128 + (r : Int) % 64).toNat = 128 + r % 64 by omega]

set_option maxRecDepth 100000 in
set_option maxHeartbeats 2000000 in
theorem dn_sur (n b0 b1 b2 b3 : Nat) : (Lib.decodeN n b0 b1 b2 b3).1 < 55296 ∨ 57344 ≤ (Lib.decodeN n b0 b1 b2 b3).1 := by
  unfold Lib.decodeN
  repeat' split
  all_goals (simp only; omega)
theorem enc_good (s : ByteArray) (p : Nat) (hp : p < s.size) (hg : bad s p = false) : (Utf8.encode (ch s p : Nat)).toList = (s.extract p (p + wd s p)).toList := by
  have hf := facts s p hp
  have hs : ch s p < 55296 ∨ 57344 ≤ ch s p := by rw [ch_eq]; exact dn_sur _ _ _ _ _
  rw [Lib.toList_data, Lib.toList_data, enc_of (ch s p) hf.2.2.2.2.2 hs, ext_stretch s p (wd s p) hf.2.2.1]
  have hc := runeCells_piece s p hp
  rw [piece_good hg] at hc
  unfold Lib.runeCells cellsOf at hc
  have := congrArg (List.map fun v : Value => match v with | .int _ n => UInt8.ofNat n.toNat | _ => 0) hc
  rw [List.map_map, List.map_map] at this
  have e1 : ((fun v : Value => match v with | .int _ n => UInt8.ofNat n.toNat | _ => 0) ∘ fun x : Int => Value.int .u8 x) = fun x => UInt8.ofNat x.toNat := rfl
  have e2 : ((fun v : Value => match v with | .int _ n => UInt8.ofNat n.toNat | _ => 0) ∘ fun b : UInt8 => Value.int .u8 b.toNat) = id := by
    funext b
    show UInt8.ofNat ((b.toNat : Int).toNat) = b
    rw [Int.toNat_natCast]
    exact byte_of b
  rw [e1, e2, List.map_id] at this
  exact this
end Go.Proofs.YteoeamdfglmmoaaDoor.U
