/- Plain arithmetic of UTF-8: two strings behind one another; a valid string's characters, one behind the other. Conditions: none. -/
import Derived.Test.YtjeopabnddekgaaDoorME02
namespace Go.Proofs.YtjeopabnddekgaaDoor.U
open Go

theorem app_size (x t : ByteArray) : (x ++ t).size = x.size + t.size := ByteArray.size_append
theorem app_list (x t : ByteArray) : (x ++ t).data.toList = x.data.toList ++ t.data.toList := by rw [ByteArray.data_append, Array.toList_append]
theorem app_left (x t : ByteArray) (i : Nat) (h : i < x.size) : (x ++ t).get! i = x.get! i := by
  rw [get_list, get_list, app_list]
  simp only [List.getD]
  rw [List.getElem?_append_left (by rw [← Lib.size_eq]; exact h)]
theorem app_right (x t : ByteArray) (i : Nat) : (x ++ t).get! (x.size + i) = t.get! i := by
  rw [get_list, get_list, app_list]
  simp only [List.getD]
  rw [List.getElem?_append_right (by rw [← Lib.size_eq]; omega), ← Lib.size_eq, Nat.add_sub_cancel_left]
theorem app_shift (x t : ByteArray) (q : Nat) : ch (x ++ t) (x.size + q) = ch t q ∧ wd (x ++ t) (x.size + q) = wd t q := by
  rw [ch_eq, ch_eq, wd_eq, wd_eq, app_size, Nat.add_sub_add_left, Nat.add_assoc, Nat.add_assoc, Nat.add_assoc, app_right, app_right, app_right, app_right]
  exact ⟨rfl, rfl⟩
theorem units_shift (x t : ByteArray) : ∀ f q, unitsFrom (x ++ t) f (x.size + q) = unitsFrom t f q
  | 0, _ => rfl
  | f + 1, q => by
    have hz := app_size x t
    have hs := app_shift x t q
    by_cases hq : q < t.size
    · rw [unitsFrom_step _ f _ (by omega), unitsFrom_step t f q hq, hs.2, Nat.add_assoc, units_shift x t f (q + wd t q)]
      unfold un
      rw [hs.1]
    · rw [unitsFrom_end _ _ _ (by omega), unitsFrom_end t _ q hq]
/-- the places that a scan of a valid string comes to hold characters -/
theorem valid_good (s : ByteArray) : ∀ j q m p n, st s j q m = (p, n) → p < s.size → ∀ f, s.size ≤ q + f → vFrom s f q = true → bad s p = false
  | 0, q, m, p, n, h, hp, f, hf, hv => by
    simp only [st, Prod.mk.injEq] at h
    obtain ⟨rfl, rfl⟩ := h
    obtain ⟨f', rfl⟩ : ∃ f', f = f' + 1 := ⟨f - 1, by omega⟩
    cases hb : bad s q
    · rfl
    · rw [vFrom_bad s f' q hp hb] at hv
      cases hv
  | j + 1, q, m, p, n, h, hp, f, hf, hv => by
    by_cases hq : q < s.size
    · rw [st_step s j q m hq] at h
      obtain ⟨f', rfl⟩ : ∃ f', f = f' + 1 := ⟨f - 1, by omega⟩
      have hw := wd_pos hq
      cases hb : bad s q
      · rw [vFrom_step s f' q hq hb] at hv
        exact valid_good s j _ _ p n h hp f' (by omega) hv
      · rw [vFrom_bad s f' q hq hb] at hv
        cases hv
    · rw [st_end s _ q m hq] at h
      simp only [Prod.mk.injEq] at h
      omega
theorem st_snoc (s : ByteArray) : ∀ j q m p n, st s j q m = (p, n) → p < s.size → st s (j + 1) q m = (p + wd s p, n + un s p)
  | 0, q, m, p, n, h, hp => by
    simp only [st, Prod.mk.injEq] at h
    obtain ⟨rfl, rfl⟩ := h
    rw [st_step s 0 q m hp]
    rfl
  | j + 1, q, m, p, n, h, hp => by
    by_cases hq : q < s.size
    · rw [st_step s j q m hq] at h
      rw [st_step s (j + 1) q m hq]
      exact st_snoc s j _ _ p n h hp
    · rw [st_end s _ q m hq] at h
      simp only [Prod.mk.injEq] at h
      omega
/-- units of a valid string behind which another one stands, from any place that a scan comes to -/
theorem units_app_from (x t : ByteArray) (hv : valid x = true) : ∀ f q i k, st x i 0 0 = (q, k) → q ≤ x.size → x.size ≤ q + f → ∀ g, (x ++ t).size ≤ q + g → unitsFrom (x ++ t) g q = unitsFrom x f q + units t
  | f, q, i, k, hi, hqx, hf, g, hg => by
    have hz := app_size x t
    induction f generalizing q i k g with
    | zero =>
      obtain rfl : q = x.size := by omega
      rw [unitsFrom_end x 0 _ (by omega), Nat.zero_add]
      have := units_shift x t g 0
      rw [Nat.add_zero] at this
      rw [this]
      unfold units
      exact unitsFrom_fuel t g t.size 0 (by omega) (by omega)
    | succ f ih =>
      by_cases hq : q < x.size
      · have hg1 := valid_good x i 0 0 q k hi hq x.size (by omega) hv
        have hw := wd_le hq
        have hw1 := wd_pos hq
        have hs := same_char x (x ++ t) q q hq hg1 (by omega) (fun k hk => app_left x t (q + k) (by omega))
        have hu : un (x ++ t) q = un x q := by unfold un; rw [hs.1]
        obtain ⟨g', rfl⟩ : ∃ g', g = g' + 1 := ⟨g - 1, by omega⟩
        rw [unitsFrom_step (x ++ t) g' q (by omega), unitsFrom_step x f q hq, hs.2, hu, ih (q + wd x q) (i + 1) _ (st_snoc x i 0 0 q k hi hq) hw (by omega) g' (by omega)]
        omega
      · obtain rfl : q = x.size := by omega
        rw [unitsFrom_end x _ _ (by omega), Nat.zero_add]
        have := units_shift x t g 0
        rw [Nat.add_zero] at this
        rw [this]
        unfold units
        exact unitsFrom_fuel t g t.size 0 (by omega) (by omega)
theorem units_app (x t : ByteArray) (hv : valid x = true) : units (x ++ t) = units x + units t :=
  units_app_from x t hv x.size 0 0 0 rfl (Nat.zero_le _) (by omega) (x ++ t).size (by omega)

/-- a character, written again, is its own bytes -/
theorem byte_of (b : UInt8) : UInt8.ofNat b.toNat = b := UInt8.ofNat_toNat
set_option maxRecDepth 100000 in
set_option maxHeartbeats 2000000 in
theorem enc_of (r : Nat) (hr : r ≤ 1114111) (hs : r < 55296 ∨ 57344 ≤ r) : (Utf8.encode (r : Int)).data.toList = (Lib.encodeRuneZ (r : Int)).map fun x => UInt8.ofNat x.toNat := by
  have hv : Utf8.valid (r : Int) = true := by
    unfold Utf8.valid
    simp only [Bool.or_eq_true, Bool.and_eq_true, decide_eq_true_eq]
    omega
  unfold Utf8.encode
  rw [hv]
  simp only [if_true, Int.toNat_natCast]
  by_cases h1 : r < 128
  · rw [if_pos h1, Lib.encodeRuneZ_one (by omega) (by omega)]
    rfl
  rw [if_neg h1]
  by_cases h2 : r < 2048
  · rw [if_pos h2, Lib.encodeRuneZ_two (by omega) (by omega)]
    simp only [List.map_cons, List.map_nil]
    rw [show (192 + (r : Int) / 64).toNat = 192 + r / 64 by omega, show (128 + (r : Int) % 64).toNat = 128 + r % 64 by omega]
  rw [if_neg h2]
  by_cases h3 : r < 65536
  · rw [if_pos h3, Lib.encodeRuneZ_three (by omega)]
    simp only [List.map_cons, List.map_nil]
    rw [show (224 + (r : Int) / 4096).toNat = 224 + r / 4096 by omega, show (128 + (r : Int) / 64 % 64).toNat = 128 + r / 64 % 64 by omega, show (128 + (r : Int) % 64).toNat = 128 + r % 64 by omega]
  rw [if_neg h3, Lib.encodeRuneZ_four (by omega) (by omega)]
  simp only [List.map_cons, List.map_nil]
  rw [show (240 + (r : Int) / 262144).toNat = 240 + r / 262144 by omega, show (128 + (r : Int) / 4096 % 64).toNat = 128 + r / 4096 % 64 by omega, show (128 + (r : Int) / 64 % 64).toNat = 128 + r / 64 % 64 by omega, show (128 + (r : Int) % 64).toNat = 128 + r % 64 by omega]

set_option maxRecDepth 100000 in
set_option maxHeartbeats 2000000 in
theorem dn_sur (n b0 b1 b2 b3 : Nat) : (Lib.decodeN n b0 b1 b2 b3).1 < 55296 ∨ 57344 ≤ (Lib.decodeN n b0 b1 b2 b3).1 := by
  unfold Lib.decodeN
  repeat' split
  all_goals (simp only; omega)
theorem enc_good (s : ByteArray) (p : Nat) (hp : p < s.size) (hg : bad s p = false) : (Utf8.encode (ch s p : Nat)).toList = (s.extract p (p + wd s p)).toList := by
  have hf := facts s p hp
  have hs : ch s p < 55296 ∨ 57344 ≤ ch s p := by rw [ch_eq]; exact dn_sur _ _ _ _ _
  rw [Lib.toList_data, Lib.toList_data, enc_of (ch s p) hf.2.2.2.2.2 hs, ext_stretch s p (wd s p) hf.2.2.1]
  have hc := runeCells_piece s p hp
  rw [piece_good hg] at hc
  unfold Lib.runeCells cellsOf at hc
  have := congrArg (List.map fun v : Value => match v with | .int _ n => UInt8.ofNat n.toNat | _ => 0) hc
  rw [List.map_map, List.map_map] at this
  have e1 : ((fun v : Value => match v with | .int _ n => UInt8.ofNat n.toNat | _ => 0) ∘ fun x : Int => Value.int .u8 x) = fun x => UInt8.ofNat x.toNat := rfl
  have e2 : ((fun v : Value => match v with | .int _ n => UInt8.ofNat n.toNat | _ => 0) ∘ fun b : UInt8 => Value.int .u8 b.toNat) = id := by
    funext b
    show UInt8.ofNat ((b.toNat : Int).toNat) = b
    rw [Int.toNat_natCast]
    exact byte_of b
  rw [e1, e2, List.map_id] at this
  exact this
end Go.Proofs.YtjeopabnddekgaaDoor.U

namespace Go.Proofs.YtjeopabnddekgaaDoor.U
open Go

theorem vFrom_fuel (s : ByteArray) : ∀ f g q, s.size ≤ q + f → s.size ≤ q + g → vFrom s f q = vFrom s g q
  | 0, g, q, h, _ => by rw [vFrom_end s 0 q (by omega), vFrom_end s g q (by omega)]
  | f + 1, 0, q, _, h => by rw [vFrom_end s (f + 1) q (by omega), vFrom_end s 0 q (by omega)]
  | f + 1, g + 1, q, h, h' => by
    by_cases hq : q < s.size
    · have hw := wd_pos hq
      cases hb : bad s q
      · rw [vFrom_step s f q hq hb, vFrom_step s g q hq hb]
        exact vFrom_fuel s f g _ (by omega) (by omega)
      · rw [vFrom_bad s f q hq hb, vFrom_bad s g q hq hb]
    · rw [vFrom_end s _ q hq, vFrom_end s _ q hq]
theorem bad_shift (x t : ByteArray) (q : Nat) : bad (x ++ t) (x.size + q) = bad t q := by
  unfold bad; rw [(app_shift x t q).1, (app_shift x t q).2]
theorem valid_shift (x t : ByteArray) : ∀ f q, vFrom (x ++ t) f (x.size + q) = vFrom t f q
  | 0, _ => rfl
  | f + 1, q => by
    have hz := app_size x t
    by_cases hq : q < t.size
    · cases hb : bad t q
      · rw [vFrom_step _ f _ (by omega) (by rw [bad_shift, hb]), vFrom_step t f q hq hb, (app_shift x t q).2, Nat.add_assoc, valid_shift x t f (q + wd t q)]
      · rw [vFrom_bad _ f _ (by omega) (by rw [bad_shift, hb]), vFrom_bad t f q hq hb]
    · rw [vFrom_end _ _ _ (by omega), vFrom_end t _ q hq]
/-- a character of the first string, with the other one behind it -/
theorem app_char (x t : ByteArray) (q : Nat) (hq : q < x.size) (hg : bad x q = false) : ch (x ++ t) q = ch x q ∧ wd (x ++ t) q = wd x q := by
  have hz := app_size x t
  have hw := wd_le hq
  exact same_char x (x ++ t) q q hq hg (by omega) (fun k hk => app_left x t (q + k) (by omega))
theorem app_bad (x t : ByteArray) (q : Nat) (hq : q < x.size) (hg : bad x q = false) : bad (x ++ t) q = false := by
  have h := app_char x t q hq hg
  unfold bad at hg ⊢
  rw [h.1, h.2]; exact hg
theorem valid_app_from (x t : ByteArray) (hv : valid x = true) : ∀ f q i k, st x i 0 0 = (q, k) → q ≤ x.size → x.size ≤ q + f → ∀ g, (x ++ t).size ≤ q + g → vFrom (x ++ t) g q = valid t
  | f, q, i, k, hi, hqx, hf, g, hg => by
    have hz := app_size x t
    induction f generalizing q i k g with
    | zero =>
      obtain rfl : q = x.size := by omega
      have := valid_shift x t g 0
      rw [Nat.add_zero] at this
      rw [this]
      exact vFrom_fuel t g t.size 0 (by omega) (by omega)
    | succ f ih =>
      by_cases hq : q < x.size
      · have hg1 := valid_good x i 0 0 q k hi hq x.size (by omega) hv
        have hw := wd_le hq
        have hw1 := wd_pos hq
        have hs := app_char x t q hq hg1
        obtain ⟨g', rfl⟩ : ∃ g', g = g' + 1 := ⟨g - 1, by omega⟩
        rw [vFrom_step (x ++ t) g' q (by omega) (app_bad x t q hq hg1), hs.2]
        exact ih (q + wd x q) (i + 1) _ (st_snoc x i 0 0 q k hi hq) hw (by omega) g' (by omega)
      · obtain rfl : q = x.size := by omega
        have := valid_shift x t g 0
        rw [Nat.add_zero] at this
        rw [this]
        exact vFrom_fuel t g t.size 0 (by omega) (by omega)
theorem valid_app (x t : ByteArray) (hv : valid x = true) : valid (x ++ t) = valid t :=
  valid_app_from x t hv x.size 0 0 0 rfl (Nat.zero_le _) (by omega) (x ++ t).size (by omega)
/-- a valid string, parted where no item goes on, is valid on both sides -/
theorem valid_part_from (x t : ByteArray) (hA : ∀ q, q < x.size → q + wd (x ++ t) q ≤ x.size) : ∀ f q, vFrom (x ++ t) f q = true → (x ++ t).size ≤ q + f → q ≤ x.size → (∀ g, x.size ≤ q + g → vFrom x g q = true) ∧ valid t = true
  | 0, q, _, hf, hq => by
    have hz := app_size x t
    exact ⟨fun g hg => vFrom_end _ _ _ (by omega), vFrom_end _ _ _ (by omega)⟩
  | f + 1, q, hv, hf, hq => by
    have hz := app_size x t
    by_cases hlt : q < x.size
    · have hw := hA q hlt
      have hw1 := wd_pos (s := x ++ t) (i := q) (by omega)
      cases hb : bad (x ++ t) q
      · have hs := same_char (x ++ t) x q q (by omega) hb (by omega) (fun k hk => (app_left x t (q + k) (by omega)).symm)
        have hbx : bad x q = false := by
          unfold bad at hb ⊢
          rw [hs.1, hs.2]; exact hb
        rw [vFrom_step _ f q (by omega) hb] at hv
        obtain ⟨h1, h2⟩ := valid_part_from x t hA f _ hv (by omega) hw
        refine ⟨fun g hg => ?_, h2⟩
        obtain ⟨g', rfl⟩ : ∃ g', g = g' + 1 := ⟨g - 1, by omega⟩
        rw [vFrom_step x g' q hlt hbx, hs.2]
        exact h1 g' (by omega)
      · rw [vFrom_bad _ f q (by omega) hb] at hv
        cases hv
    · obtain rfl : q = x.size := by omega
      refine ⟨fun g hg => vFrom_end _ _ _ (by omega), ?_⟩
      have e : vFrom (x ++ t) (f + 1) x.size = vFrom t (f + 1) 0 := valid_shift x t (f + 1) 0
      rw [e] at hv
      unfold valid
      rw [← hv]
      exact vFrom_fuel t _ _ 0 (by omega) (by omega)
/-- where a character begins, or the end -/
def bga (s : ByteArray) (i : Int) : Nat := if i < 0 then 0 else if i < s.size then bgn s i.toNat else s.size
theorem bga_nat (s : ByteArray) (i : Nat) : bga s (i : Int) = if i < s.size then bgn s i else s.size := by
  unfold bga
  rw [if_neg (by omega)]
  by_cases h : i < s.size
  · rw [if_pos (by omega), if_pos h]; rfl
  · rw [if_neg (by omega), if_neg h]
theorem bga_end (s : ByteArray) : bga s (s.size : Int) = s.size := by rw [bga_nat, if_neg (by omega)]
theorem valid_part (x t : ByteArray) (hv : valid (x ++ t) = true) (hb : bga (x ++ t) (x.size : Int) = x.size) : valid x = true ∧ valid t = true := by
  have hz := app_size x t
  obtain ⟨h1, h2⟩ := valid_part_from x t (fun q hq => by
    by_cases hw : q + wd (x ++ t) q ≤ x.size
    · exact hw
    · exfalso
      have hwd := wd_le (s := x ++ t) (i := q) (by omega)
      have hg : bad (x ++ t) q = false := good_of_wd (by omega)
      have := good_bgn (x ++ t) q x.size (by omega) hg (by omega) (by omega)
      rw [bga_nat, if_pos (by omega), this] at hb
      omega) (x ++ t).size 0 hv (by omega) (Nat.zero_le _)
  exact ⟨h1 x.size (by omega), h2⟩
/-- every place of a valid string within one of its characters -/
theorem bgn_good (s : ByteArray) (hv : valid s = true) (i : Nat) (h : i < s.size) : bad s (bgn s i) = false ∧ bgn s i ≤ i ∧ i < bgn s i + wd s (bgn s i) := by
  obtain ⟨j, n, hs⟩ := reach s i h
  have hh := bgn_has s i h
  exact ⟨valid_good s j 0 0 _ n hs (by omega) s.size (by omega) hv, hh⟩
/-- in the first one of two strings -/
theorem bgn_left (x t : ByteArray) (hv : valid x = true) (i : Nat) (h : i < x.size) : bgn (x ++ t) i = bgn x i := by
  have hz := app_size x t
  obtain ⟨h1, h2, h3⟩ := bgn_good x hv i h
  have hw := (app_char x t (bgn x i) (by omega) h1).2
  exact good_bgn (x ++ t) (bgn x i) i (by omega) (app_bad x t _ (by omega) h1) h2 (by omega)
/-- .. in the second one -/
theorem bgn_right (x t : ByteArray) (hv : valid t = true) (i : Nat) (h : i < t.size) : bgn (x ++ t) (x.size + i) = x.size + bgn t i := by
  have hz := app_size x t
  obtain ⟨h1, h2, h3⟩ := bgn_good t hv i h
  have hw := (app_shift x t (bgn t i)).2
  exact good_bgn (x ++ t) _ _ (by omega) (by rw [bad_shift]; exact h1) (by omega) (by omega)
theorem bga_seam (x t : ByteArray) (hv : valid t = true) : bga (x ++ t) (x.size : Int) = x.size := by
  have hz := app_size x t
  rw [bga_nat]
  by_cases h : 0 < t.size
  · rw [if_pos (by omega)]
    have := bgn_right x t hv 0 h
    have h2 := bgn_good t hv 0 h
    rw [Nat.add_zero] at this
    omega
  · rw [if_neg (by omega)]; omega
/-- a place of the middle one of three strings -/
theorem bga_mid (u s v : ByteArray) (hu : valid u = true) (hs : valid s = true) (hv : valid v = true) (i : Int) (h0 : u.size = 0 ∨ (u.size : Int) ≤ i) (h1 : v.size = 0 ∨ i < ((u.size + s.size : Nat) : Int)) :
    bga (u ++ s ++ v) i = u.size + bga s (i - u.size) := by
  have hz := app_size (u ++ s) v
  have hz2 := app_size u s
  by_cases hneg : i < 0
  · unfold bga
    rw [if_pos hneg, if_pos (by omega)]
    omega
  · obtain ⟨k, rfl⟩ : ∃ k : Nat, i = (k : Int) := ⟨i.toNat, by omega⟩
    by_cases hk : k < u.size + s.size
    · obtain ⟨m, rfl⟩ : ∃ m, k = u.size + m := ⟨k - u.size, by omega⟩
      rw [show ((u.size + m : Nat) : Int) - (u.size : Int) = ((m : Nat) : Int) by omega, bga_nat, bga_nat, if_pos (by omega), if_pos (by omega), bgn_left (u ++ s) v (by rw [valid_app u s hu]; exact hs) _ (by omega), bgn_right u s hs m (by omega)]
    · have hv0 : v.size = 0 := by omega
      rw [bga_nat, if_neg (by omega)]
      unfold bga
      rw [if_neg (by omega), if_neg (by omega)]
      omega
theorem units_none (s : ByteArray) (h : s.size = 0) : units s = 0 := by have := units_le s; omega
theorem empty_of (s : ByteArray) (h : s.size = 0) : s = ByteArray.empty := by
  apply ByteArray.ext; exact Array.eq_empty_of_size_eq_zero h
theorem valid_none (s : ByteArray) (h : s.size = 0) : valid s = true := vFrom_end _ _ _ (by omega)
end Go.Proofs.YtjeopabnddekgaaDoor.U
