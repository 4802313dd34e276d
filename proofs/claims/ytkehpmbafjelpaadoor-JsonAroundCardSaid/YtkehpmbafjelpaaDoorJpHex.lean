/- Four hexadecimal digits, read by the library. Conditions: that they are such. -/
import Derived.Test.YtkehpmbafjelpaaDoorJpRead
import Derived.Lib.ConvBytes
import Derived.Laws.Strings3
import Derived.BigCall
import Derived.BigGuard
namespace Go.Proofs.YtkehpmbafjelpaaDoor
open Go Go.RowKit Go.Lib

/-- the number of the first k digits -/
def hn (t : ByteArray) : Nat → Nat
  | 0 => 0
  | k + 1 => hn t k * 16 + (J.hv (t.get! k).toNat).toNat
theorem hn_lt (t : ByteArray) : ∀ k, hn t k < 16 ^ k
  | 0 => Nat.lt_succ_self 0
  | k + 1 => by
    have h1 := hn_lt t k
    have h2 := J.hv_lt (t.get! k).toNat
    show hn t k * 16 + _ < 16 ^ k * 16
    omega
theorem lower_lo (c : Nat) (h1 : 97 ≤ c) (h2 : c ≤ 102) (w : World) : Calls Tryd.prog 141 #[.int .u8 c] w fun e w' => e = .returned (.int .u8 c) ∧ w' = w := by
  have : c = 97 ∨ c = 98 ∨ c = 99 ∨ c = 100 ∨ c = 101 ∨ c = 102 := by omega
  rcases this with rfl | rfl | rfl | rfl | rfl | rfl
  all_goals
    go_enter Tryd.func141, Tryd.ntmps141
    go_wp2
    go_ret
    exact ⟨rfl, rfl⟩
theorem lower_up (c : Nat) (h1 : 65 ≤ c) (h2 : c ≤ 70) (w : World) : Calls Tryd.prog 141 #[.int .u8 c] w fun e w' => e = .returned (.int .u8 ((c + 32 : Nat) : Int)) ∧ w' = w := by
  have : c = 65 ∨ c = 66 ∨ c = 67 ∨ c = 68 ∨ c = 69 ∨ c = 70 := by omega
  rcases this with rfl | rfl | rfl | rfl | rfl | rfl
  all_goals
    go_enter Tryd.func141, Tryd.ntmps141
    go_wp2
    go_ret
    exact ⟨rfl, rfl⟩

/-- a hexadecimal digit's three kinds -/
theorem hv_kinds {c : Nat} (h : 0 ≤ J.hv c) : (48 ≤ c ∧ c ≤ 57 ∧ J.hv c = (c : Int) - 48) ∨ (97 ≤ c ∧ c ≤ 102 ∧ J.hv c = (c : Int) - 87) ∨ (65 ≤ c ∧ c ≤ 70 ∧ J.hv c = (c : Int) - 55) := by
  unfold J.hv at *
  split at h <;> (try split at h) <;> (try split at h) <;> (try omega) <;> simp_all

set_option maxHeartbeats 4000000 in
set_option maxRecDepth 100000 in
/-- internal/strconv.ParseUint of four hexadecimal digits -/
theorem parse16_any (t : ByteArray) (h4 : t.size = 4) (hd : ∀ i, i < 4 → 0 ≤ J.hv (t.get! i).toNat) (w : World) :
    Calls Tryd.prog 129 #[.string t, .int .i64 16, .int .i64 16] w fun e w' => e = .returned (.tuple #[.int .u64 ((hn t 4 : Nat) : Int), .nilIface]) ∧ w' = Lib.bytesWorld w 5 t := by
  have hemp : t.toList.isEmpty = false := by
    rw [← decide_eq_emptyBytes]
    exact decide_eq_false (fun h => by rw [h] at h4; exact absurd h4 (by decide))
  have hcv := Lib.run_convert_string_bytes (P := Tryd.prog) w 9 51 5 t (u := .string) (by kernel_rfl) (by kernel_rfl) (by kernel_rfl)
  have hB : ∀ j, j < t.size → (Lib.bytesWorld w 5 t).cell? ⟨w.heap.size, j, none⟩ = some (.int .u8 (t.data.toList.getD j 0).toNat) := fun j hj => Lib.bytesWorld_cell w 5 t j hj
  have hG : ∀ j, j < t.size → t.data.toList.getD j 0 = t.get! j := by
    intro j hj
    rw [J.at_get hj]
    simp [List.getD, hj]
    rfl
  obtain ⟨W1, hW1⟩ : ∃ W1, W1 = Lib.bytesWorld w 5 t := ⟨_, rfl⟩
  rw [← hW1] at hcv hB ⊢
  clear hW1
  have hmv : IntKind.u64.wrap (IntKind.u64.wrap 65536 - 1) = 65535 := by
    rw [IntKind.wrap_u64, IntKind.wrap_u64]
    decide
  go_enter Tryd.func129, Tryd.ntmps129
  go_wp2
  go_loop [12, 13, 101] (fun vu vn vi => ∃ (k : Nat) (a : Int), vu = .bool false ∧ vn = .int .u64 a ∧ vi = .int .i64 k ∧ k ≤ t.size ∧ Hid (a = ((hn t k : Nat) : Int)))
    (fun _ _ vi => t.size - (RowKit.intOf vi).toNat)
  case atStart => exact ⟨0, 0, rfl, rfl, rfl, by omega, Lib.hid rfl⟩
  case round =>
    obtain ⟨k, a, rfl, rfl, rfl, hk, hh⟩ := hrel
    by_cases hkn : k < t.size
    · have hc := hB k hkn
      rw [hG k hkn] at hc
      have hv := hd k (by omega)
      have hlt := hn_lt t k
      have hlt2 : hn t k < 4096 := by
        have : k = 0 ∨ k = 1 ∨ k = 2 ∨ k = 3 := by omega
        rcases this with rfl | rfl | rfl | rfl <;> exact Nat.lt_of_lt_of_le hlt (by decide)
      have hstep : hn t (k + 1) = hn t k * 16 + (J.hv (t.get! k).toNat).toNat := rfl
      have ha := hh.out
      have a0 : 0 ≤ a := by omega
      have a1 : a < 4096 := by omega
      generalize (t.get! k).toNat = c at *
      clear hB hG hlt
      rcases hv_kinds hv with ⟨c0, c1, c2⟩ | ⟨c0, c1, c2⟩ | ⟨c0, c1, c2⟩
      · have HN : Hid (a * 16 + ((c : Int) - 48) = ((hn t (k + 1) : Nat) : Int)) := Lib.hid (by omega)
        clear hstep hlt2 c2 ha
        go_wp2
        refine ⟨⟨k + 1, a * 16 + ((c : Int) - 48), rfl, (by first | rfl | (congr 1; omega)), (by first | rfl | (congr 1; omega)), by omega, HN⟩, by simp [RowKit.intOf]; omega⟩
      · have HN : Hid (a * 16 + ((c : Int) - 87) = ((hn t (k + 1) : Nat) : Int)) := Lib.hid (by omega)
        clear hstep hlt2 c2 ha
        go_wp2_with fail
        refine (lower_lo c c0 c1 _).mono ?_
        rintro en w2 ⟨rfl, rfl⟩
        go_wp2_with fail
        refine (lower_lo c c0 c1 _).mono ?_
        rintro en w2 ⟨rfl, rfl⟩
        go_wp2_with fail
        refine (lower_lo c c0 c1 _).mono ?_
        rintro en w2 ⟨rfl, rfl⟩
        go_wp2_with fail
        refine ⟨⟨k + 1, a * 16 + ((c : Int) - 87), rfl, (by first | rfl | (congr 1; omega)), (by first | rfl | (congr 1; omega)), by omega, HN⟩, by simp [RowKit.intOf]; omega⟩
      · have HN : Hid (a * 16 + ((c : Int) - 55) = ((hn t (k + 1) : Nat) : Int)) := Lib.hid (by omega)
        clear hstep hlt2 c2 ha
        go_wp2_with fail
        refine (lower_up c c0 c1 _).mono ?_
        rintro en w2 ⟨rfl, rfl⟩
        go_wp2_with fail
        refine (lower_up c c0 c1 _).mono ?_
        rintro en w2 ⟨rfl, rfl⟩
        go_wp2_with fail
        refine (lower_up c c0 c1 _).mono ?_
        rintro en w2 ⟨rfl, rfl⟩
        go_wp2_with fail
        refine ⟨⟨k + 1, a * 16 + ((c : Int) - 55), rfl, (by first | rfl | (congr 1; omega)), (by first | rfl | (congr 1; omega)), by omega, HN⟩, by simp [RowKit.intOf]; omega⟩
    · have hkk : k = 4 := by omega
      subst hkk
      have ha := hh.out
      subst ha
      go_wp2
      go_ret2
      exact ⟨rfl, rfl⟩
end Go.Proofs.YtkehpmbafjelpaaDoor
