/- The document's own Number. Conditions: an int. -/
import Derived.Test.YtdgmbmoaeoakpaaDoorMC13
import Derived.Test.YtdgmbmoaeoakpaaDoorMC11
import Derived.Test.YtdgmbmoaeoakpaaDoorMC03
import Derived.Shelf.Strconv.Itoa3
import Derived.Lib.AppendIntMem
import Derived.Lib.ItoaLen
namespace Go.Proofs
open Go Go.RowKit Go.Shelf Go.Lib

namespace YtdgmbmoaeoakpaaDoor
theorem cat_byte (x : UInt8) (l : List UInt8) : (⟨#[x]⟩ : ByteArray) ++ ⟨l.toArray⟩ = ⟨(x :: l).toArray⟩ := by
  apply ByteArray.ext
  rw [ByteArray.data_append]
  simp
/-- one byte as a string -/
theorem conv_byte (w : World) (d : Nat) (hd : d < 10) : (convert 107 9 (.slice (some ⟨w.heap.size, 0, none⟩) 1 1)).run Tryd.prog (w.alloc (.cells #[.int .u8 (48 + (d : Int))] 5)) = .ok (.string ⟨[UInt8.ofNat (48 + d)].toArray⟩) (w.alloc (.cells #[.int .u8 (48 + (d : Int))] 5)) := by
  refine run_convert_bytes_back (w.alloc (.cells #[.int .u8 (48 + (d : Int))] 5)) 107 9 5 ⟨w.heap.size, 0, none⟩ 1 [UInt8.ofNat (48 + d)] Tryd.underlying107 Tryd.underlying5 Tryd.underlying9 (fun j hj => ?_)
  have hj0 : j = 0 := by have : j < 1 := hj; omega
  subst hj0
  have e : ((UInt8.ofNat (48 + d)).toNat : Int) = 48 + (d : Int) := by
    rw [show (UInt8.ofNat (48 + d)).toNat = 48 + d from Nat.mod_eq_of_lt (by omega)]; omega
  show _ = some (Value.int .u8 ((UInt8.ofNat (48 + d)).toNat : Int))
  rw [e]
  exact (cell_of_row _ _ 0 _ _ (0, 0) (heap_alloc_new _ _)).trans rfl
theorem conv_byte0 (w : World) : (convert 107 9 (.slice (some ⟨w.heap.size, 0, none⟩) 1 1)).run Tryd.prog (w.alloc (.cells #[.int .u8 48] 5)) = .ok (.string ⟨[UInt8.ofNat (48 + 0)].toArray⟩) (w.alloc (.cells #[.int .u8 48] 5)) := conv_byte w 0 (by decide)
/-- a number's digits, none of 0 -/
def dgs0 (u : Nat) : List UInt8 := if u = 0 then [] else Lib.decDigits u
theorem dgs0_step {u : Nat} (h : 0 < u) : dgs0 (u / 10) ++ [UInt8.ofNat (48 + u % 10)] = dgs0 u := by
  unfold dgs0
  rw [if_neg (show ¬ u = 0 by omega)]
  conv => rhs; unfold Lib.decDigits
  by_cases h1 : u < 10
  · rw [dif_pos h1, if_pos (by omega), Nat.mod_eq_of_lt h1]; rfl
  · rw [dif_neg h1, if_neg (by omega)]
theorem dgs0_len : ∀ (n : Nat), n ≤ 9223372036854775808 → (dgs0 n).length ≤ 100 := by
  have h : ∀ (k n : Nat), n < 10 ^ k → (dgs0 n).length ≤ k := by
    intro k
    induction k with
    | zero => intro n hn; have : n = 0 := by simp at hn; exact hn
              subst this; exact Nat.le_refl _
    | succ k ih =>
      intro n hn
      by_cases h0 : n = 0
      · subst h0; exact Nat.zero_le _
      · rw [← dgs0_step (u := n) (by omega), List.length_append]
        have := ih (n / 10) (by rw [Nat.pow_succ] at hn; omega)
        simp
        exact this
  intro n hn
  exact Nat.le_trans (h 20 n (by omega)) (by decide)
set_option maxHeartbeats 1000000 in
set_option maxRecDepth 100000 in
theorem refNumber_zero (w : World) : Calls Tryd.prog 45 #[.int .i64 0] w (NumIs [48] w) := by
  go_enter Tryd.func45, Tryd.ntmps45
  go_wp2_with fail
  have b0 : Blk4 (w.alloc (.cells #[.int .u8 3, .string ⟨#[48]⟩, .slice none 0 0, .slice none 0 0] 25)) w.heap.size 25 _ _ _ _ := heap_alloc_new _ _
  have hB0 := (Below.refl w.heap.size w).alloc (Nat.le_refl _) (.cells #[.int .u8 3, .string ⟨#[48]⟩, .slice none 0 0, .slice none 0 0] 25)
  generalize w.alloc (.cells #[.int .u8 3, .string ⟨#[48]⟩, .slice none 0 0, .slice none 0 0] 25) = W0 at *
  obtain ⟨x0, x1, x2, x3⟩ := b0.box
  refine bodyPost_ret (v := .agg #[.int .u8 3, .string ⟨#[48]⟩, .slice none 0 0, .slice none 0 0]) (by simp [results, Tryd.results45, go_sem, x0, x1, x2, x3]) rfl ?_
  exact ⟨rfl, hB0⟩
set_option maxHeartbeats 1000000 in
set_option maxRecDepth 100000 in
theorem refNumber_pos (n : Nat) (h0 : 0 < n) (h1 : (n : Int) ≤ 9223372036854775807) (w : World) : Calls Tryd.prog 45 #[.int .i64 n] w (NumIs (dgs0 n) w) := by
  have t0 : ((n : Int) == 0) = false := by simp; omega
  have HN := Lib.hid (dgs0_len n (by omega))
  go_enter Tryd.func45, Tryd.ntmps45
  go_wp2_with fail
  have b0 : Blk4 (w.alloc (.cells #[.int .u8 0, .string ⟨#[]⟩, .slice none 0 0, .slice none 0 0] 25)) w.heap.size 25 _ _ _ _ := heap_alloc_new _ _
  have hB0 := (Below.refl w.heap.size w).alloc (Nat.le_refl _) (.cells #[.int .u8 0, .string ⟨#[]⟩, .slice none 0 0, .slice none 0 0] 25)
  have hz := World.size_alloc w (.cells #[.int .u8 0, .string ⟨#[]⟩, .slice none 0 0, .slice none 0 0] 25)
  generalize w.alloc (.cells #[.int .u8 0, .string ⟨#[]⟩, .slice none 0 0, .slice none 0 0] 25) = W0 at *
  go_loopw [3, 4] (fun x q wr => ∃ (u : Nat) (sl : List UInt8), x = .string ⟨sl.toArray⟩ ∧ q = .int .i64 u ∧ u ≤ n ∧ Hid (dgs0 u ++ sl = dgs0 n ∧ sl.length + (dgs0 u).length = (dgs0 n).length) ∧ Hid (Blk4 wr w.heap.size 25 (.int .u8 0) (.string ⟨#[]⟩) (.slice none 0 0) (.slice none 0 0)) ∧ Below w.heap.size w wr) (fun _ q _ => (RowKit.intOf q).toNat)
  case atStart => exact ⟨n, [], rfl, rfl, Nat.le_refl _, Lib.hid ⟨List.append_nil _, by simp⟩, Lib.hid b0, hB0⟩
  case round =>
    obtain ⟨u, sl, rfl, rfl, hu, HU, HK, hbl⟩ := hrel
    by_cases h : u = 0
    · subst h
      have tn : decide ((n : Int) < 0) = false := decide_eq_false (by omega)
      have hsl : sl = dgs0 n := HU.out.1
      have hlen : sl.length ≤ 1000 := by have := HU.out.2; have := HN.out; omega
      have hsz : (⟨sl.toArray⟩ : ByteArray).size = sl.length := by show sl.toArray.size = _; rw [List.size_toArray]
      obtain ⟨x0, x1, x2, x3⟩ := HK.out.box
      have f0 := HK.out.free 0
      have f1 := HK.out.free 1
      have f2 := HK.out.free 2
      have f3 := HK.out.free 3
      have HX := Lib.hid hsl
      clear hsl
      go_wp2_with fail
      obtain ⟨g1, g2, g3⟩ := HK.out.all (.int .u8 3) (.string ⟨sl.toArray⟩) (.slice none 0 0) (.slice none 0 0)
      have hfin := hbl.trans (g3 w.heap.size (Nat.le_refl _))
      clear x0 x1 x2 x3 f0 f1 f2 f3
      generalize (((wr.setCell ⟨w.heap.size, 0, none⟩ (.int .u8 3)).setCell ⟨w.heap.size, 1, none⟩ (.string ⟨sl.toArray⟩)).setCell ⟨w.heap.size, 2, none⟩ (.slice none 0 0)).setCell ⟨w.heap.size, 3, none⟩ (.slice none 0 0) = W' at *
      obtain ⟨x0, x1, x2, x3⟩ := g1.box
      refine bodyPost_ret (v := .agg #[.int .u8 3, .string ⟨sl.toArray⟩, .slice none 0 0, .slice none 0 0]) (by simp [results, Tryd.results45, go_sem, x0, x1, x2, x3]) rfl ?_
      rw [← HX.out]
      exact ⟨rfl, hfin⟩
    · have tt : ((u : Int) != 0) = true := by simp; omega
      have hm : (u : Int).tmod 10 = ((u % 10 : Nat) : Int) := rfl
      have hq : (u : Int).tdiv 10 = ((u / 10 : Nat) : Int) := rfl
      have hlt : u % 10 < 10 := Nat.mod_lt _ (by decide)
      have hdv : u / 10 < u := by omega
      have HS := Lib.hid (dgs0_step (u := u) (by omega))
      generalize u % 10 = d at *
      generalize u / 10 = u2 at *
      have hcv := conv_byte wr d hlt
      have hlen : sl.length ≤ 1000 := by have := HU.out.2; have := HN.out; omega
      have hsz : (⟨sl.toArray⟩ : ByteArray).size = sl.length := by show sl.toArray.size = _; rw [List.size_toArray]
      go_wp2_with fail
      go_roundw
      case rel =>
        refine ⟨u2, UInt8.ofNat (48 + d) :: sl, ?_, by go_num, by omega, Lib.hid ⟨?_, ?_⟩, Lib.hid (HK.out.same (Below.heap_alloc wr _ _ HK.out.lt)), hbl.alloc hbl.size _⟩
        · congr 1; rw [UInt8.ofNat_add]; exact cat_byte _ _
        · have := HU.out.1
          rw [← HS.out, List.append_assoc] at this
          exact this
        · have h1 := HU.out.2
          rw [← HS.out, List.length_append] at h1
          have h2 : (dgs0 n).length = (dgs0 n).length := rfl
          simp at h1 ⊢
          omega
      case measure => simp [RowKit.intOf]; omega
set_option maxHeartbeats 1000000 in
set_option maxRecDepth 100000 in
theorem refNumber_neg (n : Nat) (h0 : 0 < n) (h1 : (n : Int) ≤ 9223372036854775808) (w : World) : Calls Tryd.prog 45 #[.int .i64 (-(n : Int))] w (NumIs (45 :: dgs0 n) w) := by
  have t0 : (-(n : Int) == 0) = false := by simp; omega
  have HN := Lib.hid (dgs0_len n (by omega))
  go_enter Tryd.func45, Tryd.ntmps45
  go_wp2_with fail
  have b0 : Blk4 (w.alloc (.cells #[.int .u8 0, .string ⟨#[]⟩, .slice none 0 0, .slice none 0 0] 25)) w.heap.size 25 _ _ _ _ := heap_alloc_new _ _
  have hB0 := (Below.refl w.heap.size w).alloc (Nat.le_refl _) (.cells #[.int .u8 0, .string ⟨#[]⟩, .slice none 0 0, .slice none 0 0] 25)
  have hz := World.size_alloc w (.cells #[.int .u8 0, .string ⟨#[]⟩, .slice none 0 0, .slice none 0 0] 25)
  generalize w.alloc (.cells #[.int .u8 0, .string ⟨#[]⟩, .slice none 0 0, .slice none 0 0] 25) = W0 at *
  go_loopw [3, 4] (fun x q wr => ∃ (u : Nat) (sl : List UInt8), x = .string ⟨sl.toArray⟩ ∧ q = .int .i64 (-(u : Int)) ∧ u ≤ n ∧ Hid (dgs0 u ++ sl = dgs0 n ∧ sl.length + (dgs0 u).length = (dgs0 n).length) ∧ Hid (Blk4 wr w.heap.size 25 (.int .u8 0) (.string ⟨#[]⟩) (.slice none 0 0) (.slice none 0 0)) ∧ Below w.heap.size w wr) (fun _ q _ => (RowKit.intOf q).natAbs)
  case atStart => exact ⟨n, [], rfl, rfl, Nat.le_refl _, Lib.hid ⟨List.append_nil _, by simp⟩, Lib.hid b0, hB0⟩
  case round =>
    obtain ⟨u, sl, rfl, rfl, hu, HU, HK, hbl⟩ := hrel
    by_cases h : u = 0
    · subst h
      have tn : decide (-(n : Int) < 0) = true := decide_eq_true (by omega)
      have hsl : sl = dgs0 n := HU.out.1
      have hlen : sl.length ≤ 1000 := by have := HU.out.2; have := HN.out; omega
      have hsz : (⟨sl.toArray⟩ : ByteArray).size = sl.length := by show sl.toArray.size = _; rw [List.size_toArray]
      obtain ⟨x0, x1, x2, x3⟩ := HK.out.box
      have f0 := HK.out.free 0
      have f1 := HK.out.free 1
      have f2 := HK.out.free 2
      have f3 := HK.out.free 3
      have HX := Lib.hid hsl
      clear hsl
      go_wp2_with fail
      obtain ⟨g1, g2, g3⟩ := HK.out.all (.int .u8 3) (.string (⟨#[45]⟩ ++ ⟨sl.toArray⟩)) (.slice none 0 0) (.slice none 0 0)
      have hfin := hbl.trans (g3 w.heap.size (Nat.le_refl _))
      clear x0 x1 x2 x3 f0 f1 f2 f3
      generalize (((wr.setCell ⟨w.heap.size, 0, none⟩ (.int .u8 3)).setCell ⟨w.heap.size, 1, none⟩ (.string (⟨#[45]⟩ ++ ⟨sl.toArray⟩))).setCell ⟨w.heap.size, 2, none⟩ (.slice none 0 0)).setCell ⟨w.heap.size, 3, none⟩ (.slice none 0 0) = W' at *
      obtain ⟨x0, x1, x2, x3⟩ := g1.box
      refine bodyPost_ret (v := .agg #[.int .u8 3, .string (⟨#[45]⟩ ++ ⟨sl.toArray⟩), .slice none 0 0, .slice none 0 0]) (by simp [results, Tryd.results45, go_sem, x0, x1, x2, x3]) rfl ?_
      rw [← HX.out]
      exact ⟨rfl, hfin⟩
    · have tt : (-(u : Int) != 0) = true := by simp; omega
      have hm : (-(u : Int)).tmod 10 = -((u % 10 : Nat) : Int) := by rw [Int.neg_tmod]; rfl
      have hq : (-(u : Int)).tdiv 10 = -((u / 10 : Nat) : Int) := by rw [Int.neg_tdiv]; rfl
      have hlt : u % 10 < 10 := Nat.mod_lt _ (by decide)
      have hdv : u / 10 < u := by omega
      have HS := Lib.hid (dgs0_step (u := u) (by omega))
      generalize u % 10 = d at *
      generalize u / 10 = u2 at *
      by_cases hd0 : d = 0
      · subst hd0
        have td : decide (-((0 : Nat) : Int) < 0) = false := by decide
        have hcv := conv_byte0 wr
        have hlen : sl.length ≤ 1000 := by have := HU.out.2; have := HN.out; omega
        have hsz : (⟨sl.toArray⟩ : ByteArray).size = sl.length := by show sl.toArray.size = _; rw [List.size_toArray]
        go_wp2_with fail
        go_roundw
        case rel =>
          refine ⟨u2, UInt8.ofNat (48 + 0) :: sl, ?_, by go_num, by omega, Lib.hid ⟨?_, ?_⟩, Lib.hid (HK.out.same (Below.heap_alloc wr _ _ HK.out.lt)), hbl.alloc hbl.size _⟩
          · congr 1 <;> first | (rw [UInt8.ofNat_add]; exact cat_byte _ _) | exact cat_byte _ _
          · have := HU.out.1
            rw [← HS.out, List.append_assoc] at this
            exact this
          · have h1 := HU.out.2
            rw [← HS.out, List.length_append] at h1
            have h2 : (dgs0 n).length = (dgs0 n).length := rfl
            simp at h1 ⊢
            omega
        case measure => simp [RowKit.intOf]; omega
      · have td : decide (-(d : Int) < 0) = true := decide_eq_true (by omega)
        have hcv := conv_byte wr d hlt
        have hlen : sl.length ≤ 1000 := by have := HU.out.2; have := HN.out; omega
        have hsz : (⟨sl.toArray⟩ : ByteArray).size = sl.length := by show sl.toArray.size = _; rw [List.size_toArray]
        go_wp2_with fail
        go_roundw
        case rel =>
          refine ⟨u2, UInt8.ofNat (48 + d) :: sl, ?_, by go_num, by omega, Lib.hid ⟨?_, ?_⟩, Lib.hid (HK.out.same (Below.heap_alloc wr _ _ HK.out.lt)), hbl.alloc hbl.size _⟩
          · congr 1 <;> first | (rw [UInt8.ofNat_add]; exact cat_byte _ _) | exact cat_byte _ _
          · have := HU.out.1
            rw [← HS.out, List.append_assoc] at this
            exact this
          · have h1 := HU.out.2
            rw [← HS.out, List.length_append] at h1
            have h2 : (dgs0 n).length = (dgs0 n).length := rfl
            simp at h1 ⊢
            omega
        case measure => simp [RowKit.intOf]; omega
theorem refNumber_any (n : Int) (h0 : -9223372036854775808 ≤ n) (h1 : n ≤ 9223372036854775807) (w : World) : Calls Tryd.prog 45 #[.int .i64 n] w (NumIs (Lib.itoa n) w) := by
  by_cases hn : n < 0
  · obtain ⟨m, rfl⟩ : ∃ m : Nat, n = -(m : Int) := ⟨n.natAbs, by omega⟩
    have := refNumber_neg m (by omega) (by omega) w
    unfold dgs0 at this
    rw [if_neg (by omega)] at this
    unfold Lib.itoa
    rw [if_pos hn, Int.natAbs_neg, Int.natAbs_natCast]
    exact this
  · obtain ⟨m, rfl⟩ : ∃ m : Nat, n = (m : Int) := ⟨n.toNat, by omega⟩
    unfold Lib.itoa
    rw [if_neg hn, Int.toNat_natCast]
    by_cases hm : m = 0
    · subst hm
      have e : Lib.decDigits 0 = [48] := by unfold Lib.decDigits; rw [dif_pos (by decide)]; rfl
      rw [e]
      exact refNumber_zero w
    · have := refNumber_pos m (by omega) (by omega) w
      unfold dgs0 at this
      rw [if_neg hm] at this
      exact this
end YtdgmbmoaeoakpaaDoor
end Go.Proofs
