/- The library's Itoa, and a number's digits one by one. Conditions: an int; the library's table of powers as its text lays it. -/
import Derived.Test.YtmaclplhphfkiaaDoorFrBase
import Derived.Test.YtmaclplhphfkiaaDoorUtfLaysI
import Derived.Shelf.Strconv.Itoa3
import Derived.Lib.AppendIntMem
import Derived.Lib.ItoaLen
import Derived.Laws.IdiomStrings
namespace Go.Proofs.YtmaclplhphfkiaaDoor.FW
open Go Go.RowKit Go.Shelf Go.Lib

def PowTab (w : World) : Prop := Lib.TabIs Tryd.prog w "internal/strconv.uint64pow10" .u64 Lib.pow10Tab
def StrIs (x : ByteArray) (w : World) (e : Ending) (w' : World) : Prop := e = .returned (.string x) ∧ Below w.heap.size w w'
theorem itoa_any (n : Int) (h0 : -9223372036854775808 ≤ n) (h1 : n ≤ 9223372036854775807) (w : World) (hP : PowTab w) :
    Calls Tryd.prog 46 #[.int .i64 n] w (StrIs ⟨(Lib.itoa n).toArray⟩ w) := by
  refine (Any.strconv_Itoa Tryd.laysItoa n h0 h1 w hP).mono ?_
  rintro e w' ⟨rfl, k, os, rfl⟩
  exact ⟨rfl, Lib.below_grow _ _ (Nat.le_refl _) k os⟩
theorem cat_byte (x : UInt8) (l : List UInt8) : (⟨#[x]⟩ : ByteArray) ++ ⟨l.toArray⟩ = ⟨(x :: l).toArray⟩ := by
  apply ByteArray.ext
  rw [ByteArray.data_append]
  simp
/-- one byte as a string -/
theorem conv_byte (w : World) (d : Nat) (hd : d < 10) : (convert 44 9 (.slice (some ⟨w.heap.size, 0, none⟩) 1 1)).run Tryd.prog (w.alloc (.cells #[.int .u8 (48 + (d : Int))] 5)) = .ok (.string ⟨[UInt8.ofNat (48 + d)].toArray⟩) (w.alloc (.cells #[.int .u8 (48 + (d : Int))] 5)) := by
  refine run_convert_bytes_back (w.alloc (.cells #[.int .u8 (48 + (d : Int))] 5)) 44 9 5 ⟨w.heap.size, 0, none⟩ 1 [UInt8.ofNat (48 + d)] Tryd.underlying44 Tryd.underlying5 Tryd.underlying9 (fun j hj => ?_)
  have hj0 : j = 0 := by have : j < 1 := hj; omega
  subst hj0
  have e : ((UInt8.ofNat (48 + d)).toNat : Int) = 48 + (d : Int) := by
    rw [show (UInt8.ofNat (48 + d)).toNat = 48 + d from Nat.mod_eq_of_lt (by omega)]; omega
  show _ = some (Value.int .u8 ((UInt8.ofNat (48 + d)).toNat : Int))
  rw [e]
  exact (cell_of_row _ _ 0 _ _ (0, 0) (heap_alloc_new _ _)).trans rfl
/-- a number's digits, none of 0 -/
def dgs0 (u : Nat) : List UInt8 := if u = 0 then [] else Lib.decDigits u
theorem dgs0_step {u : Nat} (h : 0 < u) : dgs0 (u / 10) ++ [UInt8.ofNat (48 + u % 10)] = dgs0 u := by
  unfold dgs0
  rw [if_neg (show ¬ u = 0 by omega)]
  conv => rhs; unfold Lib.decDigits
  by_cases h1 : u < 10
  · rw [dif_pos h1, if_pos (by omega), Nat.mod_eq_of_lt h1]; rfl
  · rw [dif_neg h1, if_neg (by omega)]
theorem dgs0_len : ∀ (n : Nat), n ≤ 9223372036854775808 → (dgs0 n).length ≤ 100 := by
  have h : ∀ (k n : Nat), n < 10 ^ k → (dgs0 n).length ≤ k := by
    intro k
    induction k with
    | zero => intro n hn; have : n = 0 := by simp at hn; exact hn
              subst this; exact Nat.le_refl _
    | succ k ih =>
      intro n hn
      by_cases h0 : n = 0
      · subst h0; exact Nat.zero_le _
      · rw [← dgs0_step (u := n) (by omega), List.length_append]
        have := ih (n / 10) (by rw [Nat.pow_succ] at hn; omega)
        simp
        exact this
  intro n hn
  exact Nat.le_trans (h 20 n (by omega)) (by decide)
theorem itoa_dgs0 {n : Nat} (h : 0 < n) : Lib.itoa (n : Int) = dgs0 n := by
  unfold Lib.itoa dgs0
  rw [if_neg (by omega), if_neg (by omega)]; rfl
theorem itoa_zero : Lib.itoa 0 = [48] := by decide +kernel
end Go.Proofs.YtmaclplhphfkiaaDoor.FW
