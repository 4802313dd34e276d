/- Plain arithmetic of UTF-8: what is made of a string by putting U+FFFD for each invalid byte. Conditions: none. -/
import Derived.Test.YteccfoiegjhppaaUtfMathB
import Derived.Lib.RuneBytes
import Derived.Lib.AppendStr
namespace Go.Proofs.Yteccfoiegjhppaa.U
open Go

/-- the bytes of a stretch of a string -/
def stretch (s : ByteArray) (p n : Nat) : List UInt8 := (List.range n).map fun k => s.get! (p + k)
theorem ext_stretch (s : ByteArray) (p n : Nat) (h : p + n ≤ s.size) : (s.extract p (p + n)).data.toList = stretch s p n := by
  unfold stretch
  apply List.ext_getElem
  · rw [← Lib.size_eq, ByteArray.size_extract, List.length_map, List.length_range]; omega
  · intro k h1 h2
    rw [List.length_map, List.length_range] at h2
    rw [List.getElem_map, List.getElem_range, at_get (show p + k < s.size by omega)]
    simp only [ByteArray.data_extract, Array.getElem_toList, Array.getElem_extract]
    rfl
def piece (s : ByteArray) (p : Nat) : List UInt8 := if bad s p = true then [239, 191, 189] else stretch s p (wd s p)
theorem piece_bad {s : ByteArray} {p : Nat} (h : bad s p = true) : piece s p = [239, 191, 189] := by unfold piece; rw [if_pos h]
theorem piece_good {s : ByteArray} {p : Nat} (h : bad s p = false) : piece s p = stretch s p (wd s p) := by unfold piece; rw [if_neg (by rw [h]; exact Bool.false_ne_true)]
theorem piece_le {s : ByteArray} {p : Nat} (h : p < s.size) : (piece s p).length ≤ 3 * wd s p ∧ 1 ≤ (piece s p).length ∧ (piece s p).length ≤ 4 := by
  have hf := facts s p h
  cases hb : bad s p
  · rw [piece_good hb]; unfold stretch; rw [List.length_map, List.length_range]; omega
  · rw [piece_bad hb, bad_wd hb]; simp
def cellsOf (l : List UInt8) : List Value := l.map fun b => Value.int .u8 b.toNat
theorem cellsOf_append (a b : List UInt8) : cellsOf a ++ cellsOf b = cellsOf (a ++ b) := by unfold cellsOf; rw [List.map_append]
theorem cellsOf_length (a : List UInt8) : (cellsOf a).length = a.length := by unfold cellsOf; rw [List.length_map]
theorem strCells_ext (s : ByteArray) (p n : Nat) (h : p + n ≤ s.size) : Lib.strCells (s.extract p (p + n)) = cellsOf (stretch s p n) := by
  unfold Lib.strCells cellsOf
  rw [ext_stretch s p n h]

set_option maxRecDepth 100000 in
set_option maxHeartbeats 2000000 in
theorem dn_enc (n b0 b1 b2 b3 : Nat) (h0 : b0 < 256) (h1 : b1 < 256) (h2 : b2 < 256) (_h3 : b3 < 256) :
    (Lib.decodeN n b0 b1 b2 b3 = (65533, 1)) ∨
    ((Lib.decodeN n b0 b1 b2 b3).2 = 1 ∧ Lib.encodeRuneZ ((Lib.decodeN n b0 b1 b2 b3).1 : Nat) = [(b0 : Int)]) ∨
    ((Lib.decodeN n b0 b1 b2 b3).2 = 2 ∧ Lib.encodeRuneZ ((Lib.decodeN n b0 b1 b2 b3).1 : Nat) = [(b0 : Int), (b1 : Int)]) ∨
    ((Lib.decodeN n b0 b1 b2 b3).2 = 3 ∧ Lib.encodeRuneZ ((Lib.decodeN n b0 b1 b2 b3).1 : Nat) = [(b0 : Int), (b1 : Int), (b2 : Int)]) ∨
    ((Lib.decodeN n b0 b1 b2 b3).2 = 4 ∧ Lib.encodeRuneZ ((Lib.decodeN n b0 b1 b2 b3).1 : Nat) = [(b0 : Int), (b1 : Int), (b2 : Int), (b3 : Int)]) := by
  unfold Lib.decodeN
  split
  · right; left
    refine ⟨rfl, ?_⟩
    rw [Lib.encodeRuneZ_one (by omega) (by simp only; omega)]
  split
  · split
    · right; right; left
      refine ⟨rfl, ?_⟩
      rw [Lib.encodeRuneZ_two (by simp only; omega) (by simp only; omega)]
      simp only [List.cons.injEq, and_true]
      omega
    · left; rfl
  split
  · split
    · right; right; right; left
      refine ⟨rfl, ?_⟩
      rw [Lib.encodeRuneZ_three (by simp only; omega)]
      simp only [List.cons.injEq, and_true]
      omega
    · left; rfl
  split
  · split
    · right; right; right; right
      refine ⟨rfl, ?_⟩
      rw [Lib.encodeRuneZ_four (by simp only; omega) (by simp only; omega)]
      simp only [List.cons.injEq, and_true]
      omega
    · left; rfl
  · left; rfl

theorem runeCells_piece (s : ByteArray) (p : Nat) (_h : p < s.size) : Lib.runeCells (ch s p : Nat) = cellsOf (piece s p) := by
  have hd := dn_enc (s.size - p) (s.get! p).toNat (s.get! (p + 1)).toNat (s.get! (p + 2)).toNat (s.get! (p + 3)).toNat (s.get! p).toNat_lt (s.get! (p + 1)).toNat_lt (s.get! (p + 2)).toNat_lt (s.get! (p + 3)).toNat_lt
  rw [← wd_eq, ← ch_eq] at hd
  cases hb : bad s p
  · have hn : ¬ (ch s p = 65533 ∧ wd s p = 1) := fun hx => by rw [(bad_iff s p).2 hx] at hb; cases hb
    rw [piece_good hb]
    rcases hd with hd | ⟨hw, he⟩ | ⟨hw, he⟩ | ⟨hw, he⟩ | ⟨hw, he⟩
    · exfalso
      rw [← Lib.decode_at] at hd
      exact hn (Prod.mk.inj hd)
    all_goals
      unfold Lib.runeCells
      rw [he, hw]
      rfl
  · have hx := (bad_iff s p).1 hb
    rw [piece_bad hb, hx.1]
    rfl

def fixFrom (s : ByteArray) : Nat → Nat → List UInt8
  | 0, _ => []
  | f + 1, pos => if pos < s.size then piece s pos ++ fixFrom s f (pos + wd s pos) else []
def fixL (s : ByteArray) : List UInt8 := fixFrom s s.size 0
def fixS (s : ByteArray) : ByteArray := ⟨(fixL s).toArray⟩
theorem fixFrom_end (s : ByteArray) (f pos : Nat) (h : ¬ pos < s.size) : fixFrom s f pos = [] := by
  cases f <;> simp [fixFrom, h]
theorem fixFrom_step (s : ByteArray) (f pos : Nat) (h : pos < s.size) : fixFrom s (f + 1) pos = piece s pos ++ fixFrom s f (pos + wd s pos) := by
  simp [fixFrom, h]
/-- a valid string is left as it is -/
theorem fixFrom_valid (s : ByteArray) : ∀ f pos, vFrom s f pos = true → s.size ≤ pos + f → fixFrom s f pos = s.data.toList.drop pos
  | 0, pos, _, h => by
    rw [List.drop_eq_nil_of_le (by rw [← Lib.size_eq]; omega)]
    rfl
  | f + 1, pos, hv, h => by
    by_cases hp : pos < s.size
    · rw [fixFrom_step s f pos hp]
      cases hb : bad s pos
      · rw [vFrom_step s f pos hp hb] at hv
        have hw := wd_pos hp
        have hl := wd_le hp
        rw [piece_good hb, fixFrom_valid s f _ hv (by omega), ← ext_stretch s pos (wd s pos) hl]
        have e : (s.extract pos (pos + wd s pos)).data.toList = (s.data.toList.drop pos).take (wd s pos) := by
          rw [ByteArray.data_extract, Array.toList_extract, List.extract_eq_take_drop]
          congr 1
          omega
        rw [e, ← List.drop_drop]
        exact List.take_append_drop _ _
      · rw [vFrom_bad s f pos hp hb] at hv
        cases hv
    · rw [fixFrom_end s _ pos hp, List.drop_eq_nil_of_le (by rw [← Lib.size_eq]; omega)]
theorem fixS_valid (s : ByteArray) (h : valid s = true) : fixS s = s := by
  have := fixFrom_valid s s.size 0 h (by omega)
  rw [List.drop_zero] at this
  unfold fixS fixL
  rw [this]
end Go.Proofs.Yteccfoiegjhppaa.U
