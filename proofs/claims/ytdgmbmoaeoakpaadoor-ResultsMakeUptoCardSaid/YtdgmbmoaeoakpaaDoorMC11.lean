/- The document's own Next: what it answers, by the scan. Conditions: a string of at most 10^12 bytes; an offset within it. -/
import Derived.Test.YtdgmbmoaeoakpaaDoorMC08
import Derived.Test.YtdgmbmoaeoakpaaDoorMC09
import Derived.Test.YtdgmbmoaeoakpaaDoorMC10
import Derived.Test.YtdgmbmoaeoakpaaDoorProg
import Derived.Shelf.Lays
import Derived.Shelf.LaysM
import Derived.KernelRfl
import Derived.Test.YtdgmbmoaeoakpaaDoorMC07
import Derived.Lib.RuneBytes
import Derived.Lib.AppendStr
import Derived.Laws.IdiomStrings
import Derived.Lib.BufferRead
import Derived.Shelf.Utf8.AppendRunePlain
import Derived.Lib.OthersKept
import Derived.WalkSmall
import Derived.Shelf.Unicode.ValidAny
namespace Go.Proofs.YtdgmbmoaeoakpaaDoor
open Go Go.RowKit Go.Lib

theorem refNext_any (s : ByteArray) (i : Nat) (w : World) (hi : i < s.size) (hs : s.size ≤ 1000000000000) :
    Calls Tryd.prog 94 #[.string s, .int .i64 i] w (NextIs (U.nr s i) (U.nk s i) (U.nb s i) w) := by
  have h256 := s[i].toNat_lt
  by_cases h1 : s[i].toNat < 128
  · exact refNext_ascii s i w hi hs (by omega)
  by_cases h2 : s[i].toNat < 192
  · exact refNext_lone s i w hi hs (by omega)
  by_cases h3 : s[i].toNat < 224
  · by_cases hz : s.size < i + 2
    · exact refNext_short2 s i w hi hs (by omega) (by omega) (by omega)
    · exact refNext_long2 s i w hi hs (by omega) (by omega) (by omega)
  by_cases h4 : s[i].toNat < 240
  · by_cases hz : s.size < i + 3
    · exact refNext_short3 s i w hi hs (by omega) (by omega) (by omega)
    · exact refNext_long3 s i w hi hs (by omega) (by omega) (by omega)
  by_cases h5 : s[i].toNat < 248
  · by_cases hz : s.size < i + 4
    · exact refNext_short4 s i w hi hs (by omega) (by omega) (by omega)
    · exact refNext_long4 s i w hi hs (by omega) (by omega) (by omega)
  exact refNext_lone s i w hi hs (by omega)
theorem refNext_bad (s : ByteArray) (i : Nat) (w : World) (hi : i < s.size) (hs : s.size ≤ 1000000000000) (h : U.bad s i = true) :
    Calls Tryd.prog 94 #[.string s, .int .i64 i] w (NextIs 0 0 false w) := by
  have := refNext_any s i w hi hs
  rwa [U.nr_bad h, U.nk_bad h, U.nb_bad h] at this
theorem refNext_good (s : ByteArray) (i : Nat) (w : World) (hi : i < s.size) (hs : s.size ≤ 1000000000000) (h : U.bad s i = false) :
    Calls Tryd.prog 94 #[.string s, .int .i64 i] w (NextIs (U.ch s i) (U.wd s i) true w) := by
  have := refNext_any s i w hi hs
  rwa [U.nr_good h, U.nk_good h, U.nb_good h] at this

end Go.Proofs.YtdgmbmoaeoakpaaDoor

namespace Go.Proofs
open Go.Shelf

def Tryd.laysValid_ren : Go.Shelf.Ren := ⟨fun | 196 => 125 | 259 => 147 | n => n, fun | 46 => 164 | 53 => 166 | 119 => 160 | 138 => 162 | 139 => 163 | n => n, fun | 3 => 0 | 4 => 1 | n => n⟩
theorem Tryd.laysValid : Lays.n196 Tryd.prog Tryd.laysValid_ren := {
  mixed := by kernel_rfl,
  f196 := Tryd.func125.trans (congrArg some (by kernel_rfl)),
  f259 := Tryd.func147.trans (congrArg some (by kernel_rfl)),
  t0 := Tryd.underlying0,
  a0 := Tryd.isAgg0,
  z0 := Tryd.sizeOf0,
  v0 := Tryd.zeroValue0,
  t3 := Tryd.underlying3,
  a3 := Tryd.isAgg3,
  z3 := Tryd.sizeOf3,
  v3 := Tryd.zeroValue3,
  t4 := Tryd.underlying4,
  a4 := Tryd.isAgg4,
  z4 := Tryd.sizeOf4,
  v4 := Tryd.zeroValue4,
  t5 := Tryd.underlying5,
  a5 := Tryd.isAgg5,
  z5 := Tryd.sizeOf5,
  v5 := Tryd.zeroValue5,
  t9 := Tryd.underlying9,
  a9 := Tryd.isAgg9,
  z9 := Tryd.sizeOf9,
  v9 := Tryd.zeroValue9,
  t12 := Tryd.underlying12,
  a12 := Tryd.isAgg12,
  z12 := Tryd.sizeOf12,
  v12 := Tryd.zeroValue12,
  t46 := Tryd.underlying164,
  a46 := Tryd.isAgg164,
  z46 := Tryd.sizeOf164,
  v46 := Tryd.zeroValue164,
  t53 := Tryd.underlying166,
  a53 := Tryd.isAgg166,
  z53 := Tryd.sizeOf166,
  v53 := Tryd.zeroValue166,
  t119 := Tryd.underlying160,
  a119 := Tryd.isAgg160,
  z119 := Tryd.sizeOf160,
  t138 := Tryd.underlying162,
  a138 := Tryd.isAgg162,
  z138 := Tryd.sizeOf162,
  v138 := Tryd.zeroValue162,
  t139 := Tryd.underlying163,
  a139 := Tryd.isAgg163,
  z139 := Tryd.sizeOf163,
  v139 := Tryd.zeroValue163,
  g3 := by kernel_rfl,
  g4 := by kernel_rfl }

def Tryd.laysAppend_ren : Go.Shelf.Ren := ⟨fun | 242 => 99 | 278 => 126 | n => n, fun | 37 => 107 | 46 => 164 | 51 => 137 | n => n, fun | n => n⟩
theorem Tryd.laysAppend : Lays.n242 Tryd.prog Tryd.laysAppend_ren := {
  mixed := by kernel_rfl,
  f242 := Tryd.func99.trans (congrArg some (by kernel_rfl)),
  f278 := Tryd.func126.trans (congrArg some (by kernel_rfl)),
  t4 := Tryd.underlying4,
  a4 := Tryd.isAgg4,
  z4 := Tryd.sizeOf4,
  v4 := Tryd.zeroValue4,
  t5 := Tryd.underlying5,
  a5 := Tryd.isAgg5,
  z5 := Tryd.sizeOf5,
  v5 := Tryd.zeroValue5,
  t21 := Tryd.underlying21,
  a21 := Tryd.isAgg21,
  z21 := Tryd.sizeOf21,
  v21 := Tryd.zeroValue21,
  t37 := Tryd.underlying107,
  a37 := Tryd.isAgg107,
  z37 := Tryd.sizeOf107,
  v37 := Tryd.zeroValue107,
  t46 := Tryd.underlying164,
  a46 := Tryd.isAgg164,
  z46 := Tryd.sizeOf164,
  v46 := Tryd.zeroValue164,
  t51 := Tryd.underlying137,
  a51 := Tryd.isAgg137,
  z51 := Tryd.sizeOf137,
  v51 := Tryd.zeroValue137 }
end Go.Proofs

namespace Go.Proofs.YtdgmbmoaeoakpaaDoor.U
open Go

/-- the bytes of a stretch of a string -/
def stretch (s : ByteArray) (p n : Nat) : List UInt8 := (List.range n).map fun k => s.get! (p + k)
theorem ext_stretch (s : ByteArray) (p n : Nat) (h : p + n ≤ s.size) : (s.extract p (p + n)).data.toList = stretch s p n := by
  unfold stretch
  apply List.ext_getElem
  · rw [← Lib.size_eq, ByteArray.size_extract, List.length_map, List.length_range]; omega
  · intro k h1 h2
    rw [List.length_map, List.length_range] at h2
    rw [List.getElem_map, List.getElem_range, at_get (show p + k < s.size by omega)]
    simp only [ByteArray.data_extract, Array.getElem_toList, Array.getElem_extract]
    rfl
def piece (s : ByteArray) (p : Nat) : List UInt8 := if bad s p = true then [239, 191, 189] else stretch s p (wd s p)
theorem piece_bad {s : ByteArray} {p : Nat} (h : bad s p = true) : piece s p = [239, 191, 189] := by unfold piece; rw [if_pos h]
theorem piece_good {s : ByteArray} {p : Nat} (h : bad s p = false) : piece s p = stretch s p (wd s p) := by unfold piece; rw [if_neg (by rw [h]; exact Bool.false_ne_true)]
theorem piece_le {s : ByteArray} {p : Nat} (h : p < s.size) : (piece s p).length ≤ 3 * wd s p ∧ 1 ≤ (piece s p).length ∧ (piece s p).length ≤ 4 := by
  have hf := facts s p h
  cases hb : bad s p
  · rw [piece_good hb]; unfold stretch; rw [List.length_map, List.length_range]; omega
  · rw [piece_bad hb, bad_wd hb]; simp
def cellsOf (l : List UInt8) : List Value := l.map fun b => Value.int .u8 b.toNat
theorem cellsOf_append (a b : List UInt8) : cellsOf a ++ cellsOf b = cellsOf (a ++ b) := by unfold cellsOf; rw [List.map_append]
theorem cellsOf_length (a : List UInt8) : (cellsOf a).length = a.length := by unfold cellsOf; rw [List.length_map]
theorem strCells_ext (s : ByteArray) (p n : Nat) (h : p + n ≤ s.size) : Lib.strCells (s.extract p (p + n)) = cellsOf (stretch s p n) := by
  unfold Lib.strCells cellsOf
  rw [ext_stretch s p n h]

set_option maxRecDepth 100000 in
set_option maxHeartbeats 2000000 in
theorem dn_enc (n b0 b1 b2 b3 : Nat) (h0 : b0 < 256) (h1 : b1 < 256) (h2 : b2 < 256) (_h3 : b3 < 256) :
    (Lib.decodeN n b0 b1 b2 b3 = (65533, 1)) ∨
    ((Lib.decodeN n b0 b1 b2 b3).2 = 1 ∧ Lib.encodeRuneZ ((Lib.decodeN n b0 b1 b2 b3).1 : Nat) = [(b0 : Int)]) ∨
    ((Lib.decodeN n b0 b1 b2 b3).2 = 2 ∧ Lib.encodeRuneZ ((Lib.decodeN n b0 b1 b2 b3).1 : Nat) = [(b0 : Int), (b1 : Int)]) ∨
    ((Lib.decodeN n b0 b1 b2 b3).2 = 3 ∧ Lib.encodeRuneZ ((Lib.decodeN n b0 b1 b2 b3).1 : Nat) = [(b0 : Int), (b1 : Int), (b2 : Int)]) ∨
    ((Lib.decodeN n b0 b1 b2 b3).2 = 4 ∧ Lib.encodeRuneZ ((Lib.decodeN n b0 b1 b2 b3).1 : Nat) = [(b0 : Int), (b1 : Int), (b2 : Int), (b3 : Int)]) := by
  unfold Lib.decodeN
  split
  · right; left
    refine ⟨rfl, ?_⟩
    rw [Lib.encodeRuneZ_one (by omega) (by simp only; omega)]
  split
  · split
    · right; right; left
      refine ⟨rfl, ?_⟩
      rw [Lib.encodeRuneZ_two (by simp only; omega) (by simp only; omega)]
      simp only [List.cons.injEq, and_true]
      omega
    · left; rfl
  split
  · split
    · right; right; right; left
      refine ⟨rfl, ?_⟩
      rw [Lib.encodeRuneZ_three (by simp only; omega)]
      simp only [List.cons.injEq, and_true]
      omega
    · left; rfl
  split
  · split
    · right; right; right; right
      refine ⟨rfl, ?_⟩
      rw [Lib.encodeRuneZ_four (by simp only; omega) (by simp only; omega)]
      simp only [List.cons.injEq, and_true]
      omega
    · left; rfl
  · left; rfl

theorem runeCells_piece (s : ByteArray) (p : Nat) (_h : p < s.size) : Lib.runeCells (ch s p : Nat) = cellsOf (piece s p) := by
  have hd := dn_enc (s.size - p) (s.get! p).toNat (s.get! (p + 1)).toNat (s.get! (p + 2)).toNat (s.get! (p + 3)).toNat (s.get! p).toNat_lt (s.get! (p + 1)).toNat_lt (s.get! (p + 2)).toNat_lt (s.get! (p + 3)).toNat_lt
  rw [← wd_eq, ← ch_eq] at hd
  cases hb : bad s p
  · have hn : ¬ (ch s p = 65533 ∧ wd s p = 1) := fun hx => by rw [(bad_iff s p).2 hx] at hb; cases hb
    rw [piece_good hb]
    rcases hd with hd | ⟨hw, he⟩ | ⟨hw, he⟩ | ⟨hw, he⟩ | ⟨hw, he⟩
    · exfalso
      rw [← Lib.decode_at] at hd
      exact hn (Prod.mk.inj hd)
    all_goals
      unfold Lib.runeCells
      rw [he, hw]
      rfl
  · have hx := (bad_iff s p).1 hb
    rw [piece_bad hb, hx.1]
    rfl

def fixFrom (s : ByteArray) : Nat → Nat → List UInt8
  | 0, _ => []
  | f + 1, pos => if pos < s.size then piece s pos ++ fixFrom s f (pos + wd s pos) else []
def fixL (s : ByteArray) : List UInt8 := fixFrom s s.size 0
def fixS (s : ByteArray) : ByteArray := ⟨(fixL s).toArray⟩
theorem fixFrom_end (s : ByteArray) (f pos : Nat) (h : ¬ pos < s.size) : fixFrom s f pos = [] := by
  cases f <;> simp [fixFrom, h]
theorem fixFrom_step (s : ByteArray) (f pos : Nat) (h : pos < s.size) : fixFrom s (f + 1) pos = piece s pos ++ fixFrom s f (pos + wd s pos) := by
  simp [fixFrom, h]
/-- a valid string is left as it is -/
theorem fixFrom_valid (s : ByteArray) : ∀ f pos, vFrom s f pos = true → s.size ≤ pos + f → fixFrom s f pos = s.data.toList.drop pos
  | 0, pos, _, h => by
    rw [List.drop_eq_nil_of_le (by rw [← Lib.size_eq]; omega)]
    rfl
  | f + 1, pos, hv, h => by
    by_cases hp : pos < s.size
    · rw [fixFrom_step s f pos hp]
      cases hb : bad s pos
      · rw [vFrom_step s f pos hp hb] at hv
        have hw := wd_pos hp
        have hl := wd_le hp
        rw [piece_good hb, fixFrom_valid s f _ hv (by omega), ← ext_stretch s pos (wd s pos) hl]
        have e : (s.extract pos (pos + wd s pos)).data.toList = (s.data.toList.drop pos).take (wd s pos) := by
          rw [ByteArray.data_extract, Array.toList_extract, List.extract_eq_take_drop]
          congr 1
          omega
        rw [e, ← List.drop_drop]
        exact List.take_append_drop _ _
      · rw [vFrom_bad s f pos hp hb] at hv
        cases hv
    · rw [fixFrom_end s _ pos hp, List.drop_eq_nil_of_le (by rw [← Lib.size_eq]; omega)]
theorem fixS_valid (s : ByteArray) (h : valid s = true) : fixS s = s := by
  have := fixFrom_valid s s.size 0 h (by omega)
  rw [List.drop_zero] at this
  unfold fixS fixL
  rw [this]
end Go.Proofs.YtdgmbmoaeoakpaaDoor.U

namespace Go.Proofs
open Go Go.RowKit Go.Shelf Go.Lib

namespace YtdgmbmoaeoakpaaDoor
theorem own8_below {w w' : World} {B : Nat} {e : TypeId} {v : Value} {n k : Nat} {xs : List Value} (h : w.ownsRow B e k v n xs) (hb : Below w.heap.size w w') : w'.ownsRow B e k v n xs :=
  h.kept (row := none) ⟨hb.os, hb.tape, hb.output, hb.size, fun j hj _ => hb.block j hj⟩ (by cases hv : v.ownBlock <;> simp)
theorem infoByte : (Tryd.prog.info? 5).map (fun i => (i.zero, i.size, i.bytes)) = some (some (.int .u8 0), 1, 1) := by kernel_rfl
theorem conv_own {w : World} {B : Nat} {v : Value} {l : List UInt8} (h : w.ownsRow B 5 1 v l.length (U.cellsOf l)) : (convert 107 9 v).run Tryd.prog w = .ok (.string ⟨l.toArray⟩) w := by
  have h' := h
  rcases h'.2 with ⟨rfl, h0⟩ | ⟨g, cap, cur, rfl, _, _, _, _, _, _⟩
  · obtain rfl := List.eq_nil_of_length_eq_zero h0
    exact run_convert_nil_bytes w 107 9 5 0 Tryd.underlying107 Tryd.underlying5 Tryd.underlying9
  · refine run_convert_bytes_back w 107 9 5 ⟨g, 0, none⟩ cap l Tryd.underlying107 Tryd.underlying5 Tryd.underlying9 (fun j hj => ?_)
    have := h.cells (g := g) rfl j (.int .u8 (l[j].toNat : Int)) (by unfold U.cellsOf; rw [List.getElem?_map, List.getElem?_eq_getElem hj]; rfl)
    exact this
def StrIs (x : ByteArray) (w : World) (e : Ending) (w' : World) : Prop := e = .returned (.string x) ∧ Below w.heap.size w w'

theorem iter_grown {w w' : World} {o : Obj} {row : Option Nat} {k : Nat} {s : ByteArray} {pos : Nat} (hk : w.heap[k]? = some (.stringIter s pos)) (hg : (w.alloc o).grownBy w' row) (hne : some k ≠ row) : w'.heap[k]? = some (.stringIter s pos) := by
  have hlt : k < w.heap.size := (Array.getElem?_eq_some_iff.1 hk).1
  rw [hg.block k (by simp; omega) hne, Below.heap_alloc w o k hlt]
  exact hk
theorem append_any (B : Nat) (v : Value) (l : List UInt8) (s : ByteArray) (p : Nat) (hp : p < s.size) (w : World) (hown : w.ownsRow B 5 1 v l.length (U.cellsOf l)) (hlen : l.length + 4 ≤ 140737488355328) (hBw : B ≤ w.heap.size) :
    Calls Tryd.prog 99 #[v, .int .i32 (U.ch s p)] w fun e w' => ∃ v', e = .returned v' ∧ w'.ownsRow B 5 1 v' (l ++ U.piece s p).length (U.cellsOf (l ++ U.piece s p)) ∧ ∃ o, (w.alloc o).grownBy w' v.ownBlock := by
  have hf := U.facts s p hp
  have := Any.utf8_AppendRune_plain Tryd.laysAppend infoByte B v l.length (U.cellsOf l) (U.ch s p : Nat) (by omega) (by omega) w hown hlen hBw
  rw [U.runeCells_piece s p hp, U.cellsOf_length, U.cellsOf_append, ← List.length_append] at this
  exact this

end YtdgmbmoaeoakpaaDoor
end Go.Proofs

namespace Go.Proofs
open Go Go.RowKit Go.Shelf Go.Lib

namespace YtdgmbmoaeoakpaaDoor
theorem validString_any (s : ByteArray) (w : World) (hs : s.size ≤ 1000000000000) (hT : Tabs w) :
    Calls Tryd.prog 125 #[.string s] w (BoolIs (U.valid s) w) := by
  have := Any.utf8_ValidString Tryd.laysValid s w (by omega) hT
  rw [U.validD_eq] at this
  exact this
set_option maxHeartbeats 400000 in
set_option maxRecDepth 100000 in
theorem utfValid_any (s : ByteArray) (w : World) (hs : s.size ≤ 1000000000000) (hT : Tabs w) :
    Calls Tryd.prog 98 #[.string s] w (BoolIs (U.valid s) w) := by
  have hc := validString_any s w hs hT
  generalize U.valid s = v at *
  go_enter Tryd.func98, Tryd.ntmps98
  go_wp2_with fail
  refine hc.mono ?_
  rintro e w' ⟨rfl, hb⟩
  go_wp2_with fail
  go_ret
  exact ⟨rfl, hb⟩
end YtdgmbmoaeoakpaaDoor
end Go.Proofs
