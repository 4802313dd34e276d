/- The document's own Next: what it answers, by the scan. Conditions: a string of at most 10^12 bytes; an offset within it. -/
import Derived.Test.YtagafedkfkmkbaaGreatDoorMO22
import Derived.Test.YtagafedkfkmkbaaGreatDoorMO23
import Derived.Test.YtagafedkfkmkbaaGreatDoorMO24
import Derived.Test.YtagafedkfkmkbaaGreatDoorProg
import Derived.Shelf.Lays
import Derived.Shelf.LaysM
import Derived.KernelRfl
import Derived.Test.YtagafedkfkmkbaaGreatDoorMO07
import Derived.Lib.RuneBytes
import Derived.Lib.AppendStr
import Derived.Test.YtagafedkfkmkbaaGreatDoorMO08
import Derived.Laws.IdiomStrings
import Derived.Lib.BufferRead
import Derived.Shelf.Utf8.AppendRunePlain
import Derived.Lib.OthersKept
import Derived.WalkSmall
import Derived.Shelf.Unicode.ValidAny
import Derived.Test.YtagafedkfkmkbaaGreatDoorMO21
namespace Go.Proofs.YtagafedkfkmkbaaGreatDoor
open Go Go.RowKit Go.Lib

theorem refNext_any (s : ByteArray) (i : Nat) (w : World) (hi : i < s.size) (hs : s.size ≤ 1000000000000) :
    Calls Tryz.prog 212 #[.string s, .int .i64 i] w (NextIs (U.nr s i) (U.nk s i) (U.nb s i) w) := by
  have h256 := s[i].toNat_lt
  by_cases h1 : s[i].toNat < 128
  · exact refNext_ascii s i w hi hs (by omega)
  by_cases h2 : s[i].toNat < 192
  · exact refNext_lone s i w hi hs (by omega)
  by_cases h3 : s[i].toNat < 224
  · by_cases hz : s.size < i + 2
    · exact refNext_short2 s i w hi hs (by omega) (by omega) (by omega)
    · exact refNext_long2 s i w hi hs (by omega) (by omega) (by omega)
  by_cases h4 : s[i].toNat < 240
  · by_cases hz : s.size < i + 3
    · exact refNext_short3 s i w hi hs (by omega) (by omega) (by omega)
    · exact refNext_long3 s i w hi hs (by omega) (by omega) (by omega)
  by_cases h5 : s[i].toNat < 248
  · by_cases hz : s.size < i + 4
    · exact refNext_short4 s i w hi hs (by omega) (by omega) (by omega)
    · exact refNext_long4 s i w hi hs (by omega) (by omega) (by omega)
  exact refNext_lone s i w hi hs (by omega)
theorem refNext_bad (s : ByteArray) (i : Nat) (w : World) (hi : i < s.size) (hs : s.size ≤ 1000000000000) (h : U.bad s i = true) :
    Calls Tryz.prog 212 #[.string s, .int .i64 i] w (NextIs 0 0 false w) := by
  have := refNext_any s i w hi hs
  rwa [U.nr_bad h, U.nk_bad h, U.nb_bad h] at this
theorem refNext_good (s : ByteArray) (i : Nat) (w : World) (hi : i < s.size) (hs : s.size ≤ 1000000000000) (h : U.bad s i = false) :
    Calls Tryz.prog 212 #[.string s, .int .i64 i] w (NextIs (U.ch s i) (U.wd s i) true w) := by
  have := refNext_any s i w hi hs
  rwa [U.nr_good h, U.nk_good h, U.nb_good h] at this

end Go.Proofs.YtagafedkfkmkbaaGreatDoor

namespace Go.Proofs
open Go.Shelf

def Tryz.laysValid_ren : Go.Shelf.Ren := ⟨fun | 196 => 88 | 259 => 157 | n => n, fun | 46 => 216 | 53 => 257 | 119 => 212 | 138 => 214 | 139 => 215 | n => n, fun | 3 => 0 | 4 => 1 | n => n⟩
theorem Tryz.laysValid : Lays.n196 Tryz.prog Tryz.laysValid_ren := {
  mixed := by kernel_rfl,
  f196 := Tryz.func88.trans (congrArg some (by kernel_rfl)),
  f259 := Tryz.func157.trans (congrArg some (by kernel_rfl)),
  t0 := Tryz.underlying0,
  a0 := Tryz.isAgg0,
  z0 := Tryz.sizeOf0,
  v0 := Tryz.zeroValue0,
  t3 := Tryz.underlying3,
  a3 := Tryz.isAgg3,
  z3 := Tryz.sizeOf3,
  v3 := Tryz.zeroValue3,
  t4 := Tryz.underlying4,
  a4 := Tryz.isAgg4,
  z4 := Tryz.sizeOf4,
  v4 := Tryz.zeroValue4,
  t5 := Tryz.underlying5,
  a5 := Tryz.isAgg5,
  z5 := Tryz.sizeOf5,
  v5 := Tryz.zeroValue5,
  t9 := Tryz.underlying9,
  a9 := Tryz.isAgg9,
  z9 := Tryz.sizeOf9,
  v9 := Tryz.zeroValue9,
  t12 := Tryz.underlying12,
  a12 := Tryz.isAgg12,
  z12 := Tryz.sizeOf12,
  v12 := Tryz.zeroValue12,
  t46 := Tryz.underlying216,
  a46 := Tryz.isAgg216,
  z46 := Tryz.sizeOf216,
  v46 := Tryz.zeroValue216,
  t53 := Tryz.underlying257,
  a53 := Tryz.isAgg257,
  z53 := Tryz.sizeOf257,
  v53 := Tryz.zeroValue257,
  t119 := Tryz.underlying212,
  a119 := Tryz.isAgg212,
  z119 := Tryz.sizeOf212,
  t138 := Tryz.underlying214,
  a138 := Tryz.isAgg214,
  z138 := Tryz.sizeOf214,
  v138 := Tryz.zeroValue214,
  t139 := Tryz.underlying215,
  a139 := Tryz.isAgg215,
  z139 := Tryz.sizeOf215,
  v139 := Tryz.zeroValue215,
  g3 := by kernel_rfl,
  g4 := by kernel_rfl }

def Tryz.laysAppend_ren : Go.Shelf.Ren := ⟨fun | 242 => 118 | 278 => 181 | n => n, fun | 37 => 110 | 46 => 216 | 51 => 235 | n => n, fun | n => n⟩
theorem Tryz.laysAppend : Lays.n242 Tryz.prog Tryz.laysAppend_ren := {
  mixed := by kernel_rfl,
  f242 := Tryz.func118.trans (congrArg some (by kernel_rfl)),
  f278 := Tryz.func181.trans (congrArg some (by kernel_rfl)),
  t4 := Tryz.underlying4,
  a4 := Tryz.isAgg4,
  z4 := Tryz.sizeOf4,
  v4 := Tryz.zeroValue4,
  t5 := Tryz.underlying5,
  a5 := Tryz.isAgg5,
  z5 := Tryz.sizeOf5,
  v5 := Tryz.zeroValue5,
  t21 := Tryz.underlying21,
  a21 := Tryz.isAgg21,
  z21 := Tryz.sizeOf21,
  v21 := Tryz.zeroValue21,
  t37 := Tryz.underlying110,
  a37 := Tryz.isAgg110,
  z37 := Tryz.sizeOf110,
  v37 := Tryz.zeroValue110,
  t46 := Tryz.underlying216,
  a46 := Tryz.isAgg216,
  z46 := Tryz.sizeOf216,
  v46 := Tryz.zeroValue216,
  t51 := Tryz.underlying235,
  a51 := Tryz.isAgg235,
  z51 := Tryz.sizeOf235,
  v51 := Tryz.zeroValue235 }
end Go.Proofs

namespace Go.Proofs.YtagafedkfkmkbaaGreatDoor.U
open Go

/-- the bytes of a stretch of a string -/
def stretch (s : ByteArray) (p n : Nat) : List UInt8 := (List.range n).map fun k => s.get! (p + k)
theorem ext_stretch (s : ByteArray) (p n : Nat) (h : p + n ≤ s.size) : (s.extract p (p + n)).data.toList = stretch s p n := by
  unfold stretch
  apply List.ext_getElem
  · rw [← Lib.size_eq, ByteArray.size_extract, List.length_map, List.length_range]; omega
  · intro k h1 h2
    rw [List.length_map, List.length_range] at h2
    rw [List.getElem_map, List.getElem_range, at_get (show p + k < s.size by omega)]
    simp only [ByteArray.data_extract, Array.getElem_toList, Array.getElem_extract]
    rfl
def piece (s : ByteArray) (p : Nat) : List UInt8 := if bad s p = true then [239, 191, 189] else stretch s p (wd s p)
theorem piece_bad {s : ByteArray} {p : Nat} (h : bad s p = true) : piece s p = [239, 191, 189] := by unfold piece; rw [if_pos h]
theorem piece_good {s : ByteArray} {p : Nat} (h : bad s p = false) : piece s p = stretch s p (wd s p) := by unfold piece; rw [if_neg (by rw [h]; exact Bool.false_ne_true)]
theorem piece_le {s : ByteArray} {p : Nat} (h : p < s.size) : (piece s p).length ≤ 3 * wd s p ∧ 1 ≤ (piece s p).length ∧ (piece s p).length ≤ 4 := by
  have hf := facts s p h
  cases hb : bad s p
  · rw [piece_good hb]; unfold stretch; rw [List.length_map, List.length_range]; omega
  · rw [piece_bad hb, bad_wd hb]; simp
def cellsOf (l : List UInt8) : List Value := l.map fun b => Value.int .u8 b.toNat
theorem cellsOf_append (a b : List UInt8) : cellsOf a ++ cellsOf b = cellsOf (a ++ b) := by unfold cellsOf; rw [List.map_append]
theorem cellsOf_length (a : List UInt8) : (cellsOf a).length = a.length := by unfold cellsOf; rw [List.length_map]
theorem strCells_ext (s : ByteArray) (p n : Nat) (h : p + n ≤ s.size) : Lib.strCells (s.extract p (p + n)) = cellsOf (stretch s p n) := by
  unfold Lib.strCells cellsOf
  rw [ext_stretch s p n h]

set_option maxRecDepth 100000 in
set_option maxHeartbeats 2000000 in
theorem dn_enc (n b0 b1 b2 b3 : Nat) (h0 : b0 < 256) (h1 : b1 < 256) (h2 : b2 < 256) (_h3 : b3 < 256) :
    (Lib.decodeN n b0 b1 b2 b3 = (65533, 1)) ∨
    ((Lib.decodeN n b0 b1 b2 b3).2 = 1 ∧ Lib.encodeRuneZ ((Lib.decodeN n b0 b1 b2 b3).1 : Nat) = [(b0 : Int)]) ∨
    ((Lib.decodeN n b0 b1 b2 b3).2 = 2 ∧ Lib.encodeRuneZ ((Lib.decodeN n b0 b1 b2 b3).1 : Nat) = [(b0 : Int), (b1 : Int)]) ∨
    ((Lib.decodeN n b0 b1 b2 b3).2 = 3 ∧ Lib.encodeRuneZ ((Lib.decodeN n b0 b1 b2 b3).1 : Nat) = [(b0 : Int), (b1 : Int), (b2 : Int)]) ∨
    ((Lib.decodeN n b0 b1 b2 b3).2 = 4 ∧ Lib.encodeRuneZ ((Lib.decodeN n b0 b1 b2 b3).1 : Nat) = [(b0 : Int), (b1 : Int), (b2 : Int), (b3 : Int)]) := by
  unfold Lib.decodeN
  split
  · right; left
    refine ⟨rfl, ?_⟩
    rw [Lib.encodeRuneZ_one (by omega) (by simp only; omega)]
  split
  · split
    · right; right; left
      refine ⟨rfl, ?_⟩
      rw [Lib.encodeRuneZ_two (by simp only; omega) (by simp only; omega)]
      simp only [List.cons.injEq, and_true]
      omega
    · left; rfl
  split
  · split
    · right; right; right; left
      refine ⟨rfl, ?_⟩
      rw [Lib.encodeRuneZ_three (by simp only; omega)]
      simp only [List.cons.injEq, and_true]
      omega
    · left; rfl
  split
  · split
    · right; right; right; right
      refine ⟨rfl, ?_⟩
      rw [Lib.encodeRuneZ_four (by simp only; omega) (by simp only; omega)]
      simp only [List.cons.injEq, and_true]
      omega
    · left; rfl
  · left; rfl

theorem runeCells_piece (s : ByteArray) (p : Nat) (_h : p < s.size) : Lib.runeCells (ch s p : Nat) = cellsOf (piece s p) := by
  have hd := dn_enc (s.size - p) (s.get! p).toNat (s.get! (p + 1)).toNat (s.get! (p + 2)).toNat (s.get! (p + 3)).toNat (s.get! p).toNat_lt (s.get! (p + 1)).toNat_lt (s.get! (p + 2)).toNat_lt (s.get! (p + 3)).toNat_lt
  rw [← wd_eq, ← ch_eq] at hd
  cases hb : bad s p
  · have hn : ¬ (ch s p = 65533 ∧ wd s p = 1) := fun hx => by rw [(bad_iff s p).2 hx] at hb; cases hb
    rw [piece_good hb]
    rcases hd with hd | ⟨hw, he⟩ | ⟨hw, he⟩ | ⟨hw, he⟩ | ⟨hw, he⟩
    · exfalso
      rw [← Lib.decode_at] at hd
      exact hn (Prod.mk.inj hd)
    all_goals
      unfold Lib.runeCells
      rw [he, hw]
      rfl
  · have hx := (bad_iff s p).1 hb
    rw [piece_bad hb, hx.1]
    rfl

def fixFrom (s : ByteArray) : Nat → Nat → List UInt8
  | 0, _ => []
  | f + 1, pos => if pos < s.size then piece s pos ++ fixFrom s f (pos + wd s pos) else []
def fixL (s : ByteArray) : List UInt8 := fixFrom s s.size 0
def fixS (s : ByteArray) : ByteArray := ⟨(fixL s).toArray⟩
theorem fixFrom_end (s : ByteArray) (f pos : Nat) (h : ¬ pos < s.size) : fixFrom s f pos = [] := by
  cases f <;> simp [fixFrom, h]
theorem fixFrom_step (s : ByteArray) (f pos : Nat) (h : pos < s.size) : fixFrom s (f + 1) pos = piece s pos ++ fixFrom s f (pos + wd s pos) := by
  simp [fixFrom, h]
/-- a valid string is left as it is -/
theorem fixFrom_valid (s : ByteArray) : ∀ f pos, vFrom s f pos = true → s.size ≤ pos + f → fixFrom s f pos = s.data.toList.drop pos
  | 0, pos, _, h => by
    rw [List.drop_eq_nil_of_le (by rw [← Lib.size_eq]; omega)]
    rfl
  | f + 1, pos, hv, h => by
    by_cases hp : pos < s.size
    · rw [fixFrom_step s f pos hp]
      cases hb : bad s pos
      · rw [vFrom_step s f pos hp hb] at hv
        have hw := wd_pos hp
        have hl := wd_le hp
        rw [piece_good hb, fixFrom_valid s f _ hv (by omega), ← ext_stretch s pos (wd s pos) hl]
        have e : (s.extract pos (pos + wd s pos)).data.toList = (s.data.toList.drop pos).take (wd s pos) := by
          rw [ByteArray.data_extract, Array.toList_extract, List.extract_eq_take_drop]
          congr 1
          omega
        rw [e, ← List.drop_drop]
        exact List.take_append_drop _ _
      · rw [vFrom_bad s f pos hp hb] at hv
        cases hv
    · rw [fixFrom_end s _ pos hp, List.drop_eq_nil_of_le (by rw [← Lib.size_eq]; omega)]
theorem fixS_valid (s : ByteArray) (h : valid s = true) : fixS s = s := by
  have := fixFrom_valid s s.size 0 h (by omega)
  rw [List.drop_zero] at this
  unfold fixS fixL
  rw [this]
end Go.Proofs.YtagafedkfkmkbaaGreatDoor.U

namespace Go.Proofs
open Go Go.RowKit Go.Shelf Go.Lib

namespace YtagafedkfkmkbaaGreatDoor
theorem own8_below {w w' : World} {B : Nat} {e : TypeId} {v : Value} {n k : Nat} {xs : List Value} (h : w.ownsRow B e k v n xs) (hb : Below w.heap.size w w') : w'.ownsRow B e k v n xs :=
  h.kept (row := none) ⟨hb.os, hb.tape, hb.output, hb.size, fun j hj _ => hb.block j hj⟩ (by cases hv : v.ownBlock <;> simp)
theorem infoByte : (Tryz.prog.info? 5).map (fun i => (i.zero, i.size, i.bytes)) = some (some (.int .u8 0), 1, 1) := by kernel_rfl
theorem conv_own {w : World} {B : Nat} {v : Value} {l : List UInt8} (h : w.ownsRow B 5 1 v l.length (U.cellsOf l)) : (convert 110 9 v).run Tryz.prog w = .ok (.string ⟨l.toArray⟩) w := by
  have h' := h
  rcases h'.2 with ⟨rfl, h0⟩ | ⟨g, cap, cur, rfl, _, _, _, _, _, _⟩
  · obtain rfl := List.eq_nil_of_length_eq_zero h0
    exact run_convert_nil_bytes w 110 9 5 0 Tryz.underlying110 Tryz.underlying5 Tryz.underlying9
  · refine run_convert_bytes_back w 110 9 5 ⟨g, 0, none⟩ cap l Tryz.underlying110 Tryz.underlying5 Tryz.underlying9 (fun j hj => ?_)
    have := h.cells (g := g) rfl j (.int .u8 (l[j].toNat : Int)) (by unfold U.cellsOf; rw [List.getElem?_map, List.getElem?_eq_getElem hj]; rfl)
    exact this
def StrIs (x : ByteArray) (w : World) (e : Ending) (w' : World) : Prop := e = .returned (.string x) ∧ Below w.heap.size w w'

theorem iter_grown {w w' : World} {o : Obj} {row : Option Nat} {k : Nat} {s : ByteArray} {pos : Nat} (hk : w.heap[k]? = some (.stringIter s pos)) (hg : (w.alloc o).grownBy w' row) (hne : some k ≠ row) : w'.heap[k]? = some (.stringIter s pos) := by
  have hlt : k < w.heap.size := (Array.getElem?_eq_some_iff.1 hk).1
  rw [hg.block k (by simp; omega) hne, Below.heap_alloc w o k hlt]
  exact hk
theorem append_any (B : Nat) (v : Value) (l : List UInt8) (s : ByteArray) (p : Nat) (hp : p < s.size) (w : World) (hown : w.ownsRow B 5 1 v l.length (U.cellsOf l)) (hlen : l.length + 4 ≤ 140737488355328) (hBw : B ≤ w.heap.size) :
    Calls Tryz.prog 118 #[v, .int .i32 (U.ch s p)] w fun e w' => ∃ v', e = .returned v' ∧ w'.ownsRow B 5 1 v' (l ++ U.piece s p).length (U.cellsOf (l ++ U.piece s p)) ∧ ∃ o, (w.alloc o).grownBy w' v.ownBlock := by
  have hf := U.facts s p hp
  have := Any.utf8_AppendRune_plain Tryz.laysAppend infoByte B v l.length (U.cellsOf l) (U.ch s p : Nat) (by omega) (by omega) w hown hlen hBw
  rw [U.runeCells_piece s p hp, U.cellsOf_length, U.cellsOf_append, ← List.length_append] at this
  exact this

end YtagafedkfkmkbaaGreatDoor
end Go.Proofs

namespace Go.Proofs
open Go Go.RowKit Go.Shelf Go.Lib

namespace YtagafedkfkmkbaaGreatDoor
theorem validString_any (s : ByteArray) (w : World) (hs : s.size ≤ 1000000000000) (hT : Tabs w) :
    Calls Tryz.prog 88 #[.string s] w (BoolIs (U.valid s) w) := by
  have := Any.utf8_ValidString Tryz.laysValid s w (by omega) hT
  rw [U.validD_eq] at this
  exact this
set_option maxHeartbeats 400000 in
set_option maxRecDepth 100000 in
theorem utfValid_any (s : ByteArray) (w : World) (hs : s.size ≤ 1000000000000) (hT : Tabs w) :
    Calls Tryz.prog 27 #[.string s] w (BoolIs (U.valid s) w) := by
  have hc := validString_any s w hs hT
  generalize U.valid s = v at *
  go_enter Tryz.func27, Tryz.ntmps27
  go_wp2_with fail
  refine hc.mono ?_
  rintro e w' ⟨rfl, hb⟩
  go_wp2_with fail
  go_ret
  exact ⟨rfl, hb⟩
end YtagafedkfkmkbaaGreatDoor
end Go.Proofs

namespace Go.Proofs.YtagafedkfkmkbaaGreatDoor
open Go Go.RowKit Go.Shelf Go.Lib

set_option maxRecDepth 100000 in
theorem valid_wild (k : Nat) (x : ByteArray) (va ua : Value) (d : Int) (w : World) (hk : ¬ k ≤ 6) :
    Calls Tryz.prog 73 #[.agg #[.int .u8 k, .string x, va, ua], .int .i64 d] w (Bools false w) := by
  have tk : decide ((6 : Int) < (k : Int)) = true := decide_eq_true (by omega)
  have hB := (Below.refl w.heap.size w).alloc (Nat.le_refl _) (.cells #[.int .u8 k, .string x, va, ua] 25)
  go_enter Tryz.func73, Tryz.ntmps73
  go_wp2_with fail
  go_ret
  exact ⟨rfl, hB⟩
theorem ent_noText : ∀ args w, (callFunc 191 args).run Tryz.prog w = .ok (.enter 191 args) w := enters_of Tryz.func191 (by kernel_rfl) rfl
theorem ent_noList : ∀ args w, (callFunc 192 args).run Tryz.prog w = .ok (.enter 192 args) w := enters_of Tryz.func192 (by kernel_rfl) rfl
theorem ent_noFields : ∀ args w, (callFunc 193 args).run Tryz.prog w = .ok (.enter 193 args) w := enters_of Tryz.func193 (by kernel_rfl) rfl
theorem ent_isNumber : ∀ args w, (callFunc 197 args).run Tryz.prog w = .ok (.enter 197 args) w := enters_of Tryz.func197 (by kernel_rfl) rfl
theorem ent_utfValid : ∀ args w, (callFunc 27 args).run Tryz.prog w = .ok (.enter 27 args) w := enters_of Tryz.func27 (by kernel_rfl) rfl
theorem ent_validList : ∀ args w, (callFunc 200 args).run Tryz.prog w = .ok (.enter 200 args) w := enters_of Tryz.func200 (by kernel_rfl) rfl
theorem ent_validFields : ∀ args w, (callFunc 202 args).run Tryz.prog w = .ok (.enter 202 args) w := enters_of Tryz.func202 (by kernel_rfl) rfl

theorem mayV_wild {k : Nat} {x : ByteArray} {l f : V.T} {d : Nat} (h : ¬ k ≤ 6) : mayV k x l f d = false := by
  unfold mayV
  rw [decide_eq_false h, Bool.false_and]
set_option maxRecDepth 100000 in
theorem may_ok : ∀ N, MayOk Tabs N
  | 0 => fun k x va ua l f A d w h => absurd h (Nat.not_lt_zero _)
  | N + 1 => fun k x va ua l f A d w hN hk hx hsl hsf hl hf hd hT => by
    have ih := may_ok N
    by_cases hk6 : k ≤ 6
    · obtain ⟨p, c, rfl, a0, a1, a2⟩ := hl.len
      obtain ⟨q, e, rfl, b0, b1, b2⟩ := hf.len
      have T0 := fun W (_ : Below w.heap.size w W) => noText_any x W
      have L0 := fun W (_ : Below w.heap.size w W) => noList_any p l.len c d W a0 a1 a2
      have F0 := fun W (_ : Below w.heap.size w W) => noFields_any q f.len e d W b0 b1 b2
      have L1 := fun W (hW : Below w.heap.size w W) => validList_any Tabs (fun _ _ => tabs_below) N ih _ l A d W (by omega) hsl (hl.below hW) hd (tabs_below hT hW)
      have F1 := fun W (hW : Below w.heap.size w W) => validFields_any Tabs (fun _ _ => tabs_below) (fun s W => utfValid_any s W) N ih _ f A d W (by omega) hsf (hf.below hW) hd (tabs_below hT hW)
      have hc : k = 0 ∨ k = 1 ∨ k = 2 ∨ k = 3 ∨ k = 4 ∨ k = 5 ∨ k = 6 := by omega
      rcases hc with rfl | rfl | rfl | rfl | rfl | rfl | rfl
      · exact valid_with 0 x p q l.len c f.len e d 191 192 193 194 _ _ _ w (by decide) (fun W => by kernel_rfl) ent_noText ent_noList ent_noFields T0 L0 F0
      · exact valid_with 1 x p q l.len c f.len e d 191 192 193 195 _ _ _ w (by decide) (fun W => by kernel_rfl) ent_noText ent_noList ent_noFields T0 L0 F0
      · exact valid_with 2 x p q l.len c f.len e d 191 192 193 196 _ _ _ w (by decide) (fun W => by kernel_rfl) ent_noText ent_noList ent_noFields T0 L0 F0
      · exact valid_with 3 x p q l.len c f.len e d 197 192 193 198 _ _ _ w (by decide) (fun W => by kernel_rfl) ent_isNumber ent_noList ent_noFields (fun W _ => isNumber_any x W (Nat.le_trans hx (by decide))) L0 F0
      · exact valid_with 4 x p q l.len c f.len e d 27 192 193 199 _ _ _ w (by decide) (fun W => by kernel_rfl) ent_utfValid ent_noList ent_noFields (fun W hW => utfValid_any x W hx (tabs_below hT hW)) L0 F0
      · exact valid_with 5 x p q l.len c f.len e d 191 200 193 201 _ _ _ w (by decide) (fun W => by kernel_rfl) ent_noText ent_validList ent_noFields T0 L1 F0
      · exact valid_with 6 x p q l.len c f.len e d 191 192 202 203 _ _ _ w (by decide) (fun W => by kernel_rfl) ent_noText ent_noList ent_validFields T0 L0 F1
    · rw [mayV_wild hk6]
      exact valid_wild k x va ua d w hk6
end Go.Proofs.YtagafedkfkmkbaaGreatDoor
