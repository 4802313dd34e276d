/- The document's own Next at a lead byte of 4 bytes: it answers what the scan has there. Conditions: none but the offset's range. -/
import Derived.Test.YtoolkaahjmnjeaaGreatDoorMW10
import Derived.Test.YtoolkaahjmnjeaaGreatDoorMW17
import Derived.Test.YtoolkaahjmnjeaaGreatDoorProg
import Derived.Shelf.Lays
import Derived.Shelf.LaysM
import Derived.KernelRfl
import Derived.Test.YtoolkaahjmnjeaaGreatDoorMW06
import Derived.Lib.RuneBytes
import Derived.Lib.AppendStr
import Derived.Laws.IdiomStrings
import Derived.Lib.BufferRead
import Derived.Shelf.Utf8.AppendRunePlain
import Derived.Lib.OthersKept
import Derived.WalkSmall
import Derived.Shelf.Unicode.ValidAny
namespace Go.Proofs.YtoolkaahjmnjeaaGreatDoor
open Go Go.RowKit Go.Lib

set_option maxHeartbeats 400000 in
set_option maxRecDepth 100000 in
theorem refNext_short4 (s : ByteArray) (i : Nat) (w : World) (hi : i < s.size) (hs : s.size ≤ 1000000000000) (hb1 : 240 ≤ (s[i].toNat : Int)) (hb2 : (s[i].toNat : Int) < 248) (hsh : (s.size : Int) < (i : Int) + 4) :
    Calls Tryz.prog 155 #[.string s, .int .i64 i] w (NextIs (U.nr s i) (U.nk s i) (U.nb s i) w) := by
  have H := Lib.hid (U.next_short s i 4 (s[i].toNat - 240) (by rw [← U.at_byte hi]; unfold U.Lead; omega) hi (by omega))
  have h1 : ¬ ((i : Int) < 0) := by omega
  have h2 : (i : Int) < (s.size : Int) := by omega
  go_enter Tryz.func155, Tryz.ntmps155
  go_wp2_with fail
  go_ret3
  exact .of (U.nr_bad H.out) (U.nk_bad H.out) (U.nb_bad H.out) (Below.refl _ _)

set_option maxHeartbeats 1000000 in
set_option maxRecDepth 100000 in
theorem refNext_long4 (s : ByteArray) (i : Nat) (w : World) (hi : i < s.size) (hs : s.size ≤ 1000000000000) (hb1 : 240 ≤ (s[i].toNat : Int)) (hb2 : (s[i].toNat : Int) < 248) (hsh : (i : Int) + 4 ≤ (s.size : Int)) :
    Calls Tryz.prog 155 #[.string s, .int .i64 i] w (NextIs (U.nr s i) (U.nk s i) (U.nb s i) w) := by
  obtain ⟨n0, hn0⟩ : ∃ n0, s[i].toNat - 240 = n0 := ⟨_, rfl⟩
  have HL := Lib.hid (show U.Lead (s.get! i).toNat 4 n0 by rw [← U.at_byte hi]; unfold U.Lead; omega)
  have hn0' : n0 < 32 := by omega
  have HN := Lib.hid hn0
  clear hn0
  have h1 : ¬ ((i : Int) < 0) := by omega
  have h2 : (i : Int) < (s.size : Int) := by omega
  go_enter Tryz.func155, Tryz.ntmps155
  go_wp2_with fail
  go_loop [9, 10] (fun n j => ∃ k P : Nat, 1 ≤ k ∧ k ≤ 4 ∧ j = .int .i64 k ∧ n = .int .i64 P ∧ Hid (U.part s i n0 (k - 1) = P ∧ ∀ m, 1 ≤ m → m < k → 128 ≤ (s.get! (i + m)).toNat ∧ (s.get! (i + m)).toNat < 192)) (fun _ j => 4 - (RowKit.intOf j).toNat)
  case atStart => exact ⟨1, n0, by omega, by omega, rfl, by rw [← HN.out]; go_num, Lib.hid ⟨rfl, fun m a b => by omega⟩⟩
  case round =>
    obtain ⟨k, P, hk1, hk2, rfl, rfl, HP⟩ := hrel
    have hP : P < 8388608 := by rw [← HP.out.1]; exact U.part_lt s i n0 hn0' (k - 1) (by omega)
    by_cases hlt : k < 4
    · have hx : i + k < s.size := by omega
      have h256 : (s[i + k].toNat : Int) < 256 := by have := s[i + k].toNat_lt; omega
      by_cases hc : (s[i + k].toNat : Int) < 128
      · go_wp2_with fail
        go_ret3
        have H := U.next_broken s i 4 n0 k HL.out ⟨hk1, hlt⟩ (by rw [← U.at_byte hx]; omega)
        exact .of (U.nr_bad H) (U.nk_bad H) (U.nb_bad H) (Below.refl _ _)
      · by_cases hd : 192 ≤ (s[i + k].toNat : Int)
        · go_wp2_with fail
          go_ret3
          have H := U.next_broken s i 4 n0 k HL.out ⟨hk1, hlt⟩ (by rw [← U.at_byte hx]; omega)
          exact .of (U.nr_bad H) (U.nk_bad H) (U.nb_bad H) (Below.refl _ _)
        · go_wp2_with fail
          go_round
          case rel =>
            refine ⟨k + 1, P * 64 + (s.get! (i + k)).toNat % 64, by omega, by omega, by go_num, ?_, Lib.hid ⟨?_, ?_⟩⟩
            · rw [← U.at_byte hx]
              congr 1
              omega
            · obtain ⟨m, rfl⟩ : ∃ m, k = m + 1 := ⟨k - 1, by omega⟩
              rw [← HP.out.1]
              rfl
            · intro m a b
              by_cases hm : m = k
              · subst hm
                rw [← U.at_byte hx]
                omega
              · exact HP.out.2 m a (by omega)
          case measure => simp [RowKit.intOf]; omega
    · obtain rfl : k = 4 := by omega
      have HW := Lib.hid (U.next_whole s i 4 n0 HL.out (by omega) HP.out.2)
      have hpart := Lib.hid HP.out.1
      rw [show 4 - 1 = 3 from rfl] at HW
      have hl : U.least 4 = 65536 := rfl
      rcases HW.out with ⟨hbad, h⟩ | ⟨hgood, hch, hwd, ha, hb, hc⟩
      · rw [hl, show U.part s i n0 3 = P from hpart.out] at h
        clear hl
        have HB := Lib.hid hbad
        clear hbad
        rcases h with h | h | ⟨h, h'⟩
        · have e1 : decide ((P : Int) < 65536) = true := decide_eq_true (by omega)
          clear h
          go_wp2_with fail
          go_ret3
          exact .of (U.nr_bad HB.out) (U.nk_bad HB.out) (U.nb_bad HB.out) ((Below.refl _ _).alloc (Nat.le_refl _) _)
        · have e0 : decide ((P : Int) < 65536) = false := decide_eq_false (by omega)
          have e2 : decide ((1114111 : Int) < (P : Int)) = true := decide_eq_true (by omega)
          clear h
          go_wp2_with fail
          go_ret3
          exact .of (U.nr_bad HB.out) (U.nk_bad HB.out) (U.nb_bad HB.out) ((Below.refl _ _).alloc (Nat.le_refl _) _)
        · by_cases hq : P < 65536
          · have e1 : decide ((P : Int) < 65536) = true := decide_eq_true (by omega)
            clear h h' hq
            go_wp2_with fail
            go_ret3
            exact .of (U.nr_bad HB.out) (U.nk_bad HB.out) (U.nb_bad HB.out) ((Below.refl _ _).alloc (Nat.le_refl _) _)
          · have e1 : decide ((P : Int) < 65536) = false := decide_eq_false (by omega)
            have e2 : decide ((1114111 : Int) < (P : Int)) = false := decide_eq_false (by omega)
            have e3 : decide ((55296 : Int) ≤ (P : Int)) = true := decide_eq_true (by omega)
            have e4 : decide ((P : Int) < 57344) = true := decide_eq_true (by omega)
            clear h h' hq
            go_wp2_with fail
            go_ret3
            exact .of (U.nr_bad HB.out) (U.nk_bad HB.out) (U.nb_bad HB.out) ((Below.refl _ _).alloc (Nat.le_refl _) _)
      · rw [show U.part s i n0 3 = P from hpart.out] at hch ha hb hc
        rw [hl] at ha
        clear hl
        have HB := Lib.hid (And.intro hgood (And.intro hch hwd))
        clear hgood hch hwd
        rcases hc with h | h
        · have e1 : decide ((P : Int) < 65536) = false := decide_eq_false (by omega)
          have e2 : decide ((1114111 : Int) < (P : Int)) = false := decide_eq_false (by omega)
          have e3 : decide ((55296 : Int) ≤ (P : Int)) = false := decide_eq_false (by omega)
          clear ha hb h
          go_wp2_with fail
          go_ret3
          exact .of (by rw [U.nr_good HB.out.1, HB.out.2.1]) (by rw [U.nk_good HB.out.1, HB.out.2.2]; rfl) (U.nb_good HB.out.1) ((Below.refl _ _).alloc (Nat.le_refl _) _)
        · have e1 : decide ((P : Int) < 65536) = false := decide_eq_false (by omega)
          have e2 : decide ((1114111 : Int) < (P : Int)) = false := decide_eq_false (by omega)
          have e3 : decide ((55296 : Int) ≤ (P : Int)) = true := decide_eq_true (by omega)
          have e4 : decide ((P : Int) < 57344) = false := decide_eq_false (by omega)
          clear ha hb h
          go_wp2_with fail
          go_ret3
          exact .of (by rw [U.nr_good HB.out.1, HB.out.2.1]) (by rw [U.nk_good HB.out.1, HB.out.2.2]; rfl) (U.nb_good HB.out.1) ((Below.refl _ _).alloc (Nat.le_refl _) _)
end Go.Proofs.YtoolkaahjmnjeaaGreatDoor

namespace Go.Proofs.YtoolkaahjmnjeaaGreatDoor
open Go Go.RowKit Go.Lib

theorem refNext_any (s : ByteArray) (i : Nat) (w : World) (hi : i < s.size) (hs : s.size ≤ 1000000000000) :
    Calls Tryz.prog 155 #[.string s, .int .i64 i] w (NextIs (U.nr s i) (U.nk s i) (U.nb s i) w) := by
  have h256 := s[i].toNat_lt
  by_cases h1 : s[i].toNat < 128
  · exact refNext_ascii s i w hi hs (by omega)
  by_cases h2 : s[i].toNat < 192
  · exact refNext_lone s i w hi hs (by omega)
  by_cases h3 : s[i].toNat < 224
  · by_cases hz : s.size < i + 2
    · exact refNext_short2 s i w hi hs (by omega) (by omega) (by omega)
    · exact refNext_long2 s i w hi hs (by omega) (by omega) (by omega)
  by_cases h4 : s[i].toNat < 240
  · by_cases hz : s.size < i + 3
    · exact refNext_short3 s i w hi hs (by omega) (by omega) (by omega)
    · exact refNext_long3 s i w hi hs (by omega) (by omega) (by omega)
  by_cases h5 : s[i].toNat < 248
  · by_cases hz : s.size < i + 4
    · exact refNext_short4 s i w hi hs (by omega) (by omega) (by omega)
    · exact refNext_long4 s i w hi hs (by omega) (by omega) (by omega)
  exact refNext_lone s i w hi hs (by omega)
theorem refNext_bad (s : ByteArray) (i : Nat) (w : World) (hi : i < s.size) (hs : s.size ≤ 1000000000000) (h : U.bad s i = true) :
    Calls Tryz.prog 155 #[.string s, .int .i64 i] w (NextIs 0 0 false w) := by
  have := refNext_any s i w hi hs
  rwa [U.nr_bad h, U.nk_bad h, U.nb_bad h] at this
theorem refNext_good (s : ByteArray) (i : Nat) (w : World) (hi : i < s.size) (hs : s.size ≤ 1000000000000) (h : U.bad s i = false) :
    Calls Tryz.prog 155 #[.string s, .int .i64 i] w (NextIs (U.ch s i) (U.wd s i) true w) := by
  have := refNext_any s i w hi hs
  rwa [U.nr_good h, U.nk_good h, U.nb_good h] at this

end Go.Proofs.YtoolkaahjmnjeaaGreatDoor

namespace Go.Proofs
open Go.Shelf

def Tryz.laysValid_ren : Go.Shelf.Ren := ⟨fun | 196 => 128 | 259 => 168 | n => n, fun | 46 => 200 | 53 => 210 | 119 => 196 | 138 => 198 | 139 => 199 | n => n, fun | 3 => 0 | 4 => 1 | n => n⟩
theorem Tryz.laysValid : Lays.n196 Tryz.prog Tryz.laysValid_ren := {
  mixed := by kernel_rfl,
  f196 := Tryz.func128.trans (congrArg some (by kernel_rfl)),
  f259 := Tryz.func168.trans (congrArg some (by kernel_rfl)),
  t0 := Tryz.underlying0,
  a0 := Tryz.isAgg0,
  z0 := Tryz.sizeOf0,
  v0 := Tryz.zeroValue0,
  t3 := Tryz.underlying3,
  a3 := Tryz.isAgg3,
  z3 := Tryz.sizeOf3,
  v3 := Tryz.zeroValue3,
  t4 := Tryz.underlying4,
  a4 := Tryz.isAgg4,
  z4 := Tryz.sizeOf4,
  v4 := Tryz.zeroValue4,
  t5 := Tryz.underlying5,
  a5 := Tryz.isAgg5,
  z5 := Tryz.sizeOf5,
  v5 := Tryz.zeroValue5,
  t9 := Tryz.underlying9,
  a9 := Tryz.isAgg9,
  z9 := Tryz.sizeOf9,
  v9 := Tryz.zeroValue9,
  t12 := Tryz.underlying12,
  a12 := Tryz.isAgg12,
  z12 := Tryz.sizeOf12,
  v12 := Tryz.zeroValue12,
  t46 := Tryz.underlying200,
  a46 := Tryz.isAgg200,
  z46 := Tryz.sizeOf200,
  v46 := Tryz.zeroValue200,
  t53 := Tryz.underlying210,
  a53 := Tryz.isAgg210,
  z53 := Tryz.sizeOf210,
  v53 := Tryz.zeroValue210,
  t119 := Tryz.underlying196,
  a119 := Tryz.isAgg196,
  z119 := Tryz.sizeOf196,
  t138 := Tryz.underlying198,
  a138 := Tryz.isAgg198,
  z138 := Tryz.sizeOf198,
  v138 := Tryz.zeroValue198,
  t139 := Tryz.underlying199,
  a139 := Tryz.isAgg199,
  z139 := Tryz.sizeOf199,
  v139 := Tryz.zeroValue199,
  g3 := by kernel_rfl,
  g4 := by kernel_rfl }

def Tryz.laysAppend_ren : Go.Shelf.Ren := ⟨fun | 242 => 86 | 278 => 129 | n => n, fun | 37 => 81 | 46 => 200 | 51 => 175 | n => n, fun | n => n⟩
theorem Tryz.laysAppend : Lays.n242 Tryz.prog Tryz.laysAppend_ren := {
  mixed := by kernel_rfl,
  f242 := Tryz.func86.trans (congrArg some (by kernel_rfl)),
  f278 := Tryz.func129.trans (congrArg some (by kernel_rfl)),
  t4 := Tryz.underlying4,
  a4 := Tryz.isAgg4,
  z4 := Tryz.sizeOf4,
  v4 := Tryz.zeroValue4,
  t5 := Tryz.underlying5,
  a5 := Tryz.isAgg5,
  z5 := Tryz.sizeOf5,
  v5 := Tryz.zeroValue5,
  t21 := Tryz.underlying21,
  a21 := Tryz.isAgg21,
  z21 := Tryz.sizeOf21,
  v21 := Tryz.zeroValue21,
  t37 := Tryz.underlying81,
  a37 := Tryz.isAgg81,
  z37 := Tryz.sizeOf81,
  v37 := Tryz.zeroValue81,
  t46 := Tryz.underlying200,
  a46 := Tryz.isAgg200,
  z46 := Tryz.sizeOf200,
  v46 := Tryz.zeroValue200,
  t51 := Tryz.underlying175,
  a51 := Tryz.isAgg175,
  z51 := Tryz.sizeOf175,
  v51 := Tryz.zeroValue175 }
end Go.Proofs

namespace Go.Proofs.YtoolkaahjmnjeaaGreatDoor.U
open Go

/-- the bytes of a stretch of a string -/
def stretch (s : ByteArray) (p n : Nat) : List UInt8 := (List.range n).map fun k => s.get! (p + k)
theorem ext_stretch (s : ByteArray) (p n : Nat) (h : p + n ≤ s.size) : (s.extract p (p + n)).data.toList = stretch s p n := by
  unfold stretch
  apply List.ext_getElem
  · rw [← Lib.size_eq, ByteArray.size_extract, List.length_map, List.length_range]; omega
  · intro k h1 h2
    rw [List.length_map, List.length_range] at h2
    rw [List.getElem_map, List.getElem_range, at_get (show p + k < s.size by omega)]
    simp only [ByteArray.data_extract, Array.getElem_toList, Array.getElem_extract]
    rfl
def piece (s : ByteArray) (p : Nat) : List UInt8 := if bad s p = true then [239, 191, 189] else stretch s p (wd s p)
theorem piece_bad {s : ByteArray} {p : Nat} (h : bad s p = true) : piece s p = [239, 191, 189] := by unfold piece; rw [if_pos h]
theorem piece_good {s : ByteArray} {p : Nat} (h : bad s p = false) : piece s p = stretch s p (wd s p) := by unfold piece; rw [if_neg (by rw [h]; exact Bool.false_ne_true)]
theorem piece_le {s : ByteArray} {p : Nat} (h : p < s.size) : (piece s p).length ≤ 3 * wd s p ∧ 1 ≤ (piece s p).length ∧ (piece s p).length ≤ 4 := by
  have hf := facts s p h
  cases hb : bad s p
  · rw [piece_good hb]; unfold stretch; rw [List.length_map, List.length_range]; omega
  · rw [piece_bad hb, bad_wd hb]; simp
def cellsOf (l : List UInt8) : List Value := l.map fun b => Value.int .u8 b.toNat
theorem cellsOf_append (a b : List UInt8) : cellsOf a ++ cellsOf b = cellsOf (a ++ b) := by unfold cellsOf; rw [List.map_append]
theorem cellsOf_length (a : List UInt8) : (cellsOf a).length = a.length := by unfold cellsOf; rw [List.length_map]
theorem strCells_ext (s : ByteArray) (p n : Nat) (h : p + n ≤ s.size) : Lib.strCells (s.extract p (p + n)) = cellsOf (stretch s p n) := by
  unfold Lib.strCells cellsOf
  rw [ext_stretch s p n h]

set_option maxRecDepth 100000 in
set_option maxHeartbeats 2000000 in
theorem dn_enc (n b0 b1 b2 b3 : Nat) (h0 : b0 < 256) (h1 : b1 < 256) (h2 : b2 < 256) (_h3 : b3 < 256) :
    (Lib.decodeN n b0 b1 b2 b3 = (65533, 1)) ∨
    ((Lib.decodeN n b0 b1 b2 b3).2 = 1 ∧ Lib.encodeRuneZ ((Lib.decodeN n b0 b1 b2 b3).1 : Nat) = [(b0 : Int)]) ∨
    ((Lib.decodeN n b0 b1 b2 b3).2 = 2 ∧ Lib.encodeRuneZ ((Lib.decodeN n b0 b1 b2 b3).1 : Nat) = [(b0 : Int), (b1 : Int)]) ∨
    ((Lib.decodeN n b0 b1 b2 b3).2 = 3 ∧ Lib.encodeRuneZ ((Lib.decodeN n b0 b1 b2 b3).1 : Nat) = [(b0 : Int), (b1 : Int), (b2 : Int)]) ∨
    ((Lib.decodeN n b0 b1 b2 b3).2 = 4 ∧ Lib.encodeRuneZ ((Lib.decodeN n b0 b1 b2 b3).1 : Nat) = [(b0 : Int), (b1 : Int), (b2 : Int), (b3 : Int)]) := by
  unfold Lib.decodeN
  split
  · right; left
    refine ⟨rfl, ?_⟩
    rw [Lib.encodeRuneZ_one (by omega) (by simp only; omega)]
  split
  · split
    · right; right; left
      refine ⟨rfl, ?_⟩
      rw [Lib.encodeRuneZ_two (by simp only; omega) (by simp only; omega)]
      simp only [List.cons.injEq, and_true]
      omega
    · left; rfl
  split
  · split
    · right; right; right; left
      refine ⟨rfl, ?_⟩
      rw [Lib.encodeRuneZ_three (by simp only; omega)]
      simp only [List.cons.injEq, and_true]
      omega
    · left; rfl
  split
  · split
    · right; right; right; right
      refine ⟨rfl, ?_⟩
      rw [Lib.encodeRuneZ_four (by simp only; omega) (by simp only; omega)]
      simp only [List.cons.injEq, and_true]
      omega
    · left; rfl
  · left; rfl

theorem runeCells_piece (s : ByteArray) (p : Nat) (_h : p < s.size) : Lib.runeCells (ch s p : Nat) = cellsOf (piece s p) := by
  have hd := dn_enc (s.size - p) (s.get! p).toNat (s.get! (p + 1)).toNat (s.get! (p + 2)).toNat (s.get! (p + 3)).toNat (s.get! p).toNat_lt (s.get! (p + 1)).toNat_lt (s.get! (p + 2)).toNat_lt (s.get! (p + 3)).toNat_lt
  rw [← wd_eq, ← ch_eq] at hd
  cases hb : bad s p
  · have hn : ¬ (ch s p = 65533 ∧ wd s p = 1) := fun hx => by rw [(bad_iff s p).2 hx] at hb; cases hb
    rw [piece_good hb]
    rcases hd with hd | ⟨hw, he⟩ | ⟨hw, he⟩ | ⟨hw, he⟩ | ⟨hw, he⟩
    · exfalso
      rw [← Lib.decode_at] at hd
      exact hn (Prod.mk.inj hd)
    all_goals
      unfold Lib.runeCells
      rw [he, hw]
      rfl
  · have hx := (bad_iff s p).1 hb
    rw [piece_bad hb, hx.1]
    rfl

def fixFrom (s : ByteArray) : Nat → Nat → List UInt8
  | 0, _ => []
  | f + 1, pos => if pos < s.size then piece s pos ++ fixFrom s f (pos + wd s pos) else []
def fixL (s : ByteArray) : List UInt8 := fixFrom s s.size 0
def fixS (s : ByteArray) : ByteArray := ⟨(fixL s).toArray⟩
theorem fixFrom_end (s : ByteArray) (f pos : Nat) (h : ¬ pos < s.size) : fixFrom s f pos = [] := by
  cases f <;> simp [fixFrom, h]
theorem fixFrom_step (s : ByteArray) (f pos : Nat) (h : pos < s.size) : fixFrom s (f + 1) pos = piece s pos ++ fixFrom s f (pos + wd s pos) := by
  simp [fixFrom, h]
/-- a valid string is left as it is -/
theorem fixFrom_valid (s : ByteArray) : ∀ f pos, vFrom s f pos = true → s.size ≤ pos + f → fixFrom s f pos = s.data.toList.drop pos
  | 0, pos, _, h => by
    rw [List.drop_eq_nil_of_le (by rw [← Lib.size_eq]; omega)]
    rfl
  | f + 1, pos, hv, h => by
    by_cases hp : pos < s.size
    · rw [fixFrom_step s f pos hp]
      cases hb : bad s pos
      · rw [vFrom_step s f pos hp hb] at hv
        have hw := wd_pos hp
        have hl := wd_le hp
        rw [piece_good hb, fixFrom_valid s f _ hv (by omega), ← ext_stretch s pos (wd s pos) hl]
        have e : (s.extract pos (pos + wd s pos)).data.toList = (s.data.toList.drop pos).take (wd s pos) := by
          rw [ByteArray.data_extract, Array.toList_extract, List.extract_eq_take_drop]
          congr 1
          omega
        rw [e, ← List.drop_drop]
        exact List.take_append_drop _ _
      · rw [vFrom_bad s f pos hp hb] at hv
        cases hv
    · rw [fixFrom_end s _ pos hp, List.drop_eq_nil_of_le (by rw [← Lib.size_eq]; omega)]
theorem fixS_valid (s : ByteArray) (h : valid s = true) : fixS s = s := by
  have := fixFrom_valid s s.size 0 h (by omega)
  rw [List.drop_zero] at this
  unfold fixS fixL
  rw [this]
end Go.Proofs.YtoolkaahjmnjeaaGreatDoor.U

namespace Go.Proofs
open Go Go.RowKit Go.Shelf Go.Lib

namespace YtoolkaahjmnjeaaGreatDoor
theorem own8_below {w w' : World} {B : Nat} {e : TypeId} {v : Value} {n k : Nat} {xs : List Value} (h : w.ownsRow B e k v n xs) (hb : Below w.heap.size w w') : w'.ownsRow B e k v n xs :=
  h.kept (row := none) ⟨hb.os, hb.tape, hb.output, hb.size, fun j hj _ => hb.block j hj⟩ (by cases hv : v.ownBlock <;> simp)
theorem infoByte : (Tryz.prog.info? 5).map (fun i => (i.zero, i.size, i.bytes)) = some (some (.int .u8 0), 1, 1) := by kernel_rfl
theorem conv_own {w : World} {B : Nat} {v : Value} {l : List UInt8} (h : w.ownsRow B 5 1 v l.length (U.cellsOf l)) : (convert 81 9 v).run Tryz.prog w = .ok (.string ⟨l.toArray⟩) w := by
  have h' := h
  rcases h'.2 with ⟨rfl, h0⟩ | ⟨g, cap, cur, rfl, _, _, _, _, _, _⟩
  · obtain rfl := List.eq_nil_of_length_eq_zero h0
    exact run_convert_nil_bytes w 81 9 5 0 Tryz.underlying81 Tryz.underlying5 Tryz.underlying9
  · refine run_convert_bytes_back w 81 9 5 ⟨g, 0, none⟩ cap l Tryz.underlying81 Tryz.underlying5 Tryz.underlying9 (fun j hj => ?_)
    have := h.cells (g := g) rfl j (.int .u8 (l[j].toNat : Int)) (by unfold U.cellsOf; rw [List.getElem?_map, List.getElem?_eq_getElem hj]; rfl)
    exact this
def StrIs (x : ByteArray) (w : World) (e : Ending) (w' : World) : Prop := e = .returned (.string x) ∧ Below w.heap.size w w'

theorem iter_grown {w w' : World} {o : Obj} {row : Option Nat} {k : Nat} {s : ByteArray} {pos : Nat} (hk : w.heap[k]? = some (.stringIter s pos)) (hg : (w.alloc o).grownBy w' row) (hne : some k ≠ row) : w'.heap[k]? = some (.stringIter s pos) := by
  have hlt : k < w.heap.size := (Array.getElem?_eq_some_iff.1 hk).1
  rw [hg.block k (by simp; omega) hne, Below.heap_alloc w o k hlt]
  exact hk
theorem append_any (B : Nat) (v : Value) (l : List UInt8) (s : ByteArray) (p : Nat) (hp : p < s.size) (w : World) (hown : w.ownsRow B 5 1 v l.length (U.cellsOf l)) (hlen : l.length + 4 ≤ 140737488355328) (hBw : B ≤ w.heap.size) :
    Calls Tryz.prog 86 #[v, .int .i32 (U.ch s p)] w fun e w' => ∃ v', e = .returned v' ∧ w'.ownsRow B 5 1 v' (l ++ U.piece s p).length (U.cellsOf (l ++ U.piece s p)) ∧ ∃ o, (w.alloc o).grownBy w' v.ownBlock := by
  have hf := U.facts s p hp
  have := Any.utf8_AppendRune_plain Tryz.laysAppend infoByte B v l.length (U.cellsOf l) (U.ch s p : Nat) (by omega) (by omega) w hown hlen hBw
  rw [U.runeCells_piece s p hp, U.cellsOf_length, U.cellsOf_append, ← List.length_append] at this
  exact this

end YtoolkaahjmnjeaaGreatDoor
end Go.Proofs

namespace Go.Proofs
open Go Go.RowKit Go.Shelf Go.Lib

namespace YtoolkaahjmnjeaaGreatDoor
theorem validString_any (s : ByteArray) (w : World) (hs : s.size ≤ 1000000000000) (hT : Tabs w) :
    Calls Tryz.prog 128 #[.string s] w (BoolIs (U.valid s) w) := by
  have := Any.utf8_ValidString Tryz.laysValid s w (by omega) hT
  rw [U.validD_eq] at this
  exact this
set_option maxHeartbeats 400000 in
set_option maxRecDepth 100000 in
theorem utfValid_any (s : ByteArray) (w : World) (hs : s.size ≤ 1000000000000) (hT : Tabs w) :
    Calls Tryz.prog 85 #[.string s] w (BoolIs (U.valid s) w) := by
  have hc := validString_any s w hs hT
  generalize U.valid s = v at *
  go_enter Tryz.func85, Tryz.ntmps85
  go_wp2_with fail
  refine hc.mono ?_
  rintro e w' ⟨rfl, hb⟩
  go_wp2_with fail
  go_ret
  exact ⟨rfl, hb⟩
end YtoolkaahjmnjeaaGreatDoor
end Go.Proofs
