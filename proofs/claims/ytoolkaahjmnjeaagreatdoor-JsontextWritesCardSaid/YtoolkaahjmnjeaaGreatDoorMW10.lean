/- The document's own Next, at an offset within the string: it answers what the scan has there. Conditions: none but the offset's range. -/
import Derived.Test.YtoolkaahjmnjeaaGreatDoorProg
import Derived.Test.YtoolkaahjmnjeaaGreatDoorMW06
import Derived.WalkKit
import Derived.WalkSpells
import Derived.WalkLawsBesides
import Derived.Lib.Hide
import Derived.Shelf.Lays
import Derived.Shelf.LaysM
import Derived.KernelRfl
import Derived.Shelf.Unicode.DecodeAny
import Derived.Test.YtoolkaahjmnjeaaGreatDoorMW09
namespace Go.Proofs.YtoolkaahjmnjeaaGreatDoor
open Go Go.RowKit Go.Lib

def NextIs (a : Int) (b : Int) (c : Bool) (w : World) (e : Ending) (w' : World) : Prop := e = .returned (.tuple #[.int .i32 a, .int .i64 b, .bool c]) ∧ Below w.heap.size w w'
theorem NextIs.of {a b a' b' : Int} {c c' : Bool} {w w' : World} (ha : a = a') (hb : b = b') (hc : c = c') (h : Below w.heap.size w w') : NextIs a b c w (.returned (.tuple #[.int .i32 a', .int .i64 b', .bool c'])) w' := by
  subst ha hb hc
  exact ⟨rfl, h⟩
namespace U
theorem nr_bad {s : ByteArray} {i : Nat} (h : bad s i = true) : nr s i = 0 := by unfold nr; rw [if_pos h]
theorem nk_bad {s : ByteArray} {i : Nat} (h : bad s i = true) : nk s i = 0 := by unfold nk; rw [if_pos h]
theorem nb_bad {s : ByteArray} {i : Nat} (h : bad s i = true) : nb s i = false := by unfold nb; rw [h]; rfl
theorem nr_good {s : ByteArray} {i : Nat} (h : bad s i = false) : nr s i = (ch s i : Int) := by unfold nr; rw [if_neg (by rw [h]; exact Bool.false_ne_true)]
theorem nk_good {s : ByteArray} {i : Nat} (h : bad s i = false) : nk s i = (wd s i : Int) := by unfold nk; rw [if_neg (by rw [h]; exact Bool.false_ne_true)]
theorem nb_good {s : ByteArray} {i : Nat} (h : bad s i = false) : nb s i = true := by unfold nb; rw [h]; rfl
end U

set_option maxHeartbeats 400000 in
set_option maxRecDepth 100000 in
theorem refNext_ascii (s : ByteArray) (i : Nat) (w : World) (hi : i < s.size) (_hs : s.size ≤ 1000000000000) (hb : (s[i].toNat : Int) < 128) :
    Calls Tryz.prog 155 #[.string s, .int .i64 i] w (NextIs (U.nr s i) (U.nk s i) (U.nb s i) w) := by
  have H := Lib.hid (U.next_ascii s i (by rw [← U.at_byte hi]; omega))
  have h1 : ¬ ((i : Int) < 0) := by omega
  have h2 : (i : Int) < (s.size : Int) := by omega
  go_enter Tryz.func155, Tryz.ntmps155
  go_wp2_with fail
  go_ret3
  obtain ⟨ha, hb, hc⟩ := H.out
  exact .of (by rw [U.nr_good hc, ha, U.at_byte hi]) (by rw [U.nk_good hc, hb]; rfl) (U.nb_good hc) (Below.refl _ _)

set_option maxHeartbeats 400000 in
set_option maxRecDepth 100000 in
theorem refNext_lone (s : ByteArray) (i : Nat) (w : World) (hi : i < s.size) (_hs : s.size ≤ 1000000000000) (hb : (128 ≤ (s[i].toNat : Int) ∧ (s[i].toNat : Int) < 192) ∨ 248 ≤ (s[i].toNat : Int)) :
    Calls Tryz.prog 155 #[.string s, .int .i64 i] w (NextIs (U.nr s i) (U.nk s i) (U.nb s i) w) := by
  have H := Lib.hid (U.next_lone s i (by rw [← U.at_byte hi]; omega))
  have h1 : ¬ ((i : Int) < 0) := by omega
  have h2 : (i : Int) < (s.size : Int) := by omega
  have h3 : (s[i].toNat : Int) < 256 := by have := s[i].toNat_lt; omega
  rcases hb with ⟨hb1, hb2⟩ | hb1
  all_goals
    go_enter Tryz.func155, Tryz.ntmps155
    go_wp2_with fail
    go_ret3
    exact .of (U.nr_bad H.out) (U.nk_bad H.out) (U.nb_bad H.out) (Below.refl _ _)
end Go.Proofs.YtoolkaahjmnjeaaGreatDoor

namespace Go.Proofs
open Go.Shelf

def Tryz.laysDecode_ren : Go.Shelf.Ren := ⟨fun | 197 => 208 | 260 => 223 | n => n, fun | 46 => 200 | 105 => 247 | 119 => 196 | 138 => 198 | 139 => 199 | n => n, fun | 3 => 0 | 4 => 1 | n => n⟩
theorem Tryz.laysDecode : Lays.n197 Tryz.prog Tryz.laysDecode_ren := {
  mixed := by kernel_rfl,
  f197 := Tryz.func208.trans (congrArg some (by kernel_rfl)),
  f260 := Tryz.func223.trans (congrArg some (by kernel_rfl)),
  t0 := Tryz.underlying0,
  a0 := Tryz.isAgg0,
  z0 := Tryz.sizeOf0,
  v0 := Tryz.zeroValue0,
  t3 := Tryz.underlying3,
  a3 := Tryz.isAgg3,
  z3 := Tryz.sizeOf3,
  v3 := Tryz.zeroValue3,
  t4 := Tryz.underlying4,
  a4 := Tryz.isAgg4,
  z4 := Tryz.sizeOf4,
  v4 := Tryz.zeroValue4,
  t5 := Tryz.underlying5,
  a5 := Tryz.isAgg5,
  z5 := Tryz.sizeOf5,
  v5 := Tryz.zeroValue5,
  t9 := Tryz.underlying9,
  a9 := Tryz.isAgg9,
  z9 := Tryz.sizeOf9,
  v9 := Tryz.zeroValue9,
  t21 := Tryz.underlying21,
  a21 := Tryz.isAgg21,
  z21 := Tryz.sizeOf21,
  v21 := Tryz.zeroValue21,
  t46 := Tryz.underlying200,
  a46 := Tryz.isAgg200,
  z46 := Tryz.sizeOf200,
  v46 := Tryz.zeroValue200,
  t105 := Tryz.underlying247,
  a105 := Tryz.isAgg247,
  z105 := Tryz.sizeOf247,
  v105 := Tryz.zeroValue247,
  t119 := Tryz.underlying196,
  a119 := Tryz.isAgg196,
  z119 := Tryz.sizeOf196,
  t138 := Tryz.underlying198,
  a138 := Tryz.isAgg198,
  z138 := Tryz.sizeOf198,
  v138 := Tryz.zeroValue198,
  t139 := Tryz.underlying199,
  a139 := Tryz.isAgg199,
  z139 := Tryz.sizeOf199,
  v139 := Tryz.zeroValue199,
  g3 := by kernel_rfl,
  g4 := by kernel_rfl }
end Go.Proofs

namespace Go.Proofs
open Go Go.RowKit Go.Shelf Go.Lib

namespace YtoolkaahjmnjeaaGreatDoor
def Tabs (w : World) : Prop := Lib.Utf8Tabs (Tryz.laysDecode_ren.g 3) (Tryz.laysDecode_ren.g 4) w

def BoolIs (b : Bool) (w : World) (e : Ending) (w' : World) : Prop := e = .returned (.bool b) ∧ Below w.heap.size w w'
def PairIs (a b : Nat) (w : World) (e : Ending) (w' : World) : Prop := e = .returned (.tuple #[.int .i32 a, .int .i64 b]) ∧ Below w.heap.size w w'
theorem decode_any (s : ByteArray) (i : Nat) (w : World) (hi : i < s.size) (hT : Tabs w) :
    Calls Tryz.prog 208 #[.string (s.extract i s.size)] w (PairIs (U.ch s i) (U.wd s i) w) := by
  have := Any.utf8_DecodeRuneInString Tryz.laysDecode (s.extract i s.size) w hT
  have e : Lib.decodeGo (s.extract i s.size) = (U.ch s i, U.wd s i) := by
    unfold Lib.decodeGo
    rw [if_neg (by rw [Lib.ext_size]; omega), U.ext_decode]
    rfl
  rw [e] at this
  exact this
end YtoolkaahjmnjeaaGreatDoor
end Go.Proofs

namespace Go.Proofs.YtoolkaahjmnjeaaGreatDoor
open Go Go.RowKit Go.Shelf Go.Lib

theorem tabs_below {w w' : World} (hT : Tabs w) (h : Below w.heap.size w w') : Tabs w' := Utf8Tabs_below hT h

/-! ### Next -/
set_option maxHeartbeats 400000 in
set_option maxRecDepth 100000 in
theorem utfNext_out (s : ByteArray) (i : Int) (w : World) (hs : s.size ≤ 1000000000000) (hi : i < 0 ∨ (s.size : Int) ≤ i) :
    Calls Tryz.prog 227 #[.string s, .int .i64 i] w (NextIs 0 0 false w) := by
  rcases hi with hi | hi
  all_goals
    go_enter Tryz.func227, Tryz.ntmps227
    go_wp2_with fail
    go_ret3
    exact ⟨rfl, Below.refl _ _⟩
set_option maxHeartbeats 400000 in
set_option maxRecDepth 100000 in
theorem utfNext_bad (s : ByteArray) (i : Nat) (w : World) (hi : i < s.size) (_hs : s.size ≤ 1000000000000) (hT : Tabs w) (h : U.bad s i = true) :
    Calls Tryz.prog 227 #[.string s, .int .i64 i] w (NextIs 0 0 false w) := by
  have hc := decode_any s i w hi hT
  obtain ⟨h1, h2⟩ := (U.bad_iff s i).1 h
  rw [h1, h2] at hc
  have i1 : ¬ ((i : Int) < 0) := by omega
  have i2 : (i : Int) < (s.size : Int) := by omega
  clear h h1 h2
  go_enter Tryz.func227, Tryz.ntmps227
  go_wp2_with fail
  refine hc.mono ?_
  rintro e w' ⟨rfl, hb⟩
  go_wp2_with fail
  go_ret3
  exact ⟨rfl, hb⟩
set_option maxHeartbeats 400000 in
set_option maxRecDepth 100000 in
theorem utfNext_good (s : ByteArray) (i : Nat) (w : World) (hi : i < s.size) (_hs : s.size ≤ 1000000000000) (hT : Tabs w) (h : U.bad s i = false) :
    Calls Tryz.prog 227 #[.string s, .int .i64 i] w (NextIs (U.ch s i) (U.wd s i) true w) := by
  have hc := decode_any s i w hi hT
  have hn : ¬ (U.ch s i = 65533 ∧ U.wd s i = 1) := fun hx => by rw [(U.bad_iff s i).2 hx] at h; cases h
  have i1 : ¬ ((i : Int) < 0) := by omega
  have i2 : (i : Int) < (s.size : Int) := by omega
  clear h
  generalize U.ch s i = c at *
  generalize U.wd s i = d at *
  by_cases hq : c = 65533
  · have e1 : ((c : Int) == 65533) = true := by rw [beq_iff_eq]; omega
    have e2 : ((d : Int) == 1) = false := by rw [beq_eq_false_iff_ne]; omega
    clear hn hq
    go_enter Tryz.func227, Tryz.ntmps227
    go_wp2_with fail
    refine hc.mono ?_
    rintro e w' ⟨rfl, hb⟩
    go_wp2_with fail
    go_ret3
    exact ⟨rfl, hb⟩
  · have e1 : ((c : Int) == 65533) = false := by rw [beq_eq_false_iff_ne]; omega
    clear hn hq
    go_enter Tryz.func227, Tryz.ntmps227
    go_wp2_with fail
    refine hc.mono ?_
    rintro e w' ⟨rfl, hb⟩
    go_wp2_with fail
    go_ret3
    exact ⟨rfl, hb⟩
theorem utfNext_any (s : ByteArray) (i : Nat) (w : World) (hi : i < s.size) (hs : s.size ≤ 1000000000000) (hT : Tabs w) :
    Calls Tryz.prog 227 #[.string s, .int .i64 i] w (NextIs (U.nr s i) (U.nk s i) (U.nb s i) w) := by
  cases h : U.bad s i
  · rw [U.nr_good h, U.nk_good h, U.nb_good h]; exact utfNext_good s i w hi hs hT h
  · rw [U.nr_bad h, U.nk_bad h, U.nb_bad h]; exact utfNext_bad s i w hi hs hT h
end Go.Proofs.YtoolkaahjmnjeaaGreatDoor

namespace Go.Proofs.YtoolkaahjmnjeaaGreatDoor
open Go Go.RowKit Go.Lib

/-- the library's tables lie below -/
def TB (B : Nat) (w : World) : Prop := ∃ w0, Tabs w0 ∧ Below w0.heap.size w0 w ∧ w0.heap.size ≤ B
theorem TB.tabs {B : Nat} {w : World} (h : TB B w) : Tabs w := by obtain ⟨w0, h1, h2, _⟩ := h; exact tabs_below h1 h2
theorem TB.grow {B : Nat} {w w' : World} (h : TB B w) (g : w.grownBy w' (some B)) : TB B w' := by
  obtain ⟨w0, h1, h2, h3⟩ := h
  exact ⟨w0, h1, h2.trans (below_grow g h3 h2.size), h3⟩
theorem TB.below {B : Nat} {w w' : World} (h : TB B w) (hB : Below w.heap.size w w') : TB B w' := h.grow (grow_below hB _)

/-- the character or the unit that stands there, the place behind it, what is wrong -/
def cr (s : ByteArray) (q : Nat) : Nat × Nat × Nat :=
  if J.is s q 0 92 = true then J.es s (q + 1)
  else if q < s.size ∧ U.bad s q = false ∧ 32 ≤ U.ch s q then (U.ch s q, q + U.wd s q, 0) else (0, q, 30)
theorem out_died {v : Value} {s : ByteArray} {x : Nat × Nat} {d B : Nat} {w : World} {en : Ending} {w' : World} (h0 : ¬ x.2 = 0) (h : Died x.2 s x.1 B w en w') : Out v s x d B w en w' := by unfold Out; rw [if_neg h0]; exact h
/-- a number comes of reading, or an error -/
def OutN (s : ByteArray) (x : Nat × Nat × Nat) (d B : Nat) (w : World) (en : Ending) (w' : World) : Prop := Out (.int .i32 (x.1 : Nat)) s x.2 d B w en w'
theorem cr_le {s : ByteArray} {q : Nat} (h : q ≤ s.size) : q ≤ (cr s q).2.1 ∧ (cr s q).2.1 ≤ s.size := by
  unfold cr
  split
  · rename_i hi
    have h1 := (J.of_is hi).2.1
    have := J.es_le (s := s) (p := q + 1) h1
    omega
  · split
    · rename_i h1
      have := U.facts s q h1.1
      simp only []; omega
    · exact ⟨Nat.le_refl _, h⟩
theorem es_go {s : ByteArray} {p : Nat} (h : (J.es s p).2.2 = 0) : p < (J.es s p).2.1 := by
  unfold J.es at *
  split
  · exact Nat.lt_succ_self _
  · split
    · rename_i hi
      have h1 := (J.of_is hi).2.1
      have := (J.hxF_le (s := s) 4 (p + 1) 0 h1).1
      omega
    · rename_i h0 hi
      rw [h0] at h
      simp only [if_neg hi] at h
      cases h
theorem cr_go {s : ByteArray} {q : Nat} (h : (cr s q).2.2 = 0) : q < (cr s q).2.1 := by
  unfold cr at *
  split at h
  · rename_i hi
    rw [if_pos hi]
    have := es_go h
    omega
  · rename_i hi
    rw [if_neg hi]
    split at h
    · rename_i h1
      rw [if_pos h1]
      have := U.facts s q h1.1
      simp only []; omega
    · cases h
theorem cr_lt (s : ByteArray) (q : Nat) : (cr s q).1 < 2097152 := by
  unfold cr
  split
  · exact Nat.lt_of_lt_of_le J.es_num (by decide)
  · split
    · rename_i h1
      have := U.facts s q h1.1
      simp only []; omega
    · exact (by decide : (0 : Nat) < 2097152)
theorem am92 (c : Nat) : J.am ⟨#[92]⟩ c = decide (c = 92) := J.am_one 92 c (by decide)

set_option maxRecDepth 100000 in
set_option maxHeartbeats 1000000 in
theorem character_any (s : ByteArray) (q d B : Nat) (w : World) (hs : s.size ≤ 1000000000000) (hq : q ≤ s.size) (hT : Hid (TB B w)) (h : Rd s q d B w) :
    Calls Tryz.prog 212 #[.pointer (some ⟨B, 0, none⟩)] w (OutN s (cr s q) d B w) := by
  have hsk := J.sk_is (s := s) q (by decide) am92
  cases hb : J.is s q 0 92
  · have hk := skip_no s ⟨#[92]⟩ q d B w hs hq h (by rw [hsk, hb])
    by_cases hg : q < s.size ∧ U.bad s q = false
    · have hn := fun W hW => utfNext_good s q W hg.1 hs hW hg.2
      have hf := U.facts s q hg.1
      by_cases h32 : 32 ≤ U.ch s q
      · have HC := Lib.hid (show cr s q = (U.ch s q, q + U.wd s q, 0) by unfold cr; rw [if_neg (by rw [hb]; decide), if_pos ⟨hg.1, hg.2, h32⟩])
        have hlt := hg.1
        clear hsk hb hg
        generalize U.ch s q = c at *
        generalize U.wd s q = k at *
        go_enter Tryz.func212, Tryz.ntmps212
        go_wp2_with fail
        refine hk.mono ?_
        rintro en w1 ⟨rfl, h1, g1⟩
        have c0 := h1.c0
        have c1 := h1.c1
        have f1 := h1.f1
        have KEEP := Lib.hid (show ∀ w', Below w1.heap.size w1 w' → w'.cell? ⟨B, 0, none⟩ = some (.string s) ∧ w'.cell? ⟨B, 1, none⟩ = some (.int .i64 q) ∧ Tabs w' from fun w' hB => ⟨bcellv hB c0, bcellv hB c1, ((hT.out.grow g1).below hB).tabs⟩)
        go_wp2_with fail
        go_region_held3 (fun w' => w'.cell? ⟨B, 0, none⟩ = some (.string s) ∧ w'.cell? ⟨B, 1, none⟩ = some (.int .i64 q) ∧ Tabs w')
          (first | exact KEEP.out _ hB2.out | exact KEEP.out _ (Below.refl _ _).drew | exact KEEP.out _ (Below.refl _ _))
          (first | (go_at_call 227; (with_reducible refine (hn _ (KEEP.out _ (Below.refl _ _).drew).2.2).mono ?_); rintro e w8 ⟨rfl, hB1⟩; have hB2 := Lib.hid ((Below.refl w1.heap.size w1).drew.trans hB1); clear hB1))
        have h8 := h1.below hB2.out
        have f8 := h8.f1
        have HF := Lib.hid (h8.set1 (q + k))
        rw [Int.natCast_add] at HF
        have HG := Lib.hid (grow_trans g1 (grow_below hB2.out (some B)))
        clear h8
        go_wp2_with fail
        go_ret
        unfold OutN
        rw [HC.out]
        exact out_ok ⟨rfl, HF.out, grow_trans HG.out (grow_set _ _ _ _)⟩
      · have HC := Lib.hid (show cr s q = (0, q, 30) by unfold cr; rw [if_neg (by rw [hb]; decide), if_neg (fun e => h32 e.2.2)])
        have hlt := hg.1
        clear hsk hb hg
        generalize U.ch s q = c at *
        generalize U.wd s q = k at *
        go_enter Tryz.func212, Tryz.ntmps212
        go_wp2_with fail
        refine hk.mono ?_
        rintro en w1 ⟨rfl, h1, g1⟩
        have c0 := h1.c0
        have c1 := h1.c1
        have f1 := h1.f1
        have KEEP := Lib.hid (show ∀ w', Below w1.heap.size w1 w' → w'.cell? ⟨B, 0, none⟩ = some (.string s) ∧ w'.cell? ⟨B, 1, none⟩ = some (.int .i64 q) ∧ Tabs w' from fun w' hB => ⟨bcellv hB c0, bcellv hB c1, ((hT.out.grow g1).below hB).tabs⟩)
        go_wp2_with fail
        go_region_held3 (fun w' => w'.cell? ⟨B, 0, none⟩ = some (.string s) ∧ w'.cell? ⟨B, 1, none⟩ = some (.int .i64 q) ∧ Tabs w')
          (first | exact KEEP.out _ hB2.out | exact KEEP.out _ (Below.refl _ _).drew | exact KEEP.out _ (Below.refl _ _))
          (first | (go_at_call 227; (with_reducible refine (hn _ (KEEP.out _ (Below.refl _ _).drew).2.2).mono ?_); rintro e w8 ⟨rfl, hB1⟩; have hB2 := Lib.hid ((Below.refl w1.heap.size w1).drew.trans hB1); clear hB1))
        have h8 := h1.below hB2.out
        have HG := Lib.hid (grow_trans g1 (grow_below hB2.out (some B)))
        go_wp2_with fail
        unfold OutN
        rw [HC.out]
        exact ⟨rfl, out_no ⟨rfl, ⟨_, h8⟩, HG.out⟩⟩
    · have HC := Lib.hid (show cr s q = (0, q, 30) by unfold cr; rw [if_neg (by rw [hb]; decide), if_neg (fun e => hg ⟨e.1, e.2.1⟩)])
      have hn : ∀ W, Tabs W → Calls Tryz.prog 227 #[.string s, .int .i64 q] W (NextIs 0 0 false W) := by
        intro W hW
        by_cases hlt : q < s.size
        · refine utfNext_bad s q W hlt hs hW ?_
          cases hx : U.bad s q
          · exact absurd ⟨hlt, hx⟩ hg
          · rfl
        · exact utfNext_out s q W hs (Or.inr (by omega))
      clear hsk hb hg
      go_enter Tryz.func212, Tryz.ntmps212
      go_wp2_with fail
      refine hk.mono ?_
      rintro en w1 ⟨rfl, h1, g1⟩
      have c0 := h1.c0
      have c1 := h1.c1
      have f1 := h1.f1
      have KEEP := Lib.hid (show ∀ w', Below w1.heap.size w1 w' → w'.cell? ⟨B, 0, none⟩ = some (.string s) ∧ w'.cell? ⟨B, 1, none⟩ = some (.int .i64 q) ∧ Tabs w' from fun w' hB => ⟨bcellv hB c0, bcellv hB c1, ((hT.out.grow g1).below hB).tabs⟩)
      go_wp2_with fail
      go_region_held3 (fun w' => w'.cell? ⟨B, 0, none⟩ = some (.string s) ∧ w'.cell? ⟨B, 1, none⟩ = some (.int .i64 q) ∧ Tabs w')
        (first | exact KEEP.out _ hB2.out | exact KEEP.out _ (Below.refl _ _).drew | exact KEEP.out _ (Below.refl _ _))
        (first | (go_at_call 227; (with_reducible refine (hn _ (KEEP.out _ (Below.refl _ _).drew).2.2).mono ?_); rintro e w8 ⟨rfl, hB1⟩; have hB2 := Lib.hid ((Below.refl w1.heap.size w1).drew.trans hB1); clear hB1))
      have h8 := h1.below hB2.out
      have HG := Lib.hid (grow_trans g1 (grow_below hB2.out (some B)))
      go_wp2_with fail
      unfold OutN
      rw [HC.out]
      exact ⟨rfl, out_no ⟨rfl, ⟨_, h8⟩, HG.out⟩⟩
  · have hk := skip_yes s ⟨#[92]⟩ q d B w hs hq h (by rw [hsk, hb])
    have hlt := (J.of_is hb).2.1
    have hes := fun W hW => escape_any s (q + 1) d B W hs hlt hW
    rw [show cr s q = J.es s (q + 1) by unfold cr; rw [if_pos hb]]
    unfold OutN
    clear hsk hb
    generalize J.es s (q + 1) = x at *
    obtain ⟨n, p2, e⟩ := x
    go_enter Tryz.func212, Tryz.ntmps212
    go_wp2_with fail
    refine hk.mono ?_
    rintro en w1 ⟨rfl, h1, g1⟩
    have hes := hes w1 h1
    have HG := Lib.hid g1
    clear h1 g1
    go_wp2_with fail
    refine hes.mono ?_
    rintro en w2 ho
    unfold Out at ho
    split at ho
    · rename_i h0
      obtain ⟨rfl, h2, g2⟩ := ho
      obtain rfl : e = 0 := h0
      have HF := Lib.hid (And.intro h2 (grow_trans HG.out g2))
      clear h2 g2
      go_wp2_with fail
      go_ret
      exact out_ok ⟨rfl, HF.out⟩
    · rename_i h0
      obtain ⟨rfl, h2, g2⟩ := ho
      exact ⟨rfl, out_died h0 ⟨rfl, h2, grow_trans HG.out g2⟩⟩
end Go.Proofs.YtoolkaahjmnjeaaGreatDoor
