/- The program's cuts of numbers: a byte among some, digits, an integer. Conditions: a string of at most 10^12 bytes. -/
import Derived.Test.YtoolkaahjmnjeaaGreatDoorMW01
import Derived.Test.YtoolkaahjmnjeaaGreatDoorProg
import Derived.WalkKit
import Derived.WalkSpells
import Derived.WalkLawsBesides
import Derived.WalkSmall
import Derived.ProofKit
import Derived.IntWalk
import Derived.Lib.Bytealg
import Derived.Shelf.Strings.SlTrimAscii
namespace Go.Proofs.YtoolkaahjmnjeaaGreatDoor
open Go Go.RowKit Go.Shelf Go.Lib

theorem U_get {s : ByteArray} {i : Nat} (h : i < s.size) : s.get! i = s.data.toList[i]'(by rw [← Lib.size_eq]; exact h) := by
  rw [J.at_get h]
  rfl
/-- the first byte is cut off if it is among some -/
def caS (s x : ByteArray) : ByteArray × Bool := if J.sk s x 0 = true then (s.extract 1 s.size, true) else (s, false)
def CutIs (r : ByteArray × Bool) (w : World) (e : Ending) (w' : World) : Prop := e = .returned (.tuple #[.string r.1, .bool r.2]) ∧ Below w.heap.size w w'

set_option maxHeartbeats 1000000 in
set_option maxRecDepth 100000 in
theorem cutAny_any (s x : ByteArray) (w : World) (hs : s.size ≤ 140737488355328) (h0 : J.am x 0 = false) :
    Calls Tryz.prog 148 #[.string s, .string x] w (CutIs (caS s x) w) := by
  by_cases hz : 0 < s.size
  · have hi := fun W => Any.strings_IndexByte Tryz.laysIndexByte x ((s.get! 0).toNat : Nat) W
    have hx := J.at_byte hz
    have hne : (s.toList == []) = false := by
      rw [Lib.toList_data]
      cases h : s.data.toList with
      | nil => have := Lib.size_eq s; rw [h, List.length_nil] at this; omega
      | cons a l => rfl
    go_enter Tryz.func148, Tryz.ntmps148
    go_wp2_with fail
    refine (hi _).mono ?_
    rintro e w1 ⟨rfl, rfl⟩
    have he := J.am_index x (s.get! 0).toNat (s.get! 0).toNat_lt
    have hk : J.sk s x 0 = J.am x (s.get! 0).toNat := by unfold J.sk J.pk; rw [if_pos hz]
    generalize Lib.indexByte x.data.toList ((((s.get! 0).toNat : Nat) : Int).toNat.toUInt8) = z at *
    generalize (s.get! 0).toNat = c at *
    have hzz := J.indexByte_ge x.data.toList
    cases hm : J.am x c
    · rw [hm] at he hk
      have e1 : decide (z < 0) = true := he
      clear he hm
      go_wp2_with fail
      go_ret2
      unfold caS
      rw [hk]
      exact ⟨rfl, Below.refl _ _⟩
    · rw [hm] at he hk
      have e1 : decide (z < 0) = false := he
      clear he hm
      go_wp2_with fail
      go_ret2
      unfold caS
      rw [hk]
      exact ⟨rfl, Below.refl _ _⟩
  · have hz0 : s.size = 0 := by omega
    have hk : J.sk s x 0 = false := by unfold J.sk J.pk; rw [if_neg hz]; exact h0
    have hne : (s.toList == []) = true := by
      rw [Lib.toList_data]
      cases h : s.data.toList with
      | nil => rfl
      | cons a l => have := Lib.size_eq s; rw [h, List.length_cons] at this; omega
    go_enter Tryz.func148, Tryz.ntmps148
    go_wp2_with fail
    go_ret2
    unfold caS
    rw [hk]
    exact ⟨rfl, Below.refl _ _⟩
/-- digits are cut off -/
def cdS (s : ByteArray) : ByteArray × Bool := (s.extract (J.sa s J.dgs 0) s.size, decide (0 < J.sa s J.dgs 0))
theorem am_contains (x : ByteArray) (b : UInt8) : x.data.toList.contains b = J.am x b.toNat := by
  unfold J.am
  rw [List.contains_eq_any_beq]
  congr 1
  funext c
  by_cases h : b = c
  · subst h; simp
  · have : ¬ c.toNat = b.toNat := fun e => h (UInt8.toNat_inj.1 e.symm)
    simp [h, this]
theorem sa_drop (s x : ByteArray) (h0 : J.am x 0 = false) : ∀ f p, s.size ≤ p + f → (s.data.toList.drop p).dropWhile (x.data.toList.contains ·) = s.data.toList.drop (J.saF s x f p)
  | 0, p, h => by
    have e : s.data.toList.drop p = [] := List.drop_eq_nil_of_le (by rw [← Lib.size_eq]; omega)
    show _ = s.data.toList.drop p
    rw [e]; rfl
  | f + 1, p, h => by
    unfold J.saF
    by_cases hp : p < s.size
    · have hlt : p < s.data.toList.length := by rw [← Lib.size_eq]; exact hp
      have e1 : s.data.toList[p] = s.get! p := (U_get hp).symm
      have e2 : J.sk s x p = J.am x (s.get! p).toNat := by unfold J.sk J.pk; rw [if_pos hp]
      rw [List.drop_eq_getElem_cons hlt, e1, List.dropWhile_cons, am_contains, ← e2]
      cases hk : J.sk s x p
      · rw [if_neg (by decide), if_neg (by decide), List.drop_eq_getElem_cons hlt, e1]
      · rw [if_pos rfl, if_pos rfl]
        exact sa_drop s x h0 f (p + 1) (by omega)
    · have e : s.data.toList.drop p = [] := List.drop_eq_nil_of_le (by rw [← Lib.size_eq]; omega)
      rw [if_neg (by unfold J.sk J.pk; rw [if_neg hp, h0]; decide), e]; rfl
theorem drop_extract (s : ByteArray) (k : Nat) : (⟨(s.data.toList.drop k).toArray⟩ : ByteArray) = s.extract k s.size := by
  apply ByteArray.ext
  rw [ByteArray.data_extract]
  apply Array.ext'
  rw [Array.toList_extract, List.extract_eq_take_drop]
  show s.data.toList.drop k = _
  rw [List.take_of_length_le]
  rw [List.length_drop, ← Lib.size_eq]
  exact Nat.le_refl _
theorem trim_dgs (s : ByteArray) : (⟨(Lib.trimLeftS s.data.toList J.dgs.data.toList).toArray⟩ : ByteArray) = s.extract (J.sa s J.dgs 0) s.size := by
  rw [← drop_extract]
  have h := sa_drop s J.dgs (by decide) (s.size - 0) 0 (by omega)
  rw [List.drop_zero] at h
  unfold Lib.trimLeftS J.sa
  rw [h]
theorem infoSet : (Tryz.prog.info? (Tryz.laysTrimLeft_ren.t 116)).map (fun i => (i.zero, i.size)) = some (some (.agg (Array.replicate 256 (.bool false))), 256) := by kernel_rfl
set_option maxHeartbeats 1000000 in
set_option maxRecDepth 100000 in
theorem cutDigits_any (s : ByteArray) (w : World) (hs : s.size ≤ 140737488355328) :
    Calls Tryz.prog 149 #[.string s] w (CutIs (cdS s) w) := by
  have ht := fun W => Any.strings_TrimLeft_laid Tryz.laysTrimLeft infoSet s J.dgs W (by decide) (ascii_of_all (by decide))
  simp only [trim_dgs] at ht
  have hle := J.sa_le (s := s) (x := J.dgs) (p := 0) (by decide) (Nat.zero_le _)
  have hz : (s.extract (J.sa s J.dgs 0) s.size).size = s.size - J.sa s J.dgs 0 := by rw [ByteArray.size_extract]; omega
  have hc : cdS s = (s.extract (J.sa s J.dgs 0) s.size, decide (0 < J.sa s J.dgs 0)) := rfl
  rw [hc]
  clear hc
  generalize s.extract (J.sa s J.dgs 0) s.size = r at *
  generalize J.sa s J.dgs 0 = k at *
  go_enter Tryz.func149, Tryz.ntmps149
  go_wp2_with fail
  refine (ht _).mono ?_
  rintro e w1 ⟨rfl, hB⟩
  have hd : decide (s.size - k < s.size) = decide (0 < k) := decide_eq_decide.2 (by omega)
  go_wp2_with fail
  go_ret2
  exact ⟨rfl, hB⟩
theorem caS_le (s x : ByteArray) : (caS s x).1.size ≤ s.size := by
  unfold caS
  split
  · show (s.extract 1 s.size).size ≤ _; rw [ByteArray.size_extract]; omega
  · exact Nat.le_refl _
theorem cdS_le (s : ByteArray) : (cdS s).1.size ≤ s.size := by
  show (s.extract _ s.size).size ≤ _; rw [ByteArray.size_extract]; omega
def c45 : ByteArray := ⟨#[45]⟩
def c48 : ByteArray := ⟨#[48]⟩
def c46 : ByteArray := ⟨#[46]⟩
def cEe : ByteArray := ⟨#[101, 69]⟩
def cpm : ByteArray := ⟨#[43, 45]⟩
/-- an integer is cut off -/
def ciS (s : ByteArray) : ByteArray × Bool := if (caS (caS s c45).1 c48).2 = true then ((caS (caS s c45).1 c48).1, true) else cdS (caS s c45).1
theorem ciS_le (s : ByteArray) : (ciS s).1.size ≤ s.size := by
  have h1 := caS_le s c45
  have h2 := caS_le (caS s c45).1 c48
  have h3 := cdS_le (caS s c45).1
  unfold ciS
  split
  · show (caS (caS s c45).1 c48).1.size ≤ _; omega
  · omega
set_option maxHeartbeats 1000000 in
set_option maxRecDepth 100000 in
theorem cutInteger_any (s : ByteArray) (w : World) (hs : s.size ≤ 140737488355328) :
    Calls Tryz.prog 99 #[.string s] w (CutIs (ciS s) w) := by
  have h1 := fun W => cutAny_any s c45 W hs (by decide)
  have hle := caS_le s c45
  have h2 := fun W => cutAny_any (caS s c45).1 c48 W (by omega) (by decide)
  have h3 := fun W => cutDigits_any (caS s c45).1 W (by omega)
  unfold CutIs at *
  unfold ciS
  generalize hq : caS s c45 = q at *
  generalize hr : caS q.1 c48 = r at *
  generalize hd : cdS q.1 = d at *
  obtain ⟨r1, r2⟩ := r
  clear hq hr hd
  unfold c45 at h1
  unfold c48 at h2
  cases r2
  · rw [if_neg (by show ¬ false = true; decide)]
    go_enter Tryz.func99, Tryz.ntmps99
    go_wp2_with fail
    refine (h1 _).mono ?_
    rintro e w1 ⟨rfl, hB1⟩
    go_wp2_with fail
    refine (h2 _).mono ?_
    rintro e w2 ⟨rfl, hB2⟩
    have hB3 := hB1.trans (hB2.mono hB1.size)
    go_wp2_with fail
    refine (h3 _).mono ?_
    rintro e w3 ⟨rfl, hB4⟩
    have hB5 := hB3.trans (hB4.mono hB3.size)
    go_wp2_with fail
    go_ret2
    exact ⟨rfl, hB5⟩
  · rw [if_pos rfl]
    go_enter Tryz.func99, Tryz.ntmps99
    go_wp2_with fail
    refine (h1 _).mono ?_
    rintro e w1 ⟨rfl, hB1⟩
    go_wp2_with fail
    refine (h2 _).mono ?_
    rintro e w2 ⟨rfl, hB2⟩
    have hB3 := hB1.trans (hB2.mono hB1.size)
    go_wp2_with fail
    go_ret2
    exact ⟨rfl, hB3⟩
def bothS (r : ByteArray × Bool) : Bool := r.2 && decide (r.1.size = 0)
theorem empty_beq (s : ByteArray) : (s.toList == []) = decide (s.size = 0) := by
  rw [Lib.toList_data]
  cases h : s.data.toList with
  | nil => have := Lib.size_eq s; rw [h, List.length_nil] at this; simp [this]
  | cons a l => have := Lib.size_eq s; rw [h, List.length_cons] at this; simp [this]
theorem empty_isE (s : ByteArray) : s.toList.isEmpty = decide (s.size = 0) := by
  rw [Lib.toList_data]
  cases h : s.data.toList with
  | nil => have := Lib.size_eq s; rw [h, List.length_nil] at this; simp [this]
  | cons a l => have := Lib.size_eq s; rw [h, List.length_cons] at this; simp [this]
theorem empty_dec (s : ByteArray) : decide (s = ByteArray.empty) = decide (s.size = 0) := by
  refine decide_eq_decide.2 ⟨fun h => by rw [h]; rfl, fun h => ?_⟩
  apply ByteArray.ext
  have h2 : s.data.size = 0 := h
  exact Array.eq_empty_of_size_eq_zero h2
def BoolB (b : Bool) (w : World) (e : Ending) (w' : World) : Prop := e = .returned (.bool b) ∧ Below w.heap.size w w'
/-- a number -/
def n2S (r : ByteArray × Bool) : ByteArray × Bool := if (r.2 && (caS r.1 c46).2) = true then cdS (caS r.1 c46).1 else r
def n3S (r : ByteArray × Bool) : ByteArray × Bool := if (r.2 && (caS r.1 cEe).2) = true then cdS (caS (caS r.1 cEe).1 cpm).1 else r
def numS (s : ByteArray) : Bool := bothS (n3S (n2S (ciS s)))
theorem n2S_le (r : ByteArray × Bool) : (n2S r).1.size ≤ r.1.size := by
  have h1 := caS_le r.1 c46
  have h2 := cdS_le (caS r.1 c46).1
  unfold n2S
  split
  · omega
  · exact Nat.le_refl _
set_option maxHeartbeats 2000000 in
set_option maxRecDepth 100000 in
theorem isNumber_any (s : ByteArray) (w : World) (hs : s.size ≤ 140737488355328) :
    Calls Tryz.prog 140 #[.string s] w (BoolB (numS s) w) := by
  have l1 := ciS_le s
  have l2 := n2S_le (ciS s)
  have l3 := caS_le (ciS s).1 c46
  have l4 := caS_le (n2S (ciS s)).1 cEe
  have l5 := caS_le (caS (n2S (ciS s)).1 cEe).1 cpm
  have h1 := fun W => cutInteger_any s W hs
  have h2 := fun W => cutAny_any (ciS s).1 c46 W (by omega) (by decide)
  have h3 := fun W => cutDigits_any (caS (ciS s).1 c46).1 W (by omega)
  have h4 := fun W => cutAny_any (n2S (ciS s)).1 cEe W (by omega) (by decide)
  have h5 := fun W => cutAny_any (caS (n2S (ciS s)).1 cEe).1 cpm W (by omega) (by decide)
  have h6 := fun W => cutDigits_any (caS (caS (n2S (ciS s)).1 cEe).1 cpm).1 W (by omega)
  have e2 : n2S (ciS s) = if ((ciS s).2 && (caS (ciS s).1 c46).2) = true then cdS (caS (ciS s).1 c46).1 else ciS s := rfl
  have e3 : numS s = bothS (if ((n2S (ciS s)).2 && (caS (n2S (ciS s)).1 cEe).2) = true then cdS (caS (caS (n2S (ciS s)).1 cEe).1 cpm).1 else n2S (ciS s)) := rfl
  rw [e3]
  clear e3 l1 l2 l3 l4 l5
  unfold CutIs at *
  generalize cdS (caS (caS (n2S (ciS s)).1 cEe).1 cpm).1 = r6 at *
  generalize caS (caS (n2S (ciS s)).1 cEe).1 cpm = r5 at *
  generalize caS (n2S (ciS s)).1 cEe = r4 at *
  generalize n2S (ciS s) = q at *
  generalize cdS (caS (ciS s).1 c46).1 = r3 at *
  generalize caS (ciS s).1 c46 = r2 at *
  generalize ciS s = r1 at *
  obtain ⟨a1, b1⟩ := r1
  obtain ⟨a2, b2⟩ := r2
  obtain ⟨a3, b3⟩ := r3
  obtain ⟨a4, b4⟩ := r4
  obtain ⟨a5, b5⟩ := r5
  obtain ⟨a6, b6⟩ := r6
  unfold c46 at h2
  unfold cEe at h4
  unfold cpm at h5
  dsimp only at h1 h2 h3 h4 h5 h6 e2
  unfold bothS
  cases b1
  · have eq : q = (a1, false) := e2
    subst eq
    clear e2
    dsimp only at h4 ⊢
    rw [if_neg (by show ¬ (false && b4) = true; rw [Bool.false_and]; decide)]
    go_enter Tryz.func140, Tryz.ntmps140
    go_wp2_with fail
    refine (h1 _).mono ?_
    rintro e w0 ⟨rfl, hA0⟩
    have hB0 := hA0
    go_wp2_with fail
    refine (h2 _).mono ?_
    rintro e w1 ⟨rfl, hA1⟩
    have hB1 := hB0.trans (hA1.mono hB0.size)
    go_wp2_with fail
    refine (h4 _).mono ?_
    rintro e w2 ⟨rfl, hA2⟩
    have hB2 := hB1.trans (hA2.mono hB1.size)
    go_wp2_with fail
    go_ret
    refine ⟨?_, hB2⟩
    first | rfl | (show Ending.returned (.bool (decide (a1 = ByteArray.empty))) = _; rw [empty_dec]; rfl) | (show Ending.returned (.bool a1.toList.isEmpty) = _; rw [empty_isE]; rfl)
  · cases b2
    · have eq : q = (a1, true) := e2
      subst eq
      clear e2
      dsimp only at h4 ⊢
      cases b4
      · rw [if_neg (by show ¬ (true && false) = true; decide)]
        go_enter Tryz.func140, Tryz.ntmps140
        go_wp2_with fail
        refine (h1 _).mono ?_
        rintro e w0 ⟨rfl, hA0⟩
        have hB0 := hA0
        go_wp2_with fail
        refine (h2 _).mono ?_
        rintro e w1 ⟨rfl, hA1⟩
        have hB1 := hB0.trans (hA1.mono hB0.size)
        go_wp2_with fail
        refine (h4 _).mono ?_
        rintro e w2 ⟨rfl, hA2⟩
        have hB2 := hB1.trans (hA2.mono hB1.size)
        go_wp2_with fail
        go_ret
        refine ⟨?_, hB2⟩
        first | rfl | (show Ending.returned (.bool (decide (a1 = ByteArray.empty))) = _; rw [empty_dec]; rfl) | (show Ending.returned (.bool a1.toList.isEmpty) = _; rw [empty_isE]; rfl)
      · rw [if_pos (show (true && true) = true from rfl)]
        cases b6
        · go_enter Tryz.func140, Tryz.ntmps140
          go_wp2_with fail
          refine (h1 _).mono ?_
          rintro e w0 ⟨rfl, hA0⟩
          have hB0 := hA0
          go_wp2_with fail
          refine (h2 _).mono ?_
          rintro e w1 ⟨rfl, hA1⟩
          have hB1 := hB0.trans (hA1.mono hB0.size)
          go_wp2_with fail
          refine (h4 _).mono ?_
          rintro e w2 ⟨rfl, hA2⟩
          have hB2 := hB1.trans (hA2.mono hB1.size)
          go_wp2_with fail
          refine (h5 _).mono ?_
          rintro e w3 ⟨rfl, hA3⟩
          have hB3 := hB2.trans (hA3.mono hB2.size)
          go_wp2_with fail
          refine (h6 _).mono ?_
          rintro e w4 ⟨rfl, hA4⟩
          have hB4 := hB3.trans (hA4.mono hB3.size)
          go_wp2_with fail
          go_ret
          refine ⟨?_, hB4⟩
          first | rfl | (show Ending.returned (.bool (decide (a6 = ByteArray.empty))) = _; rw [empty_dec]; rfl) | (show Ending.returned (.bool a6.toList.isEmpty) = _; rw [empty_isE]; rfl)
        · go_enter Tryz.func140, Tryz.ntmps140
          go_wp2_with fail
          refine (h1 _).mono ?_
          rintro e w0 ⟨rfl, hA0⟩
          have hB0 := hA0
          go_wp2_with fail
          refine (h2 _).mono ?_
          rintro e w1 ⟨rfl, hA1⟩
          have hB1 := hB0.trans (hA1.mono hB0.size)
          go_wp2_with fail
          refine (h4 _).mono ?_
          rintro e w2 ⟨rfl, hA2⟩
          have hB2 := hB1.trans (hA2.mono hB1.size)
          go_wp2_with fail
          refine (h5 _).mono ?_
          rintro e w3 ⟨rfl, hA3⟩
          have hB3 := hB2.trans (hA3.mono hB2.size)
          go_wp2_with fail
          refine (h6 _).mono ?_
          rintro e w4 ⟨rfl, hA4⟩
          have hB4 := hB3.trans (hA4.mono hB3.size)
          go_wp2_with fail
          go_ret
          refine ⟨?_, hB4⟩
          first | rfl | (show Ending.returned (.bool (decide (a6 = ByteArray.empty))) = _; rw [empty_dec]; rfl) | (show Ending.returned (.bool a6.toList.isEmpty) = _; rw [empty_isE]; rfl)
    · have eq : q = (a3, b3) := e2
      subst eq
      clear e2
      dsimp only at h4 ⊢
      cases b3
      · rw [if_neg (by show ¬ (false && b4) = true; rw [Bool.false_and]; decide)]
        go_enter Tryz.func140, Tryz.ntmps140
        go_wp2_with fail
        refine (h1 _).mono ?_
        rintro e w0 ⟨rfl, hA0⟩
        have hB0 := hA0
        go_wp2_with fail
        refine (h2 _).mono ?_
        rintro e w1 ⟨rfl, hA1⟩
        have hB1 := hB0.trans (hA1.mono hB0.size)
        go_wp2_with fail
        refine (h3 _).mono ?_
        rintro e w2 ⟨rfl, hA2⟩
        have hB2 := hB1.trans (hA2.mono hB1.size)
        go_wp2_with fail
        refine (h4 _).mono ?_
        rintro e w3 ⟨rfl, hA3⟩
        have hB3 := hB2.trans (hA3.mono hB2.size)
        go_wp2_with fail
        go_ret
        refine ⟨?_, hB3⟩
        first | rfl | (show Ending.returned (.bool (decide (a3 = ByteArray.empty))) = _; rw [empty_dec]; rfl) | (show Ending.returned (.bool a3.toList.isEmpty) = _; rw [empty_isE]; rfl)
      · cases b4
        · rw [if_neg (by show ¬ (true && false) = true; decide)]
          go_enter Tryz.func140, Tryz.ntmps140
          go_wp2_with fail
          refine (h1 _).mono ?_
          rintro e w0 ⟨rfl, hA0⟩
          have hB0 := hA0
          go_wp2_with fail
          refine (h2 _).mono ?_
          rintro e w1 ⟨rfl, hA1⟩
          have hB1 := hB0.trans (hA1.mono hB0.size)
          go_wp2_with fail
          refine (h3 _).mono ?_
          rintro e w2 ⟨rfl, hA2⟩
          have hB2 := hB1.trans (hA2.mono hB1.size)
          go_wp2_with fail
          refine (h4 _).mono ?_
          rintro e w3 ⟨rfl, hA3⟩
          have hB3 := hB2.trans (hA3.mono hB2.size)
          go_wp2_with fail
          go_ret
          refine ⟨?_, hB3⟩
          first | rfl | (show Ending.returned (.bool (decide (a3 = ByteArray.empty))) = _; rw [empty_dec]; rfl) | (show Ending.returned (.bool a3.toList.isEmpty) = _; rw [empty_isE]; rfl)
        · rw [if_pos (show (true && true) = true from rfl)]
          cases b6
          · go_enter Tryz.func140, Tryz.ntmps140
            go_wp2_with fail
            refine (h1 _).mono ?_
            rintro e w0 ⟨rfl, hA0⟩
            have hB0 := hA0
            go_wp2_with fail
            refine (h2 _).mono ?_
            rintro e w1 ⟨rfl, hA1⟩
            have hB1 := hB0.trans (hA1.mono hB0.size)
            go_wp2_with fail
            refine (h3 _).mono ?_
            rintro e w2 ⟨rfl, hA2⟩
            have hB2 := hB1.trans (hA2.mono hB1.size)
            go_wp2_with fail
            refine (h4 _).mono ?_
            rintro e w3 ⟨rfl, hA3⟩
            have hB3 := hB2.trans (hA3.mono hB2.size)
            go_wp2_with fail
            refine (h5 _).mono ?_
            rintro e w4 ⟨rfl, hA4⟩
            have hB4 := hB3.trans (hA4.mono hB3.size)
            go_wp2_with fail
            refine (h6 _).mono ?_
            rintro e w5 ⟨rfl, hA5⟩
            have hB5 := hB4.trans (hA5.mono hB4.size)
            go_wp2_with fail
            go_ret
            refine ⟨?_, hB5⟩
            first | rfl | (show Ending.returned (.bool (decide (a6 = ByteArray.empty))) = _; rw [empty_dec]; rfl) | (show Ending.returned (.bool a6.toList.isEmpty) = _; rw [empty_isE]; rfl)
          · go_enter Tryz.func140, Tryz.ntmps140
            go_wp2_with fail
            refine (h1 _).mono ?_
            rintro e w0 ⟨rfl, hA0⟩
            have hB0 := hA0
            go_wp2_with fail
            refine (h2 _).mono ?_
            rintro e w1 ⟨rfl, hA1⟩
            have hB1 := hB0.trans (hA1.mono hB0.size)
            go_wp2_with fail
            refine (h3 _).mono ?_
            rintro e w2 ⟨rfl, hA2⟩
            have hB2 := hB1.trans (hA2.mono hB1.size)
            go_wp2_with fail
            refine (h4 _).mono ?_
            rintro e w3 ⟨rfl, hA3⟩
            have hB3 := hB2.trans (hA3.mono hB2.size)
            go_wp2_with fail
            refine (h5 _).mono ?_
            rintro e w4 ⟨rfl, hA4⟩
            have hB4 := hB3.trans (hA4.mono hB3.size)
            go_wp2_with fail
            refine (h6 _).mono ?_
            rintro e w5 ⟨rfl, hA5⟩
            have hB5 := hB4.trans (hA5.mono hB4.size)
            go_wp2_with fail
            go_ret
            refine ⟨?_, hB5⟩
            first | rfl | (show Ending.returned (.bool (decide (a6 = ByteArray.empty))) = _; rw [empty_dec]; rfl) | (show Ending.returned (.bool a6.toList.isEmpty) = _; rw [empty_isE]; rfl)
end Go.Proofs.YtoolkaahjmnjeaaGreatDoor
