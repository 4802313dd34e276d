/- The program's cuts of numbers: a byte among some, digits, an integer. Conditions: a string of at most 10^12 bytes. -/
import Derived.Test.YtbkciiogkgndiaaGreatDoorMB14
import Derived.Test.YtbkciiogkgndiaaGreatDoorMB04
import Derived.Test.YtbkciiogkgndiaaGreatDoorProg
import Derived.WalkKit
import Derived.WalkSpells
import Derived.WalkLawsBesides
import Derived.WalkSmall
import Derived.ProofKit
import Derived.IntWalk
import Derived.Lib.Bytealg
import Derived.Shelf.Strings.SlTrimAscii
import Derived.Shelf.Lays
import Derived.Shelf.LaysM
import Derived.Shelf.LaysC
import Derived.KernelRfl
import Derived.Test.YtbkciiogkgndiaaGreatDoorMB03
import Derived.Shelf.Strconv.AtoiAll
import Derived.Lib.AtoiErrMem
namespace Go.Proofs.YtbkciiogkgndiaaGreatDoor
open Go Go.RowKit Go.Shelf Go.Lib

theorem U_get {s : ByteArray} {i : Nat} (h : i < s.size) : s.get! i = s.data.toList[i]'(by rw [← Lib.size_eq]; exact h) := by
  rw [J.at_get h]
  rfl
/-- the first byte is cut off if it is among some -/
def caS (s x : ByteArray) : ByteArray × Bool := if J.sk s x 0 = true then (s.extract 1 s.size, true) else (s, false)
def CutIs (r : ByteArray × Bool) (w : World) (e : Ending) (w' : World) : Prop := e = .returned (.tuple #[.string r.1, .bool r.2]) ∧ Below w.heap.size w w'

set_option maxHeartbeats 1000000 in
set_option maxRecDepth 100000 in
theorem cutAny_any (s x : ByteArray) (w : World) (hs : s.size ≤ 140737488355328) (h0 : J.am x 0 = false) :
    Calls Tryz.prog 175 #[.string s, .string x] w (CutIs (caS s x) w) := by
  by_cases hz : 0 < s.size
  · have hi := fun W => Any.strings_IndexByte Tryz.laysIndexByte x ((s.get! 0).toNat : Nat) W
    have hx := J.at_byte hz
    have hne : (s.toList == []) = false := by
      rw [Lib.toList_data]
      cases h : s.data.toList with
      | nil => have := Lib.size_eq s; rw [h, List.length_nil] at this; omega
      | cons a l => rfl
    go_enter Tryz.func175, Tryz.ntmps175
    go_wp2_with fail
    refine (hi _).mono ?_
    rintro e w1 ⟨rfl, rfl⟩
    have he := J.am_index x (s.get! 0).toNat (s.get! 0).toNat_lt
    have hk : J.sk s x 0 = J.am x (s.get! 0).toNat := by unfold J.sk J.pk; rw [if_pos hz]
    generalize Lib.indexByte x.data.toList ((((s.get! 0).toNat : Nat) : Int).toNat.toUInt8) = z at *
    generalize (s.get! 0).toNat = c at *
    have hzz := J.indexByte_ge x.data.toList
    cases hm : J.am x c
    · rw [hm] at he hk
      have e1 : decide (z < 0) = true := he
      clear he hm
      go_wp2_with fail
      go_ret2
      unfold caS
      rw [hk]
      exact ⟨rfl, Below.refl _ _⟩
    · rw [hm] at he hk
      have e1 : decide (z < 0) = false := he
      clear he hm
      go_wp2_with fail
      go_ret2
      unfold caS
      rw [hk]
      exact ⟨rfl, Below.refl _ _⟩
  · have hz0 : s.size = 0 := by omega
    have hk : J.sk s x 0 = false := by unfold J.sk J.pk; rw [if_neg hz]; exact h0
    have hne : (s.toList == []) = true := by
      rw [Lib.toList_data]
      cases h : s.data.toList with
      | nil => rfl
      | cons a l => have := Lib.size_eq s; rw [h, List.length_cons] at this; omega
    go_enter Tryz.func175, Tryz.ntmps175
    go_wp2_with fail
    go_ret2
    unfold caS
    rw [hk]
    exact ⟨rfl, Below.refl _ _⟩
/-- digits are cut off -/
def cdS (s : ByteArray) : ByteArray × Bool := (s.extract (J.sa s J.dgs 0) s.size, decide (0 < J.sa s J.dgs 0))
theorem am_contains (x : ByteArray) (b : UInt8) : x.data.toList.contains b = J.am x b.toNat := by
  unfold J.am
  rw [List.contains_eq_any_beq]
  congr 1
  funext c
  by_cases h : b = c
  · subst h; simp
  · have : ¬ c.toNat = b.toNat := fun e => h (UInt8.toNat_inj.1 e.symm)
    simp [h, this]
theorem sa_drop (s x : ByteArray) (h0 : J.am x 0 = false) : ∀ f p, s.size ≤ p + f → (s.data.toList.drop p).dropWhile (x.data.toList.contains ·) = s.data.toList.drop (J.saF s x f p)
  | 0, p, h => by
    have e : s.data.toList.drop p = [] := List.drop_eq_nil_of_le (by rw [← Lib.size_eq]; omega)
    show _ = s.data.toList.drop p
    rw [e]; rfl
  | f + 1, p, h => by
    unfold J.saF
    by_cases hp : p < s.size
    · have hlt : p < s.data.toList.length := by rw [← Lib.size_eq]; exact hp
      have e1 : s.data.toList[p] = s.get! p := (U_get hp).symm
      have e2 : J.sk s x p = J.am x (s.get! p).toNat := by unfold J.sk J.pk; rw [if_pos hp]
      rw [List.drop_eq_getElem_cons hlt, e1, List.dropWhile_cons, am_contains, ← e2]
      cases hk : J.sk s x p
      · rw [if_neg (by decide), if_neg (by decide), List.drop_eq_getElem_cons hlt, e1]
      · rw [if_pos rfl, if_pos rfl]
        exact sa_drop s x h0 f (p + 1) (by omega)
    · have e : s.data.toList.drop p = [] := List.drop_eq_nil_of_le (by rw [← Lib.size_eq]; omega)
      rw [if_neg (by unfold J.sk J.pk; rw [if_neg hp, h0]; decide), e]; rfl
theorem drop_extract (s : ByteArray) (k : Nat) : (⟨(s.data.toList.drop k).toArray⟩ : ByteArray) = s.extract k s.size := by
  apply ByteArray.ext
  rw [ByteArray.data_extract]
  apply Array.ext'
  rw [Array.toList_extract, List.extract_eq_take_drop]
  show s.data.toList.drop k = _
  rw [List.take_of_length_le]
  rw [List.length_drop, ← Lib.size_eq]
  exact Nat.le_refl _
theorem trim_dgs (s : ByteArray) : (⟨(Lib.trimLeftS s.data.toList J.dgs.data.toList).toArray⟩ : ByteArray) = s.extract (J.sa s J.dgs 0) s.size := by
  rw [← drop_extract]
  have h := sa_drop s J.dgs (by decide) (s.size - 0) 0 (by omega)
  rw [List.drop_zero] at h
  unfold Lib.trimLeftS J.sa
  rw [h]
theorem infoSet : (Tryz.prog.info? (Tryz.laysTrimLeft_ren.t 116)).map (fun i => (i.zero, i.size)) = some (some (.agg (Array.replicate 256 (.bool false))), 256) := by kernel_rfl
set_option maxHeartbeats 1000000 in
set_option maxRecDepth 100000 in
theorem cutDigits_any (s : ByteArray) (w : World) (hs : s.size ≤ 140737488355328) :
    Calls Tryz.prog 176 #[.string s] w (CutIs (cdS s) w) := by
  have ht := fun W => Any.strings_TrimLeft_laid Tryz.laysTrimLeft infoSet s J.dgs W (by decide) (ascii_of_all (by decide))
  simp only [trim_dgs] at ht
  have hle := J.sa_le (s := s) (x := J.dgs) (p := 0) (by decide) (Nat.zero_le _)
  have hz : (s.extract (J.sa s J.dgs 0) s.size).size = s.size - J.sa s J.dgs 0 := by rw [ByteArray.size_extract]; omega
  have hc : cdS s = (s.extract (J.sa s J.dgs 0) s.size, decide (0 < J.sa s J.dgs 0)) := rfl
  rw [hc]
  clear hc
  generalize s.extract (J.sa s J.dgs 0) s.size = r at *
  generalize J.sa s J.dgs 0 = k at *
  go_enter Tryz.func176, Tryz.ntmps176
  go_wp2_with fail
  refine (ht _).mono ?_
  rintro e w1 ⟨rfl, hB⟩
  have hd : decide (s.size - k < s.size) = decide (0 < k) := decide_eq_decide.2 (by omega)
  go_wp2_with fail
  go_ret2
  exact ⟨rfl, hB⟩
theorem caS_le (s x : ByteArray) : (caS s x).1.size ≤ s.size := by
  unfold caS
  split
  · show (s.extract 1 s.size).size ≤ _; rw [ByteArray.size_extract]; omega
  · exact Nat.le_refl _
theorem cdS_le (s : ByteArray) : (cdS s).1.size ≤ s.size := by
  show (s.extract _ s.size).size ≤ _; rw [ByteArray.size_extract]; omega
def c45 : ByteArray := ⟨#[45]⟩
def c48 : ByteArray := ⟨#[48]⟩
def c46 : ByteArray := ⟨#[46]⟩
def cEe : ByteArray := ⟨#[101, 69]⟩
def cpm : ByteArray := ⟨#[43, 45]⟩
/-- an integer is cut off -/
def ciS (s : ByteArray) : ByteArray × Bool := if (caS (caS s c45).1 c48).2 = true then ((caS (caS s c45).1 c48).1, true) else cdS (caS s c45).1
theorem ciS_le (s : ByteArray) : (ciS s).1.size ≤ s.size := by
  have h1 := caS_le s c45
  have h2 := caS_le (caS s c45).1 c48
  have h3 := cdS_le (caS s c45).1
  unfold ciS
  split
  · show (caS (caS s c45).1 c48).1.size ≤ _; omega
  · omega
set_option maxHeartbeats 1000000 in
set_option maxRecDepth 100000 in
theorem cutInteger_any (s : ByteArray) (w : World) (hs : s.size ≤ 140737488355328) :
    Calls Tryz.prog 121 #[.string s] w (CutIs (ciS s) w) := by
  have h1 := fun W => cutAny_any s c45 W hs (by decide)
  have hle := caS_le s c45
  have h2 := fun W => cutAny_any (caS s c45).1 c48 W (by omega) (by decide)
  have h3 := fun W => cutDigits_any (caS s c45).1 W (by omega)
  unfold CutIs at *
  unfold ciS
  generalize hq : caS s c45 = q at *
  generalize hr : caS q.1 c48 = r at *
  generalize hd : cdS q.1 = d at *
  obtain ⟨r1, r2⟩ := r
  clear hq hr hd
  unfold c45 at h1
  unfold c48 at h2
  cases r2
  · rw [if_neg (by show ¬ false = true; decide)]
    go_enter Tryz.func121, Tryz.ntmps121
    go_wp2_with fail
    refine (h1 _).mono ?_
    rintro e w1 ⟨rfl, hB1⟩
    go_wp2_with fail
    refine (h2 _).mono ?_
    rintro e w2 ⟨rfl, hB2⟩
    have hB3 := hB1.trans (hB2.mono hB1.size)
    go_wp2_with fail
    refine (h3 _).mono ?_
    rintro e w3 ⟨rfl, hB4⟩
    have hB5 := hB3.trans (hB4.mono hB3.size)
    go_wp2_with fail
    go_ret2
    exact ⟨rfl, hB5⟩
  · rw [if_pos rfl]
    go_enter Tryz.func121, Tryz.ntmps121
    go_wp2_with fail
    refine (h1 _).mono ?_
    rintro e w1 ⟨rfl, hB1⟩
    go_wp2_with fail
    refine (h2 _).mono ?_
    rintro e w2 ⟨rfl, hB2⟩
    have hB3 := hB1.trans (hB2.mono hB1.size)
    go_wp2_with fail
    go_ret2
    exact ⟨rfl, hB3⟩
def bothS (r : ByteArray × Bool) : Bool := r.2 && decide (r.1.size = 0)
theorem empty_beq (s : ByteArray) : (s.toList == []) = decide (s.size = 0) := by
  rw [Lib.toList_data]
  cases h : s.data.toList with
  | nil => have := Lib.size_eq s; rw [h, List.length_nil] at this; simp [this]
  | cons a l => have := Lib.size_eq s; rw [h, List.length_cons] at this; simp [this]
theorem empty_isE (s : ByteArray) : s.toList.isEmpty = decide (s.size = 0) := by
  rw [Lib.toList_data]
  cases h : s.data.toList with
  | nil => have := Lib.size_eq s; rw [h, List.length_nil] at this; simp [this]
  | cons a l => have := Lib.size_eq s; rw [h, List.length_cons] at this; simp [this]
theorem empty_dec (s : ByteArray) : decide (s = ByteArray.empty) = decide (s.size = 0) := by
  refine decide_eq_decide.2 ⟨fun h => by rw [h]; rfl, fun h => ?_⟩
  apply ByteArray.ext
  have h2 : s.data.size = 0 := h
  exact Array.eq_empty_of_size_eq_zero h2
def BoolB (b : Bool) (w : World) (e : Ending) (w' : World) : Prop := e = .returned (.bool b) ∧ Below w.heap.size w w'
/-- a number -/
def n2S (r : ByteArray × Bool) : ByteArray × Bool := if (r.2 && (caS r.1 c46).2) = true then cdS (caS r.1 c46).1 else r
def n3S (r : ByteArray × Bool) : ByteArray × Bool := if (r.2 && (caS r.1 cEe).2) = true then cdS (caS (caS r.1 cEe).1 cpm).1 else r
def numS (s : ByteArray) : Bool := bothS (n3S (n2S (ciS s)))
theorem n2S_le (r : ByteArray × Bool) : (n2S r).1.size ≤ r.1.size := by
  have h1 := caS_le r.1 c46
  have h2 := cdS_le (caS r.1 c46).1
  unfold n2S
  split
  · omega
  · exact Nat.le_refl _
set_option maxHeartbeats 2000000 in
set_option maxRecDepth 100000 in
theorem isNumber_any (s : ByteArray) (w : World) (hs : s.size ≤ 140737488355328) :
    Calls Tryz.prog 167 #[.string s] w (BoolB (numS s) w) := by
  have l1 := ciS_le s
  have l2 := n2S_le (ciS s)
  have l3 := caS_le (ciS s).1 c46
  have l4 := caS_le (n2S (ciS s)).1 cEe
  have l5 := caS_le (caS (n2S (ciS s)).1 cEe).1 cpm
  have h1 := fun W => cutInteger_any s W hs
  have h2 := fun W => cutAny_any (ciS s).1 c46 W (by omega) (by decide)
  have h3 := fun W => cutDigits_any (caS (ciS s).1 c46).1 W (by omega)
  have h4 := fun W => cutAny_any (n2S (ciS s)).1 cEe W (by omega) (by decide)
  have h5 := fun W => cutAny_any (caS (n2S (ciS s)).1 cEe).1 cpm W (by omega) (by decide)
  have h6 := fun W => cutDigits_any (caS (caS (n2S (ciS s)).1 cEe).1 cpm).1 W (by omega)
  have e2 : n2S (ciS s) = if ((ciS s).2 && (caS (ciS s).1 c46).2) = true then cdS (caS (ciS s).1 c46).1 else ciS s := rfl
  have e3 : numS s = bothS (if ((n2S (ciS s)).2 && (caS (n2S (ciS s)).1 cEe).2) = true then cdS (caS (caS (n2S (ciS s)).1 cEe).1 cpm).1 else n2S (ciS s)) := rfl
  rw [e3]
  clear e3 l1 l2 l3 l4 l5
  unfold CutIs at *
  generalize cdS (caS (caS (n2S (ciS s)).1 cEe).1 cpm).1 = r6 at *
  generalize caS (caS (n2S (ciS s)).1 cEe).1 cpm = r5 at *
  generalize caS (n2S (ciS s)).1 cEe = r4 at *
  generalize n2S (ciS s) = q at *
  generalize cdS (caS (ciS s).1 c46).1 = r3 at *
  generalize caS (ciS s).1 c46 = r2 at *
  generalize ciS s = r1 at *
  obtain ⟨a1, b1⟩ := r1
  obtain ⟨a2, b2⟩ := r2
  obtain ⟨a3, b3⟩ := r3
  obtain ⟨a4, b4⟩ := r4
  obtain ⟨a5, b5⟩ := r5
  obtain ⟨a6, b6⟩ := r6
  unfold c46 at h2
  unfold cEe at h4
  unfold cpm at h5
  dsimp only at h1 h2 h3 h4 h5 h6 e2
  unfold bothS
  cases b1
  · have eq : q = (a1, false) := e2
    subst eq
    clear e2
    dsimp only at h4 ⊢
    rw [if_neg (by show ¬ (false && b4) = true; rw [Bool.false_and]; decide)]
    go_enter Tryz.func167, Tryz.ntmps167
    go_wp2_with fail
    refine (h1 _).mono ?_
    rintro e w0 ⟨rfl, hA0⟩
    have hB0 := hA0
    go_wp2_with fail
    refine (h2 _).mono ?_
    rintro e w1 ⟨rfl, hA1⟩
    have hB1 := hB0.trans (hA1.mono hB0.size)
    go_wp2_with fail
    refine (h4 _).mono ?_
    rintro e w2 ⟨rfl, hA2⟩
    have hB2 := hB1.trans (hA2.mono hB1.size)
    go_wp2_with fail
    go_ret
    refine ⟨?_, hB2⟩
    first | rfl | (show Ending.returned (.bool (decide (a1 = ByteArray.empty))) = _; rw [empty_dec]; rfl) | (show Ending.returned (.bool a1.toList.isEmpty) = _; rw [empty_isE]; rfl)
  · cases b2
    · have eq : q = (a1, true) := e2
      subst eq
      clear e2
      dsimp only at h4 ⊢
      cases b4
      · rw [if_neg (by show ¬ (true && false) = true; decide)]
        go_enter Tryz.func167, Tryz.ntmps167
        go_wp2_with fail
        refine (h1 _).mono ?_
        rintro e w0 ⟨rfl, hA0⟩
        have hB0 := hA0
        go_wp2_with fail
        refine (h2 _).mono ?_
        rintro e w1 ⟨rfl, hA1⟩
        have hB1 := hB0.trans (hA1.mono hB0.size)
        go_wp2_with fail
        refine (h4 _).mono ?_
        rintro e w2 ⟨rfl, hA2⟩
        have hB2 := hB1.trans (hA2.mono hB1.size)
        go_wp2_with fail
        go_ret
        refine ⟨?_, hB2⟩
        first | rfl | (show Ending.returned (.bool (decide (a1 = ByteArray.empty))) = _; rw [empty_dec]; rfl) | (show Ending.returned (.bool a1.toList.isEmpty) = _; rw [empty_isE]; rfl)
      · rw [if_pos (show (true && true) = true from rfl)]
        cases b6
        · go_enter Tryz.func167, Tryz.ntmps167
          go_wp2_with fail
          refine (h1 _).mono ?_
          rintro e w0 ⟨rfl, hA0⟩
          have hB0 := hA0
          go_wp2_with fail
          refine (h2 _).mono ?_
          rintro e w1 ⟨rfl, hA1⟩
          have hB1 := hB0.trans (hA1.mono hB0.size)
          go_wp2_with fail
          refine (h4 _).mono ?_
          rintro e w2 ⟨rfl, hA2⟩
          have hB2 := hB1.trans (hA2.mono hB1.size)
          go_wp2_with fail
          refine (h5 _).mono ?_
          rintro e w3 ⟨rfl, hA3⟩
          have hB3 := hB2.trans (hA3.mono hB2.size)
          go_wp2_with fail
          refine (h6 _).mono ?_
          rintro e w4 ⟨rfl, hA4⟩
          have hB4 := hB3.trans (hA4.mono hB3.size)
          go_wp2_with fail
          go_ret
          refine ⟨?_, hB4⟩
          first | rfl | (show Ending.returned (.bool (decide (a6 = ByteArray.empty))) = _; rw [empty_dec]; rfl) | (show Ending.returned (.bool a6.toList.isEmpty) = _; rw [empty_isE]; rfl)
        · go_enter Tryz.func167, Tryz.ntmps167
          go_wp2_with fail
          refine (h1 _).mono ?_
          rintro e w0 ⟨rfl, hA0⟩
          have hB0 := hA0
          go_wp2_with fail
          refine (h2 _).mono ?_
          rintro e w1 ⟨rfl, hA1⟩
          have hB1 := hB0.trans (hA1.mono hB0.size)
          go_wp2_with fail
          refine (h4 _).mono ?_
          rintro e w2 ⟨rfl, hA2⟩
          have hB2 := hB1.trans (hA2.mono hB1.size)
          go_wp2_with fail
          refine (h5 _).mono ?_
          rintro e w3 ⟨rfl, hA3⟩
          have hB3 := hB2.trans (hA3.mono hB2.size)
          go_wp2_with fail
          refine (h6 _).mono ?_
          rintro e w4 ⟨rfl, hA4⟩
          have hB4 := hB3.trans (hA4.mono hB3.size)
          go_wp2_with fail
          go_ret
          refine ⟨?_, hB4⟩
          first | rfl | (show Ending.returned (.bool (decide (a6 = ByteArray.empty))) = _; rw [empty_dec]; rfl) | (show Ending.returned (.bool a6.toList.isEmpty) = _; rw [empty_isE]; rfl)
    · have eq : q = (a3, b3) := e2
      subst eq
      clear e2
      dsimp only at h4 ⊢
      cases b3
      · rw [if_neg (by show ¬ (false && b4) = true; rw [Bool.false_and]; decide)]
        go_enter Tryz.func167, Tryz.ntmps167
        go_wp2_with fail
        refine (h1 _).mono ?_
        rintro e w0 ⟨rfl, hA0⟩
        have hB0 := hA0
        go_wp2_with fail
        refine (h2 _).mono ?_
        rintro e w1 ⟨rfl, hA1⟩
        have hB1 := hB0.trans (hA1.mono hB0.size)
        go_wp2_with fail
        refine (h3 _).mono ?_
        rintro e w2 ⟨rfl, hA2⟩
        have hB2 := hB1.trans (hA2.mono hB1.size)
        go_wp2_with fail
        refine (h4 _).mono ?_
        rintro e w3 ⟨rfl, hA3⟩
        have hB3 := hB2.trans (hA3.mono hB2.size)
        go_wp2_with fail
        go_ret
        refine ⟨?_, hB3⟩
        first | rfl | (show Ending.returned (.bool (decide (a3 = ByteArray.empty))) = _; rw [empty_dec]; rfl) | (show Ending.returned (.bool a3.toList.isEmpty) = _; rw [empty_isE]; rfl)
      · cases b4
        · rw [if_neg (by show ¬ (true && false) = true; decide)]
          go_enter Tryz.func167, Tryz.ntmps167
          go_wp2_with fail
          refine (h1 _).mono ?_
          rintro e w0 ⟨rfl, hA0⟩
          have hB0 := hA0
          go_wp2_with fail
          refine (h2 _).mono ?_
          rintro e w1 ⟨rfl, hA1⟩
          have hB1 := hB0.trans (hA1.mono hB0.size)
          go_wp2_with fail
          refine (h3 _).mono ?_
          rintro e w2 ⟨rfl, hA2⟩
          have hB2 := hB1.trans (hA2.mono hB1.size)
          go_wp2_with fail
          refine (h4 _).mono ?_
          rintro e w3 ⟨rfl, hA3⟩
          have hB3 := hB2.trans (hA3.mono hB2.size)
          go_wp2_with fail
          go_ret
          refine ⟨?_, hB3⟩
          first | rfl | (show Ending.returned (.bool (decide (a3 = ByteArray.empty))) = _; rw [empty_dec]; rfl) | (show Ending.returned (.bool a3.toList.isEmpty) = _; rw [empty_isE]; rfl)
        · rw [if_pos (show (true && true) = true from rfl)]
          cases b6
          · go_enter Tryz.func167, Tryz.ntmps167
            go_wp2_with fail
            refine (h1 _).mono ?_
            rintro e w0 ⟨rfl, hA0⟩
            have hB0 := hA0
            go_wp2_with fail
            refine (h2 _).mono ?_
            rintro e w1 ⟨rfl, hA1⟩
            have hB1 := hB0.trans (hA1.mono hB0.size)
            go_wp2_with fail
            refine (h3 _).mono ?_
            rintro e w2 ⟨rfl, hA2⟩
            have hB2 := hB1.trans (hA2.mono hB1.size)
            go_wp2_with fail
            refine (h4 _).mono ?_
            rintro e w3 ⟨rfl, hA3⟩
            have hB3 := hB2.trans (hA3.mono hB2.size)
            go_wp2_with fail
            refine (h5 _).mono ?_
            rintro e w4 ⟨rfl, hA4⟩
            have hB4 := hB3.trans (hA4.mono hB3.size)
            go_wp2_with fail
            refine (h6 _).mono ?_
            rintro e w5 ⟨rfl, hA5⟩
            have hB5 := hB4.trans (hA5.mono hB4.size)
            go_wp2_with fail
            go_ret
            refine ⟨?_, hB5⟩
            first | rfl | (show Ending.returned (.bool (decide (a6 = ByteArray.empty))) = _; rw [empty_dec]; rfl) | (show Ending.returned (.bool a6.toList.isEmpty) = _; rw [empty_isE]; rfl)
          · go_enter Tryz.func167, Tryz.ntmps167
            go_wp2_with fail
            refine (h1 _).mono ?_
            rintro e w0 ⟨rfl, hA0⟩
            have hB0 := hA0
            go_wp2_with fail
            refine (h2 _).mono ?_
            rintro e w1 ⟨rfl, hA1⟩
            have hB1 := hB0.trans (hA1.mono hB0.size)
            go_wp2_with fail
            refine (h3 _).mono ?_
            rintro e w2 ⟨rfl, hA2⟩
            have hB2 := hB1.trans (hA2.mono hB1.size)
            go_wp2_with fail
            refine (h4 _).mono ?_
            rintro e w3 ⟨rfl, hA3⟩
            have hB3 := hB2.trans (hA3.mono hB2.size)
            go_wp2_with fail
            refine (h5 _).mono ?_
            rintro e w4 ⟨rfl, hA4⟩
            have hB4 := hB3.trans (hA4.mono hB3.size)
            go_wp2_with fail
            refine (h6 _).mono ?_
            rintro e w5 ⟨rfl, hA5⟩
            have hB5 := hB4.trans (hA5.mono hB4.size)
            go_wp2_with fail
            go_ret
            refine ⟨?_, hB5⟩
            first | rfl | (show Ending.returned (.bool (decide (a6 = ByteArray.empty))) = _; rw [empty_dec]; rfl) | (show Ending.returned (.bool a6.toList.isEmpty) = _; rw [empty_isE]; rfl)
end Go.Proofs.YtbkciiogkgndiaaGreatDoor

namespace Go.Proofs.YtbkciiogkgndiaaGreatDoor
open Go Go.RowKit Go.Lib

set_option maxHeartbeats 1000000 in
set_option maxRecDepth 100000 in
theorem isInteger_any (s : ByteArray) (w : World) (hs : s.size ≤ 140737488355328) :
    Calls Tryz.prog 60 #[.string s] w (BoolB (bothS (ciS s)) w) := by
  have h1 := fun W => cutInteger_any s W hs
  unfold CutIs at *
  generalize ciS s = r at *
  obtain ⟨r1, r2⟩ := r
  have he := empty_beq r1
  unfold bothS
  cases r2
  · go_enter Tryz.func60, Tryz.ntmps60
    go_wp2_with fail
    refine (h1 _).mono ?_
    rintro e w1 ⟨rfl, hB1⟩
    go_wp2_with fail
    go_ret
    exact ⟨rfl, hB1⟩
  · go_enter Tryz.func60, Tryz.ntmps60
    go_wp2_with fail
    refine (h1 _).mono ?_
    rintro e w1 ⟨rfl, hB1⟩
    go_wp2_with fail
    go_ret
    refine ⟨?_, hB1⟩
    show Ending.returned (.bool (decide (r1 = ByteArray.empty))) = _
    rw [empty_dec]
    rfl
end Go.Proofs.YtbkciiogkgndiaaGreatDoor

namespace Go.Proofs
open Go.Shelf

def Tryz.laysAtoi_ren : Go.Shelf.Ren := ⟨fun | 129 => 244 | 171 => 152 | 172 => 61 | 205 => 206 | 243 => 196 | 244 => 122 | 245 => 123 | 246 => 211 | 247 => 177 | 279 => 178 | 280 => 179 | 281 => 180 | 282 => 181 | 283 => 227 | 284 => 228 | 285 => 229 | 286 => 230 | 287 => 205 | 316 => 195 | 317 => 243 | 318 => 245 | 319 => 246 | 320 => 247 | 321 => 218 | 322 => 219 | 337 => 253 | 338 => 254 | n => n, fun | 37 => 101 | 46 => 237 | 51 => 203 | 53 => 248 | 75 => 105 | 76 => 106 | 80 => 272 | 85 => 218 | 127 => 257 | 143 => 267 | 145 => 269 | 167 => 217 | 168 => 220 | 171 => 275 | 173 => 278 | 175 => 249 | 210 => 252 | 212 => 291 | 213 => 292 | 232 => 300 | 233 => 301 | n => n, fun | 15 => 2 | 16 => 3 | 17 => 4 | 18 => 6 | 19 => 7 | n => n⟩
theorem Tryz.laysAtoi : LaysC.n172 Tryz.prog Tryz.laysAtoi_ren := {
  mixed := by kernel_rfl,
  f129 := Tryz.func244.trans (congrArg some (by kernel_rfl)),
  f171 := Tryz.func152.trans (congrArg some (by kernel_rfl)),
  f172 := Tryz.func61.trans (congrArg some (by kernel_rfl)),
  f205 := Tryz.func206.trans (congrArg some (by kernel_rfl)),
  f243 := Tryz.func196.trans (congrArg some (by kernel_rfl)),
  f244 := Tryz.func122.trans (congrArg some (by kernel_rfl)),
  f245 := Tryz.func123.trans (congrArg some (by kernel_rfl)),
  f246 := Tryz.func211.trans (congrArg some (by kernel_rfl)),
  f247 := Tryz.func177.trans (congrArg some (by kernel_rfl)),
  f279 := Tryz.func178.trans (congrArg some (by kernel_rfl)),
  f280 := Tryz.func179.trans (congrArg some (by kernel_rfl)),
  f281 := Tryz.func180.trans (congrArg some (by kernel_rfl)),
  f282 := Tryz.func181.trans (congrArg some (by kernel_rfl)),
  f283 := Tryz.func227.trans (congrArg some (by kernel_rfl)),
  f284 := Tryz.func228.trans (congrArg some (by kernel_rfl)),
  f285 := Tryz.func229.trans (congrArg some (by kernel_rfl)),
  f286 := Tryz.func230.trans (congrArg some (by kernel_rfl)),
  f287 := Tryz.func205.trans (congrArg some (by kernel_rfl)),
  f316 := Tryz.func195.trans (congrArg some (by kernel_rfl)),
  f317 := Tryz.func243.trans (congrArg some (by kernel_rfl)),
  f318 := Tryz.func245.trans (congrArg some (by kernel_rfl)),
  f319 := Tryz.func246.trans (congrArg some (by kernel_rfl)),
  f320 := Tryz.func247.trans (congrArg some (by kernel_rfl)),
  f321 := Tryz.func218.trans (congrArg some (by kernel_rfl)),
  f322 := Tryz.func219.trans (congrArg some (by kernel_rfl)),
  f337 := Tryz.func253.trans (congrArg some (by kernel_rfl)),
  f338 := Tryz.func254.trans (congrArg some (by kernel_rfl)),
  t0 := Tryz.underlying0,
  a0 := Tryz.isAgg0,
  z0 := Tryz.sizeOf0,
  v0 := Tryz.zeroValue0,
  t2 := Tryz.underlying2,
  a2 := Tryz.isAgg2,
  z2 := Tryz.sizeOf2,
  v2 := Tryz.zeroValue2,
  t3 := Tryz.underlying3,
  a3 := Tryz.isAgg3,
  z3 := Tryz.sizeOf3,
  v3 := Tryz.zeroValue3,
  t4 := Tryz.underlying4,
  a4 := Tryz.isAgg4,
  z4 := Tryz.sizeOf4,
  v4 := Tryz.zeroValue4,
  t5 := Tryz.underlying5,
  a5 := Tryz.isAgg5,
  z5 := Tryz.sizeOf5,
  v5 := Tryz.zeroValue5,
  t9 := Tryz.underlying9,
  a9 := Tryz.isAgg9,
  z9 := Tryz.sizeOf9,
  v9 := Tryz.zeroValue9,
  t20 := Tryz.underlying20,
  a20 := Tryz.isAgg20,
  z20 := Tryz.sizeOf20,
  v20 := Tryz.zeroValue20,
  t21 := Tryz.underlying21,
  a21 := Tryz.isAgg21,
  z21 := Tryz.sizeOf21,
  v21 := Tryz.zeroValue21,
  t37 := Tryz.underlying101,
  a37 := Tryz.isAgg101,
  z37 := Tryz.sizeOf101,
  v37 := Tryz.zeroValue101,
  t46 := Tryz.underlying237,
  a46 := Tryz.isAgg237,
  z46 := Tryz.sizeOf237,
  v46 := Tryz.zeroValue237,
  t51 := Tryz.underlying203,
  a51 := Tryz.isAgg203,
  z51 := Tryz.sizeOf203,
  v51 := Tryz.zeroValue203,
  t53 := Tryz.underlying248,
  a53 := Tryz.isAgg248,
  z53 := Tryz.sizeOf248,
  v53 := Tryz.zeroValue248,
  t75 := Tryz.underlying105,
  a75 := Tryz.isAgg105,
  z75 := Tryz.sizeOf105,
  v75 := Tryz.zeroValue105,
  t76 := Tryz.underlying106,
  a76 := Tryz.isAgg106,
  z76 := Tryz.sizeOf106,
  v76 := Tryz.zeroValue106,
  t85 := Tryz.underlying218,
  a85 := Tryz.isAgg218,
  z85 := Tryz.sizeOf218,
  v85 := Tryz.zeroValue218,
  t127 := Tryz.underlying257,
  a127 := Tryz.isAgg257,
  z127 := Tryz.sizeOf257,
  v127 := Tryz.zeroValue257,
  t143 := Tryz.underlying267,
  a143 := Tryz.isAgg267,
  z143 := Tryz.sizeOf267,
  v143 := Tryz.zeroValue267,
  t145 := Tryz.underlying269,
  a145 := Tryz.isAgg269,
  z145 := Tryz.sizeOf269,
  v145 := Tryz.zeroValue269,
  t167 := Tryz.underlying217,
  a167 := Tryz.isAgg217,
  z167 := Tryz.sizeOf217,
  v167 := Tryz.zeroValue217,
  t168 := Tryz.underlying220,
  a168 := Tryz.isAgg220,
  z168 := Tryz.sizeOf220,
  v168 := Tryz.zeroValue220,
  t171 := Tryz.underlying275,
  a171 := Tryz.isAgg275,
  z171 := Tryz.sizeOf275,
  v171 := Tryz.zeroValue275,
  t173 := Tryz.underlying278,
  a173 := Tryz.isAgg278,
  z173 := Tryz.sizeOf278,
  v173 := Tryz.zeroValue278,
  t175 := Tryz.underlying249,
  a175 := Tryz.isAgg249,
  z175 := Tryz.sizeOf249,
  v175 := Tryz.zeroValue249,
  t210 := Tryz.underlying252,
  a210 := Tryz.isAgg252,
  z210 := Tryz.sizeOf252,
  v210 := Tryz.zeroValue252,
  t212 := Tryz.underlying291,
  a212 := Tryz.isAgg291,
  z212 := Tryz.sizeOf291,
  v212 := Tryz.zeroValue291,
  t213 := Tryz.underlying292,
  a213 := Tryz.isAgg292,
  z213 := Tryz.sizeOf292,
  t232 := Tryz.underlying300,
  a232 := Tryz.isAgg300,
  z232 := Tryz.sizeOf300,
  v232 := Tryz.zeroValue300,
  t233 := Tryz.underlying301,
  a233 := Tryz.isAgg301,
  z233 := Tryz.sizeOf301,
  v233 := Tryz.zeroValue301,
  g15 := by kernel_rfl,
  g16 := by kernel_rfl,
  g17 := by kernel_rfl,
  g18 := by kernel_rfl,
  g19 := by kernel_rfl,
  t80 := Tryz.underlying272,
  a80 := Tryz.isAgg272,
  z80 := Tryz.sizeOf272,
  v80 := Tryz.zeroValue272,
  i0 := by kernel_rfl,
  i2 := by kernel_rfl,
  i3 := by kernel_rfl,
  i4 := by kernel_rfl,
  i5 := by kernel_rfl,
  i9 := by kernel_rfl,
  i20 := by kernel_rfl,
  i21 := by kernel_rfl,
  i37 := by kernel_rfl,
  i46 := by kernel_rfl,
  i51 := by kernel_rfl,
  i53 := by kernel_rfl,
  i75 := by kernel_rfl,
  i76 := by kernel_rfl,
  i80 := by kernel_rfl,
  i85 := by kernel_rfl,
  i127 := by kernel_rfl,
  i143 := by kernel_rfl,
  i145 := by kernel_rfl,
  i167 := by kernel_rfl,
  i168 := by kernel_rfl,
  i171 := by kernel_rfl,
  i173 := by kernel_rfl,
  i175 := by kernel_rfl,
  i210 := by kernel_rfl,
  i212 := by kernel_rfl,
  i232 := by kernel_rfl,
  i233 := by kernel_rfl,
  m15 := by kernel_rfl,
  m16 := by kernel_rfl,
  m17 := by kernel_rfl,
  m18 := by kernel_rfl,
  m19 := by kernel_rfl,
  c0 := by kernel_rfl,
  c2 := by kernel_rfl,
  c3 := by kernel_rfl,
  c4 := by kernel_rfl,
  c5 := by kernel_rfl,
  c9 := by kernel_rfl,
  c20 := by kernel_rfl,
  c21 := by kernel_rfl,
  c37 := by kernel_rfl,
  c46 := by kernel_rfl,
  c51 := by kernel_rfl,
  c53 := by kernel_rfl,
  c75 := by kernel_rfl,
  c76 := by kernel_rfl,
  c80 := by kernel_rfl,
  c85 := by kernel_rfl,
  c127 := by kernel_rfl,
  c143 := by kernel_rfl,
  c145 := by kernel_rfl,
  c167 := by kernel_rfl,
  c168 := by kernel_rfl,
  c171 := by kernel_rfl,
  c173 := by kernel_rfl,
  c175 := by kernel_rfl,
  c210 := by kernel_rfl,
  c212 := by kernel_rfl,
  c213 := by kernel_rfl,
  c232 := by kernel_rfl,
  c233 := by kernel_rfl }
end Go.Proofs

namespace Go.Proofs
open Go Go.RowKit Go.Shelf Go.Lib

namespace YtbkciiogkgndiaaGreatDoor
def IntR (r : Int × Bool) (w : World) (e : Ending) (w' : World) : Prop := e = .returned (.tuple #[.int .i64 r.1, .bool r.2]) ∧ Below w.heap.size w w'
set_option maxHeartbeats 1000000 in
set_option maxRecDepth 100000 in
theorem int_kind (k : Nat) (x : ByteArray) (va ua : Value) (w : World) (hk : ¬ k = 3) : Calls Tryz.prog 13 #[.agg #[.int .u8 k, .string x, va, ua]] w (IntR (0, false) w) := by
  have t1 : ((k : Int) != 3) = true := by simp; omega
  have hB := (Below.refl w.heap.size w).alloc (Nat.le_refl _) (.cells #[.int .u8 k, .string x, va, ua] 25)
  clear hk
  go_enter Tryz.func13, Tryz.ntmps13
  go_wp2_with fail
  go_ret2
  exact ⟨rfl, hB⟩
set_option maxHeartbeats 1000000 in
set_option maxRecDepth 100000 in
theorem int_text (x : ByteArray) (va ua : Value) (w : World) (hx : x.size ≤ 140737488355328) (h : bothS (ciS x) = false) : Calls Tryz.prog 13 #[.agg #[.int .u8 3, .string x, va, ua]] w (IntR (0, false) w) := by
  have hB := Lib.hid ((Below.refl w.heap.size w).alloc (Nat.le_refl _) (.cells #[.int .u8 3, .string x, va, ua] 25))
  have hI := fun W => isInteger_any x W hx
  rw [h] at hI
  unfold BoolB at hI
  clear h
  go_enter Tryz.func13, Tryz.ntmps13
  go_wp2_with fail
  refine (hI _).mono ?_
  rintro e w1 ⟨rfl, hB1⟩
  have H1 := Lib.hid (hB.out.trans (hB1.mono hB.out.size))
  clear hB1 hI
  go_wp2_with fail
  go_ret2
  exact ⟨rfl, H1.out⟩
set_option maxHeartbeats 1000000 in
set_option maxRecDepth 100000 in
theorem int_some (x : ByteArray) (va ua : Value) (v : Int) (w : World) (hx : x.size ≤ 140737488355328) (h : bothS (ciS x) = true) (hv : Lib.atoiAll x.data.toList = .ok v) : Calls Tryz.prog 13 #[.agg #[.int .u8 3, .string x, va, ua]] w (IntR (v, true) w) := by
  have hB := Lib.hid ((Below.refl w.heap.size w).alloc (Nat.le_refl _) (.cells #[.int .u8 3, .string x, va, ua] 25))
  have hbk : Blk4 (w.alloc (.cells #[.int .u8 3, .string x, va, ua] 25)) w.heap.size 25 (.int .u8 3) (.string x) va ua := heap_alloc_new _ _
  have HBK := Lib.hid hbk
  have hI := fun W => isInteger_any x W hx
  rw [h] at hI
  unfold BoolB at hI
  have hA := fun W => Any.strconv_Atoi_ok Tryz.laysAtoi x (by omega) v hv W
  have HA := Lib.hid hA
  clear h hv hbk hA
  go_enter Tryz.func13, Tryz.ntmps13
  go_wp2_with fail
  refine (hI _).mono ?_
  rintro e w1 ⟨rfl, hB1⟩
  have H1 := Lib.hid (hB.out.trans (hB1.mono hB.out.size))
  have b1 := HBK.out.same (hB1.block _ HBK.out.lt)
  obtain ⟨d0, d1, d2, d3⟩ := b1.box
  clear hB1 hI b1
  go_wp2_with fail
  refine (HA.out _).mono ?_
  rintro e w2 ⟨rfl, hw2⟩
  have hB2 : Below w1.heap.size w1 w2 := by
    rcases hw2 with rfl | ⟨t, rfl⟩
    · exact Below.refl _ _
    · exact Lib.bytesWorld_below _ _ _
  have H2 := Lib.hid (H1.out.trans (hB2.mono H1.out.size))
  clear hB2 hw2 d0 d1 d2 d3
  go_wp2_with fail
  go_ret2
  exact ⟨rfl, H2.out⟩
end YtbkciiogkgndiaaGreatDoor
end Go.Proofs
