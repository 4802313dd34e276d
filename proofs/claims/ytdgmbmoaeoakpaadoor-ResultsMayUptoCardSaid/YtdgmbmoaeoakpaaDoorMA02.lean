/- The program's cuts of numbers: a byte among some, digits, an integer. Conditions: a string of at most 10^12 bytes. -/
import Derived.Test.YtdgmbmoaeoakpaaDoorMA01
import Derived.Test.YtdgmbmoaeoakpaaDoorProg
import Derived.WalkKit
import Derived.WalkSpells
import Derived.WalkLawsBesides
import Derived.WalkSmall
import Derived.ProofKit
import Derived.IntWalk
import Derived.Lib.Bytealg
import Derived.Shelf.Strings.SlTrimAscii
import Derived.Shelf.Small.Strs
import Derived.Lib.Hide
import Derived.Deep.QuietTactic
import Derived.BigQuiet
import Derived.Laws.AppendOwn
import Derived.Outline
import Derived.Lib.ConvBytes
import Derived.Laws.Strings3
import Derived.BigCall
import Derived.BigGuard
namespace Go.Proofs.YtdgmbmoaeoakpaaDoor
open Go Go.RowKit Go.Shelf Go.Lib

theorem U_get {s : ByteArray} {i : Nat} (h : i < s.size) : s.get! i = s.data.toList[i]'(by rw [← Lib.size_eq]; exact h) := by
  rw [J.at_get h]
  rfl
/-- the first byte is cut off if it is among some -/
def caS (s x : ByteArray) : ByteArray × Bool := if J.sk s x 0 = true then (s.extract 1 s.size, true) else (s, false)
def CutIs (r : ByteArray × Bool) (w : World) (e : Ending) (w' : World) : Prop := e = .returned (.tuple #[.string r.1, .bool r.2]) ∧ Below w.heap.size w w'

set_option maxHeartbeats 1000000 in
set_option maxRecDepth 100000 in
theorem cutAny_any (s x : ByteArray) (w : World) (hs : s.size ≤ 140737488355328) (h0 : J.am x 0 = false) :
    Calls Tryd.prog 132 #[.string s, .string x] w (CutIs (caS s x) w) := by
  by_cases hz : 0 < s.size
  · have hi := fun W => Any.strings_IndexByte Tryd.laysIndexByte x ((s.get! 0).toNat : Nat) W
    have hx := J.at_byte hz
    have hne : (s.toList == []) = false := by
      rw [Lib.toList_data]
      cases h : s.data.toList with
      | nil => have := Lib.size_eq s; rw [h, List.length_nil] at this; omega
      | cons a l => rfl
    go_enter Tryd.func132, Tryd.ntmps132
    go_wp2_with fail
    refine (hi _).mono ?_
    rintro e w1 ⟨rfl, rfl⟩
    have he := J.am_index x (s.get! 0).toNat (s.get! 0).toNat_lt
    have hk : J.sk s x 0 = J.am x (s.get! 0).toNat := by unfold J.sk J.pk; rw [if_pos hz]
    generalize Lib.indexByte x.data.toList ((((s.get! 0).toNat : Nat) : Int).toNat.toUInt8) = z at *
    generalize (s.get! 0).toNat = c at *
    have hzz := J.indexByte_ge x.data.toList
    cases hm : J.am x c
    · rw [hm] at he hk
      have e1 : decide (z < 0) = true := he
      clear he hm
      go_wp2_with fail
      go_ret2
      unfold caS
      rw [hk]
      exact ⟨rfl, Below.refl _ _⟩
    · rw [hm] at he hk
      have e1 : decide (z < 0) = false := he
      clear he hm
      go_wp2_with fail
      go_ret2
      unfold caS
      rw [hk]
      exact ⟨rfl, Below.refl _ _⟩
  · have hz0 : s.size = 0 := by omega
    have hk : J.sk s x 0 = false := by unfold J.sk J.pk; rw [if_neg hz]; exact h0
    have hne : (s.toList == []) = true := by
      rw [Lib.toList_data]
      cases h : s.data.toList with
      | nil => rfl
      | cons a l => have := Lib.size_eq s; rw [h, List.length_cons] at this; omega
    go_enter Tryd.func132, Tryd.ntmps132
    go_wp2_with fail
    go_ret2
    unfold caS
    rw [hk]
    exact ⟨rfl, Below.refl _ _⟩
/-- digits are cut off -/
def cdS (s : ByteArray) : ByteArray × Bool := (s.extract (J.sa s J.dgs 0) s.size, decide (0 < J.sa s J.dgs 0))
theorem am_contains (x : ByteArray) (b : UInt8) : x.data.toList.contains b = J.am x b.toNat := by
  unfold J.am
  rw [List.contains_eq_any_beq]
  congr 1
  funext c
  by_cases h : b = c
  · subst h; simp
  · have : ¬ c.toNat = b.toNat := fun e => h (UInt8.toNat_inj.1 e.symm)
    simp [h, this]
theorem sa_drop (s x : ByteArray) (h0 : J.am x 0 = false) : ∀ f p, s.size ≤ p + f → (s.data.toList.drop p).dropWhile (x.data.toList.contains ·) = s.data.toList.drop (J.saF s x f p)
  | 0, p, h => by
    have e : s.data.toList.drop p = [] := List.drop_eq_nil_of_le (by rw [← Lib.size_eq]; omega)
    show _ = s.data.toList.drop p
    rw [e]; rfl
  | f + 1, p, h => by
    unfold J.saF
    by_cases hp : p < s.size
    · have hlt : p < s.data.toList.length := by rw [← Lib.size_eq]; exact hp
      have e1 : s.data.toList[p] = s.get! p := (U_get hp).symm
      have e2 : J.sk s x p = J.am x (s.get! p).toNat := by unfold J.sk J.pk; rw [if_pos hp]
      rw [List.drop_eq_getElem_cons hlt, e1, List.dropWhile_cons, am_contains, ← e2]
      cases hk : J.sk s x p
      · rw [if_neg (by decide), if_neg (by decide), List.drop_eq_getElem_cons hlt, e1]
      · rw [if_pos rfl, if_pos rfl]
        exact sa_drop s x h0 f (p + 1) (by omega)
    · have e : s.data.toList.drop p = [] := List.drop_eq_nil_of_le (by rw [← Lib.size_eq]; omega)
      rw [if_neg (by unfold J.sk J.pk; rw [if_neg hp, h0]; decide), e]; rfl
theorem drop_extract (s : ByteArray) (k : Nat) : (⟨(s.data.toList.drop k).toArray⟩ : ByteArray) = s.extract k s.size := by
  apply ByteArray.ext
  rw [ByteArray.data_extract]
  apply Array.ext'
  rw [Array.toList_extract, List.extract_eq_take_drop]
  show s.data.toList.drop k = _
  rw [List.take_of_length_le]
  rw [List.length_drop, ← Lib.size_eq]
  exact Nat.le_refl _
theorem trim_dgs (s : ByteArray) : (⟨(Lib.trimLeftS s.data.toList J.dgs.data.toList).toArray⟩ : ByteArray) = s.extract (J.sa s J.dgs 0) s.size := by
  rw [← drop_extract]
  have h := sa_drop s J.dgs (by decide) (s.size - 0) 0 (by omega)
  rw [List.drop_zero] at h
  unfold Lib.trimLeftS J.sa
  rw [h]
theorem infoSet : (Tryd.prog.info? (Tryd.laysTrimLeft_ren.t 116)).map (fun i => (i.zero, i.size)) = some (some (.agg (Array.replicate 256 (.bool false))), 256) := by kernel_rfl
set_option maxHeartbeats 1000000 in
set_option maxRecDepth 100000 in
theorem cutDigits_any (s : ByteArray) (w : World) (hs : s.size ≤ 140737488355328) :
    Calls Tryd.prog 133 #[.string s] w (CutIs (cdS s) w) := by
  have ht := fun W => Any.strings_TrimLeft_laid Tryd.laysTrimLeft infoSet s J.dgs W (by decide) (ascii_of_all (by decide))
  simp only [trim_dgs] at ht
  have hle := J.sa_le (s := s) (x := J.dgs) (p := 0) (by decide) (Nat.zero_le _)
  have hz : (s.extract (J.sa s J.dgs 0) s.size).size = s.size - J.sa s J.dgs 0 := by rw [ByteArray.size_extract]; omega
  have hc : cdS s = (s.extract (J.sa s J.dgs 0) s.size, decide (0 < J.sa s J.dgs 0)) := rfl
  rw [hc]
  clear hc
  generalize s.extract (J.sa s J.dgs 0) s.size = r at *
  generalize J.sa s J.dgs 0 = k at *
  go_enter Tryd.func133, Tryd.ntmps133
  go_wp2_with fail
  refine (ht _).mono ?_
  rintro e w1 ⟨rfl, hB⟩
  have hd : decide (s.size - k < s.size) = decide (0 < k) := decide_eq_decide.2 (by omega)
  go_wp2_with fail
  go_ret2
  exact ⟨rfl, hB⟩
theorem caS_le (s x : ByteArray) : (caS s x).1.size ≤ s.size := by
  unfold caS
  split
  · show (s.extract 1 s.size).size ≤ _; rw [ByteArray.size_extract]; omega
  · exact Nat.le_refl _
theorem cdS_le (s : ByteArray) : (cdS s).1.size ≤ s.size := by
  show (s.extract _ s.size).size ≤ _; rw [ByteArray.size_extract]; omega
def c45 : ByteArray := ⟨#[45]⟩
def c48 : ByteArray := ⟨#[48]⟩
def c46 : ByteArray := ⟨#[46]⟩
def cEe : ByteArray := ⟨#[101, 69]⟩
def cpm : ByteArray := ⟨#[43, 45]⟩
/-- an integer is cut off -/
def ciS (s : ByteArray) : ByteArray × Bool := if (caS (caS s c45).1 c48).2 = true then ((caS (caS s c45).1 c48).1, true) else cdS (caS s c45).1
theorem ciS_le (s : ByteArray) : (ciS s).1.size ≤ s.size := by
  have h1 := caS_le s c45
  have h2 := caS_le (caS s c45).1 c48
  have h3 := cdS_le (caS s c45).1
  unfold ciS
  split
  · show (caS (caS s c45).1 c48).1.size ≤ _; omega
  · omega
set_option maxHeartbeats 1000000 in
set_option maxRecDepth 100000 in
theorem cutInteger_any (s : ByteArray) (w : World) (hs : s.size ≤ 140737488355328) :
    Calls Tryd.prog 131 #[.string s] w (CutIs (ciS s) w) := by
  have h1 := fun W => cutAny_any s c45 W hs (by decide)
  have hle := caS_le s c45
  have h2 := fun W => cutAny_any (caS s c45).1 c48 W (by omega) (by decide)
  have h3 := fun W => cutDigits_any (caS s c45).1 W (by omega)
  unfold CutIs at *
  unfold ciS
  generalize hq : caS s c45 = q at *
  generalize hr : caS q.1 c48 = r at *
  generalize hd : cdS q.1 = d at *
  obtain ⟨r1, r2⟩ := r
  clear hq hr hd
  unfold c45 at h1
  unfold c48 at h2
  cases r2
  · rw [if_neg (by show ¬ false = true; decide)]
    go_enter Tryd.func131, Tryd.ntmps131
    go_wp2_with fail
    refine (h1 _).mono ?_
    rintro e w1 ⟨rfl, hB1⟩
    go_wp2_with fail
    refine (h2 _).mono ?_
    rintro e w2 ⟨rfl, hB2⟩
    have hB3 := hB1.trans (hB2.mono hB1.size)
    go_wp2_with fail
    refine (h3 _).mono ?_
    rintro e w3 ⟨rfl, hB4⟩
    have hB5 := hB3.trans (hB4.mono hB3.size)
    go_wp2_with fail
    go_ret2
    exact ⟨rfl, hB5⟩
  · rw [if_pos rfl]
    go_enter Tryd.func131, Tryd.ntmps131
    go_wp2_with fail
    refine (h1 _).mono ?_
    rintro e w1 ⟨rfl, hB1⟩
    go_wp2_with fail
    refine (h2 _).mono ?_
    rintro e w2 ⟨rfl, hB2⟩
    have hB3 := hB1.trans (hB2.mono hB1.size)
    go_wp2_with fail
    go_ret2
    exact ⟨rfl, hB3⟩
def bothS (r : ByteArray × Bool) : Bool := r.2 && decide (r.1.size = 0)
theorem empty_beq (s : ByteArray) : (s.toList == []) = decide (s.size = 0) := by
  rw [Lib.toList_data]
  cases h : s.data.toList with
  | nil => have := Lib.size_eq s; rw [h, List.length_nil] at this; simp [this]
  | cons a l => have := Lib.size_eq s; rw [h, List.length_cons] at this; simp [this]
theorem empty_isE (s : ByteArray) : s.toList.isEmpty = decide (s.size = 0) := by
  rw [Lib.toList_data]
  cases h : s.data.toList with
  | nil => have := Lib.size_eq s; rw [h, List.length_nil] at this; simp [this]
  | cons a l => have := Lib.size_eq s; rw [h, List.length_cons] at this; simp [this]
theorem empty_dec (s : ByteArray) : decide (s = ByteArray.empty) = decide (s.size = 0) := by
  refine decide_eq_decide.2 ⟨fun h => by rw [h]; rfl, fun h => ?_⟩
  apply ByteArray.ext
  have h2 : s.data.size = 0 := h
  exact Array.eq_empty_of_size_eq_zero h2
def BoolB (b : Bool) (w : World) (e : Ending) (w' : World) : Prop := e = .returned (.bool b) ∧ Below w.heap.size w w'
/-- a number -/
def n2S (r : ByteArray × Bool) : ByteArray × Bool := if (r.2 && (caS r.1 c46).2) = true then cdS (caS r.1 c46).1 else r
def n3S (r : ByteArray × Bool) : ByteArray × Bool := if (r.2 && (caS r.1 cEe).2) = true then cdS (caS (caS r.1 cEe).1 cpm).1 else r
def numS (s : ByteArray) : Bool := bothS (n3S (n2S (ciS s)))
theorem n2S_le (r : ByteArray × Bool) : (n2S r).1.size ≤ r.1.size := by
  have h1 := caS_le r.1 c46
  have h2 := cdS_le (caS r.1 c46).1
  unfold n2S
  split
  · omega
  · exact Nat.le_refl _
set_option maxHeartbeats 2000000 in
set_option maxRecDepth 100000 in
theorem isNumber_any (s : ByteArray) (w : World) (hs : s.size ≤ 140737488355328) :
    Calls Tryd.prog 110 #[.string s] w (BoolB (numS s) w) := by
  have l1 := ciS_le s
  have l2 := n2S_le (ciS s)
  have l3 := caS_le (ciS s).1 c46
  have l4 := caS_le (n2S (ciS s)).1 cEe
  have l5 := caS_le (caS (n2S (ciS s)).1 cEe).1 cpm
  have h1 := fun W => cutInteger_any s W hs
  have h2 := fun W => cutAny_any (ciS s).1 c46 W (by omega) (by decide)
  have h3 := fun W => cutDigits_any (caS (ciS s).1 c46).1 W (by omega)
  have h4 := fun W => cutAny_any (n2S (ciS s)).1 cEe W (by omega) (by decide)
  have h5 := fun W => cutAny_any (caS (n2S (ciS s)).1 cEe).1 cpm W (by omega) (by decide)
  have h6 := fun W => cutDigits_any (caS (caS (n2S (ciS s)).1 cEe).1 cpm).1 W (by omega)
  have e2 : n2S (ciS s) = if ((ciS s).2 && (caS (ciS s).1 c46).2) = true then cdS (caS (ciS s).1 c46).1 else ciS s := rfl
  have e3 : numS s = bothS (if ((n2S (ciS s)).2 && (caS (n2S (ciS s)).1 cEe).2) = true then cdS (caS (caS (n2S (ciS s)).1 cEe).1 cpm).1 else n2S (ciS s)) := rfl
  rw [e3]
  clear e3 l1 l2 l3 l4 l5
  unfold CutIs at *
  generalize cdS (caS (caS (n2S (ciS s)).1 cEe).1 cpm).1 = r6 at *
  generalize caS (caS (n2S (ciS s)).1 cEe).1 cpm = r5 at *
  generalize caS (n2S (ciS s)).1 cEe = r4 at *
  generalize n2S (ciS s) = q at *
  generalize cdS (caS (ciS s).1 c46).1 = r3 at *
  generalize caS (ciS s).1 c46 = r2 at *
  generalize ciS s = r1 at *
  obtain ⟨a1, b1⟩ := r1
  obtain ⟨a2, b2⟩ := r2
  obtain ⟨a3, b3⟩ := r3
  obtain ⟨a4, b4⟩ := r4
  obtain ⟨a5, b5⟩ := r5
  obtain ⟨a6, b6⟩ := r6
  unfold c46 at h2
  unfold cEe at h4
  unfold cpm at h5
  dsimp only at h1 h2 h3 h4 h5 h6 e2
  unfold bothS
  cases b1
  · have eq : q = (a1, false) := e2
    subst eq
    clear e2
    dsimp only at h4 ⊢
    rw [if_neg (by show ¬ (false && b4) = true; rw [Bool.false_and]; decide)]
    go_enter Tryd.func110, Tryd.ntmps110
    go_wp2_with fail
    refine (h1 _).mono ?_
    rintro e w0 ⟨rfl, hA0⟩
    have hB0 := hA0
    go_wp2_with fail
    refine (h2 _).mono ?_
    rintro e w1 ⟨rfl, hA1⟩
    have hB1 := hB0.trans (hA1.mono hB0.size)
    go_wp2_with fail
    refine (h4 _).mono ?_
    rintro e w2 ⟨rfl, hA2⟩
    have hB2 := hB1.trans (hA2.mono hB1.size)
    go_wp2_with fail
    go_ret
    refine ⟨?_, hB2⟩
    first | rfl | (show Ending.returned (.bool (decide (a1 = ByteArray.empty))) = _; rw [empty_dec]; rfl) | (show Ending.returned (.bool a1.toList.isEmpty) = _; rw [empty_isE]; rfl)
  · cases b2
    · have eq : q = (a1, true) := e2
      subst eq
      clear e2
      dsimp only at h4 ⊢
      cases b4
      · rw [if_neg (by show ¬ (true && false) = true; decide)]
        go_enter Tryd.func110, Tryd.ntmps110
        go_wp2_with fail
        refine (h1 _).mono ?_
        rintro e w0 ⟨rfl, hA0⟩
        have hB0 := hA0
        go_wp2_with fail
        refine (h2 _).mono ?_
        rintro e w1 ⟨rfl, hA1⟩
        have hB1 := hB0.trans (hA1.mono hB0.size)
        go_wp2_with fail
        refine (h4 _).mono ?_
        rintro e w2 ⟨rfl, hA2⟩
        have hB2 := hB1.trans (hA2.mono hB1.size)
        go_wp2_with fail
        go_ret
        refine ⟨?_, hB2⟩
        first | rfl | (show Ending.returned (.bool (decide (a1 = ByteArray.empty))) = _; rw [empty_dec]; rfl) | (show Ending.returned (.bool a1.toList.isEmpty) = _; rw [empty_isE]; rfl)
      · rw [if_pos (show (true && true) = true from rfl)]
        cases b6
        · go_enter Tryd.func110, Tryd.ntmps110
          go_wp2_with fail
          refine (h1 _).mono ?_
          rintro e w0 ⟨rfl, hA0⟩
          have hB0 := hA0
          go_wp2_with fail
          refine (h2 _).mono ?_
          rintro e w1 ⟨rfl, hA1⟩
          have hB1 := hB0.trans (hA1.mono hB0.size)
          go_wp2_with fail
          refine (h4 _).mono ?_
          rintro e w2 ⟨rfl, hA2⟩
          have hB2 := hB1.trans (hA2.mono hB1.size)
          go_wp2_with fail
          refine (h5 _).mono ?_
          rintro e w3 ⟨rfl, hA3⟩
          have hB3 := hB2.trans (hA3.mono hB2.size)
          go_wp2_with fail
          refine (h6 _).mono ?_
          rintro e w4 ⟨rfl, hA4⟩
          have hB4 := hB3.trans (hA4.mono hB3.size)
          go_wp2_with fail
          go_ret
          refine ⟨?_, hB4⟩
          first | rfl | (show Ending.returned (.bool (decide (a6 = ByteArray.empty))) = _; rw [empty_dec]; rfl) | (show Ending.returned (.bool a6.toList.isEmpty) = _; rw [empty_isE]; rfl)
        · go_enter Tryd.func110, Tryd.ntmps110
          go_wp2_with fail
          refine (h1 _).mono ?_
          rintro e w0 ⟨rfl, hA0⟩
          have hB0 := hA0
          go_wp2_with fail
          refine (h2 _).mono ?_
          rintro e w1 ⟨rfl, hA1⟩
          have hB1 := hB0.trans (hA1.mono hB0.size)
          go_wp2_with fail
          refine (h4 _).mono ?_
          rintro e w2 ⟨rfl, hA2⟩
          have hB2 := hB1.trans (hA2.mono hB1.size)
          go_wp2_with fail
          refine (h5 _).mono ?_
          rintro e w3 ⟨rfl, hA3⟩
          have hB3 := hB2.trans (hA3.mono hB2.size)
          go_wp2_with fail
          refine (h6 _).mono ?_
          rintro e w4 ⟨rfl, hA4⟩
          have hB4 := hB3.trans (hA4.mono hB3.size)
          go_wp2_with fail
          go_ret
          refine ⟨?_, hB4⟩
          first | rfl | (show Ending.returned (.bool (decide (a6 = ByteArray.empty))) = _; rw [empty_dec]; rfl) | (show Ending.returned (.bool a6.toList.isEmpty) = _; rw [empty_isE]; rfl)
    · have eq : q = (a3, b3) := e2
      subst eq
      clear e2
      dsimp only at h4 ⊢
      cases b3
      · rw [if_neg (by show ¬ (false && b4) = true; rw [Bool.false_and]; decide)]
        go_enter Tryd.func110, Tryd.ntmps110
        go_wp2_with fail
        refine (h1 _).mono ?_
        rintro e w0 ⟨rfl, hA0⟩
        have hB0 := hA0
        go_wp2_with fail
        refine (h2 _).mono ?_
        rintro e w1 ⟨rfl, hA1⟩
        have hB1 := hB0.trans (hA1.mono hB0.size)
        go_wp2_with fail
        refine (h3 _).mono ?_
        rintro e w2 ⟨rfl, hA2⟩
        have hB2 := hB1.trans (hA2.mono hB1.size)
        go_wp2_with fail
        refine (h4 _).mono ?_
        rintro e w3 ⟨rfl, hA3⟩
        have hB3 := hB2.trans (hA3.mono hB2.size)
        go_wp2_with fail
        go_ret
        refine ⟨?_, hB3⟩
        first | rfl | (show Ending.returned (.bool (decide (a3 = ByteArray.empty))) = _; rw [empty_dec]; rfl) | (show Ending.returned (.bool a3.toList.isEmpty) = _; rw [empty_isE]; rfl)
      · cases b4
        · rw [if_neg (by show ¬ (true && false) = true; decide)]
          go_enter Tryd.func110, Tryd.ntmps110
          go_wp2_with fail
          refine (h1 _).mono ?_
          rintro e w0 ⟨rfl, hA0⟩
          have hB0 := hA0
          go_wp2_with fail
          refine (h2 _).mono ?_
          rintro e w1 ⟨rfl, hA1⟩
          have hB1 := hB0.trans (hA1.mono hB0.size)
          go_wp2_with fail
          refine (h3 _).mono ?_
          rintro e w2 ⟨rfl, hA2⟩
          have hB2 := hB1.trans (hA2.mono hB1.size)
          go_wp2_with fail
          refine (h4 _).mono ?_
          rintro e w3 ⟨rfl, hA3⟩
          have hB3 := hB2.trans (hA3.mono hB2.size)
          go_wp2_with fail
          go_ret
          refine ⟨?_, hB3⟩
          first | rfl | (show Ending.returned (.bool (decide (a3 = ByteArray.empty))) = _; rw [empty_dec]; rfl) | (show Ending.returned (.bool a3.toList.isEmpty) = _; rw [empty_isE]; rfl)
        · rw [if_pos (show (true && true) = true from rfl)]
          cases b6
          · go_enter Tryd.func110, Tryd.ntmps110
            go_wp2_with fail
            refine (h1 _).mono ?_
            rintro e w0 ⟨rfl, hA0⟩
            have hB0 := hA0
            go_wp2_with fail
            refine (h2 _).mono ?_
            rintro e w1 ⟨rfl, hA1⟩
            have hB1 := hB0.trans (hA1.mono hB0.size)
            go_wp2_with fail
            refine (h3 _).mono ?_
            rintro e w2 ⟨rfl, hA2⟩
            have hB2 := hB1.trans (hA2.mono hB1.size)
            go_wp2_with fail
            refine (h4 _).mono ?_
            rintro e w3 ⟨rfl, hA3⟩
            have hB3 := hB2.trans (hA3.mono hB2.size)
            go_wp2_with fail
            refine (h5 _).mono ?_
            rintro e w4 ⟨rfl, hA4⟩
            have hB4 := hB3.trans (hA4.mono hB3.size)
            go_wp2_with fail
            refine (h6 _).mono ?_
            rintro e w5 ⟨rfl, hA5⟩
            have hB5 := hB4.trans (hA5.mono hB4.size)
            go_wp2_with fail
            go_ret
            refine ⟨?_, hB5⟩
            first | rfl | (show Ending.returned (.bool (decide (a6 = ByteArray.empty))) = _; rw [empty_dec]; rfl) | (show Ending.returned (.bool a6.toList.isEmpty) = _; rw [empty_isE]; rfl)
          · go_enter Tryd.func110, Tryd.ntmps110
            go_wp2_with fail
            refine (h1 _).mono ?_
            rintro e w0 ⟨rfl, hA0⟩
            have hB0 := hA0
            go_wp2_with fail
            refine (h2 _).mono ?_
            rintro e w1 ⟨rfl, hA1⟩
            have hB1 := hB0.trans (hA1.mono hB0.size)
            go_wp2_with fail
            refine (h3 _).mono ?_
            rintro e w2 ⟨rfl, hA2⟩
            have hB2 := hB1.trans (hA2.mono hB1.size)
            go_wp2_with fail
            refine (h4 _).mono ?_
            rintro e w3 ⟨rfl, hA3⟩
            have hB3 := hB2.trans (hA3.mono hB2.size)
            go_wp2_with fail
            refine (h5 _).mono ?_
            rintro e w4 ⟨rfl, hA4⟩
            have hB4 := hB3.trans (hA4.mono hB3.size)
            go_wp2_with fail
            refine (h6 _).mono ?_
            rintro e w5 ⟨rfl, hA5⟩
            have hB5 := hB4.trans (hA5.mono hB4.size)
            go_wp2_with fail
            go_ret
            refine ⟨?_, hB5⟩
            first | rfl | (show Ending.returned (.bool (decide (a6 = ByteArray.empty))) = _; rw [empty_dec]; rfl) | (show Ending.returned (.bool a6.toList.isEmpty) = _; rw [empty_isE]; rfl)
end Go.Proofs.YtdgmbmoaeoakpaaDoor

namespace Go.Proofs.YtdgmbmoaeoakpaaDoor
open Go Go.RowKit Go.Lib

/-- the reader's block: the string, the place, how many lists and objects are open -/
def Rd (s : ByteArray) (p d : Nat) (B : Nat) (W : World) : Prop := W.heap[B]? = some (.cells #[.string s, .int .i64 p, .int .i64 d] 99 (0, 0))
theorem Rd.lt {s : ByteArray} {p d B : Nat} {W : World} (h : Rd s p d B W) : B < W.heap.size := (Array.getElem?_eq_some_iff.1 h).1
theorem Rd.c0 {s : ByteArray} {p d B : Nat} {W : World} (h : Rd s p d B W) : W.cell? ⟨B, 0, none⟩ = some (.string s) := by simp [World.cell?, show W.heap[B]? = _ from h]
theorem Rd.c1 {s : ByteArray} {p d B : Nat} {W : World} (h : Rd s p d B W) : W.cell? ⟨B, 1, none⟩ = some (.int .i64 p) := by simp [World.cell?, show W.heap[B]? = _ from h]
theorem Rd.c2 {s : ByteArray} {p d B : Nat} {W : World} (h : Rd s p d B W) : W.cell? ⟨B, 2, none⟩ = some (.int .i64 d) := by simp [World.cell?, show W.heap[B]? = _ from h]
theorem Rd.f1 {s : ByteArray} {p d B : Nat} {W : World} (h : Rd s p d B W) : W.frozen? ⟨B, 1, none⟩ = false := by simp [World.frozen?, show W.heap[B]? = _ from h]
theorem Rd.f2 {s : ByteArray} {p d B : Nat} {W : World} (h : Rd s p d B W) : W.frozen? ⟨B, 2, none⟩ = false := by simp [World.frozen?, show W.heap[B]? = _ from h]
theorem Rd.drewN {s : ByteArray} {p d B : Nat} {W : World} (h : Rd s p d B W) (q : Nat) : Rd s p d B (W.drewN q) := h
theorem Rd.set1 {s : ByteArray} {p d B : Nat} {W : World} (h : Rd s p d B W) (x : Nat) : Rd s x d B (W.setCell ⟨B, 1, none⟩ (.int .i64 x)) := by
  obtain ⟨hlt, hk⟩ := Array.getElem?_eq_some_iff.1 h
  show (W.heap.modify B _)[B]? = _
  rw [Array.getElem?_eq_getElem (by rw [Array.size_modify]; exact hlt), Array.getElem_modify_self, hk]
  rfl
theorem Rd.set2 {s : ByteArray} {p d B : Nat} {W : World} (h : Rd s p d B W) (x : Nat) : Rd s p x B (W.setCell ⟨B, 2, none⟩ (.int .i64 x)) := by
  obtain ⟨hlt, hk⟩ := Array.getElem?_eq_some_iff.1 h
  show (W.heap.modify B _)[B]? = _
  rw [Array.getElem?_eq_getElem (by rw [Array.size_modify]; exact hlt), Array.getElem_modify_self, hk]
  rfl
theorem Rd.same {s : ByteArray} {p d B : Nat} {W W' : World} (h : Rd s p d B W) (hk : W'.heap[B]? = W.heap[B]?) : Rd s p d B W' := hk.trans h
theorem Rd.below {s : ByteArray} {p d B : Nat} {W W' : World} (h : Rd s p d B W) (hB : Below W.heap.size W W') : Rd s p d B W' := h.same (hB.block _ h.lt)
theorem Rd.alloc {s : ByteArray} {p d B : Nat} {W : World} (h : Rd s p d B W) (o : Obj) : Rd s p d B (W.alloc o) := h.below ((Below.refl _ _).alloc (Nat.le_refl _) o)
theorem grow_drewN (w : World) (q : Nat) (row : Option Nat) : w.grownBy (w.drewN q) row := ⟨rfl, rfl, rfl, Nat.le_refl _, fun _ _ _ => rfl⟩
theorem grow_set (W : World) (b o : Nat) (v : Value) : W.grownBy (W.setCell ⟨b, o, none⟩ v) (some b) := ⟨rfl, rfl, rfl, by simp, fun k _ hk => Below.heap_setCell W ⟨b, o, none⟩ v k (fun e => hk (by simp [e]))⟩
theorem grow_trans {a b c : World} {row : Option Nat} (h : a.grownBy b row) (k : b.grownBy c row) : a.grownBy c row :=
  ⟨k.os.trans h.os, k.tape.trans h.tape, k.output.trans h.output, Nat.le_trans h.size k.size, fun i hi hne => (k.block i (Nat.lt_of_lt_of_le hi h.size) hne).trans (h.block i hi hne)⟩
theorem grow_below {w w' : World} (h : Below w.heap.size w w') (row : Option Nat) : w.grownBy w' row := ⟨h.os, h.tape, h.output, h.size, fun k hk _ => h.block k hk⟩
theorem below_grow {w w' : World} {B C : Nat} (h : w.grownBy w' (some B)) (hC : C ≤ B) (hs : C ≤ w.heap.size) : Below C w w' := ⟨h.os, h.tape, h.output, h.size, fun k hk => h.block k (by omega) (fun e => by cases e; omega)⟩

def Quiet (v : Value) (w : World) (en : Ending) (w' : World) : Prop := en = .returned v ∧ ∃ q, w' = w.drewN q
/-- it is back, and the reader stands there -/
def Back (v : Value) (s : ByteArray) (p d B : Nat) (w : World) (en : Ending) (w' : World) : Prop := en = .returned v ∧ Rd s p d B w' ∧ w.grownBy w' (some B)
/-- an error was raised, and the reader stands there -/
def Died (e : Int) (s : ByteArray) (p B : Nat) (w : World) (en : Ending) (w' : World) : Prop :=
  en = .panicked [{ v := .iface 26 (.int .i64 e), recovered := false }] ∧ (∃ d, Rd s p d B w') ∧ w.grownBy w' (some B)

set_option maxRecDepth 100000 in
set_option maxHeartbeats 400000 in
theorem peek_any (s : ByteArray) (p d B : Nat) (w : World) (_hs : s.size ≤ 1000000000000) (hp : p ≤ s.size) (h : Rd s p d B w) :
    Calls Tryd.prog 118 #[.pointer (some ⟨B, 0, none⟩)] w (Quiet (.int .u8 (J.pk s p : Nat)) w) := by
  have c0 := h.c0
  have c1 := h.c1
  clear h
  by_cases hlt : p < s.size
  · have e1 : ((p : Int) == (s.size : Int)) = false := by simp; omega
    have HP := Lib.hid (show J.pk s p = s[p].toNat by unfold J.pk; rw [if_pos hlt, J.at_byte hlt])
    go_enter Tryd.func118, Tryd.ntmps118
    go_wp2_with fail
    go_quiet (fail)
    obtain ⟨nq_0, hq0⟩ : ∃ nq_0, nq_0 = nq := ⟨_, rfl⟩
    subst hq0
    go_wp2_with fail
    go_quiet (fail)
    go_wp2_with fail
    go_ret
    rw [HP.out]
    exact ⟨rfl, nq_0 + nq, by simp [World.drewN, Nat.add_assoc]⟩
  · obtain rfl : p = s.size := by omega
    have HP := Lib.hid (show J.pk s s.size = 0 by unfold J.pk; rw [if_neg hlt])
    clear hlt hp
    go_enter Tryd.func118, Tryd.ntmps118
    go_wp2_with fail
    go_quiet (fail)
    go_wp2_with fail
    go_ret
    rw [HP.out]
    exact ⟨rfl, _, rfl⟩

set_option maxRecDepth 100000 in
set_option maxHeartbeats 400000 in
theorem skip_no (s x : ByteArray) (p d B : Nat) (w : World) (hs : s.size ≤ 1000000000000) (hp : p ≤ s.size) (h : Rd s p d B w) (hb : J.sk s x p = false) :
    Calls Tryd.prog 117 #[.pointer (some ⟨B, 0, none⟩), .string x] w (Back (.bool false) s p d B w) := by
  have hk := peek_any s p d B w hs hp h
  have hi := fun W => Any.strings_IndexByte Tryd.laysIndexByte x (J.pk s p : Nat) W
  have he := J.am_index x (J.pk s p) (J.pk_lt s p)
  have c1 := h.c1
  have f1 := h.f1
  generalize Lib.indexByte x.data.toList (((J.pk s p : Nat) : Int).toNat.toUInt8) = z at *
  have e1 : decide (z < 0) = true := by rw [he, show J.am x (J.pk s p) = false from hb]; rfl
  clear he hb
  generalize J.pk s p = c at *
  go_enter Tryd.func117, Tryd.ntmps117
  go_wp2_with fail
  refine hk.mono ?_
  rintro en w' ⟨rfl, q, rfl⟩
  go_wp2_with fail
  refine (hi _).mono ?_
  rintro en w' ⟨rfl, rfl⟩
  go_wp2_with fail
  go_ret
  exact ⟨rfl, h, grow_drewN _ _ _⟩

set_option maxRecDepth 100000 in
set_option maxHeartbeats 400000 in
theorem skip_yes (s x : ByteArray) (p d B : Nat) (w : World) (hs : s.size ≤ 1000000000000) (hp : p ≤ s.size) (h : Rd s p d B w) (hb : J.sk s x p = true) :
    Calls Tryd.prog 117 #[.pointer (some ⟨B, 0, none⟩), .string x] w (Back (.bool true) s (p + 1) d B w) := by
  have hk := peek_any s p d B w hs hp h
  have hi := fun W => Any.strings_IndexByte Tryd.laysIndexByte x (J.pk s p : Nat) W
  have he := J.am_index x (J.pk s p) (J.pk_lt s p)
  have c1 := h.c1
  have f1 := h.f1
  generalize Lib.indexByte x.data.toList (((J.pk s p : Nat) : Int).toNat.toUInt8) = z at *
  have e1 : decide (z < 0) = false := by rw [he, show J.am x (J.pk s p) = true from hb]; rfl
  clear he hb
  generalize J.pk s p = c at *
  go_enter Tryd.func117, Tryd.ntmps117
  go_wp2_with fail
  refine hk.mono ?_
  rintro en w' ⟨rfl, q, rfl⟩
  go_wp2_with fail
  refine (hi _).mono ?_
  rintro en w' ⟨rfl, rfl⟩
  go_wp2_with fail
  go_ret
  exact ⟨rfl, (h.drewN q).set1 (p + 1), grow_trans (grow_drewN _ _ _) (grow_set _ _ _ _)⟩

set_option maxRecDepth 100000 in
set_option maxHeartbeats 400000 in
theorem take_yes (s x : ByteArray) (p d B : Nat) (w : World) (hs : s.size ≤ 1000000000000) (hp : p ≤ s.size) (h : Rd s p d B w) (hb : J.sk s x p = true) :
    Calls Tryd.prog 139 #[.pointer (some ⟨B, 0, none⟩), .string x] w (Back (.int .u8 (J.pk s p : Nat)) s (p + 1) d B w) := by
  have hk := peek_any s p d B w hs hp h
  have hi := fun q => skip_yes s x p d B (w.drewN q) hs hp (h.drewN q) hb
  clear hb
  generalize J.pk s p = c at *
  go_enter Tryd.func139, Tryd.ntmps139
  go_wp2_with fail
  refine hk.mono ?_
  rintro en w' ⟨rfl, q, rfl⟩
  go_wp2_with fail
  refine (hi q).mono ?_
  rintro en w' ⟨rfl, h2, g2⟩
  go_wp2_with fail
  go_ret
  exact ⟨rfl, h2, grow_trans (grow_drewN _ _ _) g2⟩

set_option maxRecDepth 100000 in
set_option maxHeartbeats 400000 in
theorem take_no (s x : ByteArray) (p d B : Nat) (w : World) (hs : s.size ≤ 1000000000000) (hp : p ≤ s.size) (h : Rd s p d B w) (hb : J.sk s x p = false) :
    Calls Tryd.prog 139 #[.pointer (some ⟨B, 0, none⟩), .string x] w (Died 30 s p B w) := by
  have hk := peek_any s p d B w hs hp h
  have hi := fun q => skip_no s x p d B (w.drewN q) hs hp (h.drewN q) hb
  clear hb
  generalize J.pk s p = c at *
  go_enter Tryd.func139, Tryd.ntmps139
  go_wp2_with fail
  refine hk.mono ?_
  rintro en w' ⟨rfl, q, rfl⟩
  go_wp2_with fail
  refine (hi q).mono ?_
  rintro en w' ⟨rfl, h2, g2⟩
  have HF := Lib.hid (show Died 30 s p B w (.panicked [{ v := .iface 26 (.int .i64 30), recovered := false }]) w' from ⟨rfl, ⟨_, h2⟩, grow_trans (grow_drewN _ _ _) g2⟩)
  clear h2 g2
  go_wp2_with fail
  exact ⟨rfl, HF.out⟩
end Go.Proofs.YtdgmbmoaeoakpaaDoor

namespace Go.Proofs.YtdgmbmoaeoakpaaDoor
open Go Go.RowKit Go.Lib

/-- the number of the first k digits -/
def hn (t : ByteArray) : Nat → Nat
  | 0 => 0
  | k + 1 => hn t k * 16 + (J.hv (t.get! k).toNat).toNat
theorem hn_lt (t : ByteArray) : ∀ k, hn t k < 16 ^ k
  | 0 => Nat.lt_succ_self 0
  | k + 1 => by
    have h1 := hn_lt t k
    have h2 := J.hv_lt (t.get! k).toNat
    show hn t k * 16 + _ < 16 ^ k * 16
    omega
theorem lower_lo (c : Nat) (h1 : 97 ≤ c) (h2 : c ≤ 102) (w : World) : Calls Tryd.prog 182 #[.int .u8 c] w fun e w' => e = .returned (.int .u8 c) ∧ w' = w := by
  have : c = 97 ∨ c = 98 ∨ c = 99 ∨ c = 100 ∨ c = 101 ∨ c = 102 := by omega
  rcases this with rfl | rfl | rfl | rfl | rfl | rfl
  all_goals
    go_enter Tryd.func182, Tryd.ntmps182
    go_wp2
    go_ret
    exact ⟨rfl, rfl⟩
theorem lower_up (c : Nat) (h1 : 65 ≤ c) (h2 : c ≤ 70) (w : World) : Calls Tryd.prog 182 #[.int .u8 c] w fun e w' => e = .returned (.int .u8 ((c + 32 : Nat) : Int)) ∧ w' = w := by
  have : c = 65 ∨ c = 66 ∨ c = 67 ∨ c = 68 ∨ c = 69 ∨ c = 70 := by omega
  rcases this with rfl | rfl | rfl | rfl | rfl | rfl
  all_goals
    go_enter Tryd.func182, Tryd.ntmps182
    go_wp2
    go_ret
    exact ⟨rfl, rfl⟩

/-- a hexadecimal digit's three kinds -/
theorem hv_kinds {c : Nat} (h : 0 ≤ J.hv c) : (48 ≤ c ∧ c ≤ 57 ∧ J.hv c = (c : Int) - 48) ∨ (97 ≤ c ∧ c ≤ 102 ∧ J.hv c = (c : Int) - 87) ∨ (65 ≤ c ∧ c ≤ 70 ∧ J.hv c = (c : Int) - 55) := by
  unfold J.hv at *
  split at h <;> (try split at h) <;> (try split at h) <;> (try omega) <;> simp_all

set_option maxHeartbeats 4000000 in
set_option maxRecDepth 100000 in
/-- internal/strconv.ParseUint of four hexadecimal digits -/
theorem parse16_any (t : ByteArray) (h4 : t.size = 4) (hd : ∀ i, i < 4 → 0 ≤ J.hv (t.get! i).toNat) (w : World) :
    Calls Tryd.prog 177 #[.string t, .int .i64 16, .int .i64 16] w fun e w' => e = .returned (.tuple #[.int .u64 ((hn t 4 : Nat) : Int), .nilIface]) ∧ w' = Lib.bytesWorld w 5 t := by
  have hemp : t.toList.isEmpty = false := by
    rw [← decide_eq_emptyBytes]
    exact decide_eq_false (fun h => by rw [h] at h4; exact absurd h4 (by decide))
  have hcv := Lib.run_convert_string_bytes (P := Tryd.prog) w 9 107 5 t (u := .string) (by kernel_rfl) (by kernel_rfl) (by kernel_rfl)
  have hB : ∀ j, j < t.size → (Lib.bytesWorld w 5 t).cell? ⟨w.heap.size, j, none⟩ = some (.int .u8 (t.data.toList.getD j 0).toNat) := fun j hj => Lib.bytesWorld_cell w 5 t j hj
  have hG : ∀ j, j < t.size → t.data.toList.getD j 0 = t.get! j := by
    intro j hj
    rw [J.at_get hj]
    simp [List.getD, hj]
    rfl
  obtain ⟨W1, hW1⟩ : ∃ W1, W1 = Lib.bytesWorld w 5 t := ⟨_, rfl⟩
  rw [← hW1] at hcv hB ⊢
  clear hW1
  have hmv : IntKind.u64.wrap (IntKind.u64.wrap 65536 - 1) = 65535 := by
    rw [IntKind.wrap_u64, IntKind.wrap_u64]
    decide
  go_enter Tryd.func177, Tryd.ntmps177
  go_wp2
  go_loop [12, 13, 101] (fun vu vn vi => ∃ (k : Nat) (a : Int), vu = .bool false ∧ vn = .int .u64 a ∧ vi = .int .i64 k ∧ k ≤ t.size ∧ Hid (a = ((hn t k : Nat) : Int)))
    (fun _ _ vi => t.size - (RowKit.intOf vi).toNat)
  case atStart => exact ⟨0, 0, rfl, rfl, rfl, by omega, Lib.hid rfl⟩
  case round =>
    obtain ⟨k, a, rfl, rfl, rfl, hk, hh⟩ := hrel
    by_cases hkn : k < t.size
    · have hc := hB k hkn
      rw [hG k hkn] at hc
      have hv := hd k (by omega)
      have hlt := hn_lt t k
      have hlt2 : hn t k < 4096 := by
        have : k = 0 ∨ k = 1 ∨ k = 2 ∨ k = 3 := by omega
        rcases this with rfl | rfl | rfl | rfl <;> exact Nat.lt_of_lt_of_le hlt (by decide)
      have hstep : hn t (k + 1) = hn t k * 16 + (J.hv (t.get! k).toNat).toNat := rfl
      have ha := hh.out
      have a0 : 0 ≤ a := by omega
      have a1 : a < 4096 := by omega
      generalize (t.get! k).toNat = c at *
      clear hB hG hlt
      rcases hv_kinds hv with ⟨c0, c1, c2⟩ | ⟨c0, c1, c2⟩ | ⟨c0, c1, c2⟩
      · have HN : Hid (a * 16 + ((c : Int) - 48) = ((hn t (k + 1) : Nat) : Int)) := Lib.hid (by omega)
        clear hstep hlt2 c2 ha
        go_wp2
        refine ⟨⟨k + 1, a * 16 + ((c : Int) - 48), rfl, (by first | rfl | (congr 1; omega)), (by first | rfl | (congr 1; omega)), by omega, HN⟩, by simp [RowKit.intOf]; omega⟩
      · have HN : Hid (a * 16 + ((c : Int) - 87) = ((hn t (k + 1) : Nat) : Int)) := Lib.hid (by omega)
        clear hstep hlt2 c2 ha
        go_wp2_with fail
        refine (lower_lo c c0 c1 _).mono ?_
        rintro en w2 ⟨rfl, rfl⟩
        go_wp2_with fail
        refine (lower_lo c c0 c1 _).mono ?_
        rintro en w2 ⟨rfl, rfl⟩
        go_wp2_with fail
        refine (lower_lo c c0 c1 _).mono ?_
        rintro en w2 ⟨rfl, rfl⟩
        go_wp2_with fail
        refine ⟨⟨k + 1, a * 16 + ((c : Int) - 87), rfl, (by first | rfl | (congr 1; omega)), (by first | rfl | (congr 1; omega)), by omega, HN⟩, by simp [RowKit.intOf]; omega⟩
      · have HN : Hid (a * 16 + ((c : Int) - 55) = ((hn t (k + 1) : Nat) : Int)) := Lib.hid (by omega)
        clear hstep hlt2 c2 ha
        go_wp2_with fail
        refine (lower_up c c0 c1 _).mono ?_
        rintro en w2 ⟨rfl, rfl⟩
        go_wp2_with fail
        refine (lower_up c c0 c1 _).mono ?_
        rintro en w2 ⟨rfl, rfl⟩
        go_wp2_with fail
        refine (lower_up c c0 c1 _).mono ?_
        rintro en w2 ⟨rfl, rfl⟩
        go_wp2_with fail
        refine ⟨⟨k + 1, a * 16 + ((c : Int) - 55), rfl, (by first | rfl | (congr 1; omega)), (by first | rfl | (congr 1; omega)), by omega, HN⟩, by simp [RowKit.intOf]; omega⟩
    · have hkk : k = 4 := by omega
      subst hkk
      have ha := hh.out
      subst ha
      go_wp2
      go_ret2
      exact ⟨rfl, rfl⟩
end Go.Proofs.YtdgmbmoaeoakpaaDoor
