/- The document's own test of a number, walked. Conditions: a string of at most 10^12 bytes. -/
import Derived.Test.YtoolkaahjmnjeaaGreatDoorMW41
import Derived.Test.YtoolkaahjmnjeaaGreatDoorMW42
import Derived.Test.YtoolkaahjmnjeaaGreatDoorMW18
import Derived.Test.YtoolkaahjmnjeaaGreatDoorMW06
import Derived.Test.YtoolkaahjmnjeaaGreatDoorMW05
namespace Go.Proofs.YtoolkaahjmnjeaaGreatDoor
open Go Go.RowKit Go.Lib

theorem is_at {x : ByteArray} {p : Nat} (h : p < x.size) (c : Nat) : J.is x p 0 c = decide ((x.get! p).toNat = c) := by
  unfold J.is
  exact decide_eq_decide.2 ⟨fun a => a.2.2, fun a => ⟨rfl, h, a⟩⟩
def NumR (r : Bool × Bool) (w : World) (e : Ending) (w' : World) : Prop := e = .returned (.tuple #[.bool r.1, .bool r.2]) ∧ w' = w
set_option maxHeartbeats 4000000 in
set_option maxRecDepth 100000 in
theorem number04_any (x : ByteArray) (w : World) (hs : x.size ≤ 1000000000000) : Calls Tryz.prog 50 #[.string x] w (NumR (numS x, bothS (ciS x)) w) := by
  have HD := Lib.hid (fun (p : Nat) (hp : p ≤ x.size) => digits04_any x p w hs hp)
  have HA := Lib.hid (at_le x)
  have hsz := hs
  go_enter Tryz.func50, Tryz.ntmps50
  go_upto_region 2 with fail
  go_cut [16] (fun q wx => q = .bool (J.is x (0) 0 45) ∧ w = wx)
  case first =>
    by_cases h1 : 0 < x.size
    · have t1 : decide ((0 : Int) < (x.size : Int)) = true := decide_eq_true (by omega)
      have t0 : decide (0 < x.size) = true := decide_eq_true h1
      have hx := J.at_byte h1
      have hi45 := is_at h1 45
      generalize (x.get! (0)).toNat = b at *
      by_cases h45 : b = 45
      · have t45 : ((b : Int) == 45) = true := by simp; omega
        have HI := Lib.hid (show (J.is x (0) 0 45) = true by rw [hi45, decide_eq_true h45])
        clear hi45 h45
        go_wp2_with fail
        go_meet
        case rel => exact ⟨by rw [HI.out], rfl⟩
      · have t45 : ((b : Int) == 45) = false := by simp; omega
        have HI := Lib.hid (show (J.is x (0) 0 45) = false by rw [hi45, decide_eq_false h45])
        clear hi45 h45
        go_wp2_with fail
        go_meet
        case rel => exact ⟨by rw [HI.out], rfl⟩
    · have t1 : decide ((0 : Int) < (x.size : Int)) = false := decide_eq_false (by omega)
      have t0 : decide (0 < x.size) = false := decide_eq_false h1
      have HI := Lib.hid (show (J.is x (0) 0 45) = false by rw [J.is_no_end 0 45 h1])
      clear h1
      go_wp2_with fail
      go_meet
      case rel => exact ⟨by rw [HI.out], rfl⟩
  case rest =>
  obtain ⟨rfl, rfl⟩ := hcut
  go_upto_if 16 with fail
  go_cut [4] (fun q wx => q = .int .i64 (atI x) ∧ w = wx)
  case first =>
    cases hb : J.is x 0 0 45
    · have HB := Lib.hid (show atI x = 0 from J.bp_no hb)
      clear hb
      go_wp2_with fail
      go_meet
      case rel => exact ⟨by rw [HB.out]; rfl, rfl⟩
    · have HB := Lib.hid (show atI x = 1 from J.bp_yes hb)
      clear hb
      go_wp2_with fail
      go_meet
      case rel => exact ⟨by rw [HB.out]; rfl, rfl⟩
  case rest =>
  obtain ⟨rfl, rfl⟩ := hcut
  have hdg := HD.out (atI x) HA.out
  have hle := J.dg_le (s := x) HA.out
  have N0 := Lib.hid (fun h => no_digits (x := x) h)
  have N1 := Lib.hid (fun h h0 => led_zero (x := x) h h0)
  have N2 := Lib.hid (fun h h0 => some_digits (x := x) h h0)
  have N3 := Lib.hid (fun h => both_dg (x := x) h)
  have N4 := Lib.hid (fun (q : Nat) h hd h0 => dot_none (x := x) (q := q) h hd h0)
  have N5 := Lib.hid (fun (q : Nat) h hd h0 => dot_some (x := x) (q := q) h hd h0)
  have N6 := Lib.hid (fun (q : Nat) h hd => dot_no (x := x) (q := q) h hd)
  generalize atI x = a at *
  generalize hq : J.dg x a = q at *
  obtain ⟨n, rfl⟩ : ∃ n, q = a + n := ⟨q - a, by omega⟩
  rw [Nat.add_sub_cancel_left] at hdg
  have HL := Lib.hid hle
  have hle2 := hle.2
  clear hle hq
  go_wp2_with fail
  refine hdg.mono ?_
  rintro e w1 ⟨rfl, hw1⟩
  have hw2 := hw1.symm
  subst hw2
  clear hdg hw1
  go_upto_region 5 with fail
  go_cut [33] (fun q wx => q = .bool (decide (n = 0 ∨ (1 < n ∧ J.is x a 0 48 = true))) ∧ w = wx)
  case first =>
    by_cases hn : n = 0
    · subst hn
      have HI := Lib.hid (show decide ((0 : Nat) = 0 ∨ (1 < 0 ∧ J.is x a 0 48 = true)) = true from decide_eq_true (.inl rfl))
      go_wp2_with fail
      go_meet
      case rel => exact ⟨by rw [HI.out], rfl⟩
    · have hn0 : ((n : Int) == 0) = false := by simp; omega
      by_cases hz : 1 < n
      · have hn1 : decide ((1 : Int) < (n : Int)) = true := decide_eq_true (by omega)
        have ha : a < x.size := by omega
        have hx := J.at_byte ha
        have h48 := is_at ha 48
        generalize (x.get! a).toNat = b at *
        by_cases hb : b = 48
        · have hb1 : ((b : Int) == 48) = true := by simp; omega
          have HI := Lib.hid (show decide (n = 0 ∨ (1 < n ∧ J.is x a 0 48 = true)) = true from decide_eq_true (.inr ⟨hz, by rw [h48, decide_eq_true hb]⟩))
          clear h48 hb hn
          go_wp2_with fail
          go_meet
          case rel => exact ⟨by rw [HI.out], rfl⟩
        · have hb1 : ((b : Int) == 48) = false := by simp; omega
          have HI := Lib.hid (show decide (n = 0 ∨ (1 < n ∧ J.is x a 0 48 = true)) = false from decide_eq_false (fun h => h.elim hn (fun h => by rw [h48, decide_eq_false hb] at h; cases h.2)))
          clear h48 hb hn
          go_wp2_with fail
          go_meet
          case rel => exact ⟨by rw [HI.out], rfl⟩
      · have hn1 : decide ((1 : Int) < (n : Int)) = false := decide_eq_false (by omega)
        have HI := Lib.hid (show decide (n = 0 ∨ (1 < n ∧ J.is x a 0 48 = true)) = false from decide_eq_false (fun h => h.elim hn (fun h => hz h.1)))
        clear hn hz
        go_wp2_with fail
        go_meet
        case rel => exact ⟨by rw [HI.out], rfl⟩
  case rest =>
  obtain ⟨rfl, rfl⟩ := hcut
  by_cases hz : n = 0 ∨ (1 < n ∧ J.is x a 0 48 = true)
  · have HN := Lib.hid (show numS x = false ∧ bothS (ciS x) = false from hz.elim (fun h => N0.out (by omega)) (fun h => N1.out (by omega) h.2))
    have tz := decide_eq_true hz
    generalize decide (n = 0 ∨ (1 < n ∧ J.is x a 0 48 = true)) = z at *
    subst tz
    clear hz
    go_wp2_with fail
    go_ret2
    exact ⟨by rw [HN.out.1, HN.out.2]; rfl, rfl⟩
  have HZ := Lib.hid (N2.out (fun h => hz (.inl (by omega))) (fun h => hz (.inr ⟨by omega, h.2⟩)))
  have tz := decide_eq_false hz
  generalize decide (n = 0 ∨ (1 < n ∧ J.is x a 0 48 = true)) = z at *
  subst tz
  have hwh : ((a : Int) + (n : Int) == (x.size : Int)) = bothS (ciS x) := by
    rw [N3.out HZ.out]
    by_cases h : a + n = x.size
    · rw [decide_eq_true h]; simp; omega
    · rw [decide_eq_false h]; simp; omega
  have HWH := Lib.hid (fun (h : a + n < x.size) => show bothS (ciS x) = false by rw [N3.out HZ.out]; exact decide_eq_false (by omega))
  generalize bothS (ciS x) = wh at *
  have N4 := Lib.hid (fun hd h0 => N4.out _ HZ.out hd h0)
  have N5 := Lib.hid (fun hd h0 => N5.out _ HZ.out hd h0)
  have N6 := Lib.hid (fun hd => N6.out _ HZ.out hd)
  generalize numS x = nb at *
  clear hz
  go_upto_region 9 with fail
  go_cut [50] (fun q wx => q = .bool (J.is x (a + n) 0 46) ∧ w = wx)
  case first =>
    by_cases h1 : a + n < x.size
    · have t1 : decide (((a : Int) + (n : Int)) < (x.size : Int)) = true := decide_eq_true (by omega)
      have hx := J.at_byte h1
      have hi46 := is_at h1 46
      generalize (x.get! (a + n)).toNat = b at *
      by_cases h46 : b = 46
      · have t46 : ((b : Int) == 46) = true := by simp; omega
        have HI := Lib.hid (show (J.is x (a + n) 0 46) = true by rw [hi46, decide_eq_true h46])
        clear hi46 h46
        go_wp2_with fail
        go_meet
        case rel => exact ⟨by rw [HI.out], rfl⟩
      · have t46 : ((b : Int) == 46) = false := by simp; omega
        have HI := Lib.hid (show (J.is x (a + n) 0 46) = false by rw [hi46, decide_eq_false h46])
        clear hi46 h46
        go_wp2_with fail
        go_meet
        case rel => exact ⟨by rw [HI.out], rfl⟩
    · have t1 : decide (((a : Int) + (n : Int)) < (x.size : Int)) = false := decide_eq_false (by omega)
      have HI := Lib.hid (show (J.is x (a + n) 0 46) = false by rw [J.is_no_end 0 46 h1])
      clear h1
      go_wp2_with fail
      go_meet
      case rel => exact ⟨by rw [HI.out], rfl⟩
  case rest =>
  obtain ⟨rfl, rfl⟩ := hcut
  go_upto_if 50 with fail
  have hD2 := fun (h : a + n < x.size) => HD.out (a + n + 1) (by omega)
  have hl2 := fun (h : a + n < x.size) => J.dg_le (s := x) (p := a + n + 1) (by omega)
  go_cut [4] (fun q wx => ∃ r : Nat, q = .int .i64 r ∧ r ≤ x.size ∧ Hid (a + n ≤ r ∧ nb = decide (J.n4 x (r, 0) = (x.size, 0))) ∧ w = wx)
  case first =>
    cases hb : J.is x (a + n) 0 46
    · have HB := Lib.hid (N6.out hb)
      clear hb hD2 hl2
      go_wp2_with fail
      go_meet
      case rel => exact ⟨a + n, by push_cast; rfl, by have := HL.out; omega, Lib.hid ⟨Nat.le_refl _, HB.out⟩, rfl⟩
    · have hlt := (J.of_is hb).2.1
      have hdg := hD2 hlt
      have hle := hl2 hlt
      have HB4 := Lib.hid (N4.out hb)
      have HB5 := Lib.hid (N5.out hb)
      have HW := Lib.hid (HWH.out hlt)
      clear hb hD2 hl2
      generalize hq : J.dg x (a + n + 1) = q at *
      obtain ⟨m, rfl⟩ : ∃ m, q = a + n + 1 + m := ⟨q - (a + n + 1), by omega⟩
      rw [Nat.add_sub_cancel_left] at hdg
      have hle2 := hle.2
      have HL := Lib.hid hle
      simp only [Int.natCast_add, Int.cast_ofNat_Int] at hdg
      clear hle hq hlt
      go_wp2_with fail
      refine hdg.mono ?_
      rintro e w1 ⟨rfl, hw1⟩
      have hw2 := hw1.symm
      subst hw2
      clear hdg hw1
      by_cases hm : m = 0
      · subst hm
        have HN := Lib.hid (HB4.out rfl)
        go_wp2_with fail
        go_ret2
        exact ⟨by rw [HN.out, HW.out]; rfl, rfl⟩
      · have hm0 : ((m : Int) == 0) = false := by simp; omega
        have HN := Lib.hid (HB5.out (by omega))
        clear hm
        go_wp2_with fail
        go_meet
        case rel => exact ⟨a + n + 1 + m, by push_cast; rfl, hle2, Lib.hid ⟨by omega, HN.out⟩, rfl⟩
  case rest =>
  obtain ⟨r, rfl, hr, HR, rfl⟩ := hcut
  clear hD2 hl2
  have hrz : ((r : Int) == (x.size : Int)) = decide (r = x.size) := by
    by_cases h : r = x.size
    · rw [decide_eq_true h]; simp; omega
    · rw [decide_eq_false h]; simp; omega
  go_upto_region 14 with fail
  go_cut [76] (fun q wx => q = .bool (J.is x (r) 0 101 || J.is x (r) 0 69) ∧ w = wx)
  case first =>
    by_cases h1 : r < x.size
    · have t1 : decide ((r : Int) < (x.size : Int)) = true := decide_eq_true (by omega)
      have t0 : decide (r < x.size) = true := decide_eq_true h1
      have hx := J.at_byte h1
      have hi101 := is_at h1 101
      have hi69 := is_at h1 69
      generalize (x.get! (r)).toNat = b at *
      by_cases h101 : b = 101
      · have t101 : ((b : Int) == 101) = true := by simp; omega
        have h69 : ¬ b = 69 := by omega
        have HI := Lib.hid (show (J.is x (r) 0 101 || J.is x (r) 0 69) = true by rw [hi101, decide_eq_true h101, hi69, decide_eq_false h69]; rfl)
        clear hi101 h101 hi69 h69
        go_wp2_with fail
        go_meet
        case rel => exact ⟨by rw [HI.out], rfl⟩
      · have t101 : ((b : Int) == 101) = false := by simp; omega
        by_cases h69 : b = 69
        · have t69 : ((b : Int) == 69) = true := by simp; omega
          have HI := Lib.hid (show (J.is x (r) 0 101 || J.is x (r) 0 69) = true by rw [hi101, decide_eq_false h101, hi69, decide_eq_true h69]; rfl)
          clear hi101 h101 hi69 h69
          go_wp2_with fail
          go_meet
          case rel => exact ⟨by rw [HI.out], rfl⟩
        · have t69 : ((b : Int) == 69) = false := by simp; omega
          have HI := Lib.hid (show (J.is x (r) 0 101 || J.is x (r) 0 69) = false by rw [hi101, decide_eq_false h101, hi69, decide_eq_false h69]; rfl)
          clear hi101 h101 hi69 h69
          go_wp2_with fail
          go_meet
          case rel => exact ⟨by rw [HI.out], rfl⟩
    · have t1 : decide ((r : Int) < (x.size : Int)) = false := decide_eq_false (by omega)
      have t0 : decide (r < x.size) = false := decide_eq_false h1
      have HI := Lib.hid (show (J.is x (r) 0 101 || J.is x (r) 0 69) = false by rw [J.is_no_end 0 101 h1, J.is_no_end 0 69 h1]; rfl)
      clear h1
      go_wp2_with fail
      go_meet
      case rel => exact ⟨by rw [HI.out], rfl⟩
  case rest =>
  obtain ⟨rfl, rfl⟩ := hcut
  cases hb : (J.is x r 0 101 || J.is x r 0 69)
  · have HB := Lib.hid (show nb = decide (r = x.size) from HR.out.2.trans (pow_no (by cases h : J.is x r 0 101; rfl; rw [h] at hb; cases hb) (by cases h : J.is x r 0 69; rfl; rw [h, Bool.or_true] at hb; cases hb)))
    clear hb
    generalize decide (r = x.size) = rz at *
    go_wp2_with fail
    go_ret2
    exact ⟨by rw [HB.out]; rfl, rfl⟩
  · have hlt := J.is2_lt hb
    have HB1 := Lib.hid (fun h0 => HR.out.2.trans (pow_none hb h0))
    have HB2 := Lib.hid (fun h0 => HR.out.2.trans (pow_some hb h0))
    have HW := Lib.hid (HWH.out (by have := HR.out.1; omega))
    have hsl := J.sg_le (s := x) (p := r + 1) 0 hlt
    have HSG := Lib.hid (show J.sg x (r + 1) 0 = if (J.is x (r + 1) 0 43 || J.is x (r + 1) 0 45) = true then r + 1 + 1 else r + 1 from rfl)
    generalize J.sg x (r + 1) 0 = u at *
    clear hb hrz
    go_upto_region 16 with fail
    go_cut [94] (fun q wx => q = .bool (J.is x (r + 1) 0 43 || J.is x (r + 1) 0 45) ∧ w = wx)
    case first =>
      by_cases h1 : r + 1 < x.size
      · have t1 : decide (((r : Int) + 1) < (x.size : Int)) = true := decide_eq_true (by omega)
        have hx := J.at_byte h1
        have hi43 := is_at h1 43
        have hi45 := is_at h1 45
        generalize (x.get! (r + 1)).toNat = b at *
        by_cases h43 : b = 43
        · have t43 : ((b : Int) == 43) = true := by simp; omega
          have h45 : ¬ b = 45 := by omega
          have HI := Lib.hid (show (J.is x (r + 1) 0 43 || J.is x (r + 1) 0 45) = true by rw [hi43, decide_eq_true h43, hi45, decide_eq_false h45]; rfl)
          clear hi43 h43 hi45 h45
          go_wp2_with fail
          go_meet
          case rel => exact ⟨by rw [HI.out], rfl⟩
        · have t43 : ((b : Int) == 43) = false := by simp; omega
          by_cases h45 : b = 45
          · have t45 : ((b : Int) == 45) = true := by simp; omega
            have HI := Lib.hid (show (J.is x (r + 1) 0 43 || J.is x (r + 1) 0 45) = true by rw [hi43, decide_eq_false h43, hi45, decide_eq_true h45]; rfl)
            clear hi43 h43 hi45 h45
            go_wp2_with fail
            go_meet
            case rel => exact ⟨by rw [HI.out], rfl⟩
          · have t45 : ((b : Int) == 45) = false := by simp; omega
            have HI := Lib.hid (show (J.is x (r + 1) 0 43 || J.is x (r + 1) 0 45) = false by rw [hi43, decide_eq_false h43, hi45, decide_eq_false h45]; rfl)
            clear hi43 h43 hi45 h45
            go_wp2_with fail
            go_meet
            case rel => exact ⟨by rw [HI.out], rfl⟩
      · have t1 : decide (((r : Int) + 1) < (x.size : Int)) = false := decide_eq_false (by omega)
        have HI := Lib.hid (show (J.is x (r + 1) 0 43 || J.is x (r + 1) 0 45) = false by rw [J.is_no_end 0 43 h1, J.is_no_end 0 45 h1]; rfl)
        clear h1
        go_wp2_with fail
        go_meet
        case rel => exact ⟨by rw [HI.out], rfl⟩
    case rest =>
    obtain ⟨rfl, rfl⟩ := hcut
    go_upto_if 94 with fail
    go_cut [4] (fun q wx => q = .int .i64 u ∧ w = wx)
    case first =>
      cases hb : (J.is x (r + 1) 0 43 || J.is x (r + 1) 0 45)
      · have HU := Lib.hid (show u = r + 1 by rw [HSG.out, hb]; rfl)
        clear hb
        go_wp2_with fail
        go_meet
        case rel => exact ⟨by rw [HU.out]; push_cast; rfl, rfl⟩
      · have HU := Lib.hid (show u = r + 1 + 1 by rw [HSG.out, hb]; rfl)
        clear hb
        go_wp2_with fail
        go_meet
        case rel => exact ⟨by rw [HU.out]; push_cast; rfl, rfl⟩
    case rest =>
    obtain ⟨rfl, rfl⟩ := hcut
    have hdg := HD.out u hsl.2
    have hle := J.dg_le (s := x) hsl.2
    generalize hq : J.dg x u = q at *
    obtain ⟨m, rfl⟩ : ∃ m, q = u + m := ⟨q - u, by omega⟩
    rw [Nat.add_sub_cancel_left] at hdg
    have hle2 := hle.2
    have HL2 := Lib.hid (And.intro hle hsl)
    clear hle hq hsl
    go_wp2_with fail
    refine hdg.mono ?_
    rintro e w1 ⟨rfl, hw1⟩
    have hw2 := hw1.symm
    subst hw2
    clear hdg hw1
    by_cases hm : m = 0
    · subst hm
      have HN := Lib.hid (HB1.out rfl)
      go_wp2_with fail
      go_ret2
      exact ⟨by rw [HN.out, HW.out]; rfl, rfl⟩
    · have hm0 : ((m : Int) == 0) = false := by simp; omega
      have HN := Lib.hid (HB2.out (by omega))
      have hrz : ((u : Int) + (m : Int) == (x.size : Int)) = decide (u + m = x.size) := by
        by_cases h : u + m = x.size
        · rw [decide_eq_true h]; simp; omega
        · rw [decide_eq_false h]; simp; omega
      generalize decide (u + m = x.size) = rz at *
      clear hm
      go_wp2_with fail
      go_ret2
      exact ⟨by rw [HN.out]; rfl, rfl⟩
end Go.Proofs.YtoolkaahjmnjeaaGreatDoor

namespace Go.Proofs.YtoolkaahjmnjeaaGreatDoor
open Go Go.RowKit Go.Lib

set_option maxHeartbeats 400000 in
set_option maxRecDepth 100000 in
theorem refValid_any (s : ByteArray) (w : World) (hs : s.size ≤ 1000000000000) :
    Calls Tryz.prog 103 #[.string s] w (Bools (U.valid s) w) := by
  go_enter Tryz.func103, Tryz.ntmps103
  go_wp2_with fail
  go_loopw [3] (fun p wr => ∃ f pos : Nat, p = .int .i64 pos ∧ pos ≤ s.size ∧ Hid (U.vFrom s f pos = U.valid s ∧ s.size ≤ pos + f) ∧ Below w.heap.size w wr) (fun p _ => s.size - (RowKit.intOf p).toNat)
  case atStart => exact ⟨s.size, 0, rfl, by omega, Lib.hid ⟨rfl, by omega⟩, Below.refl _ _⟩
  case round =>
    obtain ⟨f, pos, rfl, hp, HU, hbl⟩ := hrel
    by_cases hlt : pos < s.size
    · have hw1 := U.wd_pos hlt
      have hw2 := U.wd_le hlt
      obtain ⟨f', rfl⟩ : ∃ f', f = f' + 1 := ⟨f - 1, by have := HU.out.2; omega⟩
      cases hbad : U.bad s pos
      · have hc := fun W => refNext_good s pos W hlt hs hbad
        have HS := Lib.hid (U.vFrom_step s f' pos hlt hbad)
        clear hbad
        generalize U.wd s pos = d at *
        generalize U.ch s pos = c at *
        go_wp2_with fail
        refine (hc _).mono ?_
        rintro e w' ⟨rfl, hb⟩
        go_wp2_with fail
        go_roundw
        case rel =>
          refine ⟨f', pos + d, by go_num, by omega, Lib.hid ⟨?_, ?_⟩, hbl.trans (hb.mono hbl.size)⟩
          · rw [← HS.out]; exact HU.out.1
          · have := HU.out.2; omega
        case measure => simp [RowKit.intOf]; omega
      · have hc := fun W => refNext_bad s pos W hlt hs hbad
        have HS := Lib.hid (U.vFrom_bad s f' pos hlt hbad)
        clear hbad
        go_wp2_with fail
        refine (hc _).mono ?_
        rintro e w' ⟨rfl, hb⟩
        go_wp2_with fail
        go_ret
        refine ⟨?_, hbl.trans (hb.mono hbl.size)⟩
        rw [← HU.out.1, HS.out]
        rfl
    · go_wp2_with fail
      go_ret
      refine ⟨?_, hbl⟩
      rw [← HU.out.1, U.vFrom_end s f pos hlt]
      rfl
end Go.Proofs.YtoolkaahjmnjeaaGreatDoor
