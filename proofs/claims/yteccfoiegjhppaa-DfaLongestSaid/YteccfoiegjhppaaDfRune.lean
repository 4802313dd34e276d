/- A character's class, the program's own: a sign is looked up by its rune. Conditions: such runes as a string has. -/
import Derived.Test.YteccfoiegjhppaaDfStep
import Derived.Test.YteccfoiegjhppaaDfLays
import Derived.Shelf.Strings.Runes
import Derived.Laws.Runes
import Derived.Lib.OthersKept
import Derived.IntWalk
import Derived.Shelf.Small.Strs
namespace Go.Proofs
open Go Go.RowKit Go.Lib
namespace Yteccfoiegjhppaa
theorem indexByte_none (c : UInt8) : ∀ l : List UInt8, (∀ y ∈ l, ¬ y = c) → Lib.indexByte l c = -1
  | [], _ => rfl
  | b :: r, h => by
    unfold Lib.indexByte
    have h1 : ¬ b = c := h b (by simp)
    rw [indexByte_none c r (fun y hy => h y (by simp [hy]))]
    simp [h1]
def ASome (w : World) (e : Ending) (w' : World) : Prop := ∃ b, e = .returned (.bool b) ∧ w = w'
set_option maxRecDepth 100000 in
set_option maxHeartbeats 400000 in
theorem validRune_hi (x : Nat) (hx : x ≤ 1114111) (w : World) : Calls Try.prog 23 #[.int .i32 x] w (fun e w' => e = .returned (.bool (Utf8.valid (x : Int))) ∧ w = w') := by
  have hv : Utf8.valid (x : Int) = (decide (x < 55296) || decide (57343 < x)) := by
    unfold Utf8.valid
    rw [Bool.eq_iff_iff]
    simp
    omega
  rw [hv]
  have e0 : decide ((0 : Int) ≤ (x : Int)) = true := decide_eq_true (by omega)
  have e3 : decide ((x : Int) ≤ 1114111) = true := decide_eq_true (by omega)
  by_cases h1 : x < 55296
  · have e1 : decide ((x : Int) < 55296) = true := decide_eq_true (by omega)
    rw [decide_eq_true h1]
    go_enter Try.func23, Try.ntmps23
    go_wp2_with fail
    go_ret
    exact ⟨rfl, rfl⟩
  · have e1 : decide ((x : Int) < 55296) = false := decide_eq_false (by omega)
    rw [decide_eq_false h1]
    by_cases h2 : 57343 < x
    · have e2 : decide ((57343 : Int) < (x : Int)) = true := decide_eq_true (by omega)
      rw [decide_eq_true h2]
      clear h1 h2 hv
      go_enter Try.func23, Try.ntmps23
      go_wp2_with fail
      go_ret
      exact ⟨rfl, rfl⟩
    · have e2 : decide ((57343 : Int) < (x : Int)) = false := decide_eq_false (by omega)
      rw [decide_eq_false h2]
      clear h1 h2 hv
      go_enter Try.func23, Try.ntmps23
      go_wp2_with fail
      go_ret
      exact ⟨rfl, rfl⟩
def NoneB (w : World) (e : Ending) (w' : World) : Prop := e = .returned (.int .i64 (-1)) ∧ Below w.heap.size w w'
theorem below_drewN (w : World) (n : Nat) : Below w.heap.size w (w.drewN n) := ⟨rfl, rfl, rfl, Nat.le_refl _, fun _ _ => rfl⟩
set_option maxRecDepth 100000 in
set_option maxHeartbeats 1000000 in
theorem idxSign_fffd (w : World) : Calls Try.prog 19 #[.string ⟨#[34, 92, 47, 42, 61, 33, 60, 62, 38, 124, 40, 41, 123, 125, 44, 59, 43, 45, 37]⟩, .int .i32 65533] w (NoneB w) := by
  go_enter Try.func19, Try.ntmps19
  go_wp2_with fail
  go_loopw [] (fun wr => ∃ pos : Nat, Hid (wr.heap[w.heap.size]? = some (.stringIter ⟨#[34, 92, 47, 42, 61, 33, 60, 62, 38, 124, 40, 41, 123, 125, 44, 59, 43, 45, 37]⟩ pos)) ∧ pos ≤ 19 ∧ Below w.heap.size w wr) (fun wr => 19 - wr.iterPos w.heap.size)
  case atStart => exact ⟨0, Lib.hid (World.iter_heap _ _ _), by omega, (Below.refl w.heap.size w).alloc (Nat.le_refl _) _⟩
  case round =>
    obtain ⟨pos, HI, hp, hbl⟩ := hrel
    have HM := Lib.hid (iterPos_of HI.out)
    by_cases hlt : pos < 19
    · have hch : U.ch ⟨#[34, 92, 47, 42, 61, 33, 60, 62, 38, 124, 40, 41, 123, 125, 44, 59, 43, 45, 37]⟩ pos < 128 ∧ U.wd ⟨#[34, 92, 47, 42, 61, 33, 60, 62, 38, 124, 40, 41, 123, 125, 44, 59, 43, 45, 37]⟩ pos = 1 := by
        have : ∀ p : Fin 19, U.ch ⟨#[34, 92, 47, 42, 61, 33, 60, 62, 38, 124, 40, 41, 123, 125, 44, 59, 43, 45, 37]⟩ p.1 < 128 ∧ U.wd ⟨#[34, 92, 47, 42, 61, 33, 60, 62, 38, 124, 40, 41, 123, 125, 44, 59, 43, 45, 37]⟩ p.1 = 1 := by decide +kernel
        exact this ⟨pos, hlt⟩
      have hnx : ∀ ty, (Instr.next (.pointer (some ⟨w.heap.size, 0, none⟩)) true ty).run Try.prog wr = .ok (.tuple #[.bool true, .int .i64 pos, .int .i32 (U.ch ⟨#[34, 92, 47, 42, 61, 33, 60, 62, 38, 124, 40, 41, 123, 125, 44, 59, 43, 45, 37]⟩ pos)]) (wr.iterAt w.heap.size ⟨#[34, 92, 47, 42, 61, 33, 60, 62, 38, 124, 40, 41, 123, 125, 44, 59, 43, 45, 37]⟩ (pos + U.wd ⟨#[34, 92, 47, 42, 61, 33, 60, 62, 38, 124, 40, 41, 123, 125, 44, 59, 43, 45, 37]⟩ pos)) := fun ty => Lib.run_next_any_at wr _ ⟨#[34, 92, 47, 42, 61, 33, 60, 62, 38, 124, 40, 41, 123, 125, 44, 59, 43, 45, 37]⟩ pos ty HI.out hlt
      rw [hch.2] at hnx
      have hI1 := Lib.hid (Lib.iterAt_heap wr _ ⟨#[34, 92, 47, 42, 61, 33, 60, 62, 38, 124, 40, 41, 123, 125, 44, 59, 43, 45, 37]⟩ pos (pos + 1) HI.out)
      have hbl1 := Lib.below_iterAt hbl (Nat.le_refl _) ⟨#[34, 92, 47, 42, 61, 33, 60, 62, 38, 124, 40, 41, 123, 125, 44, 59, 43, 45, 37]⟩ (pos + 1)
      have hc := hch.1
      clear hch
      generalize U.ch ⟨#[34, 92, 47, 42, 61, 33, 60, 62, 38, 124, 40, 41, 123, 125, 44, 59, 43, 45, 37]⟩ pos = c at *
      have ec : ((c : Int) == 65533) = false := by simp; omega
      have HM3 := Lib.hid (iterPos_of hI1.out)
      have HLT := Lib.hid hlt
      clear hbl hc
      go_wp2_with fail
      go_roundw
      case rel => exact ⟨pos + 1, hI1, by have := HLT.out; omega, hbl1⟩
      case measure => rw [HM3.out, HM.out]; have := HLT.out; omega
    · have hnx : ∀ ty, (Instr.next (.pointer (some ⟨w.heap.size, 0, none⟩)) true ty).run Try.prog wr = _ := fun ty => Lib.run_next_end_at wr _ ⟨#[34, 92, 47, 42, 61, 33, 60, 62, 38, 124, 40, 41, 123, 125, 44, 59, 43, 45, 37]⟩ pos ty HI.out hlt
      go_wp2_with fail
      go_ret
      exact ⟨rfl, hbl⟩
set_option maxRecDepth 100000 in
set_option maxHeartbeats 2000000 in
theorem idxSign_hi (x : Nat) (h : 128 ≤ x) (hx : x ≤ 1114111) (w : World) : Calls Try.prog 19 #[.string ⟨#[34, 92, 47, 42, 61, 33, 60, 62, 38, 124, 40, 41, 123, 125, 44, 59, 43, 45, 37]⟩, .int .i32 x] w (NoneB w) := by
  by_cases hf : x = 65533
  · subst hf; exact idxSign_fffd w
  · have e1 : decide ((x : Int) < 128) = false := decide_eq_false (by omega)
    have e0 : decide ((0 : Int) ≤ (x : Int)) = true := decide_eq_true (by omega)
    have hvr := validRune_hi x hx
    have e2 : ((x : Int) == 65533) = false := by simp; omega
    cases hv : Utf8.valid (x : Int)
    · rw [hv] at hvr
      go_enter Try.func19, Try.ntmps19
      go_wp2_with fail
      refine (hvr _).mono ?_
      rintro e w' ⟨rfl, rfl⟩
      go_wp2_with fail
      go_ret
      exact ⟨rfl, Below.refl _ _⟩
    · rw [hv] at hvr
      obtain ⟨g1, g2, g3⟩ := encode_facts (x : Int) hv (by omega)
      have hcv := fun W : World => run_convert_int_string (P := Try.prog) W 21 9 .i32 (x : Int) (by rw [Try.underlying21]; rfl) Try.underlying9
      generalize Utf8.encode (x : Int) = rs at *
      rcases (show rs.size = 2 ∨ rs.size = 3 ∨ rs.size = 4 by omega) with hz | hz | hz
      · have hlt1 : 1 < rs.size := by omega
        have hb3 : 128 ≤ (rs[1]'hlt1).toNat := by
          have e : rs.size - 1 = 1 := by omega
          have := g3 (by omega)
          simpa only [e] using this
        obtain ⟨b, hb⟩ : ∃ b : UInt8, rs[1]'hlt1 = b := ⟨_, rfl⟩
        rw [hb] at hb3
        have hnb : (((92 : Nat) : Int) != (b.toNat : Int)) = true := by simp; omega
        have hnb2 : ((92 : Int) != (b.toNat : Int)) = true := by simp; omega
        have hlast : IntKind.i64.wrap ((rs.size : Int) - 1) = 1 := by rw [hz]; rfl
        have hnb3 : ((((⟨#[34, 92, 47, 42, 61, 33, 60, 62, 38, 124, 40, 41, 123, 125, 44, 59, 43, 45, 37]⟩ : ByteArray)[1]'(by decide)).toNat : Int) != (b.toNat : Int)) = true := hnb2
        have hib := fun W => Any.strings_IndexByte Try.laysIndexByte ((⟨#[34, 92, 47, 42, 61, 33, 60, 62, 38, 124, 40, 41, 123, 125, 44, 59, 43, 45, 37]⟩ : ByteArray).extract 2 19) (b.toNat : Int) W
        change ∀ W, Calls Try.prog 22 _ _ _ at hib
        have hib0 : Lib.indexByte ((⟨#[34, 92, 47, 42, 61, 33, 60, 62, 38, 124, 40, 41, 123, 125, 44, 59, 43, 45, 37]⟩ : ByteArray).extract 2 19).data.toList (b.toNat : Int).toNat.toUInt8 = -1 := by
          refine indexByte_none _ _ (fun y hy e => ?_)
          have hy2 : y.toNat < 128 := by
            have : ∀ z ∈ ((⟨#[34, 92, 47, 42, 61, 33, 60, 62, 38, 124, 40, 41, 123, 125, 44, 59, 43, 45, 37]⟩ : ByteArray).extract 2 19).data.toList, z.toNat < 128 := by decide +kernel
            exact this y hy
          have e2 := congrArg UInt8.toNat e
          rw [Int.toNat_natCast] at e2
          rw [show (b.toNat.toUInt8).toNat = b.toNat from Nat.mod_eq_of_lt b.toNat_lt] at e2
          omega
        rw [hib0] at hib
        clear g3
        go_enter Try.func19, Try.ntmps19
        go_wp2_with fail
        refine (hvr _).mono ?_
        rintro e w' ⟨rfl, rfl⟩
        go_wp2_with fail
        go_step3
        go_wp2_with fail
        refine wp_loop_rounds 2 ?_
        clear hvr hcv e0 e1 e2 hf hx h hv
        rw [rounds_succ]
        go_wp2_with fail
        go_step3
        go_wp2_with fail
        go_quiet (fail)
        obtain ⟨q1, hq1⟩ : ∃ q1, q1 = nq := ⟨_, rfl⟩
        subst hq1
        go_wp2_with fail
        go_quiet ((go_at_call 22; refine (hib _).mono ?_; rintro _ _ ⟨rfl, rfl⟩; exact ⟨rfl, _, rfl⟩))
        go_wp2_with fail
        rw [Exit.noGoto_ret]
        change Exit.noGoto _ Exit.ret _ _
        rw [Exit.noGoto_ret]
        go_ret
        exact ⟨rfl, below_drewN _ _⟩
      · have hlt1 : 2 < rs.size := by omega
        have hb3 : 128 ≤ (rs[2]'hlt1).toNat := by
          have e : rs.size - 1 = 2 := by omega
          have := g3 (by omega)
          simpa only [e] using this
        obtain ⟨b, hb⟩ : ∃ b : UInt8, rs[2]'hlt1 = b := ⟨_, rfl⟩
        rw [hb] at hb3
        have hnb : (((47 : Nat) : Int) != (b.toNat : Int)) = true := by simp; omega
        have hnb2 : ((47 : Int) != (b.toNat : Int)) = true := by simp; omega
        have hlast : IntKind.i64.wrap ((rs.size : Int) - 1) = 2 := by rw [hz]; rfl
        have hnb3 : ((((⟨#[34, 92, 47, 42, 61, 33, 60, 62, 38, 124, 40, 41, 123, 125, 44, 59, 43, 45, 37]⟩ : ByteArray)[2]'(by decide)).toNat : Int) != (b.toNat : Int)) = true := hnb2
        have hib := fun W => Any.strings_IndexByte Try.laysIndexByte ((⟨#[34, 92, 47, 42, 61, 33, 60, 62, 38, 124, 40, 41, 123, 125, 44, 59, 43, 45, 37]⟩ : ByteArray).extract 3 19) (b.toNat : Int) W
        change ∀ W, Calls Try.prog 22 _ _ _ at hib
        have hib0 : Lib.indexByte ((⟨#[34, 92, 47, 42, 61, 33, 60, 62, 38, 124, 40, 41, 123, 125, 44, 59, 43, 45, 37]⟩ : ByteArray).extract 3 19).data.toList (b.toNat : Int).toNat.toUInt8 = -1 := by
          refine indexByte_none _ _ (fun y hy e => ?_)
          have hy2 : y.toNat < 128 := by
            have : ∀ z ∈ ((⟨#[34, 92, 47, 42, 61, 33, 60, 62, 38, 124, 40, 41, 123, 125, 44, 59, 43, 45, 37]⟩ : ByteArray).extract 3 19).data.toList, z.toNat < 128 := by decide +kernel
            exact this y hy
          have e2 := congrArg UInt8.toNat e
          rw [Int.toNat_natCast] at e2
          rw [show (b.toNat.toUInt8).toNat = b.toNat from Nat.mod_eq_of_lt b.toNat_lt] at e2
          omega
        rw [hib0] at hib
        clear g3
        go_enter Try.func19, Try.ntmps19
        go_wp2_with fail
        refine (hvr _).mono ?_
        rintro e w' ⟨rfl, rfl⟩
        go_wp2_with fail
        go_step3
        go_wp2_with fail
        refine wp_loop_rounds 2 ?_
        clear hvr hcv e0 e1 e2 hf hx h hv
        rw [rounds_succ]
        go_wp2_with fail
        go_step3
        go_wp2_with fail
        go_quiet (fail)
        obtain ⟨q1, hq1⟩ : ∃ q1, q1 = nq := ⟨_, rfl⟩
        subst hq1
        go_wp2_with fail
        go_quiet ((go_at_call 22; refine (hib _).mono ?_; rintro _ _ ⟨rfl, rfl⟩; exact ⟨rfl, _, rfl⟩))
        go_wp2_with fail
        rw [Exit.noGoto_ret]
        change Exit.noGoto _ Exit.ret _ _
        rw [Exit.noGoto_ret]
        go_ret
        exact ⟨rfl, below_drewN _ _⟩
      · have hlt1 : 3 < rs.size := by omega
        have hb3 : 128 ≤ (rs[3]'hlt1).toNat := by
          have e : rs.size - 1 = 3 := by omega
          have := g3 (by omega)
          simpa only [e] using this
        obtain ⟨b, hb⟩ : ∃ b : UInt8, rs[3]'hlt1 = b := ⟨_, rfl⟩
        rw [hb] at hb3
        have hnb : (((42 : Nat) : Int) != (b.toNat : Int)) = true := by simp; omega
        have hnb2 : ((42 : Int) != (b.toNat : Int)) = true := by simp; omega
        have hlast : IntKind.i64.wrap ((rs.size : Int) - 1) = 3 := by rw [hz]; rfl
        have hnb3 : ((((⟨#[34, 92, 47, 42, 61, 33, 60, 62, 38, 124, 40, 41, 123, 125, 44, 59, 43, 45, 37]⟩ : ByteArray)[3]'(by decide)).toNat : Int) != (b.toNat : Int)) = true := hnb2
        have hib := fun W => Any.strings_IndexByte Try.laysIndexByte ((⟨#[34, 92, 47, 42, 61, 33, 60, 62, 38, 124, 40, 41, 123, 125, 44, 59, 43, 45, 37]⟩ : ByteArray).extract 4 19) (b.toNat : Int) W
        change ∀ W, Calls Try.prog 22 _ _ _ at hib
        have hib0 : Lib.indexByte ((⟨#[34, 92, 47, 42, 61, 33, 60, 62, 38, 124, 40, 41, 123, 125, 44, 59, 43, 45, 37]⟩ : ByteArray).extract 4 19).data.toList (b.toNat : Int).toNat.toUInt8 = -1 := by
          refine indexByte_none _ _ (fun y hy e => ?_)
          have hy2 : y.toNat < 128 := by
            have : ∀ z ∈ ((⟨#[34, 92, 47, 42, 61, 33, 60, 62, 38, 124, 40, 41, 123, 125, 44, 59, 43, 45, 37]⟩ : ByteArray).extract 4 19).data.toList, z.toNat < 128 := by decide +kernel
            exact this y hy
          have e2 := congrArg UInt8.toNat e
          rw [Int.toNat_natCast] at e2
          rw [show (b.toNat.toUInt8).toNat = b.toNat from Nat.mod_eq_of_lt b.toNat_lt] at e2
          omega
        rw [hib0] at hib
        clear g3
        go_enter Try.func19, Try.ntmps19
        go_wp2_with fail
        refine (hvr _).mono ?_
        rintro e w' ⟨rfl, rfl⟩
        go_wp2_with fail
        go_step3
        go_wp2_with fail
        refine wp_loop_rounds 2 ?_
        clear hvr hcv e0 e1 e2 hf hx h hv
        rw [rounds_succ]
        go_wp2_with fail
        go_step3
        go_wp2_with fail
        go_quiet (fail)
        obtain ⟨q1, hq1⟩ : ∃ q1, q1 = nq := ⟨_, rfl⟩
        subst hq1
        go_wp2_with fail
        go_quiet ((go_at_call 22; refine (hib _).mono ?_; rintro _ _ ⟨rfl, rfl⟩; exact ⟨rfl, _, rfl⟩))
        go_wp2_with fail
        rw [Exit.noGoto_ret]
        change Exit.noGoto _ Exit.ret _ _
        rw [Exit.noGoto_ret]
        go_ret
        exact ⟨rfl, below_drewN _ _⟩
end Yteccfoiegjhppaa
end Go.Proofs
