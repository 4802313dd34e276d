/- DfaLongest: what is cut is of its kind, and no longer beginning is of any kind. Conditions: a string such as an argument can be. -/
import Derived.Test.YteccfoiegjhppaaDlKind
import Derived.Test.YteccfoiegjhppaaDfScan
import Derived.Test.YteccfoiegjhppaaDfAwake
namespace Go.Proofs
open Go Go.RowKit Go.Lib
namespace Yteccfoiegjhppaa
def TrueIs (w : World) (e : Ending) (w' : World) : Prop := e = .returned (.bool true) ∧ Below w.heap.size w w'
theorem box_new (w1 : World) (a b c : Int) : TokRow (w1.alloc (.cells #[.int .u8 a, .int .i64 b, .int .i64 c] 24)) w1.heap.size a b c := heap_alloc_new w1 _
set_option maxHeartbeats 12000000 in
set_option maxRecDepth 100000 in
theorem longest_any (s : ByteArray) (p : Int) (hs : s.size ≤ 1000000000000000) (_hp : -9223372036854775808 ≤ p ∧ p ≤ 9223372036854775807) (w : World) : Calls Try.prog 3 #[.string s, .int .i64 p] w (TrueIs w) := by
  have HA := Lib.hid awake11_any
  have HO := Lib.hid (fun h W => scan_out s p h hs W)
  have HI := Lib.hid (fun (n : Nat) (h : n < s.size) W => scan_any s n h hs W)
  have HKd := Lib.hid (fun (x : ByteArray) (b : Bool) (h : 0 < x.size) (hx : x.size ≤ 1000000000000) W => kin9_any x b h hx W)
  go_enter Try.func3, Try.ntmps3
  go_wp2_with fail
  refine (HA.out _).mono ?_
  rintro e W0 ⟨rfl, hb0⟩
  have HB0 := Lib.hid hb0
  clear hb0
  by_cases hout : p < 0 ∨ (s.size : Int) ≤ p
  · have ho := fun W => HO.out hout W
    go_wp2_with fail
    refine (ho _).mono ?_
    rintro e w1 ⟨rfl, hb1⟩
    go_upto_region 4 with fail
    have r1 := box_new w1 0 0 0
    have b1 := (HB0.out.trans (hb1.mono HB0.out.size)).alloc (Nat.le_trans HB0.out.size hb1.size) (.cells #[.int .u8 0, .int .i64 0, .int .i64 0] 24)
    have HBB := Lib.hid b1
    generalize w1.alloc _ = W1 at *
    generalize w1.heap.size = N1 at *
    clear b1 hb1
    have z0 : W1.cell? ⟨N1, 0, none⟩ = some (.int .u8 0) := by rw [Lib.cell_of_heap r1]; rfl
    have z1 : W1.cell? ⟨N1, 1, none⟩ = some (.int .i64 0) := by rw [Lib.cell_of_heap r1]; rfl
    have z2 : W1.cell? ⟨N1, 2, none⟩ = some (.int .i64 0) := by rw [Lib.cell_of_heap r1]; rfl
    clear r1
    by_cases hp0 : p < 0
    · have d1 : decide (p < 0) = true := decide_eq_true hp0
      clear hout hp0
      go_wp2_with fail
      go_ret
      exact ⟨rfl, HBB.out⟩
    · have d1 : decide (p < 0) = false := decide_eq_false hp0
      have d2 : decide ((s.size : Int) ≤ p) = true := decide_eq_true (by omega)
      clear hout hp0
      go_wp2_with fail
      go_ret
      exact ⟨rfl, HBB.out⟩
  obtain ⟨n, rfl⟩ : ∃ n : Nat, p = (n : Int) := ⟨p.toNat, by omega⟩
  have hn : n < s.size := by omega
  have hz : (s.extract n s.size).size = s.size - n := by rw [ByteArray.size_extract]; omega
  have hf : 0 < (D.tok (s.extract n s.size)).w ∧ (D.tok (s.extract n s.size)).w ≤ s.size - n := by
    have h1 := D.run_fits (s.extract n s.size)
    exact ⟨(h1.2.2 (by omega)).2, by rw [hz] at h1; exact h1.2.1⟩
  have hi := fun W => HI.out n hn W
  have HW := Lib.hid (D.kk_whole (s.extract n s.size) (by omega))
  have HL := Lib.hid (fun w b => D.kk_longer (s.extract n s.size) w b (by omega))
  generalize D.tok (s.extract n s.size) = t at *
  obtain ⟨tk, tw, tl⟩ := t
  simp only at hf HW HL
  rw [hz] at HW HL
  clear hout HO HI
  have HN := Lib.hid hn
  have HF := Lib.hid hf
  have n1 : n ≤ s.size := by omega
  by_cases hbig : 400 < s.size
  · have e0 : (400 : Int) < (s.size : Int) := by omega
    have e1 : decide ((0 : Int) < (tw : Int)) = true := decide_eq_true (by omega)
    have e2 : decide ((n : Int) + (tw : Int) ≤ (s.size : Int)) = true := decide_eq_true (by omega)
    clear hbig hz HW HL
    go_wp2_with fail
    refine (hi _).mono ?_
    rintro e w1 ⟨rfl, hb1⟩
    go_upto_region 4 with fail
    have r1 := box_new w1 tk tw tl
    have b1 := (HB0.out.trans (hb1.mono HB0.out.size)).alloc (Nat.le_trans HB0.out.size hb1.size) (.cells #[.int .u8 tk, .int .i64 tw, .int .i64 tl] 24)
    have HBB := Lib.hid b1
    generalize w1.alloc _ = W1 at *
    generalize w1.heap.size = N1 at *
    clear b1 hb1
    have z1 : W1.cell? ⟨N1, 1, none⟩ = some (.int .i64 tw) := by rw [Lib.cell_of_heap r1]; rfl
    clear r1
    go_wp2_with fail
    go_ret
    exact ⟨rfl, HBB.out⟩
  have e0 : ¬ (400 : Int) < (s.size : Int) := by omega
  have HK1 := Lib.hid (fun (x : ByteArray) (b : Bool) h hx W => HKd.out x b h hx W)
  have hfr : tw ≤ (s.extract n s.size).size := by rw [hz]; exact hf.2
  have HR0 := Lib.hid (show (s.extract n s.size).size ≤ 400 by omega)
  have HW2 := Lib.hid (show D.kk ((s.extract n s.size).extract 0 tw) (decide (tw = (s.extract n s.size).size)) = tk by rw [hz]; exact HW.out)
  have HL2 := Lib.hid (show ∀ x b, tw < x → x ≤ (s.extract n s.size).size → D.kk ((s.extract n s.size).extract 0 x) b = 0 by rw [hz]; exact fun x b => HL.out x b)
  clear hz hbig HW HL
  go_wp2_with fail
  refine (hi _).mono ?_
  rintro e w1 ⟨rfl, hb1⟩
  go_upto_region 4 with fail
  have r1 := box_new w1 tk tw tl
  have b1 := (HB0.out.trans (hb1.mono HB0.out.size)).alloc (Nat.le_trans HB0.out.size hb1.size) (.cells #[.int .u8 tk, .int .i64 tw, .int .i64 tl] 24)
  have HR1 := Lib.hid r1
  have HB1 := Lib.hid b1
  have HBN := Lib.hid (show w1.heap.size < (w1.alloc (.cells #[.int .u8 tk, .int .i64 tw, .int .i64 tl] 24)).heap.size by rw [World.size_alloc]; omega)
  generalize w1.alloc _ = W1 at *
  generalize w1.heap.size = N1 at *
  clear r1 b1 hb1 hi
  go_upto_region 9 with fail
  generalize s.extract n s.size = r at *
  have hk1 := fun W => HK1.out (r.extract 0 tw) (decide (tw = r.size)) (by rw [ByteArray.size_extract]; have := HF.out; omega) (by rw [ByteArray.size_extract]; have := HR0.out; omega) W
  rw [HW2.out] at hk1
  have HK2 := Lib.hid (fun (x : Nat) (b : Bool) (h1 : tw < x) (h2 : x ≤ r.size) W => (by have := HK1.out (r.extract 0 x) b (by rw [ByteArray.size_extract]; omega) (by rw [ByteArray.size_extract]; have := HR0.out; omega) W; rw [HL2.out x b h1 h2] at this; exact this : Calls Try.prog 6 #[.string (r.extract 0 x), .bool b] W (ByteK 0 W)))
  have z0 : W1.cell? ⟨N1, 0, none⟩ = some (.int .u8 tk) := by rw [Lib.cell_of_heap HR1.out]; rfl
  have z1 : W1.cell? ⟨N1, 1, none⟩ = some (.int .i64 tw) := by rw [Lib.cell_of_heap HR1.out]; rfl
  have f3 : ((tw : Int) == (r.size : Int)) = decide (tw = r.size) := by
    by_cases h : tw = r.size
    · rw [decide_eq_true h, beq_iff_eq]; omega
    · rw [decide_eq_false h, beq_eq_false_iff_ne]; omega
  generalize hbb : decide (tw = r.size) = bb at *
  clear HR1
  generalize htz : (tw : Int) = tz at *
  have hT : tw = tz.toNat := by omega
  have HTZ := Lib.hid (And.intro htz hT)
  rw [hT] at hk1
  have KEEP := Lib.hid (fun w' (h : Below W1.heap.size W1 w') => (show w'.cell? ⟨N1, 0, none⟩ = some (.int .u8 tk) ∧ w'.cell? ⟨N1, 1, none⟩ = some (.int .i64 tz) from ⟨(h.cell (p := ⟨N1, 0, none⟩) HBN.out).trans z0, (h.cell (p := ⟨N1, 1, none⟩) HBN.out).trans z1⟩))
  have f1 : decide (tz ≤ 0) = false := decide_eq_false (by have := HF.out; omega)
  have f2 : decide ((r.size : Int) < tz) = false := decide_eq_false (by omega)
  have f4 : ((tk : Int) != (tk : Int)) = false := by simp
  have f5 : (0 : Int) ≤ tz := by omega
  have f6 : tz ≤ (r.size : Int) := by omega
  have HFR := Lib.hid hfr
  clear hbb HW2 HK1 htz hT hfr
  go_region_held3 (fun w' => w'.cell? ⟨N1, 0, none⟩ = some (.int .u8 tk) ∧ w'.cell? ⟨N1, 1, none⟩ = some (.int .i64 tz))
    (first | exact KEEP.out _ hB2 | exact KEEP.out _ (Below.refl _ _).drew | exact KEEP.out _ (Below.refl _ _))
    (first
      | (go_at_call 6; (with_reducible refine (hk1 _).mono ?_); rintro e w2 ⟨rfl, hB⟩; have hB2 := (Below.refl W1.heap.size W1).drew.trans hB; clear hB))
  rename_i hHeld
  have y1 := hHeld.2
  rw [← HTZ.out.1] at y1
  have HB2 := Lib.hid (HB1.out.trans (hB2.mono HB1.out.size))
  clear hHeld hB2 hk1 f1 f2 f3 f4 f5 f6 z0 z1 KEEP HB1 HBN
  go_wp2_with fail
  go_loopw [8] (fun v wx => ∃ i : Nat, v = .int .i64 i ∧ tw < i ∧ i ≤ r.size + 1 ∧ Hid (Below w.heap.size w wx)) (fun v _ => r.size + 1 - (RowKit.intOf v).toNat)
  case atStart => exact ⟨tw + 1, by go_num, by omega, by have := HFR.out; omega, HB2⟩
  case round =>
    obtain ⟨i, rfl, hi1, hi2, HBr⟩ := hrel
    by_cases hlt : i ≤ r.size
    · have j1 : (i : Int) ≤ (r.size : Int) := by omega
      have j0 : (0 : Int) ≤ (i : Int) := Int.natCast_nonneg _
      have j2 : (i : Int) ≤ 400 := by have := HR0.out; omega
      obtain ⟨b, hb⟩ : ∃ b, ((i : Int) == (r.size : Int)) = b := ⟨_, rfl⟩
      have hk := HK2.out i b hi1 hlt
      have HLT := Lib.hid (And.intro hi1 (And.intro hlt HR0.out))
      clear hi1 hi2 y1
      go_wp2_with fail
      refine (hk _).mono ?_
      rintro e w3 ⟨rfl, hb3⟩
      have HB3 := Lib.hid (HBr.out.trans (hb3.mono HBr.out.size))
      clear hb3 hk
      go_wp2_with fail
      go_roundw
      case rel => exact ⟨i + 1, by go_num, by have := HLT.out; omega, by have := HLT.out; omega, HB3⟩
      case measure => have := HLT.out; simp [RowKit.intOf]; omega
    · have j1 : ¬ (i : Int) ≤ (r.size : Int) := by omega
      go_wp2_with fail
      go_ret
      exact ⟨rfl, HBr.out⟩
end Yteccfoiegjhppaa
end Go.Proofs
