/- The codes are the protocol's: the given law, walked. Conditions: the library's tables as its text lays them. -/
import Derived.Test.YtgcdfkoobbijeaaDoorMR31
import Derived.Test.YtgcdfkoobbijeaaDoorMR05
namespace Go.Proofs.YtgcdfkoobbijeaaDoor
open Go Go.RowKit Go.Lib

def codeN (i : Nat) : Int := [-32700, -32600, -32601, -32602, -32002, -32800].getD i 0
theorem code_at : ∀ (i : Nat), i < 6 → (#[.int .i64 (-32700), .int .i64 (-32600), .int .i64 (-32601), .int .i64 (-32602), .int .i64 (-32002), .int .i64 (-32800)] : Array Value)[i]? = some (.int .i64 (codeN i))
  | 0, _ => rfl
  | 1, _ => rfl
  | 2, _ => rfl
  | 3, _ => rfl
  | 4, _ => rfl
  | 5, _ => rfl
  | _ + 6, h => by omega
theorem code_fit : ∀ (i : Nat), i < 6 → -9223372036854775808 ≤ codeN i ∧ codeN i ≤ 9223372036854775807
  | 0, _ => by decide
  | 1, _ => by decide
  | 2, _ => by decide
  | 3, _ => by decide
  | 4, _ => by decide
  | 5, _ => by decide
  | _ + 6, h => by omega
structure CdSt (w : World) (W : World) : Prop where
  below : Below w.heap.size w W
  r1 : Row W w.heap.size 3 #[.int .i64 (-32700), .int .i64 (-32600), .int .i64 (-32601), .int .i64 (-32602), .int .i64 (-32002), .int .i64 (-32800)]
  r2 : Row W (w.heap.size + 1) 3 #[.int .i64 (-32700), .int .i64 (-32600), .int .i64 (-32601), .int .i64 (-32602), .int .i64 (-32002), .int .i64 (-32800)]
theorem CdSt.on {w W W' : World} (h : CdSt w W) (hB : Below W.heap.size W W') : CdSt w W' := ⟨h.below.trans (hB.mono h.below.size), h.r1.same (hB.block _ h.r1.lt), h.r2.same (hB.block _ h.r2.lt)⟩
theorem CdSt.at {w W : World} (h : CdSt w W) {i : Nat} (hi : i < 6) : W.cell? ⟨w.heap.size, i, none⟩ = some (.int .i64 (codeN i)) ∧ W.cell? ⟨w.heap.size + 1, i, none⟩ = some (.int .i64 (codeN i)) :=
  ⟨(cell_of_row W _ i _ _ (0, 0) h.r1).trans (code_at i hi), (cell_of_row W _ i _ _ (0, 0) h.r2).trans (code_at i hi)⟩

structure Cd3 (w : World) (n : Int) (i B : Nat) (v u : Value) (T : V.T) (W : World) : Prop where
  st : CdSt w W
  at_ : W.cell? ⟨w.heap.size, i, none⟩ = some (.int .i64 n) ∧ W.cell? ⟨w.heap.size + 1, i, none⟩ = some (.int .i64 n)
  b : Blk4 W B 25 (.int .u8 6) (.string ⟨#[]⟩) v u
  l : HS W (fun _ => True) 0 v .nil
  f : HS W (fun _ => True) 1 u T
theorem Cd3.on {w : World} {n : Int} {i B : Nat} {v u : Value} {T : V.T} {W W' : World} (h : Cd3 w n i B v u T W) (hB : Below W.heap.size W W') : Cd3 w n i B v u T W' :=
  ⟨h.st.on hB, ⟨(hB.cell (p := ⟨w.heap.size, i, none⟩) h.st.r1.lt).trans h.at_.1, (hB.cell (p := ⟨w.heap.size + 1, i, none⟩) h.st.r2.lt).trans h.at_.2⟩, h.b.same (hB.block _ h.b.lt), h.l.below hB, h.f.below hB⟩
theorem Cd3.cells {w : World} {n : Int} {i B : Nat} {v u : Value} {T : V.T} {W : World} (h : Cd3 w n i B v u T W) :
    W.cell? ⟨w.heap.size, i, none⟩ = some (.int .i64 n) ∧ W.cell? ⟨w.heap.size + 1, i, none⟩ = some (.int .i64 n) ∧ W.cell? ⟨B, 0, none⟩ = some (.int .u8 6) ∧ W.cell? ⟨B, 1, none⟩ = some (.string ⟨#[]⟩) ∧ W.cell? ⟨B, 2, none⟩ = some v ∧ W.cell? ⟨B, 3, none⟩ = some u :=
  ⟨h.at_.1, h.at_.2, h.b.box⟩

set_option maxHeartbeats 4000000 in
set_option maxRecDepth 100000 in
theorem codesLaw_any (w : World) (hP : PowTab w) (hT : Tabs w) : Calls Tryd.prog 6 #[] w (Bools true w) := by
  have hfa := fun W (h : CdSt w W) n (hn : -9223372036854775808 ≤ n ∧ n ≤ 9223372036854775807) => fail_any 3 ⟨#[49]⟩ (.slice none 0 0) (.slice none 0 0) .nil .nil (fun _ => True) n ⟨#[110, 111]⟩ W ⟨by decide, by decide, by decide⟩ (HS.nil _ _ _) (HS.nil _ _ _) hn (by decide) (pow_on hP h.below) (tabs_below hT h.below)
  have hra := fun W n (hn : -9223372036854775808 ≤ n ∧ n ≤ 9223372036854775807) => refFail_any 3 ⟨#[49]⟩ (.slice none 0 0) (.slice none 0 0) .nil .nil (fun _ => True) n ⟨#[110, 111]⟩ W ⟨by decide, by decide, by decide⟩ (HS.nil _ _ _) (HS.nil _ _ _) (by decide) hn (by decide)
  have hsa := fun (W : World) T (v u v' u' : Value) (A A' : Nat → Prop) (h1 : HS W A 0 v .nil) (h2 : HS W A 1 u T) (h3 : HS W A' 0 v' .nil) (h4 : HS W A' 1 u' T) => same_any (V.T.nil.size + T.size + 1) 6 ⟨#[]⟩ v u .nil T 6 ⟨#[]⟩ v' u' .nil T A A' W (Nat.lt_succ_self _) h1 h2 h3 h4
  simp only [V.veq_self] at hsa
  simp only [show ((3 : Nat) : Int) = 3 from rfl, show ((6 : Nat) : Int) = 6 from rfl] at hfa hra hsa
  have HFA := Lib.hid hfa
  have HRA := Lib.hid hra
  have HSA := Lib.hid hsa
  have S0 : CdSt w ((w.alloc (.cells #[.int .i64 (-32700), .int .i64 (-32600), .int .i64 (-32601), .int .i64 (-32602), .int .i64 (-32002), .int .i64 (-32800)] 3)).alloc (.cells #[.int .i64 (-32700), .int .i64 (-32600), .int .i64 (-32601), .int .i64 (-32602), .int .i64 (-32002), .int .i64 (-32800)] 3)) :=
    ⟨two_below _ _ _, (two_new _ _ _).1, (two_new _ _ _).2⟩
  have H0 := Lib.hid S0
  clear hfa hra hsa S0 hP hT
  go_enter Tryd.func6, Tryd.ntmps6
  go_wp2_with fail
  generalize (w.alloc (.cells #[.int .i64 (-32700), .int .i64 (-32600), .int .i64 (-32601), .int .i64 (-32602), .int .i64 (-32002), .int .i64 (-32800)] 3)).alloc (.cells #[.int .i64 (-32700), .int .i64 (-32600), .int .i64 (-32601), .int .i64 (-32602), .int .i64 (-32002), .int .i64 (-32800)] 3) = W0 at *
  go_loopw [3] (fun p wr => ∃ i : Nat, p = .int .i64 i ∧ i ≤ 6 ∧ Hid (CdSt w wr)) (fun p _ => 6 - (RowKit.intOf p).toNat)
  case atStart => exact ⟨0, rfl, Nat.zero_le _, H0⟩
  case round =>
    obtain ⟨i, rfl, hi, HR⟩ := hrel
    by_cases hlt : i < 6
    · obtain ⟨x1, x2⟩ := HR.out.at hlt
      have HN := Lib.hid (code_fit i hlt)
      have HA := Lib.hid (fun W (h : CdSt w W) => h.at hlt)
      have HQ := Lib.hid HR.out
      have HL := Lib.hid hlt
      generalize codeN i = n at *
      clear HR
      have t1 : ((n : Int) != n) = false := by simp
      go_wp2_with fail
      refine (HFA.out _ HQ.out _ HN.out).mono ?_
      rintro e w1 ⟨v1, u1, rfl, hl1, hf1, hB1⟩
      have H1 := Lib.hid (HQ.out.on hB1)
      obtain ⟨p1, c1, rfl, -⟩ := hl1.len
      obtain ⟨q1, d1, rfl, -⟩ := hf1.len
      clear x1 x2 hB1
      go_wp2_with fail
      have hBn := (Below.refl w1.heap.size w1).alloc (Nat.le_refl _) (.cells #[.int .u8 6, .string ⟨#[]⟩, .slice p1 V.T.nil.len c1, .slice q1 (failT 3 ⟨#[49]⟩ .nil .nil n (U.fixS ⟨#[110, 111]⟩)).len d1] 25)
      have S3 : Cd3 w n i w1.heap.size (.slice p1 V.T.nil.len c1) (.slice q1 (failT 3 ⟨#[49]⟩ .nil .nil n (U.fixS ⟨#[110, 111]⟩)).len d1) (failT 3 ⟨#[49]⟩ .nil .nil n (U.fixS ⟨#[110, 111]⟩)) (w1.alloc (.cells #[.int .u8 6, .string ⟨#[]⟩, .slice p1 V.T.nil.len c1, .slice q1 (failT 3 ⟨#[49]⟩ .nil .nil n (U.fixS ⟨#[110, 111]⟩)).len d1] 25)) :=
        ⟨H1.out.on hBn, HA.out _ (H1.out.on hBn), heap_alloc_new _ _, (hl1.mono (fun _ _ _ => trivial)).below hBn, (hf1.mono (fun _ _ _ => trivial)).below hBn⟩
      generalize w1.alloc (.cells #[.int .u8 6, .string ⟨#[]⟩, .slice p1 V.T.nil.len c1, .slice q1 (failT 3 ⟨#[49]⟩ .nil .nil n (U.fixS ⟨#[110, 111]⟩)).len d1] 25) = W3 at *
      have hrn := fun W => HRA.out W n HN.out
      generalize failT 3 ⟨#[49]⟩ .nil .nil n (U.fixS ⟨#[110, 111]⟩) = T at *
      have HRN := Lib.hid (fun W (_ : Cd3 w n i w1.heap.size (.slice p1 V.T.nil.len c1) (.slice q1 T.len d1) T W) => hrn W)
      have HD := Lib.hid (S3.on (Below.refl W3.heap.size W3).drew)
      clear hl1 hf1 S3 hBn H1 hrn
      go_region_held3 (fun w' => w'.cell? ⟨w.heap.size, i, none⟩ = some (.int .i64 n) ∧ w'.cell? ⟨w.heap.size + 1, i, none⟩ = some (.int .i64 n) ∧ w'.cell? ⟨w1.heap.size, 0, none⟩ = some (.int .u8 6) ∧ w'.cell? ⟨w1.heap.size, 1, none⟩ = some (.string ⟨#[]⟩) ∧ w'.cell? ⟨w1.heap.size, 2, none⟩ = some (.slice p1 V.T.nil.len c1) ∧ w'.cell? ⟨w1.heap.size, 3, none⟩ = some (.slice q1 T.len d1))
        (first | with_reducible exact K1.out.cells | with_reducible exact HD.out.cells)
        (first
          | (go_at_call 23; (with_reducible refine (HRN.out _ (by first | with_reducible exact K1.out | with_reducible exact HD.out)).mono ?_); rintro e w5 ⟨v5, u5, rfl, hl5, hf5, hB5⟩; (obtain ⟨p5, c5, rfl, -⟩ := hl5.len); (obtain ⟨q5, d5, rfl, -⟩ := hf5.len); first | (have K1 := Lib.hid (K1.out.on hB5)) | (have K1 := Lib.hid (HD.out.on hB5)))
          | (go_at_call 9; (with_reducible refine (HSA.out _ T _ _ _ _ _ _ K1.out.l K1.out.f hl5 hf5).mono ?_); rintro e w6 ⟨rfl, hB6⟩; have K1 := Lib.hid (K1.out.on hB6)))
      go_wp2_with fail
      trace_state
      go_roundw
      case rel => exact ⟨i + 1, by go_num, HL.out, Lib.hid K1.out.st⟩
      case measure => have := HL.out; simp [RowKit.intOf]; omega
    · have HQ := Lib.hid HR.out
      clear HR
      obtain rfl : i = 6 := by omega
      go_wp2_with fail
      go_ret
      exact ⟨rfl, HQ.out.below⟩
end Go.Proofs.YtgcdfkoobbijeaaDoor
