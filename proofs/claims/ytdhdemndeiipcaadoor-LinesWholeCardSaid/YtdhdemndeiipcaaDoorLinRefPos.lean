/- The document's own Pos: the place by lines at which an offset lies. Conditions: a string of at most 10^11 bytes. -/
import Derived.Test.YtdhdemndeiipcaaDoorLinPos
namespace Go.Proofs.YtdhdemndeiipcaaDoor
open Go Go.RowKit Go.Shelf Go.Lib

set_option maxRecDepth 100000 in
set_option maxHeartbeats 1000000 in
theorem refPos_any (s : ByteArray) (i : Int) (w : World) (hs : s.size ≤ 100000000000) :
    Calls Tryd.prog 10 #[.string s, .int .i64 i] w (PosIs s (bgnAt s i) w) := by
  have hm2 := L.mny_le s
  have hm1 := L.mny_pos s
  have hbg := fun W => refBegin_all s i W (by omega)
  have hst := fun W => refStarts_any s W hs
  have hbs : bgnAt s i ≤ s.size := by obtain ⟨j, n, _, h, _⟩ := U.bgnAt_facts s i; exact h
  generalize bgnAt s i = b at *
  go_enter Tryd.func10, Tryd.ntmps10
  go_wp2_with fail
  refine (hbg _).mono ?_
  rintro e w1 ⟨rfl, hB1⟩
  have bR1 := (Boxed2.new w 23 (.int .i64 0) (.int .i64 0)).below hB1
  have hB01 := ((Below.refl _ w).alloc (Nat.le_refl _) (.cells #[.int .i64 0, .int .i64 0] 23)).trans (hB1.mono (by simp))
  clear hB1
  go_wp2_with fail
  refine (hst _).mono ?_
  rintro e w2 ⟨g, cap, rfl, hown, hB2⟩
  have bR2 := bR1.below hB2
  have hB02 := hB01.trans (hB2.mono hB01.size)
  have hcells : Hid (∀ j, j < L.mny s → w2.cell? ⟨g, j, none⟩ = some (.int .i64 (L.fr s j))) := Lib.hid (fun j hj => offs_cell hown hj)
  clear hown hB2 hB01 bR1
  go_wp2_with fail
  go_loop [6] (fun p => ∃ k : Nat, p = .int .i64 k ∧ k < L.mny s ∧ L.fr s k ≤ b) (fun p => L.mny s - (RowKit.intOf p).toNat)
  case atStart => exact ⟨0, rfl, by omega, Nat.zero_le _⟩
  case round =>
    obtain ⟨k, rfl, hk, hfk⟩ := hrel
    by_cases hk1 : k + 1 < L.mny s
    · have hc := hcells.out (k + 1) hk1
      by_cases hle : L.fr s (k + 1) ≤ b
      · go_wp2_with fail
        go_round
        case rel => exact ⟨k + 1, by go_num, hk1, hle⟩
        case measure => simp [RowKit.intOf]; omega
      · have hup : b < L.fr s (k + 1) := by omega
        have hdl : decide (L.fr s (k + 1) ≤ b) = false := decide_eq_false hle
        have hnm : k < L.mny s := hk
        have hln : L.ln s b = k := L.ln_eq hk hfk (fun _ => hup)
        have hfr := L.fr_le hk
        have hto := L.to_le hk
        have hge := L.to_ge hk
        have HC : Hid (posL s b = k ∧ posC s b = U.units (s.extract (L.fr s k) (min b (L.to s k)))) := Lib.hid ⟨by unfold posL; exact hln, by unfold posC; rw [hln]⟩
        have hline := fun W => refLine_yes s k W (by omega) hk
        by_cases hbt : L.to s k < b
        · have hm : min b (L.to s k) = L.to s k := by omega
          rw [hm] at HC
          have hun := fun W => refUnits_any (s.extract (L.fr s k) (L.to s k)) W (by rw [ByteArray.size_extract]; omega)
          generalize U.units (s.extract (L.fr s k) (L.to s k)) = u at *
          clear hm hln
          generalize L.fr s k = f at *
          generalize L.to s k = t at *
          go_wp2_with fail
          refine (hline _).mono ?_
          rintro e w3 ⟨rfl, hB3⟩
          have bR3 := bR2.below hB3
          have hB03 := hB02.trans (hB3.mono hB02.size)
          have c0 := bR3.cell0
          have c1 := bR3.cell1
          have f0 := bR3.frozen0
          have f1 := bR3.frozen1
          have l3 := bR3.lt
          clear hB3 hB02 bR2 hcells
          go_wp2_with fail
          refine (hun _).mono ?_
          rintro e w4 ⟨rfl, hB4⟩
          have bR4 := (bR3.alloc (.cells #[.int .i64 f, .int .i64 t] 29)).below hB4
          have hB04 := (hB03.alloc hB03.size (.cells #[.int .i64 f, .int .i64 t] 29)).trans (hB4.mono (hB03.alloc hB03.size (.cells #[.int .i64 f, .int .i64 t] 29)).size)
          have c0' := bR4.cell0
          have c1' := bR4.cell1
          have f0' := bR4.frozen0
          have f1' := bR4.frozen1
          clear hB4 bR3 hB03 c0 c1 f0 f1
          go_wp2_with fail
          exact bodyPost_ret (v := .agg #[.int .i64 k, .int .i64 u]) (by simp [results, Tryd.results10, go_sem, c0', c1']) rfl ⟨by rw [HC.out.1, HC.out.2], (hB04.setCell (p := ⟨w.heap.size, 0, none⟩) (Nat.le_refl _) _).setCell (p := ⟨w.heap.size, 1, none⟩) (Nat.le_refl _) _⟩
        · have hm : min b (L.to s k) = b := by omega
          rw [hm] at HC
          have hun := fun W => refUnits_any (s.extract (L.fr s k) b) W (by rw [ByteArray.size_extract]; omega)
          generalize U.units (s.extract (L.fr s k) b) = u at *
          clear hm hln
          generalize L.fr s k = f at *
          generalize L.to s k = t at *
          go_wp2_with fail
          refine (hline _).mono ?_
          rintro e w3 ⟨rfl, hB3⟩
          have bR3 := bR2.below hB3
          have hB03 := hB02.trans (hB3.mono hB02.size)
          have c0 := bR3.cell0
          have c1 := bR3.cell1
          have f0 := bR3.frozen0
          have f1 := bR3.frozen1
          have l3 := bR3.lt
          clear hB3 hB02 bR2 hcells
          go_wp2_with fail
          refine (hun _).mono ?_
          rintro e w4 ⟨rfl, hB4⟩
          have bR4 := (bR3.alloc (.cells #[.int .i64 f, .int .i64 t] 29)).below hB4
          have hB04 := (hB03.alloc hB03.size (.cells #[.int .i64 f, .int .i64 t] 29)).trans (hB4.mono (hB03.alloc hB03.size (.cells #[.int .i64 f, .int .i64 t] 29)).size)
          have c0' := bR4.cell0
          have c1' := bR4.cell1
          have f0' := bR4.frozen0
          have f1' := bR4.frozen1
          clear hB4 bR3 hB03 c0 c1 f0 f1
          go_wp2_with fail
          exact bodyPost_ret (v := .agg #[.int .i64 k, .int .i64 u]) (by simp [results, Tryd.results10, go_sem, c0', c1']) rfl ⟨by rw [HC.out.1, HC.out.2], (hB04.setCell (p := ⟨w.heap.size, 0, none⟩) (Nat.le_refl _) _).setCell (p := ⟨w.heap.size, 1, none⟩) (Nat.le_refl _) _⟩
    · have hk2 : ¬ (k : Int) + 1 < (L.mny s : Int) := by omega
      have hnm : k < L.mny s := hk
      have hln : L.ln s b = k := L.ln_eq hk hfk (fun h => absurd h hk1)
      have hfr := L.fr_le hk
      have hto := L.to_le hk
      have hge := L.to_ge hk
      have HC : Hid (posL s b = k ∧ posC s b = U.units (s.extract (L.fr s k) (min b (L.to s k)))) := Lib.hid ⟨by unfold posL; exact hln, by unfold posC; rw [hln]⟩
      have hline := fun W => refLine_yes s k W (by omega) hk
      by_cases hbt : L.to s k < b
      · have hm : min b (L.to s k) = L.to s k := by omega
        rw [hm] at HC
        have hun := fun W => refUnits_any (s.extract (L.fr s k) (L.to s k)) W (by rw [ByteArray.size_extract]; omega)
        generalize U.units (s.extract (L.fr s k) (L.to s k)) = u at *
        clear hm hln
        generalize L.fr s k = f at *
        generalize L.to s k = t at *
        go_wp2_with fail
        refine (hline _).mono ?_
        rintro e w3 ⟨rfl, hB3⟩
        have bR3 := bR2.below hB3
        have hB03 := hB02.trans (hB3.mono hB02.size)
        have c0 := bR3.cell0
        have c1 := bR3.cell1
        have f0 := bR3.frozen0
        have f1 := bR3.frozen1
        have l3 := bR3.lt
        clear hB3 hB02 bR2 hcells
        go_wp2_with fail
        refine (hun _).mono ?_
        rintro e w4 ⟨rfl, hB4⟩
        have bR4 := (bR3.alloc (.cells #[.int .i64 f, .int .i64 t] 29)).below hB4
        have hB04 := (hB03.alloc hB03.size (.cells #[.int .i64 f, .int .i64 t] 29)).trans (hB4.mono (hB03.alloc hB03.size (.cells #[.int .i64 f, .int .i64 t] 29)).size)
        have c0' := bR4.cell0
        have c1' := bR4.cell1
        have f0' := bR4.frozen0
        have f1' := bR4.frozen1
        clear hB4 bR3 hB03 c0 c1 f0 f1
        go_wp2_with fail
        exact bodyPost_ret (v := .agg #[.int .i64 k, .int .i64 u]) (by simp [results, Tryd.results10, go_sem, c0', c1']) rfl ⟨by rw [HC.out.1, HC.out.2], (hB04.setCell (p := ⟨w.heap.size, 0, none⟩) (Nat.le_refl _) _).setCell (p := ⟨w.heap.size, 1, none⟩) (Nat.le_refl _) _⟩
      · have hm : min b (L.to s k) = b := by omega
        rw [hm] at HC
        have hun := fun W => refUnits_any (s.extract (L.fr s k) b) W (by rw [ByteArray.size_extract]; omega)
        generalize U.units (s.extract (L.fr s k) b) = u at *
        clear hm hln
        generalize L.fr s k = f at *
        generalize L.to s k = t at *
        go_wp2_with fail
        refine (hline _).mono ?_
        rintro e w3 ⟨rfl, hB3⟩
        have bR3 := bR2.below hB3
        have hB03 := hB02.trans (hB3.mono hB02.size)
        have c0 := bR3.cell0
        have c1 := bR3.cell1
        have f0 := bR3.frozen0
        have f1 := bR3.frozen1
        have l3 := bR3.lt
        clear hB3 hB02 bR2 hcells
        go_wp2_with fail
        refine (hun _).mono ?_
        rintro e w4 ⟨rfl, hB4⟩
        have bR4 := (bR3.alloc (.cells #[.int .i64 f, .int .i64 t] 29)).below hB4
        have hB04 := (hB03.alloc hB03.size (.cells #[.int .i64 f, .int .i64 t] 29)).trans (hB4.mono (hB03.alloc hB03.size (.cells #[.int .i64 f, .int .i64 t] 29)).size)
        have c0' := bR4.cell0
        have c1' := bR4.cell1
        have f0' := bR4.frozen0
        have f1' := bR4.frozen1
        clear hB4 bR3 hB03 c0 c1 f0 f1
        go_wp2_with fail
        exact bodyPost_ret (v := .agg #[.int .i64 k, .int .i64 u]) (by simp [results, Tryd.results10, go_sem, c0', c1']) rfl ⟨by rw [HC.out.1, HC.out.2], (hB04.setCell (p := ⟨w.heap.size, 0, none⟩) (Nat.le_refl _) _).setCell (p := ⟨w.heap.size, 1, none⟩) (Nat.le_refl _) _⟩
end Go.Proofs.YtdhdemndeiipcaaDoor
