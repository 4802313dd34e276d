/- The document's own Pos: the place by lines at which an offset lies. Conditions: a string of at most 10^11 bytes. -/
import Derived.Test.YtjeopabnddekgaaDoorMQ05
import Derived.Test.YtjeopabnddekgaaDoorME11
import Derived.Test.YtjeopabnddekgaaDoorMQ02
import Derived.Test.YtjeopabnddekgaaDoorME32
import Derived.Test.YtjeopabnddekgaaDoorME39
namespace Go.Proofs.YtjeopabnddekgaaDoor
open Go Go.RowKit Go.Shelf Go.Lib

def PosIs (s : ByteArray) (b : Nat) (w : World) (e : Ending) (w' : World) : Prop := e = .returned (.agg #[.int .i64 (posL s b), .int .i64 (posC s b)]) ∧ Below w.heap.size w w'
set_option maxRecDepth 100000 in
set_option maxHeartbeats 1000000 in
theorem refPos_any (s : ByteArray) (i : Int) (w : World) (hs : s.size ≤ 100000000000) :
    Calls Tryd.prog 60 #[.string s, .int .i64 i] w (PosIs s (bgnAt s i) w) := by
  have hm2 := L.mny_le s
  have hm1 := L.mny_pos s
  have hbg := fun W => refBegin_all s i W (by omega)
  have hst := fun W => refStarts_any s W hs
  have hbs : bgnAt s i ≤ s.size := by obtain ⟨j, n, _, h, _⟩ := U.bgnAt_facts s i; exact h
  generalize bgnAt s i = b at *
  go_enter Tryd.func60, Tryd.ntmps60
  go_wp2_with fail
  refine (hbg _).mono ?_
  rintro e w1 ⟨rfl, hB1⟩
  have bR1 := (Boxed2.new w 38 (.int .i64 0) (.int .i64 0)).below hB1
  have hB01 := ((Below.refl _ w).alloc (Nat.le_refl _) (.cells #[.int .i64 0, .int .i64 0] 38)).trans (hB1.mono (by simp))
  clear hB1
  go_wp2_with fail
  refine (hst _).mono ?_
  rintro e w2 ⟨g, cap, rfl, hown, hB2⟩
  have bR2 := bR1.below hB2
  have hB02 := hB01.trans (hB2.mono hB01.size)
  have hcells : Hid (∀ j, j < L.mny s → w2.cell? ⟨g, j, none⟩ = some (.int .i64 (L.fr s j))) := Lib.hid (fun j hj => offs_cell hown hj)
  clear hown hB2 hB01 bR1
  go_wp2_with fail
  go_loop [6] (fun p => ∃ k : Nat, p = .int .i64 k ∧ k < L.mny s ∧ L.fr s k ≤ b) (fun p => L.mny s - (RowKit.intOf p).toNat)
  case atStart => exact ⟨0, rfl, by omega, Nat.zero_le _⟩
  case round =>
    obtain ⟨k, rfl, hk, hfk⟩ := hrel
    by_cases hk1 : k + 1 < L.mny s
    · have hc := hcells.out (k + 1) hk1
      by_cases hle : L.fr s (k + 1) ≤ b
      · go_wp2_with fail
        go_round
        case rel => exact ⟨k + 1, by go_num, hk1, hle⟩
        case measure => simp [RowKit.intOf]; omega
      · have hup : b < L.fr s (k + 1) := by omega
        have hdl : decide (L.fr s (k + 1) ≤ b) = false := decide_eq_false hle
        have hnm : k < L.mny s := hk
        have hln : L.ln s b = k := L.ln_eq hk hfk (fun _ => hup)
        have hfr := L.fr_le hk
        have hto := L.to_le hk
        have hge := L.to_ge hk
        have HC : Hid (posL s b = k ∧ posC s b = U.units (s.extract (L.fr s k) (min b (L.to s k)))) := Lib.hid ⟨by unfold posL; exact hln, by unfold posC; rw [hln]⟩
        have hline := fun W => refLine_yes s k W (by omega) hk
        by_cases hbt : L.to s k < b
        · have hm : min b (L.to s k) = L.to s k := by omega
          rw [hm] at HC
          have hun := fun W => refUnits_any (s.extract (L.fr s k) (L.to s k)) W (by rw [ByteArray.size_extract]; omega)
          generalize U.units (s.extract (L.fr s k) (L.to s k)) = u at *
          clear hm hln
          generalize L.fr s k = f at *
          generalize L.to s k = t at *
          go_wp2_with fail
          refine (hline _).mono ?_
          rintro e w3 ⟨rfl, hB3⟩
          have bR3 := bR2.below hB3
          have hB03 := hB02.trans (hB3.mono hB02.size)
          have c0 := bR3.cell0
          have c1 := bR3.cell1
          have f0 := bR3.frozen0
          have f1 := bR3.frozen1
          have l3 := bR3.lt
          clear hB3 hB02 bR2 hcells
          go_wp2_with fail
          refine (hun _).mono ?_
          rintro e w4 ⟨rfl, hB4⟩
          have bR4 := (bR3.alloc (.cells #[.int .i64 f, .int .i64 t] 74)).below hB4
          have hB04 := (hB03.alloc hB03.size (.cells #[.int .i64 f, .int .i64 t] 74)).trans (hB4.mono (hB03.alloc hB03.size (.cells #[.int .i64 f, .int .i64 t] 74)).size)
          have c0' := bR4.cell0
          have c1' := bR4.cell1
          have f0' := bR4.frozen0
          have f1' := bR4.frozen1
          clear hB4 bR3 hB03 c0 c1 f0 f1
          go_wp2_with fail
          exact bodyPost_ret (v := .agg #[.int .i64 k, .int .i64 u]) (by simp [results, Tryd.results60, go_sem, c0', c1']) rfl ⟨by rw [HC.out.1, HC.out.2], (hB04.setCell (p := ⟨w.heap.size, 0, none⟩) (Nat.le_refl _) _).setCell (p := ⟨w.heap.size, 1, none⟩) (Nat.le_refl _) _⟩
        · have hm : min b (L.to s k) = b := by omega
          rw [hm] at HC
          have hun := fun W => refUnits_any (s.extract (L.fr s k) b) W (by rw [ByteArray.size_extract]; omega)
          generalize U.units (s.extract (L.fr s k) b) = u at *
          clear hm hln
          generalize L.fr s k = f at *
          generalize L.to s k = t at *
          go_wp2_with fail
          refine (hline _).mono ?_
          rintro e w3 ⟨rfl, hB3⟩
          have bR3 := bR2.below hB3
          have hB03 := hB02.trans (hB3.mono hB02.size)
          have c0 := bR3.cell0
          have c1 := bR3.cell1
          have f0 := bR3.frozen0
          have f1 := bR3.frozen1
          have l3 := bR3.lt
          clear hB3 hB02 bR2 hcells
          go_wp2_with fail
          refine (hun _).mono ?_
          rintro e w4 ⟨rfl, hB4⟩
          have bR4 := (bR3.alloc (.cells #[.int .i64 f, .int .i64 t] 74)).below hB4
          have hB04 := (hB03.alloc hB03.size (.cells #[.int .i64 f, .int .i64 t] 74)).trans (hB4.mono (hB03.alloc hB03.size (.cells #[.int .i64 f, .int .i64 t] 74)).size)
          have c0' := bR4.cell0
          have c1' := bR4.cell1
          have f0' := bR4.frozen0
          have f1' := bR4.frozen1
          clear hB4 bR3 hB03 c0 c1 f0 f1
          go_wp2_with fail
          exact bodyPost_ret (v := .agg #[.int .i64 k, .int .i64 u]) (by simp [results, Tryd.results60, go_sem, c0', c1']) rfl ⟨by rw [HC.out.1, HC.out.2], (hB04.setCell (p := ⟨w.heap.size, 0, none⟩) (Nat.le_refl _) _).setCell (p := ⟨w.heap.size, 1, none⟩) (Nat.le_refl _) _⟩
    · have hk2 : ¬ (k : Int) + 1 < (L.mny s : Int) := by omega
      have hnm : k < L.mny s := hk
      have hln : L.ln s b = k := L.ln_eq hk hfk (fun h => absurd h hk1)
      have hfr := L.fr_le hk
      have hto := L.to_le hk
      have hge := L.to_ge hk
      have HC : Hid (posL s b = k ∧ posC s b = U.units (s.extract (L.fr s k) (min b (L.to s k)))) := Lib.hid ⟨by unfold posL; exact hln, by unfold posC; rw [hln]⟩
      have hline := fun W => refLine_yes s k W (by omega) hk
      by_cases hbt : L.to s k < b
      · have hm : min b (L.to s k) = L.to s k := by omega
        rw [hm] at HC
        have hun := fun W => refUnits_any (s.extract (L.fr s k) (L.to s k)) W (by rw [ByteArray.size_extract]; omega)
        generalize U.units (s.extract (L.fr s k) (L.to s k)) = u at *
        clear hm hln
        generalize L.fr s k = f at *
        generalize L.to s k = t at *
        go_wp2_with fail
        refine (hline _).mono ?_
        rintro e w3 ⟨rfl, hB3⟩
        have bR3 := bR2.below hB3
        have hB03 := hB02.trans (hB3.mono hB02.size)
        have c0 := bR3.cell0
        have c1 := bR3.cell1
        have f0 := bR3.frozen0
        have f1 := bR3.frozen1
        have l3 := bR3.lt
        clear hB3 hB02 bR2 hcells
        go_wp2_with fail
        refine (hun _).mono ?_
        rintro e w4 ⟨rfl, hB4⟩
        have bR4 := (bR3.alloc (.cells #[.int .i64 f, .int .i64 t] 74)).below hB4
        have hB04 := (hB03.alloc hB03.size (.cells #[.int .i64 f, .int .i64 t] 74)).trans (hB4.mono (hB03.alloc hB03.size (.cells #[.int .i64 f, .int .i64 t] 74)).size)
        have c0' := bR4.cell0
        have c1' := bR4.cell1
        have f0' := bR4.frozen0
        have f1' := bR4.frozen1
        clear hB4 bR3 hB03 c0 c1 f0 f1
        go_wp2_with fail
        exact bodyPost_ret (v := .agg #[.int .i64 k, .int .i64 u]) (by simp [results, Tryd.results60, go_sem, c0', c1']) rfl ⟨by rw [HC.out.1, HC.out.2], (hB04.setCell (p := ⟨w.heap.size, 0, none⟩) (Nat.le_refl _) _).setCell (p := ⟨w.heap.size, 1, none⟩) (Nat.le_refl _) _⟩
      · have hm : min b (L.to s k) = b := by omega
        rw [hm] at HC
        have hun := fun W => refUnits_any (s.extract (L.fr s k) b) W (by rw [ByteArray.size_extract]; omega)
        generalize U.units (s.extract (L.fr s k) b) = u at *
        clear hm hln
        generalize L.fr s k = f at *
        generalize L.to s k = t at *
        go_wp2_with fail
        refine (hline _).mono ?_
        rintro e w3 ⟨rfl, hB3⟩
        have bR3 := bR2.below hB3
        have hB03 := hB02.trans (hB3.mono hB02.size)
        have c0 := bR3.cell0
        have c1 := bR3.cell1
        have f0 := bR3.frozen0
        have f1 := bR3.frozen1
        have l3 := bR3.lt
        clear hB3 hB02 bR2 hcells
        go_wp2_with fail
        refine (hun _).mono ?_
        rintro e w4 ⟨rfl, hB4⟩
        have bR4 := (bR3.alloc (.cells #[.int .i64 f, .int .i64 t] 74)).below hB4
        have hB04 := (hB03.alloc hB03.size (.cells #[.int .i64 f, .int .i64 t] 74)).trans (hB4.mono (hB03.alloc hB03.size (.cells #[.int .i64 f, .int .i64 t] 74)).size)
        have c0' := bR4.cell0
        have c1' := bR4.cell1
        have f0' := bR4.frozen0
        have f1' := bR4.frozen1
        clear hB4 bR3 hB03 c0 c1 f0 f1
        go_wp2_with fail
        exact bodyPost_ret (v := .agg #[.int .i64 k, .int .i64 u]) (by simp [results, Tryd.results60, go_sem, c0', c1']) rfl ⟨by rw [HC.out.1, HC.out.2], (hB04.setCell (p := ⟨w.heap.size, 0, none⟩) (Nat.le_refl _) _).setCell (p := ⟨w.heap.size, 1, none⟩) (Nat.le_refl _) _⟩
end Go.Proofs.YtjeopabnddekgaaDoor

namespace Go.Proofs.YtjeopabnddekgaaDoor
open Go Go.RowKit Go.Shelf Go.Lib

set_option maxHeartbeats 400000 in
set_option maxRecDepth 100000 in
theorem refValid_any (s : ByteArray) (w : World) (hs : s.size ≤ 1000000000000) :
    Calls Tryd.prog 38 #[.string s] w (BoolIs (U.valid s) w) := by
  go_enter Tryd.func38, Tryd.ntmps38
  go_wp2_with fail
  go_loopw [3] (fun p wr => ∃ f pos : Nat, p = .int .i64 pos ∧ pos ≤ s.size ∧ Hid (U.vFrom s f pos = U.valid s ∧ s.size ≤ pos + f) ∧ Below w.heap.size w wr) (fun p _ => s.size - (RowKit.intOf p).toNat)
  case atStart => exact ⟨s.size, 0, rfl, by omega, Lib.hid ⟨rfl, by omega⟩, Below.refl _ _⟩
  case round =>
    obtain ⟨f, pos, rfl, hp, HU, hbl⟩ := hrel
    by_cases hlt : pos < s.size
    · have hw1 := U.wd_pos hlt
      have hw2 := U.wd_le hlt
      obtain ⟨f', rfl⟩ : ∃ f', f = f' + 1 := ⟨f - 1, by have := HU.out.2; omega⟩
      cases hbad : U.bad s pos
      · have hc := fun W => refNext_good s pos W hlt hs hbad
        have HS := Lib.hid (U.vFrom_step s f' pos hlt hbad)
        clear hbad
        generalize U.wd s pos = d at *
        generalize U.ch s pos = c at *
        go_wp2_with fail
        refine (hc _).mono ?_
        rintro e w' ⟨rfl, hb⟩
        go_wp2_with fail
        go_roundw
        case rel =>
          refine ⟨f', pos + d, by go_num, by omega, Lib.hid ⟨?_, ?_⟩, hbl.trans (hb.mono hbl.size)⟩
          · rw [← HS.out]; exact HU.out.1
          · have := HU.out.2; omega
        case measure => simp [RowKit.intOf]; omega
      · have hc := fun W => refNext_bad s pos W hlt hs hbad
        have HS := Lib.hid (U.vFrom_bad s f' pos hlt hbad)
        clear hbad
        go_wp2_with fail
        refine (hc _).mono ?_
        rintro e w' ⟨rfl, hb⟩
        go_wp2_with fail
        go_ret
        refine ⟨?_, hbl.trans (hb.mono hbl.size)⟩
        rw [← HU.out.1, HS.out]
        rfl
    · go_wp2_with fail
      go_ret
      refine ⟨?_, hbl⟩
      rw [← HU.out.1, U.vFrom_end s f pos hlt]
      rfl
end Go.Proofs.YtjeopabnddekgaaDoor

namespace Go.Proofs.YtjeopabnddekgaaDoor
open Go Go.RowKit Go.Shelf Go.Lib

theorem below_drewN9 {B : Nat} {a w : World} (h : Below B a w) (q : Nat) : Below B a (w.drewN q) := ⟨h.os, h.tape, h.output, h.size, h.block⟩
theorem ahead_is {x : ByteArray} (hv : U.valid x = true) {n : Nat} (hn : n < x.size) : ((U.bga x (n : Nat) : Int) = (n : Nat)) ↔ ¬ (x.get! n).toNat / 64 = 2 := by
  rw [U.bga_nat, if_pos hn]
  obtain ⟨h1, h2, h3⟩ := U.bgn_good x hv n hn
  constructor
  · intro h h4
    have e : U.bgn x n = n := by omega
    rw [e] at h1
    rw [U.cont_bad x n h4] at h1
    cases h1
  · intro h
    by_cases h5 : U.bgn x n < n
    · exact absurd (U.inner x (U.bgn x n) n (by omega) h5 h3) h
    · omega
set_option maxHeartbeats 1000000 in
set_option maxRecDepth 100000 in
theorem refAhead_any (x : ByteArray) (i : Int) (w : World) (hv : U.valid x = true) (hs : x.size ≤ 1000000000) : Calls Tryd.prog 75 #[.string x, .int .i64 i] w (BoolIs (decide ((U.bga x i : Int) = i)) w) := by
  have hle := U.bga_le x i
  by_cases h0 : i < 0
  · have hd : decide ((U.bga x i : Int) = i) = false := decide_eq_false (by omega)
    rw [hd]
    clear hle hd
    go_enter Tryd.func75, Tryd.ntmps75
    go_wp2_with fail
    go_ret
    exact ⟨rfl, Below.refl _ _⟩
  · obtain ⟨n, rfl⟩ : ∃ n : Nat, i = (n : Nat) := ⟨i.toNat, by omega⟩
    by_cases h1 : n < x.size
    · have ha := ahead_is hv h1
      have hb := U.at_byte h1
      have j1 : (n : Int) < (x.size : Int) := by omega
      have j2 : (0 : Int) ≤ (n : Int) := by omega
      have j3 : (n : Int) ≤ 1000000000 := by omega
      rw [← hb] at ha
      have hz : x[n].toNat < 256 := x[n].toNat_lt
      have he : (((n : Nat) : Int) == ((x.size : Nat) : Int)) = false := by rw [beq_eq_false_iff_ne]; omega
      by_cases h2 : x[n].toNat / 64 = 2
      · have hd : decide ((U.bga x (n : Nat) : Int) = (n : Nat)) = false := decide_eq_false (fun h => ha.1 h h2)
        rw [hd]
        have q1 : (x[n].toNat : Int) / 64 = 2 := by omega
        clear hle hd ha hb h0
        go_enter Tryd.func75, Tryd.ntmps75
        go_wp2_with fail
        go_ret
        exact ⟨rfl, Below.refl _ _⟩
      · have hd : decide ((U.bga x (n : Nat) : Int) = (n : Nat)) = true := decide_eq_true (ha.2 h2)
        rw [hd]
        have q1 : ¬ (x[n].toNat : Int) / 64 = 2 := by omega
        have q2 : ((x[n].toNat : Int) / 64 != 2) = true := by rw [bne_iff_ne]; exact q1
        clear hle hd ha hb h0
        go_enter Tryd.func75, Tryd.ntmps75
        go_wp2_with fail
        go_ret
        exact ⟨rfl, Below.refl _ _⟩
    · by_cases h2 : n = x.size
      · have hd : decide ((U.bga x (n : Nat) : Int) = (n : Nat)) = true := decide_eq_true (by rw [h2, U.bga_end])
        rw [hd]
        subst h2
        have j2 : (0 : Int) ≤ (x.size : Int) := by omega
        clear hle hd h0 h1
        go_enter Tryd.func75, Tryd.ntmps75
        go_wp2_with fail
        go_ret
        exact ⟨rfl, Below.refl _ _⟩
      · have hd : decide ((U.bga x (n : Nat) : Int) = (n : Nat)) = false := decide_eq_false (by omega)
        rw [hd]
        have j1 : ¬ (n : Int) ≤ (x.size : Int) := by omega
        have j2 : (0 : Int) ≤ (n : Int) := by omega
        clear hle hd h0 h1 h2
        go_enter Tryd.func75, Tryd.ntmps75
        go_wp2_with fail
        go_ret
        exact ⟨rfl, Below.refl _ _⟩
set_option maxHeartbeats 1000000 in
set_option maxRecDepth 100000 in
theorem refMay_any (x : ByteArray) (f k : Int) (w : World) (hv : U.valid x = true) (hs : x.size ≤ 1000000000) : Calls Tryd.prog 41 #[.string x, .int .i64 f, .int .i64 k] w (BoolIs (mayR x f k) w) := by
  have HA := Lib.hid (fun W => refAhead_any x f W hv hs)
  have HB := Lib.hid (fun W => refAhead_any x k W hv hs)
  unfold mayR
  generalize decide ((U.bga x f : Int) = f) = a at *
  generalize decide ((U.bga x k : Int) = k) = b at *
  by_cases h : f ≤ k
  · rw [decide_eq_true h]
    go_enter Tryd.func41, Tryd.ntmps41
    go_wp2_with fail
    refine (HA.out _).mono ?_
    rintro e w1 ⟨rfl, hB⟩
    have H1 := Lib.hid hB
    clear hB
    cases a
    · go_wp2_with fail
      go_ret
      exact ⟨rfl, H1.out⟩
    · go_wp2_with fail
      refine (HB.out _).mono ?_
      rintro e w2 ⟨rfl, hB⟩
      have H2 := Lib.hid (H1.out.trans (hB.mono H1.out.size))
      clear hB
      cases b
      all_goals
        go_wp2_with fail
        go_ret
        exact ⟨rfl, H2.out⟩
  · rw [decide_eq_false h]
    go_enter Tryd.func41, Tryd.ntmps41
    go_wp2_with fail
    go_ret
    exact ⟨rfl, Below.refl _ _⟩
def RefSl (x : ByteArray) (f k : Int) (w : World) (e : Ending) (w' : World) : Prop := (∃ y n, e = .returned (.tuple #[.string y, .int .i64 n]) ∧ (mayR x f k = true → y = x.extract f.toNat k.toNat ∧ n = 0) ∧ (mayR x f k = false → y = ByteArray.empty ∧ n = 90)) ∧ Below w.heap.size w w'
set_option maxHeartbeats 1000000 in
set_option maxRecDepth 100000 in
theorem refSlice_any (x : ByteArray) (f k : Int) (w : World) (hv : U.valid x = true) (hs : x.size ≤ 1000000000) : Calls Tryd.prog 17 #[.string x, .int .i64 f, .int .i64 k] w (RefSl x f k w) := by
  have HM := Lib.hid (fun W => refMay_any x f k W hv hs)
  by_cases hm : mayR x f k = true
  · obtain ⟨a, c, rfl, rfl, hac, hc, -, -⟩ := mayR_spec hm
    rw [hm] at HM
    have HE := Lib.hid hm
    have j1 : (a : Int) ≤ (c : Int) := by omega
    have j2 : (c : Int) ≤ (x.size : Int) := by omega
    have j3 : (0 : Int) ≤ (a : Int) := by omega
    have j4 : (0 : Int) ≤ (c : Int) := by omega
    clear hm
    go_enter Tryd.func17, Tryd.ntmps17
    go_wp2_with fail
    refine (HM.out _).mono ?_
    rintro e w1 ⟨rfl, hB⟩
    have H1 := Lib.hid hB
    clear hB
    go_wp2_with fail
    go_ret2
    exact ⟨⟨_, 0, rfl, fun _ => ⟨by simp, rfl⟩, fun h => by rw [HE.out] at h; cases h⟩, H1.out⟩
  · have hm' : mayR x f k = false := by simpa using hm
    rw [hm'] at HM
    have HE := Lib.hid hm'
    clear hm hm'
    go_enter Tryd.func17, Tryd.ntmps17
    go_wp2_with fail
    refine (HM.out _).mono ?_
    rintro e w1 ⟨rfl, hB⟩
    have H1 := Lib.hid hB
    clear hB
    go_wp2_with fail
    go_ret2
    exact ⟨⟨_, 90, rfl, fun h => (by rw [HE.out] at h; cases h), fun _ => ⟨rfl, rfl⟩⟩, H1.out⟩
set_option maxHeartbeats 1000000 in
set_option maxRecDepth 100000 in
theorem refSplice_ok (x : ByteArray) (f k : Int) (s : ByteArray) (w : World) (hv : U.valid x = true) (hs : x.size ≤ 16384) (hss : s.size ≤ 70000) (h : spE x f k s = 0) : Calls Tryd.prog 14 #[.string x, .int .i64 f, .int .i64 k, .string s] w (fun e w' => e = .returned (.tuple #[.string (spT x f k s), .int .i64 0]) ∧ Below w.heap.size w w') := by
  obtain ⟨hm, hvs, hl⟩ := sp_ok h
  have HM := Lib.hid (fun W => refMay_any x f k W hv (by omega))
  have HV := Lib.hid (fun W => refValid_any s W (by omega))
  rw [hm] at HM
  rw [hvs] at HV
  obtain ⟨a, c, rfl, rfl, hac, hc, -, -⟩ := mayR_spec hm
  have j1 : (a : Int) ≤ (c : Int) := by omega
  have j2 : (c : Int) ≤ (x.size : Int) := by omega
  have j3 : (0 : Int) ≤ (a : Int) := by omega
  have j4 : (0 : Int) ≤ (c : Int) := by omega
  have j5 : (x.size : Int) ≤ 16384 := by omega
  have j6 : (s.size : Int) ≤ 70000 := by omega
  have j7 : (a : Int) ≤ (x.size : Int) := by omega
  have HL := Lib.hid (show ¬ ((x.size : Int) - (c : Int) + (a : Int) + (s.size : Int) > 16384) by omega)
  have HT := Lib.hid (show spT x (a : Nat) (c : Nat) s = x.extract 0 a ++ s ++ x.extract c x.size from by unfold spT; simp)
  rw [HT.out]
  clear hm hvs h hl HT hac hc
  have hl := HL.out
  go_enter Tryd.func14, Tryd.ntmps14
  go_wp2_with fail
  refine (HM.out _).mono ?_
  rintro e w1 ⟨rfl, hB⟩
  have H1 := Lib.hid hB
  clear hB
  go_wp2_with fail
  refine (HV.out _).mono ?_
  rintro e w2 ⟨rfl, hB⟩
  have H2 := Lib.hid (H1.out.trans (hB.mono H1.out.size))
  clear hB
  go_wp2_with fail
  go_quiet (fail)
  go_wp2_with fail
  go_ret2
  exact ⟨by simp, below_drewN9 H2.out _⟩
end Go.Proofs.YtjeopabnddekgaaDoor
