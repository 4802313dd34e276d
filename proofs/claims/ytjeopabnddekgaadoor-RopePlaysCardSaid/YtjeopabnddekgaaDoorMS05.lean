/- The document's own Valid. Conditions: a string of at most 10^12 bytes. -/
import Derived.Test.YtjeopabnddekgaaDoorME11
import Derived.Test.YtjeopabnddekgaaDoorMS02
import Derived.Test.YtjeopabnddekgaaDoorMS04
import Derived.Test.YtjeopabnddekgaaDoorME32
import Derived.Test.YtjeopabnddekgaaDoorME39
namespace Go.Proofs.YtjeopabnddekgaaDoor
open Go Go.RowKit Go.Shelf Go.Lib

set_option maxHeartbeats 400000 in
set_option maxRecDepth 100000 in
theorem refValid_any (s : ByteArray) (w : World) (hs : s.size ≤ 1000000000000) :
    Calls Tryd.prog 38 #[.string s] w (BoolIs (U.valid s) w) := by
  go_enter Tryd.func38, Tryd.ntmps38
  go_wp2_with fail
  go_loopw [3] (fun p wr => ∃ f pos : Nat, p = .int .i64 pos ∧ pos ≤ s.size ∧ Hid (U.vFrom s f pos = U.valid s ∧ s.size ≤ pos + f) ∧ Below w.heap.size w wr) (fun p _ => s.size - (RowKit.intOf p).toNat)
  case atStart => exact ⟨s.size, 0, rfl, by omega, Lib.hid ⟨rfl, by omega⟩, Below.refl _ _⟩
  case round =>
    obtain ⟨f, pos, rfl, hp, HU, hbl⟩ := hrel
    by_cases hlt : pos < s.size
    · have hw1 := U.wd_pos hlt
      have hw2 := U.wd_le hlt
      obtain ⟨f', rfl⟩ : ∃ f', f = f' + 1 := ⟨f - 1, by have := HU.out.2; omega⟩
      cases hbad : U.bad s pos
      · have hc := fun W => refNext_good s pos W hlt hs hbad
        have HS := Lib.hid (U.vFrom_step s f' pos hlt hbad)
        clear hbad
        generalize U.wd s pos = d at *
        generalize U.ch s pos = c at *
        go_wp2_with fail
        refine (hc _).mono ?_
        rintro e w' ⟨rfl, hb⟩
        go_wp2_with fail
        go_roundw
        case rel =>
          refine ⟨f', pos + d, by go_num, by omega, Lib.hid ⟨?_, ?_⟩, hbl.trans (hb.mono hbl.size)⟩
          · rw [← HS.out]; exact HU.out.1
          · have := HU.out.2; omega
        case measure => simp [RowKit.intOf]; omega
      · have hc := fun W => refNext_bad s pos W hlt hs hbad
        have HS := Lib.hid (U.vFrom_bad s f' pos hlt hbad)
        clear hbad
        go_wp2_with fail
        refine (hc _).mono ?_
        rintro e w' ⟨rfl, hb⟩
        go_wp2_with fail
        go_ret
        refine ⟨?_, hbl.trans (hb.mono hbl.size)⟩
        rw [← HU.out.1, HS.out]
        rfl
    · go_wp2_with fail
      go_ret
      refine ⟨?_, hbl⟩
      rw [← HU.out.1, U.vFrom_end s f pos hlt]
      rfl
end Go.Proofs.YtjeopabnddekgaaDoor

namespace Go.Proofs.YtjeopabnddekgaaDoor
open Go Go.RowKit Go.Shelf Go.Lib

theorem below_drewN9 {B : Nat} {a w : World} (h : Below B a w) (q : Nat) : Below B a (w.drewN q) := ⟨h.os, h.tape, h.output, h.size, h.block⟩
theorem ahead_is {x : ByteArray} (hv : U.valid x = true) {n : Nat} (hn : n < x.size) : ((U.bga x (n : Nat) : Int) = (n : Nat)) ↔ ¬ (x.get! n).toNat / 64 = 2 := by
  rw [U.bga_nat, if_pos hn]
  obtain ⟨h1, h2, h3⟩ := U.bgn_good x hv n hn
  constructor
  · intro h h4
    have e : U.bgn x n = n := by omega
    rw [e] at h1
    rw [U.cont_bad x n h4] at h1
    cases h1
  · intro h
    by_cases h5 : U.bgn x n < n
    · exact absurd (U.inner x (U.bgn x n) n (by omega) h5 h3) h
    · omega
set_option maxHeartbeats 1000000 in
set_option maxRecDepth 100000 in
theorem refAhead_any (x : ByteArray) (i : Int) (w : World) (hv : U.valid x = true) (hs : x.size ≤ 1000000000) : Calls Tryd.prog 75 #[.string x, .int .i64 i] w (BoolIs (decide ((U.bga x i : Int) = i)) w) := by
  have hle := U.bga_le x i
  by_cases h0 : i < 0
  · have hd : decide ((U.bga x i : Int) = i) = false := decide_eq_false (by omega)
    rw [hd]
    clear hle hd
    go_enter Tryd.func75, Tryd.ntmps75
    go_wp2_with fail
    go_ret
    exact ⟨rfl, Below.refl _ _⟩
  · obtain ⟨n, rfl⟩ : ∃ n : Nat, i = (n : Nat) := ⟨i.toNat, by omega⟩
    by_cases h1 : n < x.size
    · have ha := ahead_is hv h1
      have hb := U.at_byte h1
      have j1 : (n : Int) < (x.size : Int) := by omega
      have j2 : (0 : Int) ≤ (n : Int) := by omega
      have j3 : (n : Int) ≤ 1000000000 := by omega
      rw [← hb] at ha
      have hz : x[n].toNat < 256 := x[n].toNat_lt
      have he : (((n : Nat) : Int) == ((x.size : Nat) : Int)) = false := by rw [beq_eq_false_iff_ne]; omega
      by_cases h2 : x[n].toNat / 64 = 2
      · have hd : decide ((U.bga x (n : Nat) : Int) = (n : Nat)) = false := decide_eq_false (fun h => ha.1 h h2)
        rw [hd]
        have q1 : (x[n].toNat : Int) / 64 = 2 := by omega
        clear hle hd ha hb h0
        go_enter Tryd.func75, Tryd.ntmps75
        go_wp2_with fail
        go_ret
        exact ⟨rfl, Below.refl _ _⟩
      · have hd : decide ((U.bga x (n : Nat) : Int) = (n : Nat)) = true := decide_eq_true (ha.2 h2)
        rw [hd]
        have q1 : ¬ (x[n].toNat : Int) / 64 = 2 := by omega
        have q2 : ((x[n].toNat : Int) / 64 != 2) = true := by rw [bne_iff_ne]; exact q1
        clear hle hd ha hb h0
        go_enter Tryd.func75, Tryd.ntmps75
        go_wp2_with fail
        go_ret
        exact ⟨rfl, Below.refl _ _⟩
    · by_cases h2 : n = x.size
      · have hd : decide ((U.bga x (n : Nat) : Int) = (n : Nat)) = true := decide_eq_true (by rw [h2, U.bga_end])
        rw [hd]
        subst h2
        have j2 : (0 : Int) ≤ (x.size : Int) := by omega
        clear hle hd h0 h1
        go_enter Tryd.func75, Tryd.ntmps75
        go_wp2_with fail
        go_ret
        exact ⟨rfl, Below.refl _ _⟩
      · have hd : decide ((U.bga x (n : Nat) : Int) = (n : Nat)) = false := decide_eq_false (by omega)
        rw [hd]
        have j1 : ¬ (n : Int) ≤ (x.size : Int) := by omega
        have j2 : (0 : Int) ≤ (n : Int) := by omega
        clear hle hd h0 h1 h2
        go_enter Tryd.func75, Tryd.ntmps75
        go_wp2_with fail
        go_ret
        exact ⟨rfl, Below.refl _ _⟩
set_option maxHeartbeats 1000000 in
set_option maxRecDepth 100000 in
theorem refMay_any (x : ByteArray) (f k : Int) (w : World) (hv : U.valid x = true) (hs : x.size ≤ 1000000000) : Calls Tryd.prog 41 #[.string x, .int .i64 f, .int .i64 k] w (BoolIs (mayR x f k) w) := by
  have HA := Lib.hid (fun W => refAhead_any x f W hv hs)
  have HB := Lib.hid (fun W => refAhead_any x k W hv hs)
  unfold mayR
  generalize decide ((U.bga x f : Int) = f) = a at *
  generalize decide ((U.bga x k : Int) = k) = b at *
  by_cases h : f ≤ k
  · rw [decide_eq_true h]
    go_enter Tryd.func41, Tryd.ntmps41
    go_wp2_with fail
    refine (HA.out _).mono ?_
    rintro e w1 ⟨rfl, hB⟩
    have H1 := Lib.hid hB
    clear hB
    cases a
    · go_wp2_with fail
      go_ret
      exact ⟨rfl, H1.out⟩
    · go_wp2_with fail
      refine (HB.out _).mono ?_
      rintro e w2 ⟨rfl, hB⟩
      have H2 := Lib.hid (H1.out.trans (hB.mono H1.out.size))
      clear hB
      cases b
      all_goals
        go_wp2_with fail
        go_ret
        exact ⟨rfl, H2.out⟩
  · rw [decide_eq_false h]
    go_enter Tryd.func41, Tryd.ntmps41
    go_wp2_with fail
    go_ret
    exact ⟨rfl, Below.refl _ _⟩
def RefSl (x : ByteArray) (f k : Int) (w : World) (e : Ending) (w' : World) : Prop := (∃ y n, e = .returned (.tuple #[.string y, .int .i64 n]) ∧ (mayR x f k = true → y = x.extract f.toNat k.toNat ∧ n = 0) ∧ (mayR x f k = false → y = ByteArray.empty ∧ n = 90)) ∧ Below w.heap.size w w'
set_option maxHeartbeats 1000000 in
set_option maxRecDepth 100000 in
theorem refSlice_any (x : ByteArray) (f k : Int) (w : World) (hv : U.valid x = true) (hs : x.size ≤ 1000000000) : Calls Tryd.prog 17 #[.string x, .int .i64 f, .int .i64 k] w (RefSl x f k w) := by
  have HM := Lib.hid (fun W => refMay_any x f k W hv hs)
  by_cases hm : mayR x f k = true
  · obtain ⟨a, c, rfl, rfl, hac, hc, -, -⟩ := mayR_spec hm
    rw [hm] at HM
    have HE := Lib.hid hm
    have j1 : (a : Int) ≤ (c : Int) := by omega
    have j2 : (c : Int) ≤ (x.size : Int) := by omega
    have j3 : (0 : Int) ≤ (a : Int) := by omega
    have j4 : (0 : Int) ≤ (c : Int) := by omega
    clear hm
    go_enter Tryd.func17, Tryd.ntmps17
    go_wp2_with fail
    refine (HM.out _).mono ?_
    rintro e w1 ⟨rfl, hB⟩
    have H1 := Lib.hid hB
    clear hB
    go_wp2_with fail
    go_ret2
    exact ⟨⟨_, 0, rfl, fun _ => ⟨by simp, rfl⟩, fun h => by rw [HE.out] at h; cases h⟩, H1.out⟩
  · have hm' : mayR x f k = false := by simpa using hm
    rw [hm'] at HM
    have HE := Lib.hid hm'
    clear hm hm'
    go_enter Tryd.func17, Tryd.ntmps17
    go_wp2_with fail
    refine (HM.out _).mono ?_
    rintro e w1 ⟨rfl, hB⟩
    have H1 := Lib.hid hB
    clear hB
    go_wp2_with fail
    go_ret2
    exact ⟨⟨_, 90, rfl, fun h => (by rw [HE.out] at h; cases h), fun _ => ⟨rfl, rfl⟩⟩, H1.out⟩
set_option maxHeartbeats 1000000 in
set_option maxRecDepth 100000 in
theorem refSplice_ok (x : ByteArray) (f k : Int) (s : ByteArray) (w : World) (hv : U.valid x = true) (hs : x.size ≤ 16384) (hss : s.size ≤ 70000) (h : spE x f k s = 0) : Calls Tryd.prog 14 #[.string x, .int .i64 f, .int .i64 k, .string s] w (fun e w' => e = .returned (.tuple #[.string (spT x f k s), .int .i64 0]) ∧ Below w.heap.size w w') := by
  obtain ⟨hm, hvs, hl⟩ := sp_ok h
  have HM := Lib.hid (fun W => refMay_any x f k W hv (by omega))
  have HV := Lib.hid (fun W => refValid_any s W (by omega))
  rw [hm] at HM
  rw [hvs] at HV
  obtain ⟨a, c, rfl, rfl, hac, hc, -, -⟩ := mayR_spec hm
  have j1 : (a : Int) ≤ (c : Int) := by omega
  have j2 : (c : Int) ≤ (x.size : Int) := by omega
  have j3 : (0 : Int) ≤ (a : Int) := by omega
  have j4 : (0 : Int) ≤ (c : Int) := by omega
  have j5 : (x.size : Int) ≤ 16384 := by omega
  have j6 : (s.size : Int) ≤ 70000 := by omega
  have j7 : (a : Int) ≤ (x.size : Int) := by omega
  have HL := Lib.hid (show ¬ ((x.size : Int) - (c : Int) + (a : Int) + (s.size : Int) > 16384) by omega)
  have HT := Lib.hid (show spT x (a : Nat) (c : Nat) s = x.extract 0 a ++ s ++ x.extract c x.size from by unfold spT; simp)
  rw [HT.out]
  clear hm hvs h hl HT hac hc
  have hl := HL.out
  go_enter Tryd.func14, Tryd.ntmps14
  go_wp2_with fail
  refine (HM.out _).mono ?_
  rintro e w1 ⟨rfl, hB⟩
  have H1 := Lib.hid hB
  clear hB
  go_wp2_with fail
  refine (HV.out _).mono ?_
  rintro e w2 ⟨rfl, hB⟩
  have H2 := Lib.hid (H1.out.trans (hB.mono H1.out.size))
  clear hB
  go_wp2_with fail
  go_quiet (fail)
  go_wp2_with fail
  go_ret2
  exact ⟨by simp, below_drewN9 H2.out _⟩
end Go.Proofs.YtjeopabnddekgaaDoor

namespace Go.Proofs.YtjeopabnddekgaaDoor
open Go Go.RowKit Go.Shelf Go.Lib

def StRef (x : ByteArray) (i : Int) (w : World) (e : Ending) (w' : World) : Prop := e = .returned (.tuple #[.int .i64 (if 0 ≤ i ∧ i < (L.mny x : Int) then L.fr x i.toNat else 0 : Nat), .bool (decide (0 ≤ i ∧ i < (L.mny x : Int)))]) ∧ Below w.heap.size w w'
set_option maxHeartbeats 1000000 in
set_option maxRecDepth 100000 in
theorem refStart_any (x : ByteArray) (i : Int) (w : World) (hs : x.size ≤ 1000000000) : Calls Tryd.prog 19 #[.string x, .int .i64 i] w (StRef x i w) := by
  have hst := Lib.hid (fun W => refStarts_any x W (by omega))
  have hm := L.mny_le x
  unfold StRef
  by_cases h : 0 ≤ i ∧ i < (L.mny x : Int)
  · rw [if_pos h, decide_eq_true h]
    obtain ⟨n, rfl⟩ : ∃ n : Nat, i = (n : Nat) := ⟨i.toNat, by omega⟩
    rw [show ((n : Nat) : Int).toNat = n by omega]
    have hn : n < L.mny x := by omega
    have j1 : (0 : Int) ≤ (n : Int) := by omega
    have j2 : (n : Int) < (L.mny x : Int) := by omega
    have j3 : (L.mny x : Int) ≤ 1000000001 := by omega
    obtain ⟨f, hf⟩ : ∃ f, L.fr x n = f := ⟨_, rfl⟩
    rw [hf]
    clear h hm hs
    go_enter Tryd.func19, Tryd.ntmps19
    go_wp2_with fail
    refine (hst.out _).mono ?_
    rintro e w2 ⟨g, cap, rfl, hown, hB2⟩
    have H2 := Lib.hid hB2
    have c0 := offs_cell hown hn
    rw [hf] at c0
    clear hown hB2 hf
    generalize L.mny x = m at *
    go_wp2_with fail
    go_ret2
    exact ⟨rfl, H2.out⟩
  · rw [if_neg h, decide_eq_false h]
    have j3 : (L.mny x : Int) ≤ 1000000001 := by omega
    by_cases h0 : i < 0
    all_goals
      have h1 : i < 0 ∨ (L.mny x : Int) ≤ i := by omega
      clear h hm hs
      go_enter Tryd.func19, Tryd.ntmps19
      go_wp2_with fail
      refine (hst.out _).mono ?_
      rintro e w2 ⟨g, cap, rfl, hown, hB2⟩
      have H2 := Lib.hid hB2
      have h2 : 0 ≤ i → (L.mny x : Int) ≤ i := by omega
      have j4 : (0 : Int) ≤ (L.mny x : Int) := by omega
      clear hown hB2 h1
      generalize L.mny x = m at *
      first
        | (have h3 := h2 (by omega)
           go_wp2_with fail
           go_ret2
           exact ⟨rfl, H2.out⟩)
        | (go_wp2_with fail
           go_ret2
           exact ⟨rfl, H2.out⟩)
set_option maxHeartbeats 1000000 in
set_option maxRecDepth 100000 in
theorem refOff9_any (x : ByteArray) (l c : Int) (w : World) (hs : x.size ≤ 1000000000) : Calls Tryd.prog 21 #[.string x, .agg #[.int .i64 l, .int .i64 c]] w (IntIs (ofs x l c) w) := by
  have HO := Lib.hid (fun W => refOffset_any x l c W (by omega))
  have hBb := (Below.refl w.heap.size w).alloc (Nat.le_refl _) (.cells #[.int .i64 l, .int .i64 c] 38)
  have hr0 : (w.alloc (.cells #[.int .i64 l, .int .i64 c] 38)).heap[w.heap.size]? = some (.cells #[.int .i64 l, .int .i64 c] 38 (0, 0)) := heap_alloc_new _ _
  have H0 := Lib.hid (And.intro hBb hr0)
  clear hBb hr0
  go_enter Tryd.func21, Tryd.ntmps21
  go_upto_region 1 with fail
  generalize w.alloc (.cells #[.int .i64 l, .int .i64 c] 38) = W0 at *
  obtain ⟨p1, p2⟩ : W0.cell? ⟨w.heap.size, 0, none⟩ = some (.int .i64 l) ∧ W0.cell? ⟨w.heap.size, 1, none⟩ = some (.int .i64 c) := by
    refine ⟨?_, ?_⟩ <;> (rw [Lib.cell_of_heap H0.out.2]; rfl)
  go_wp2_with fail
  refine (HO.out _).mono ?_
  rintro e w2 ⟨rfl, hB⟩
  have H2 := Lib.hid (H0.out.1.trans (hB.mono H0.out.1.size))
  clear hB
  go_wp2_with fail
  go_ret
  exact ⟨rfl, H2.out⟩
theorem info_pos10 : (Tryd.prog.info? 38).map (·.size) = some 2 := by kernel_rfl
set_option maxHeartbeats 1000000 in
set_option maxRecDepth 100000 in
theorem refPos9_any (x : ByteArray) (i : Int) (w : World) (hs : x.size ≤ 1000000000) : Calls Tryd.prog 23 #[.string x, .int .i64 i] w (PosIs x (bgnAt x i) w) := by
  have HO := Lib.hid (fun W => refPos_any x i W (by omega))
  unfold PosIs at HO ⊢
  generalize ((posL x (bgnAt x i) : Nat) : Int) = a at *
  generalize ((posC x (bgnAt x i) : Nat) : Int) = c at *
  have hBb := (Below.refl w.heap.size w).alloc (Nat.le_refl _) (.cells #[.int .i64 0, .int .i64 0] 38)
  have hr0 : (w.alloc (.cells #[.int .i64 0, .int .i64 0] 38)).heap[w.heap.size]? = some (.cells #[.int .i64 0, .int .i64 0] 38 (0, 0)) := heap_alloc_new _ _
  have H0 := Lib.hid (And.intro hBb (And.intro hr0 (World.size_alloc w (.cells #[.int .i64 0, .int .i64 0] 38))))
  clear hBb hr0
  go_enter Tryd.func23, Tryd.ntmps23
  go_upto_region 1 with fail
  generalize w.alloc (.cells #[.int .i64 0, .int .i64 0] 38) = W0 at *
  go_wp2_with fail
  refine (HO.out _).mono ?_
  rintro e w2 ⟨rfl, hB⟩
  have hr : w2.heap[w.heap.size]? = some (.cells #[.int .i64 0, .int .i64 0] 38 (0, 0)) := (hB.block w.heap.size (by have := H0.out.2.2; omega)).trans H0.out.2.1
  have H2 := Lib.hid (below_setRow (cs := #[Value.int .i64 a, Value.int .i64 c]) (H0.out.1.trans (hB.mono H0.out.1.size)) (Nat.le_refl w.heap.size))
  have hrs : (w2.setRow w.heap.size #[Value.int .i64 a, Value.int .i64 c]).heap[w.heap.size]? = some (.cells #[Value.int .i64 a, Value.int .i64 c] 38 (0, 0)) := by
    simp [World.setRow, Array.getElem?_modify, hr]
  have HR := Lib.hid hrs
  clear hB hrs
  go_wp2_with (refine wpList_store_row rfl 38 _ _ rfl w.heap.size #[.int .i64 a, .int .i64 c] (by rfl) (by rfl) 38 _ hr info_pos10 rfl (by simp [Value.oneCell']) ?_)
  exact bodyPost_ret (results_cell_row (by rfl) _ _ w.heap.size 38 _ (0, 0) _ (by rfl) HR.out Tryd.underlying38 rfl info_pos10) rfl ⟨rfl, H2.out⟩
end Go.Proofs.YtjeopabnddekgaaDoor

namespace Go.Proofs.YtjeopabnddekgaaDoor
open Go Go.RowKit Go.Shelf Go.Lib

set_option maxHeartbeats 1000000 in
set_option maxRecDepth 100000 in
theorem refNew_any (s : ByteArray) (w : World) (hs : s.size ≤ 1000000000) : Calls Tryd.prog 12 #[.string s] w (fun e w' => e = .returned (.tuple #[.string (if newE s = 0 then s else ⟨#[]⟩), .int .i64 (newE s)]) ∧ Below w.heap.size w w') := by
  have HV := Lib.hid (fun W => refValid_any s W (by omega))
  by_cases h : 16384 < s.size
  · have hE : newE s = 3 := by unfold newE; rw [if_pos h]
    rw [hE]
    have j1 : (s.size : Int) > 16384 := by omega
    clear hE h HV
    go_enter Tryd.func12, Tryd.ntmps12
    go_wp2_with fail
    go_ret2
    exact ⟨rfl, Below.refl _ _⟩
  · have j1 : ¬ (s.size : Int) > 16384 := by omega
    by_cases hv : U.valid s = true
    · have hE : newE s = 0 := by unfold newE; rw [if_neg h, if_pos hv]
      rw [hE, if_pos rfl]
      rw [hv] at HV
      clear hE h hv
      go_enter Tryd.func12, Tryd.ntmps12
      go_wp2_with fail
      refine (HV.out _).mono ?_
      rintro e w1 ⟨rfl, hB⟩
      go_wp2_with fail
      go_ret2
      exact ⟨rfl, hB⟩
    · have hv' : U.valid s = false := by simpa using hv
      have hE : newE s = 10 := by unfold newE; rw [if_neg h, if_neg hv]
      rw [hE]
      rw [hv'] at HV
      clear hE h hv hv'
      go_enter Tryd.func12, Tryd.ntmps12
      go_wp2_with fail
      refine (HV.out _).mono ?_
      rintro e w1 ⟨rfl, hB⟩
      go_wp2_with fail
      go_ret2
      exact ⟨rfl, hB⟩
set_option maxHeartbeats 1000000 in
set_option maxRecDepth 100000 in
theorem refBreaks_any (x : ByteArray) (w : World) (hs : x.size ≤ 1000000000) : Calls Tryd.prog 44 #[.string x] w (IntR (R.cn x).k w) := by
  have hst := Lib.hid (fun W => refStarts_any x W (by omega))
  have hm := L.mny_le x
  have hp := L.mny_pos x
  obtain ⟨K, hK⟩ : ∃ K, L.mny x = K + 1 := ⟨L.mny x - 1, by omega⟩
  rw [show (R.cn x).k = K from by show L.mny x - 1 = K; omega]
  have j1 : (K : Int) ≤ 1000000000 := by omega
  go_enter Tryd.func44, Tryd.ntmps44
  go_wp2_with fail
  refine (hst.out _).mono ?_
  rintro e w2 ⟨g, cap, rfl, hown, hB2⟩
  have H2 := Lib.hid hB2
  rw [hK]
  clear hown hB2 hm hp hK
  go_wp2_with fail
  go_ret
  exact ⟨rfl, H2.out⟩
/-- how deep a text of so many bytes may be -/
def MostR (N : Nat) (w : World) (e : Ending) (w' : World) : Prop := ∃ d : Nat, e = .returned (.int .i64 (4 + 2 * (d : Int))) ∧ N < 2 ^ d ∧ d ≤ 40 ∧ Below w.heap.size w w'
set_option maxHeartbeats 1000000 in
set_option maxRecDepth 100000 in
theorem refMost_any (N : Nat) (w : World) (hN : N ≤ 1000000000) : Calls Tryd.prog 46 #[.int .i64 (N : Nat)] w (MostR N w) := by
  go_enter Tryd.func46, Tryd.ntmps46
  go_wp2_with fail
  go_loop [0, 3] (fun p q => ∃ m k : Nat, p = .int .i64 (m : Nat) ∧ q = .int .i64 (k : Nat) ∧ m = N / 2 ^ k ∧ k ≤ 40 ∧ Hid (k = 0 ∨ 2 ^ (k - 1) ≤ N)) (fun p _ => (RowKit.intOf p).toNat)
  case atStart => exact ⟨N, 0, rfl, rfl, by simp, by omega, Lib.hid (.inl rfl)⟩
  case round =>
    obtain ⟨m, k, rfl, rfl, hm, hk, HK⟩ := hrel
    by_cases h0 : (m : Int) > 0
    · have hk30 : 2 ^ k ≤ N := by
        have h1 : 0 < N / 2 ^ k := by omega
        have h2 : 0 < 2 ^ k := Nat.pow_pos (by decide)
        exact (Nat.div_pos_iff.1 h1).2
      have hk31 : k < 30 := by
        by_cases h : k < 30
        · exact h
        · have h3 : 2 ^ 30 ≤ 2 ^ k := Nat.pow_le_pow_right (by decide) (by omega)
          have h4 : (2 : Nat) ^ 30 = 1073741824 := by decide
          omega
      have hmm : m / 2 = N / 2 ^ (k + 1) := by rw [hm, Nat.pow_succ, Nat.div_div_eq_div_mul]
      have HM := Lib.hid (And.intro hmm hk30)
      have j1 : (k : Int) < 30 := by omega
      have j2 : (0 : Int) ≤ (k : Int) := by omega
      have hmN : m ≤ N := by rw [hm]; exact Nat.div_le_self _ _
      have j3 : (m : Int) ≤ 1000000000 := by omega
      clear hmm hk30 hm
      go_wp2_with fail
      go_round
      case rel => exact ⟨m / 2, k + 1, by go_num, by go_num, HM.out.1, by omega, Lib.hid (.inr (by simpa using HM.out.2))⟩
      case measure => simp [RowKit.intOf]; omega
    · have hz : m = 0 := by omega
      subst hz
      have hN2 : N < 2 ^ k := by
        have h2 : 0 < 2 ^ k := Nat.pow_pos (by decide)
        by_cases h : N < 2 ^ k
        · exact h
        · have := Nat.div_pos (Nat.le_of_not_lt h) h2
          omega
      have HN := Lib.hid hN2
      clear hm hN2
      by_cases hk0 : k = 0
      · subst hk0
        go_wp2_with fail
        go_ret
        exact ⟨1, rfl, Nat.lt_of_lt_of_le HN.out (by decide), by omega, Below.refl _ _⟩
      · have j1 : (0 : Int) < (k : Int) := by omega
        have j2 : (k : Int) ≤ 40 := by omega
        have j4 : ¬ (k : Int) = 0 := by omega
        go_wp2_with fail
        go_ret
        exact ⟨k, rfl, HN.out, by omega, Below.refl _ _⟩
end Go.Proofs.YtjeopabnddekgaaDoor
