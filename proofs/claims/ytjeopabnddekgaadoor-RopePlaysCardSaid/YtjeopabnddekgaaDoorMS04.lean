/- The document's own Offset: the offset that a place by lines leads to. Conditions: a string of at most 10^11 bytes; numbers such as an int holds. -/
import Derived.Test.YtjeopabnddekgaaDoorMS03
import Derived.Test.YtjeopabnddekgaaDoorMS01
import Derived.Deep.RegionHeld3
import Derived.IntWalk
namespace Go.Proofs.YtjeopabnddekgaaDoor
open Go Go.RowKit Go.Shelf Go.Lib

theorem cut_zeroR (s : ByteArray) : U.cut s 0 = 0 := by
  unfold U.cut
  by_cases hp : 0 < s.size
  · obtain ⟨f, hf⟩ : ∃ f, s.size = f + 1 := ⟨s.size - 1, by omega⟩
    rw [hf]
    exact U.cutFrom_stop s 0 f 0 0 hp (by have := U.un_le hp; omega)
  · exact U.cutFrom_end s 0 s.size 0 0 hp

def LineYes (s : ByteArray) (k : Nat) (w : World) (e : Ending) (w' : World) : Prop := e = .returned (.tuple #[.agg #[.int .i64 (L.fr s k), .int .i64 (L.to s k)], .bool true]) ∧ Below w.heap.size w w'
theorem line_yes {s : ByteArray} {k : Nat} {w w' : World} {e : Ending} (hk : k < L.mny s) (h : LineIs s k w e w') : LineYes s k w e w' := by
  rcases h with ⟨⟨j, hj, _, rfl⟩ | ⟨hn, _⟩, hB⟩
  · obtain rfl : k = j := by omega
    exact ⟨rfl, hB⟩
  · omega
def LineNo (w : World) (e : Ending) (w' : World) : Prop := e = .returned (.tuple #[.agg #[.int .i64 0, .int .i64 0], .bool false]) ∧ Below w.heap.size w w'
theorem line_no {s : ByteArray} {n : Int} {w w' : World} {e : Ending} (hn : (L.mny s : Int) ≤ n) (h : LineIs s n w e w') : LineNo w e w' := by
  rcases h with ⟨⟨j, hj, hk, rfl⟩ | ⟨_, rfl⟩, hB⟩
  · omega
  · exact ⟨rfl, hB⟩

set_option maxRecDepth 100000 in
set_option maxHeartbeats 1000000 in
theorem refOffset_yes00 (s : ByteArray) (l c : Int) (w : World) (hs : s.size ≤ 100000000000) (h0 : 0 ≤ l) (h1 : 0 ≤ c) (hk : l.toNat < L.mny s) :
    Calls Tryd.prog 57 #[.string s, .agg #[.int .i64 l, .int .i64 c]] w (IntIs (L.fr s l.toNat + U.cut (content s l.toNat) c) w) := by
  have hfr := L.fr_le hk
  have hge := L.to_ge hk
  have hto := L.to_le hk
  have hsz := content_size hk
  have hcl : U.cut (content s l.toNat) c ≤ L.to s l.toNat - L.fr s l.toNat := by obtain ⟨j, n, _, _, h, _⟩ := U.cut_facts (content s l.toNat) c; omega
  have hline := fun W => (refLine_is s (l.toNat : Nat) W (by omega)).mono fun e w' h => line_yes hk h
  have hcut := fun W => refCut_any (content s l.toNat) (c) W (by omega)
  unfold content at hcut hcl ⊢
  unfold LineYes at hline
  generalize L.fr s l.toNat = f at *
  generalize L.to s l.toNat = t at *
  generalize U.cut (s.extract f t) c = m at *
  clear hsz
  rw [show ((l.toNat : Nat) : Int) = l by omega] at hline
  go_enter Tryd.func57, Tryd.ntmps57
  go_wp2_with fail
  refine (hline _).mono ?_
  rintro e w1 ⟨rfl, hB1⟩
  have c3 := ((Boxed2.new w 38 (.int .i64 l) (.int .i64 c)).below hB1).cell1
  have hz1 := hB1.size
  simp only [World.size_alloc] at hz1
  have hz2 : w.heap.size < w1.heap.size + 1 := by omega
  have HB := Lib.hid ((((Below.refl _ w).alloc (Nat.le_refl _) (Obj.cells #[Value.int .i64 l, Value.int .i64 c] 38)).trans (hB1.mono (by simp))).alloc (by omega) (Obj.cells #[Value.int .i64 f, Value.int .i64 t] 74))
  clear hB1
  go_wp2_with fail
  go_region_held3 (fun w' => w'.cell? ⟨w1.heap.size, 0, none⟩ = some (.int .i64 f) ∧ w'.cell? ⟨w1.heap.size, 1, none⟩ = some (.int .i64 t) ∧ w'.cell? ⟨w.heap.size, 1, none⟩ = some (.int .i64 c))
    (go_keep)
    (first | (go_at_call 85; refine (hcut _).mono ?_; rintro e w2 ⟨rfl, hB2⟩; obtain ⟨hbc, hbf⟩ := bcell hB2))
  have hw : IntKind.i64.wrap ((f : Int) + (m : Int)) = ((f + m : Nat) : Int) := by rw [IntWalk.i64_in _ (by omega)]; rfl
  rw [hw]
  go_wp2_with fail
  go_ret
  exact ⟨rfl, (HB.out.drew).trans (hB2.mono (HB.out.drew).size)⟩

set_option maxRecDepth 100000 in
set_option maxHeartbeats 1000000 in
theorem refOffset_no00 (s : ByteArray) (l c : Int) (w : World) (hs : s.size ≤ 100000000000) (h0 : 0 ≤ l) (h1 : 0 ≤ c) (hk : ¬ l.toNat < L.mny s) :
    Calls Tryd.prog 57 #[.string s, .agg #[.int .i64 l, .int .i64 c]] w (IntIs s.size w) := by
  have hm := L.mny_pos s
  have hline := fun W => (refLine_is s (l.toNat : Nat) W (by omega)).mono fun e w' h => line_no (by omega) h
  unfold LineNo at hline
  rw [show ((l.toNat : Nat) : Int) = l by omega] at hline
  go_enter Tryd.func57, Tryd.ntmps57
  go_wp2_with fail
  refine (hline _).mono ?_
  rintro e w1 ⟨rfl, hB1⟩
  have HB := Lib.hid ((((Below.refl _ w).alloc (Nat.le_refl _) (Obj.cells #[Value.int .i64 l, Value.int .i64 c] 38)).trans (hB1.mono (by simp))).alloc (by have := hB1.size; simp at this; omega) (Obj.cells #[Value.int .i64 0, Value.int .i64 0] 74))
  clear hB1
  go_wp2_with fail
  go_ret
  exact ⟨rfl, HB.out⟩

set_option maxRecDepth 100000 in
set_option maxHeartbeats 1000000 in
theorem refOffset_yes01 (s : ByteArray) (l c : Int) (w : World) (hs : s.size ≤ 100000000000) (h0 : 0 ≤ l) (h1 : c < 0) (hk : l.toNat < L.mny s) :
    Calls Tryd.prog 57 #[.string s, .agg #[.int .i64 l, .int .i64 c]] w (IntIs (L.fr s l.toNat + U.cut (content s l.toNat) c) w) := by
  have hfr := L.fr_le hk
  have hge := L.to_ge hk
  have hto := L.to_le hk
  have hsz := content_size hk
  have hcl : U.cut (content s l.toNat) c ≤ L.to s l.toNat - L.fr s l.toNat := by obtain ⟨j, n, _, _, h, _⟩ := U.cut_facts (content s l.toNat) c; omega
  have hline := fun W => (refLine_is s (l.toNat : Nat) W (by omega)).mono fun e w' h => line_yes hk h
  have hcut := fun W => refCut_any (content s l.toNat) (0) W (by omega)
  rw [cut_zeroR, ← U.cut_below (content s l.toNat) c h1] at hcut
  unfold content at hcut hcl ⊢
  unfold LineYes at hline
  generalize L.fr s l.toNat = f at *
  generalize L.to s l.toNat = t at *
  generalize U.cut (s.extract f t) c = m at *
  clear hsz
  rw [show ((l.toNat : Nat) : Int) = l by omega] at hline
  go_enter Tryd.func57, Tryd.ntmps57
  go_wp2_with fail
  refine (hline _).mono ?_
  rintro e w1 ⟨rfl, hB1⟩
  have c3 := ((Boxed2.new w 38 (.int .i64 l) (.int .i64 0)).below hB1).cell1
  have hz1 := hB1.size
  simp only [World.size_alloc] at hz1
  have hz2 : w.heap.size < w1.heap.size + 1 := by omega
  have HB := Lib.hid ((((Below.refl _ w).alloc (Nat.le_refl _) (Obj.cells #[Value.int .i64 l, Value.int .i64 0] 38)).trans (hB1.mono (by simp))).alloc (by omega) (Obj.cells #[Value.int .i64 f, Value.int .i64 t] 74))
  clear hB1
  go_wp2_with fail
  go_region_held3 (fun w' => w'.cell? ⟨w1.heap.size, 0, none⟩ = some (.int .i64 f) ∧ w'.cell? ⟨w1.heap.size, 1, none⟩ = some (.int .i64 t) ∧ w'.cell? ⟨w.heap.size, 1, none⟩ = some (.int .i64 0))
    (go_keep)
    (first | (go_at_call 85; refine (hcut _).mono ?_; rintro e w2 ⟨rfl, hB2⟩; obtain ⟨hbc, hbf⟩ := bcell hB2))
  have hw : IntKind.i64.wrap ((f : Int) + (m : Int)) = ((f + m : Nat) : Int) := by rw [IntWalk.i64_in _ (by omega)]; rfl
  rw [hw]
  go_wp2_with fail
  go_ret
  exact ⟨rfl, (HB.out.drew).trans (hB2.mono (HB.out.drew).size)⟩

set_option maxRecDepth 100000 in
set_option maxHeartbeats 1000000 in
theorem refOffset_no01 (s : ByteArray) (l c : Int) (w : World) (hs : s.size ≤ 100000000000) (h0 : 0 ≤ l) (h1 : c < 0) (hk : ¬ l.toNat < L.mny s) :
    Calls Tryd.prog 57 #[.string s, .agg #[.int .i64 l, .int .i64 c]] w (IntIs s.size w) := by
  have hm := L.mny_pos s
  have hline := fun W => (refLine_is s (l.toNat : Nat) W (by omega)).mono fun e w' h => line_no (by omega) h
  unfold LineNo at hline
  rw [show ((l.toNat : Nat) : Int) = l by omega] at hline
  go_enter Tryd.func57, Tryd.ntmps57
  go_wp2_with fail
  refine (hline _).mono ?_
  rintro e w1 ⟨rfl, hB1⟩
  have HB := Lib.hid ((((Below.refl _ w).alloc (Nat.le_refl _) (Obj.cells #[Value.int .i64 l, Value.int .i64 0] 38)).trans (hB1.mono (by simp))).alloc (by have := hB1.size; simp at this; omega) (Obj.cells #[Value.int .i64 0, Value.int .i64 0] 74))
  clear hB1
  go_wp2_with fail
  go_ret
  exact ⟨rfl, HB.out⟩

set_option maxRecDepth 100000 in
set_option maxHeartbeats 1000000 in
theorem refOffset_yes10 (s : ByteArray) (l c : Int) (w : World) (hs : s.size ≤ 100000000000) (h0 : l < 0) (h1 : 0 ≤ c) (hk : l.toNat < L.mny s) :
    Calls Tryd.prog 57 #[.string s, .agg #[.int .i64 l, .int .i64 c]] w (IntIs (L.fr s l.toNat + U.cut (content s l.toNat) c) w) := by
  have hfr := L.fr_le hk
  have hge := L.to_ge hk
  have hto := L.to_le hk
  have hsz := content_size hk
  have hcl : U.cut (content s l.toNat) c ≤ L.to s l.toNat - L.fr s l.toNat := by obtain ⟨j, n, _, _, h, _⟩ := U.cut_facts (content s l.toNat) c; omega
  have hline := fun W => (refLine_is s (l.toNat : Nat) W (by omega)).mono fun e w' h => line_yes hk h
  have hcut := fun W => refCut_any (content s l.toNat) (c) W (by omega)
  unfold content at hcut hcl ⊢
  unfold LineYes at hline
  generalize L.fr s l.toNat = f at *
  generalize L.to s l.toNat = t at *
  generalize U.cut (s.extract f t) c = m at *
  clear hsz
  rw [show ((l.toNat : Nat) : Int) = 0 by omega] at hline
  go_enter Tryd.func57, Tryd.ntmps57
  go_wp2_with fail
  refine (hline _).mono ?_
  rintro e w1 ⟨rfl, hB1⟩
  have c3 := ((Boxed2.new w 38 (.int .i64 0) (.int .i64 c)).below hB1).cell1
  have hz1 := hB1.size
  simp only [World.size_alloc] at hz1
  have hz2 : w.heap.size < w1.heap.size + 1 := by omega
  have HB := Lib.hid ((((Below.refl _ w).alloc (Nat.le_refl _) (Obj.cells #[Value.int .i64 0, Value.int .i64 c] 38)).trans (hB1.mono (by simp))).alloc (by omega) (Obj.cells #[Value.int .i64 f, Value.int .i64 t] 74))
  clear hB1
  go_wp2_with fail
  go_region_held3 (fun w' => w'.cell? ⟨w1.heap.size, 0, none⟩ = some (.int .i64 f) ∧ w'.cell? ⟨w1.heap.size, 1, none⟩ = some (.int .i64 t) ∧ w'.cell? ⟨w.heap.size, 1, none⟩ = some (.int .i64 c))
    (go_keep)
    (first | (go_at_call 85; refine (hcut _).mono ?_; rintro e w2 ⟨rfl, hB2⟩; obtain ⟨hbc, hbf⟩ := bcell hB2))
  have hw : IntKind.i64.wrap ((f : Int) + (m : Int)) = ((f + m : Nat) : Int) := by rw [IntWalk.i64_in _ (by omega)]; rfl
  rw [hw]
  go_wp2_with fail
  go_ret
  exact ⟨rfl, (HB.out.drew).trans (hB2.mono (HB.out.drew).size)⟩

set_option maxRecDepth 100000 in
set_option maxHeartbeats 1000000 in
theorem refOffset_yes11 (s : ByteArray) (l c : Int) (w : World) (hs : s.size ≤ 100000000000) (h0 : l < 0) (h1 : c < 0) (hk : l.toNat < L.mny s) :
    Calls Tryd.prog 57 #[.string s, .agg #[.int .i64 l, .int .i64 c]] w (IntIs (L.fr s l.toNat + U.cut (content s l.toNat) c) w) := by
  have hfr := L.fr_le hk
  have hge := L.to_ge hk
  have hto := L.to_le hk
  have hsz := content_size hk
  have hcl : U.cut (content s l.toNat) c ≤ L.to s l.toNat - L.fr s l.toNat := by obtain ⟨j, n, _, _, h, _⟩ := U.cut_facts (content s l.toNat) c; omega
  have hline := fun W => (refLine_is s (l.toNat : Nat) W (by omega)).mono fun e w' h => line_yes hk h
  have hcut := fun W => refCut_any (content s l.toNat) (0) W (by omega)
  rw [cut_zeroR, ← U.cut_below (content s l.toNat) c h1] at hcut
  unfold content at hcut hcl ⊢
  unfold LineYes at hline
  generalize L.fr s l.toNat = f at *
  generalize L.to s l.toNat = t at *
  generalize U.cut (s.extract f t) c = m at *
  clear hsz
  rw [show ((l.toNat : Nat) : Int) = 0 by omega] at hline
  go_enter Tryd.func57, Tryd.ntmps57
  go_wp2_with fail
  refine (hline _).mono ?_
  rintro e w1 ⟨rfl, hB1⟩
  have c3 := ((Boxed2.new w 38 (.int .i64 0) (.int .i64 0)).below hB1).cell1
  have hz1 := hB1.size
  simp only [World.size_alloc] at hz1
  have hz2 : w.heap.size < w1.heap.size + 1 := by omega
  have HB := Lib.hid ((((Below.refl _ w).alloc (Nat.le_refl _) (Obj.cells #[Value.int .i64 0, Value.int .i64 0] 38)).trans (hB1.mono (by simp))).alloc (by omega) (Obj.cells #[Value.int .i64 f, Value.int .i64 t] 74))
  clear hB1
  go_wp2_with fail
  go_region_held3 (fun w' => w'.cell? ⟨w1.heap.size, 0, none⟩ = some (.int .i64 f) ∧ w'.cell? ⟨w1.heap.size, 1, none⟩ = some (.int .i64 t) ∧ w'.cell? ⟨w.heap.size, 1, none⟩ = some (.int .i64 0))
    (go_keep)
    (first | (go_at_call 85; refine (hcut _).mono ?_; rintro e w2 ⟨rfl, hB2⟩; obtain ⟨hbc, hbf⟩ := bcell hB2))
  have hw : IntKind.i64.wrap ((f : Int) + (m : Int)) = ((f + m : Nat) : Int) := by rw [IntWalk.i64_in _ (by omega)]; rfl
  rw [hw]
  go_wp2_with fail
  go_ret
  exact ⟨rfl, (HB.out.drew).trans (hB2.mono (HB.out.drew).size)⟩

theorem refOffset_any (s : ByteArray) (l c : Int) (w : World) (hs : s.size ≤ 100000000000) :
    Calls Tryd.prog 57 #[.string s, .agg #[.int .i64 l, .int .i64 c]] w (IntIs (ofs s l c) w) := by
  unfold ofs
  by_cases h : l.toNat < L.mny s
  · rw [if_pos h]
    by_cases h0 : l < 0
    · by_cases h1 : c < 0
      · exact refOffset_yes11 s l c w hs h0 h1 h
      · exact refOffset_yes10 s l c w hs h0 (by omega) h
    · by_cases h1 : c < 0
      · exact refOffset_yes01 s l c w hs (by omega) h1 h
      · exact refOffset_yes00 s l c w hs (by omega) (by omega) h
  · rw [if_neg h]
    have hm := L.mny_pos s
    by_cases h1 : c < 0
    · exact refOffset_no01 s l c w hs (by omega) h1 h
    · exact refOffset_no00 s l c w hs (by omega) (by omega) h
end Go.Proofs.YtjeopabnddekgaaDoor

namespace Go.Proofs.YtjeopabnddekgaaDoor
open Go Go.RowKit Go.Shelf Go.Lib

def PosIs (s : ByteArray) (b : Nat) (w : World) (e : Ending) (w' : World) : Prop := e = .returned (.agg #[.int .i64 (posL s b), .int .i64 (posC s b)]) ∧ Below w.heap.size w w'
set_option maxRecDepth 100000 in
set_option maxHeartbeats 1000000 in
theorem refPos_any (s : ByteArray) (i : Int) (w : World) (hs : s.size ≤ 100000000000) :
    Calls Tryd.prog 60 #[.string s, .int .i64 i] w (PosIs s (bgnAt s i) w) := by
  have hm2 := L.mny_le s
  have hm1 := L.mny_pos s
  have hbg := fun W => refBegin_all s i W (by omega)
  have hst := fun W => refStarts_any s W hs
  have hbs : bgnAt s i ≤ s.size := by obtain ⟨j, n, _, h, _⟩ := U.bgnAt_facts s i; exact h
  generalize bgnAt s i = b at *
  go_enter Tryd.func60, Tryd.ntmps60
  go_wp2_with fail
  refine (hbg _).mono ?_
  rintro e w1 ⟨rfl, hB1⟩
  have bR1 := (Boxed2.new w 38 (.int .i64 0) (.int .i64 0)).below hB1
  have hB01 := ((Below.refl _ w).alloc (Nat.le_refl _) (.cells #[.int .i64 0, .int .i64 0] 38)).trans (hB1.mono (by simp))
  clear hB1
  go_wp2_with fail
  refine (hst _).mono ?_
  rintro e w2 ⟨g, cap, rfl, hown, hB2⟩
  have bR2 := bR1.below hB2
  have hB02 := hB01.trans (hB2.mono hB01.size)
  have hcells : Hid (∀ j, j < L.mny s → w2.cell? ⟨g, j, none⟩ = some (.int .i64 (L.fr s j))) := Lib.hid (fun j hj => offs_cell hown hj)
  clear hown hB2 hB01 bR1
  go_wp2_with fail
  go_loop [6] (fun p => ∃ k : Nat, p = .int .i64 k ∧ k < L.mny s ∧ L.fr s k ≤ b) (fun p => L.mny s - (RowKit.intOf p).toNat)
  case atStart => exact ⟨0, rfl, by omega, Nat.zero_le _⟩
  case round =>
    obtain ⟨k, rfl, hk, hfk⟩ := hrel
    by_cases hk1 : k + 1 < L.mny s
    · have hc := hcells.out (k + 1) hk1
      by_cases hle : L.fr s (k + 1) ≤ b
      · go_wp2_with fail
        go_round
        case rel => exact ⟨k + 1, by go_num, hk1, hle⟩
        case measure => simp [RowKit.intOf]; omega
      · have hup : b < L.fr s (k + 1) := by omega
        have hdl : decide (L.fr s (k + 1) ≤ b) = false := decide_eq_false hle
        have hnm : k < L.mny s := hk
        have hln : L.ln s b = k := L.ln_eq hk hfk (fun _ => hup)
        have hfr := L.fr_le hk
        have hto := L.to_le hk
        have hge := L.to_ge hk
        have HC : Hid (posL s b = k ∧ posC s b = U.units (s.extract (L.fr s k) (min b (L.to s k)))) := Lib.hid ⟨by unfold posL; exact hln, by unfold posC; rw [hln]⟩
        have hline := fun W => refLine_yes s k W (by omega) hk
        by_cases hbt : L.to s k < b
        · have hm : min b (L.to s k) = L.to s k := by omega
          rw [hm] at HC
          have hun := fun W => refUnits_any (s.extract (L.fr s k) (L.to s k)) W (by rw [ByteArray.size_extract]; omega)
          generalize U.units (s.extract (L.fr s k) (L.to s k)) = u at *
          clear hm hln
          generalize L.fr s k = f at *
          generalize L.to s k = t at *
          go_wp2_with fail
          refine (hline _).mono ?_
          rintro e w3 ⟨rfl, hB3⟩
          have bR3 := bR2.below hB3
          have hB03 := hB02.trans (hB3.mono hB02.size)
          have c0 := bR3.cell0
          have c1 := bR3.cell1
          have f0 := bR3.frozen0
          have f1 := bR3.frozen1
          have l3 := bR3.lt
          clear hB3 hB02 bR2 hcells
          go_wp2_with fail
          refine (hun _).mono ?_
          rintro e w4 ⟨rfl, hB4⟩
          have bR4 := (bR3.alloc (.cells #[.int .i64 f, .int .i64 t] 74)).below hB4
          have hB04 := (hB03.alloc hB03.size (.cells #[.int .i64 f, .int .i64 t] 74)).trans (hB4.mono (hB03.alloc hB03.size (.cells #[.int .i64 f, .int .i64 t] 74)).size)
          have c0' := bR4.cell0
          have c1' := bR4.cell1
          have f0' := bR4.frozen0
          have f1' := bR4.frozen1
          clear hB4 bR3 hB03 c0 c1 f0 f1
          go_wp2_with fail
          exact bodyPost_ret (v := .agg #[.int .i64 k, .int .i64 u]) (by simp [results, Tryd.results60, go_sem, c0', c1']) rfl ⟨by rw [HC.out.1, HC.out.2], (hB04.setCell (p := ⟨w.heap.size, 0, none⟩) (Nat.le_refl _) _).setCell (p := ⟨w.heap.size, 1, none⟩) (Nat.le_refl _) _⟩
        · have hm : min b (L.to s k) = b := by omega
          rw [hm] at HC
          have hun := fun W => refUnits_any (s.extract (L.fr s k) b) W (by rw [ByteArray.size_extract]; omega)
          generalize U.units (s.extract (L.fr s k) b) = u at *
          clear hm hln
          generalize L.fr s k = f at *
          generalize L.to s k = t at *
          go_wp2_with fail
          refine (hline _).mono ?_
          rintro e w3 ⟨rfl, hB3⟩
          have bR3 := bR2.below hB3
          have hB03 := hB02.trans (hB3.mono hB02.size)
          have c0 := bR3.cell0
          have c1 := bR3.cell1
          have f0 := bR3.frozen0
          have f1 := bR3.frozen1
          have l3 := bR3.lt
          clear hB3 hB02 bR2 hcells
          go_wp2_with fail
          refine (hun _).mono ?_
          rintro e w4 ⟨rfl, hB4⟩
          have bR4 := (bR3.alloc (.cells #[.int .i64 f, .int .i64 t] 74)).below hB4
          have hB04 := (hB03.alloc hB03.size (.cells #[.int .i64 f, .int .i64 t] 74)).trans (hB4.mono (hB03.alloc hB03.size (.cells #[.int .i64 f, .int .i64 t] 74)).size)
          have c0' := bR4.cell0
          have c1' := bR4.cell1
          have f0' := bR4.frozen0
          have f1' := bR4.frozen1
          clear hB4 bR3 hB03 c0 c1 f0 f1
          go_wp2_with fail
          exact bodyPost_ret (v := .agg #[.int .i64 k, .int .i64 u]) (by simp [results, Tryd.results60, go_sem, c0', c1']) rfl ⟨by rw [HC.out.1, HC.out.2], (hB04.setCell (p := ⟨w.heap.size, 0, none⟩) (Nat.le_refl _) _).setCell (p := ⟨w.heap.size, 1, none⟩) (Nat.le_refl _) _⟩
    · have hk2 : ¬ (k : Int) + 1 < (L.mny s : Int) := by omega
      have hnm : k < L.mny s := hk
      have hln : L.ln s b = k := L.ln_eq hk hfk (fun h => absurd h hk1)
      have hfr := L.fr_le hk
      have hto := L.to_le hk
      have hge := L.to_ge hk
      have HC : Hid (posL s b = k ∧ posC s b = U.units (s.extract (L.fr s k) (min b (L.to s k)))) := Lib.hid ⟨by unfold posL; exact hln, by unfold posC; rw [hln]⟩
      have hline := fun W => refLine_yes s k W (by omega) hk
      by_cases hbt : L.to s k < b
      · have hm : min b (L.to s k) = L.to s k := by omega
        rw [hm] at HC
        have hun := fun W => refUnits_any (s.extract (L.fr s k) (L.to s k)) W (by rw [ByteArray.size_extract]; omega)
        generalize U.units (s.extract (L.fr s k) (L.to s k)) = u at *
        clear hm hln
        generalize L.fr s k = f at *
        generalize L.to s k = t at *
        go_wp2_with fail
        refine (hline _).mono ?_
        rintro e w3 ⟨rfl, hB3⟩
        have bR3 := bR2.below hB3
        have hB03 := hB02.trans (hB3.mono hB02.size)
        have c0 := bR3.cell0
        have c1 := bR3.cell1
        have f0 := bR3.frozen0
        have f1 := bR3.frozen1
        have l3 := bR3.lt
        clear hB3 hB02 bR2 hcells
        go_wp2_with fail
        refine (hun _).mono ?_
        rintro e w4 ⟨rfl, hB4⟩
        have bR4 := (bR3.alloc (.cells #[.int .i64 f, .int .i64 t] 74)).below hB4
        have hB04 := (hB03.alloc hB03.size (.cells #[.int .i64 f, .int .i64 t] 74)).trans (hB4.mono (hB03.alloc hB03.size (.cells #[.int .i64 f, .int .i64 t] 74)).size)
        have c0' := bR4.cell0
        have c1' := bR4.cell1
        have f0' := bR4.frozen0
        have f1' := bR4.frozen1
        clear hB4 bR3 hB03 c0 c1 f0 f1
        go_wp2_with fail
        exact bodyPost_ret (v := .agg #[.int .i64 k, .int .i64 u]) (by simp [results, Tryd.results60, go_sem, c0', c1']) rfl ⟨by rw [HC.out.1, HC.out.2], (hB04.setCell (p := ⟨w.heap.size, 0, none⟩) (Nat.le_refl _) _).setCell (p := ⟨w.heap.size, 1, none⟩) (Nat.le_refl _) _⟩
      · have hm : min b (L.to s k) = b := by omega
        rw [hm] at HC
        have hun := fun W => refUnits_any (s.extract (L.fr s k) b) W (by rw [ByteArray.size_extract]; omega)
        generalize U.units (s.extract (L.fr s k) b) = u at *
        clear hm hln
        generalize L.fr s k = f at *
        generalize L.to s k = t at *
        go_wp2_with fail
        refine (hline _).mono ?_
        rintro e w3 ⟨rfl, hB3⟩
        have bR3 := bR2.below hB3
        have hB03 := hB02.trans (hB3.mono hB02.size)
        have c0 := bR3.cell0
        have c1 := bR3.cell1
        have f0 := bR3.frozen0
        have f1 := bR3.frozen1
        have l3 := bR3.lt
        clear hB3 hB02 bR2 hcells
        go_wp2_with fail
        refine (hun _).mono ?_
        rintro e w4 ⟨rfl, hB4⟩
        have bR4 := (bR3.alloc (.cells #[.int .i64 f, .int .i64 t] 74)).below hB4
        have hB04 := (hB03.alloc hB03.size (.cells #[.int .i64 f, .int .i64 t] 74)).trans (hB4.mono (hB03.alloc hB03.size (.cells #[.int .i64 f, .int .i64 t] 74)).size)
        have c0' := bR4.cell0
        have c1' := bR4.cell1
        have f0' := bR4.frozen0
        have f1' := bR4.frozen1
        clear hB4 bR3 hB03 c0 c1 f0 f1
        go_wp2_with fail
        exact bodyPost_ret (v := .agg #[.int .i64 k, .int .i64 u]) (by simp [results, Tryd.results60, go_sem, c0', c1']) rfl ⟨by rw [HC.out.1, HC.out.2], (hB04.setCell (p := ⟨w.heap.size, 0, none⟩) (Nat.le_refl _) _).setCell (p := ⟨w.heap.size, 1, none⟩) (Nat.le_refl _) _⟩
end Go.Proofs.YtjeopabnddekgaaDoor
