/- The document's own Units and Cut: what each answers, by the scan. Conditions: a string of at most 10^12 bytes. -/
import Derived.Test.YtjeopabnddekgaaDoorME11
import Derived.Test.YtjeopabnddekgaaDoorMQ04
import Derived.Test.YtjeopabnddekgaaDoorMQ01
import Derived.Deep.RegionHeld3
import Derived.IntWalk
namespace Go.Proofs.YtjeopabnddekgaaDoor
open Go Go.RowKit Go.Lib

set_option maxHeartbeats 400000 in
set_option maxRecDepth 100000 in
theorem refUnits_any (s : ByteArray) (w : World) (hs : s.size ≤ 1000000000000) :
    Calls Tryd.prog 43 #[.string s] w (IntIs (U.units s) w) := by
  go_enter Tryd.func43, Tryd.ntmps43
  go_wp2_with fail
  go_loopw [3, 4] (fun p n wr => ∃ f pos m : Nat, p = .int .i64 pos ∧ n = .int .i64 m ∧ pos ≤ s.size ∧ m ≤ pos ∧ Hid (m + U.unitsFrom s f pos = U.units s ∧ s.size ≤ pos + f) ∧ Below w.heap.size w wr) (fun p _ _ => s.size - (RowKit.intOf p).toNat)
  case atStart => exact ⟨s.size, 0, 0, rfl, rfl, by omega, by omega, Lib.hid ⟨by unfold U.units; omega, by omega⟩, Below.refl _ _⟩
  case round =>
    obtain ⟨f, pos, m, rfl, rfl, hp, hm, HU, hbl⟩ := hrel
    by_cases hlt : pos < s.size
    · have hw1 := U.wd_pos hlt
      have hw2 := U.wd_le hlt
      have hu := U.un_le hlt
      obtain ⟨f', rfl⟩ : ∃ f', f = f' + 1 := ⟨f - 1, by have := HU.out.2; omega⟩
      have HS := Lib.hid (U.unitsFrom_step s f' pos hlt)
      have hc := fun W => step_any s pos W hlt hs
      go_wp2_with fail
      refine (hc _).mono ?_
      generalize U.wd s pos = d at *
      generalize U.un s pos = u at *
      rintro e w' ⟨rfl, hb⟩
      go_wp2_with fail
      go_roundw
      case rel =>
        refine ⟨f', pos + d, m + u, by go_num, by go_num, by omega, by omega, Lib.hid ⟨?_, ?_⟩, hbl.trans (hb.mono hbl.size)⟩
        · have := HU.out.1; rw [HS.out] at this; omega
        · have := HU.out.2; omega
      case measure => simp [RowKit.intOf]; omega
    · go_wp2_with fail
      go_ret
      refine ⟨?_, hbl⟩
      have := HU.out.1
      rw [U.unitsFrom_end s f pos hlt] at this
      rw [← this]; rfl
set_option maxHeartbeats 400000 in
set_option maxRecDepth 100000 in
theorem refCut_any (s : ByteArray) (u : Int) (w : World) (hs : s.size ≤ 1000000000000) :
    Calls Tryd.prog 85 #[.string s, .int .i64 u] w (IntIs (U.cut s u) w) := by
  go_enter Tryd.func85, Tryd.ntmps85
  go_wp2_with fail
  go_loopw [5, 6] (fun p n wr => ∃ f pos m : Nat, p = .int .i64 pos ∧ n = .int .i64 m ∧ pos ≤ s.size ∧ m ≤ pos ∧ Hid (U.cutFrom s u f pos m = U.cut s u ∧ s.size ≤ pos + f) ∧ Below w.heap.size w wr) (fun p _ _ => s.size - (RowKit.intOf p).toNat)
  case atStart => exact ⟨s.size, 0, 0, rfl, rfl, by omega, by omega, Lib.hid ⟨rfl, by omega⟩, Below.refl _ _⟩
  case round =>
    obtain ⟨f, pos, m, rfl, rfl, hp, hm, HU, hbl⟩ := hrel
    by_cases hlt : pos < s.size
    · have hw1 := U.wd_pos hlt
      have hw2 := U.wd_le hlt
      have hu := U.un_le hlt
      obtain ⟨f', rfl⟩ : ∃ f', f = f' + 1 := ⟨f - 1, by have := HU.out.2; omega⟩
      have hc := fun W => step_any s pos W hlt hs
      by_cases hst : u < ((m + U.un s pos : Nat) : Int)
      · have HS := Lib.hid (U.cutFrom_stop s u f' pos m hlt hst)
        generalize U.wd s pos = d at *
        generalize U.un s pos = v at *
        have e1 : decide (u < (m : Int) + (v : Int)) = true := decide_eq_true (by omega)
        clear hst
        go_wp2_with fail
        refine (hc _).mono ?_
        rintro e w' ⟨rfl, hb⟩
        go_wp2_with fail
        go_ret
        refine ⟨?_, hbl.trans (hb.mono hbl.size)⟩
        have := HU.out.1
        rw [HS.out] at this
        rw [← this]
        rfl
      · have HS := Lib.hid (U.cutFrom_step s u f' pos m hlt hst)
        generalize U.wd s pos = d at *
        generalize U.un s pos = v at *
        have e1 : decide (u < (m : Int) + (v : Int)) = false := decide_eq_false (by omega)
        clear hst
        go_wp2_with fail
        refine (hc _).mono ?_
        rintro e w' ⟨rfl, hb⟩
        go_wp2_with fail
        go_roundw
        case rel =>
          refine ⟨f', pos + d, m + v, by go_num, by go_num, by omega, by omega, Lib.hid ⟨?_, ?_⟩, hbl.trans (hb.mono hbl.size)⟩
          · have := HU.out.1; rw [HS.out] at this; exact this
          · have := HU.out.2; omega
        case measure => simp [RowKit.intOf]; omega
    · go_wp2_with fail
      go_ret
      refine ⟨congrArg (fun n : Nat => Ending.returned (.int .i64 n)) (show s.size = U.cut s u from ?_), hbl⟩
      have := HU.out.1
      rw [U.cutFrom_end s u f pos m hlt] at this
      omega

end Go.Proofs.YtjeopabnddekgaaDoor

namespace Go.Proofs.YtjeopabnddekgaaDoor
open Go Go.RowKit Go.Shelf Go.Lib

theorem cut_zeroR (s : ByteArray) : U.cut s 0 = 0 := by
  unfold U.cut
  by_cases hp : 0 < s.size
  · obtain ⟨f, hf⟩ : ∃ f, s.size = f + 1 := ⟨s.size - 1, by omega⟩
    rw [hf]
    exact U.cutFrom_stop s 0 f 0 0 hp (by have := U.un_le hp; omega)
  · exact U.cutFrom_end s 0 s.size 0 0 hp

def LineYes (s : ByteArray) (k : Nat) (w : World) (e : Ending) (w' : World) : Prop := e = .returned (.tuple #[.agg #[.int .i64 (L.fr s k), .int .i64 (L.to s k)], .bool true]) ∧ Below w.heap.size w w'
theorem line_yes {s : ByteArray} {k : Nat} {w w' : World} {e : Ending} (hk : k < L.mny s) (h : LineIs s k w e w') : LineYes s k w e w' := by
  rcases h with ⟨⟨j, hj, _, rfl⟩ | ⟨hn, _⟩, hB⟩
  · obtain rfl : k = j := by omega
    exact ⟨rfl, hB⟩
  · omega
def LineNo (w : World) (e : Ending) (w' : World) : Prop := e = .returned (.tuple #[.agg #[.int .i64 0, .int .i64 0], .bool false]) ∧ Below w.heap.size w w'
theorem line_no {s : ByteArray} {n : Int} {w w' : World} {e : Ending} (hn : (L.mny s : Int) ≤ n) (h : LineIs s n w e w') : LineNo w e w' := by
  rcases h with ⟨⟨j, hj, hk, rfl⟩ | ⟨_, rfl⟩, hB⟩
  · omega
  · exact ⟨rfl, hB⟩

set_option maxRecDepth 100000 in
set_option maxHeartbeats 1000000 in
theorem refOffset_yes00 (s : ByteArray) (l c : Int) (w : World) (hs : s.size ≤ 100000000000) (h0 : 0 ≤ l) (h1 : 0 ≤ c) (hk : l.toNat < L.mny s) :
    Calls Tryd.prog 57 #[.string s, .agg #[.int .i64 l, .int .i64 c]] w (IntIs (L.fr s l.toNat + U.cut (content s l.toNat) c) w) := by
  have hfr := L.fr_le hk
  have hge := L.to_ge hk
  have hto := L.to_le hk
  have hsz := content_size hk
  have hcl : U.cut (content s l.toNat) c ≤ L.to s l.toNat - L.fr s l.toNat := by obtain ⟨j, n, _, _, h, _⟩ := U.cut_facts (content s l.toNat) c; omega
  have hline := fun W => (refLine_is s (l.toNat : Nat) W (by omega)).mono fun e w' h => line_yes hk h
  have hcut := fun W => refCut_any (content s l.toNat) (c) W (by omega)
  unfold content at hcut hcl ⊢
  unfold LineYes at hline
  generalize L.fr s l.toNat = f at *
  generalize L.to s l.toNat = t at *
  generalize U.cut (s.extract f t) c = m at *
  clear hsz
  rw [show ((l.toNat : Nat) : Int) = l by omega] at hline
  go_enter Tryd.func57, Tryd.ntmps57
  go_wp2_with fail
  refine (hline _).mono ?_
  rintro e w1 ⟨rfl, hB1⟩
  have c3 := ((Boxed2.new w 38 (.int .i64 l) (.int .i64 c)).below hB1).cell1
  have hz1 := hB1.size
  simp only [World.size_alloc] at hz1
  have hz2 : w.heap.size < w1.heap.size + 1 := by omega
  have HB := Lib.hid ((((Below.refl _ w).alloc (Nat.le_refl _) (Obj.cells #[Value.int .i64 l, Value.int .i64 c] 38)).trans (hB1.mono (by simp))).alloc (by omega) (Obj.cells #[Value.int .i64 f, Value.int .i64 t] 74))
  clear hB1
  go_wp2_with fail
  go_region_held3 (fun w' => w'.cell? ⟨w1.heap.size, 0, none⟩ = some (.int .i64 f) ∧ w'.cell? ⟨w1.heap.size, 1, none⟩ = some (.int .i64 t) ∧ w'.cell? ⟨w.heap.size, 1, none⟩ = some (.int .i64 c))
    (go_keep)
    (first | (go_at_call 85; refine (hcut _).mono ?_; rintro e w2 ⟨rfl, hB2⟩; obtain ⟨hbc, hbf⟩ := bcell hB2))
  have hw : IntKind.i64.wrap ((f : Int) + (m : Int)) = ((f + m : Nat) : Int) := by rw [IntWalk.i64_in _ (by omega)]; rfl
  rw [hw]
  go_wp2_with fail
  go_ret
  exact ⟨rfl, (HB.out.drew).trans (hB2.mono (HB.out.drew).size)⟩

set_option maxRecDepth 100000 in
set_option maxHeartbeats 1000000 in
theorem refOffset_no00 (s : ByteArray) (l c : Int) (w : World) (hs : s.size ≤ 100000000000) (h0 : 0 ≤ l) (h1 : 0 ≤ c) (hk : ¬ l.toNat < L.mny s) :
    Calls Tryd.prog 57 #[.string s, .agg #[.int .i64 l, .int .i64 c]] w (IntIs s.size w) := by
  have hm := L.mny_pos s
  have hline := fun W => (refLine_is s (l.toNat : Nat) W (by omega)).mono fun e w' h => line_no (by omega) h
  unfold LineNo at hline
  rw [show ((l.toNat : Nat) : Int) = l by omega] at hline
  go_enter Tryd.func57, Tryd.ntmps57
  go_wp2_with fail
  refine (hline _).mono ?_
  rintro e w1 ⟨rfl, hB1⟩
  have HB := Lib.hid ((((Below.refl _ w).alloc (Nat.le_refl _) (Obj.cells #[Value.int .i64 l, Value.int .i64 c] 38)).trans (hB1.mono (by simp))).alloc (by have := hB1.size; simp at this; omega) (Obj.cells #[Value.int .i64 0, Value.int .i64 0] 74))
  clear hB1
  go_wp2_with fail
  go_ret
  exact ⟨rfl, HB.out⟩

set_option maxRecDepth 100000 in
set_option maxHeartbeats 1000000 in
theorem refOffset_yes01 (s : ByteArray) (l c : Int) (w : World) (hs : s.size ≤ 100000000000) (h0 : 0 ≤ l) (h1 : c < 0) (hk : l.toNat < L.mny s) :
    Calls Tryd.prog 57 #[.string s, .agg #[.int .i64 l, .int .i64 c]] w (IntIs (L.fr s l.toNat + U.cut (content s l.toNat) c) w) := by
  have hfr := L.fr_le hk
  have hge := L.to_ge hk
  have hto := L.to_le hk
  have hsz := content_size hk
  have hcl : U.cut (content s l.toNat) c ≤ L.to s l.toNat - L.fr s l.toNat := by obtain ⟨j, n, _, _, h, _⟩ := U.cut_facts (content s l.toNat) c; omega
  have hline := fun W => (refLine_is s (l.toNat : Nat) W (by omega)).mono fun e w' h => line_yes hk h
  have hcut := fun W => refCut_any (content s l.toNat) (0) W (by omega)
  rw [cut_zeroR, ← U.cut_below (content s l.toNat) c h1] at hcut
  unfold content at hcut hcl ⊢
  unfold LineYes at hline
  generalize L.fr s l.toNat = f at *
  generalize L.to s l.toNat = t at *
  generalize U.cut (s.extract f t) c = m at *
  clear hsz
  rw [show ((l.toNat : Nat) : Int) = l by omega] at hline
  go_enter Tryd.func57, Tryd.ntmps57
  go_wp2_with fail
  refine (hline _).mono ?_
  rintro e w1 ⟨rfl, hB1⟩
  have c3 := ((Boxed2.new w 38 (.int .i64 l) (.int .i64 0)).below hB1).cell1
  have hz1 := hB1.size
  simp only [World.size_alloc] at hz1
  have hz2 : w.heap.size < w1.heap.size + 1 := by omega
  have HB := Lib.hid ((((Below.refl _ w).alloc (Nat.le_refl _) (Obj.cells #[Value.int .i64 l, Value.int .i64 0] 38)).trans (hB1.mono (by simp))).alloc (by omega) (Obj.cells #[Value.int .i64 f, Value.int .i64 t] 74))
  clear hB1
  go_wp2_with fail
  go_region_held3 (fun w' => w'.cell? ⟨w1.heap.size, 0, none⟩ = some (.int .i64 f) ∧ w'.cell? ⟨w1.heap.size, 1, none⟩ = some (.int .i64 t) ∧ w'.cell? ⟨w.heap.size, 1, none⟩ = some (.int .i64 0))
    (go_keep)
    (first | (go_at_call 85; refine (hcut _).mono ?_; rintro e w2 ⟨rfl, hB2⟩; obtain ⟨hbc, hbf⟩ := bcell hB2))
  have hw : IntKind.i64.wrap ((f : Int) + (m : Int)) = ((f + m : Nat) : Int) := by rw [IntWalk.i64_in _ (by omega)]; rfl
  rw [hw]
  go_wp2_with fail
  go_ret
  exact ⟨rfl, (HB.out.drew).trans (hB2.mono (HB.out.drew).size)⟩

set_option maxRecDepth 100000 in
set_option maxHeartbeats 1000000 in
theorem refOffset_no01 (s : ByteArray) (l c : Int) (w : World) (hs : s.size ≤ 100000000000) (h0 : 0 ≤ l) (h1 : c < 0) (hk : ¬ l.toNat < L.mny s) :
    Calls Tryd.prog 57 #[.string s, .agg #[.int .i64 l, .int .i64 c]] w (IntIs s.size w) := by
  have hm := L.mny_pos s
  have hline := fun W => (refLine_is s (l.toNat : Nat) W (by omega)).mono fun e w' h => line_no (by omega) h
  unfold LineNo at hline
  rw [show ((l.toNat : Nat) : Int) = l by omega] at hline
  go_enter Tryd.func57, Tryd.ntmps57
  go_wp2_with fail
  refine (hline _).mono ?_
  rintro e w1 ⟨rfl, hB1⟩
  have HB := Lib.hid ((((Below.refl _ w).alloc (Nat.le_refl _) (Obj.cells #[Value.int .i64 l, Value.int .i64 0] 38)).trans (hB1.mono (by simp))).alloc (by have := hB1.size; simp at this; omega) (Obj.cells #[Value.int .i64 0, Value.int .i64 0] 74))
  clear hB1
  go_wp2_with fail
  go_ret
  exact ⟨rfl, HB.out⟩

set_option maxRecDepth 100000 in
set_option maxHeartbeats 1000000 in
theorem refOffset_yes10 (s : ByteArray) (l c : Int) (w : World) (hs : s.size ≤ 100000000000) (h0 : l < 0) (h1 : 0 ≤ c) (hk : l.toNat < L.mny s) :
    Calls Tryd.prog 57 #[.string s, .agg #[.int .i64 l, .int .i64 c]] w (IntIs (L.fr s l.toNat + U.cut (content s l.toNat) c) w) := by
  have hfr := L.fr_le hk
  have hge := L.to_ge hk
  have hto := L.to_le hk
  have hsz := content_size hk
  have hcl : U.cut (content s l.toNat) c ≤ L.to s l.toNat - L.fr s l.toNat := by obtain ⟨j, n, _, _, h, _⟩ := U.cut_facts (content s l.toNat) c; omega
  have hline := fun W => (refLine_is s (l.toNat : Nat) W (by omega)).mono fun e w' h => line_yes hk h
  have hcut := fun W => refCut_any (content s l.toNat) (c) W (by omega)
  unfold content at hcut hcl ⊢
  unfold LineYes at hline
  generalize L.fr s l.toNat = f at *
  generalize L.to s l.toNat = t at *
  generalize U.cut (s.extract f t) c = m at *
  clear hsz
  rw [show ((l.toNat : Nat) : Int) = 0 by omega] at hline
  go_enter Tryd.func57, Tryd.ntmps57
  go_wp2_with fail
  refine (hline _).mono ?_
  rintro e w1 ⟨rfl, hB1⟩
  have c3 := ((Boxed2.new w 38 (.int .i64 0) (.int .i64 c)).below hB1).cell1
  have hz1 := hB1.size
  simp only [World.size_alloc] at hz1
  have hz2 : w.heap.size < w1.heap.size + 1 := by omega
  have HB := Lib.hid ((((Below.refl _ w).alloc (Nat.le_refl _) (Obj.cells #[Value.int .i64 0, Value.int .i64 c] 38)).trans (hB1.mono (by simp))).alloc (by omega) (Obj.cells #[Value.int .i64 f, Value.int .i64 t] 74))
  clear hB1
  go_wp2_with fail
  go_region_held3 (fun w' => w'.cell? ⟨w1.heap.size, 0, none⟩ = some (.int .i64 f) ∧ w'.cell? ⟨w1.heap.size, 1, none⟩ = some (.int .i64 t) ∧ w'.cell? ⟨w.heap.size, 1, none⟩ = some (.int .i64 c))
    (go_keep)
    (first | (go_at_call 85; refine (hcut _).mono ?_; rintro e w2 ⟨rfl, hB2⟩; obtain ⟨hbc, hbf⟩ := bcell hB2))
  have hw : IntKind.i64.wrap ((f : Int) + (m : Int)) = ((f + m : Nat) : Int) := by rw [IntWalk.i64_in _ (by omega)]; rfl
  rw [hw]
  go_wp2_with fail
  go_ret
  exact ⟨rfl, (HB.out.drew).trans (hB2.mono (HB.out.drew).size)⟩

set_option maxRecDepth 100000 in
set_option maxHeartbeats 1000000 in
theorem refOffset_yes11 (s : ByteArray) (l c : Int) (w : World) (hs : s.size ≤ 100000000000) (h0 : l < 0) (h1 : c < 0) (hk : l.toNat < L.mny s) :
    Calls Tryd.prog 57 #[.string s, .agg #[.int .i64 l, .int .i64 c]] w (IntIs (L.fr s l.toNat + U.cut (content s l.toNat) c) w) := by
  have hfr := L.fr_le hk
  have hge := L.to_ge hk
  have hto := L.to_le hk
  have hsz := content_size hk
  have hcl : U.cut (content s l.toNat) c ≤ L.to s l.toNat - L.fr s l.toNat := by obtain ⟨j, n, _, _, h, _⟩ := U.cut_facts (content s l.toNat) c; omega
  have hline := fun W => (refLine_is s (l.toNat : Nat) W (by omega)).mono fun e w' h => line_yes hk h
  have hcut := fun W => refCut_any (content s l.toNat) (0) W (by omega)
  rw [cut_zeroR, ← U.cut_below (content s l.toNat) c h1] at hcut
  unfold content at hcut hcl ⊢
  unfold LineYes at hline
  generalize L.fr s l.toNat = f at *
  generalize L.to s l.toNat = t at *
  generalize U.cut (s.extract f t) c = m at *
  clear hsz
  rw [show ((l.toNat : Nat) : Int) = 0 by omega] at hline
  go_enter Tryd.func57, Tryd.ntmps57
  go_wp2_with fail
  refine (hline _).mono ?_
  rintro e w1 ⟨rfl, hB1⟩
  have c3 := ((Boxed2.new w 38 (.int .i64 0) (.int .i64 0)).below hB1).cell1
  have hz1 := hB1.size
  simp only [World.size_alloc] at hz1
  have hz2 : w.heap.size < w1.heap.size + 1 := by omega
  have HB := Lib.hid ((((Below.refl _ w).alloc (Nat.le_refl _) (Obj.cells #[Value.int .i64 0, Value.int .i64 0] 38)).trans (hB1.mono (by simp))).alloc (by omega) (Obj.cells #[Value.int .i64 f, Value.int .i64 t] 74))
  clear hB1
  go_wp2_with fail
  go_region_held3 (fun w' => w'.cell? ⟨w1.heap.size, 0, none⟩ = some (.int .i64 f) ∧ w'.cell? ⟨w1.heap.size, 1, none⟩ = some (.int .i64 t) ∧ w'.cell? ⟨w.heap.size, 1, none⟩ = some (.int .i64 0))
    (go_keep)
    (first | (go_at_call 85; refine (hcut _).mono ?_; rintro e w2 ⟨rfl, hB2⟩; obtain ⟨hbc, hbf⟩ := bcell hB2))
  have hw : IntKind.i64.wrap ((f : Int) + (m : Int)) = ((f + m : Nat) : Int) := by rw [IntWalk.i64_in _ (by omega)]; rfl
  rw [hw]
  go_wp2_with fail
  go_ret
  exact ⟨rfl, (HB.out.drew).trans (hB2.mono (HB.out.drew).size)⟩

theorem refOffset_any (s : ByteArray) (l c : Int) (w : World) (hs : s.size ≤ 100000000000) :
    Calls Tryd.prog 57 #[.string s, .agg #[.int .i64 l, .int .i64 c]] w (IntIs (ofs s l c) w) := by
  unfold ofs
  by_cases h : l.toNat < L.mny s
  · rw [if_pos h]
    by_cases h0 : l < 0
    · by_cases h1 : c < 0
      · exact refOffset_yes11 s l c w hs h0 h1 h
      · exact refOffset_yes10 s l c w hs h0 (by omega) h
    · by_cases h1 : c < 0
      · exact refOffset_yes01 s l c w hs (by omega) h1 h
      · exact refOffset_yes00 s l c w hs (by omega) (by omega) h
  · rw [if_neg h]
    have hm := L.mny_pos s
    by_cases h1 : c < 0
    · exact refOffset_no01 s l c w hs (by omega) h1 h
    · exact refOffset_no00 s l c w hs (by omega) (by omega) h
end Go.Proofs.YtjeopabnddekgaaDoor
