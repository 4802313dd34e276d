/- The document's own Line: what it answers. Conditions: a string of at most 10^11 bytes. -/
import Derived.Test.YtjeopabnddekgaaDoorMS02
import Derived.Test.YtjeopabnddekgaaDoorME11
namespace Go.Proofs.YtjeopabnddekgaaDoor
open Go Go.RowKit Go.Shelf Go.Lib

theorem bcell {W w1 : World} (hb : Below W.heap.size W w1) : (∀ b o, b < W.heap.size → w1.cell? ⟨b, o, none⟩ = W.cell? ⟨b, o, none⟩) ∧ (∀ b o, b < W.heap.size → w1.frozen? ⟨b, o, none⟩ = W.frozen? ⟨b, o, none⟩) :=
  ⟨fun b o h => hb.cell (p := ⟨b, o, none⟩) h, fun b o h => hb.frozen (p := ⟨b, o, none⟩) h⟩
theorem below_grown {w w' : World} (h : Below w.heap.size w w') : w.grownBy w' none := ⟨h.os, h.tape, h.output, h.size, fun k hk _ => h.block k hk⟩
theorem ownsRow_below {w w' : World} {n₀ e size k : Nat} {v : Value} {xs : List Value} (h : w.ownsRow n₀ e size v k xs) (hB : Below w.heap.size w w') : w'.ownsRow n₀ e size v k xs := h.kept (below_grown hB) (by cases hv : v.ownBlock <;> simp)
theorem boxed_below {w w' : World} {B : Nat} {t : TypeId} {u : Value} (h : Boxed w B t u) (hB : Below w.heap.size w w') : Boxed w' B t u := h.kept (below_grown hB) (by simp)
theorem Boxed2.drew {W : World} {B : Nat} {t : TypeId} {u v : Value} (h : Boxed2 W B t u v) : Boxed2 W.drew B t u v := h
theorem Boxed2.below {w w' : World} {B : Nat} {t : TypeId} {u v : Value} (h : Boxed2 w B t u v) (hB : Below w.heap.size w w') : Boxed2 w' B t u v := h.kept (below_grown hB) (by simp)
/-- the k-th offset lies at its place -/
theorem offs_cell {s : ByteArray} {W : World} {n₀ g cap k j : Nat} (h : W.ownsRow n₀ 3 1 (.slice (some ⟨g, 0, none⟩) k cap) k (offs s (List.range k))) (hj : j < k) : W.cell? ⟨g, j, none⟩ = some (.int .i64 (L.fr s j)) := by
  have := h.cells (g := g) rfl j (.int .i64 (L.fr s j)) (by simp [offs, hj])
  rwa [show (⟨g, 0, none⟩ : Addr).add j = ⟨g, j, none⟩ by unfold Addr.add; split <;> simp_all] at this

/-- what Line answers -/
def LineIs (s : ByteArray) (n : Int) (w : World) (e : Ending) (w' : World) : Prop :=
  ((∃ k : Nat, n = k ∧ k < L.mny s ∧ e = .returned (.tuple #[.agg #[.int .i64 (L.fr s k), .int .i64 (L.to s k)], .bool true])) ∨ ((n < 0 ∨ (L.mny s : Int) ≤ n) ∧ e = .returned (.tuple #[.agg #[.int .i64 0, .int .i64 0], .bool false]))) ∧ Below w.heap.size w w'
theorem line_is (s : ByteArray) (n : Int) (w : World) (hs : s.size ≤ 1000000000000) : Calls Tryd.prog 52 #[.string s, .int .i64 n] w (LineIs s n w) := line_any s n w hs

set_option maxRecDepth 100000 in
set_option maxHeartbeats 1000000 in
theorem refLine_no (s : ByteArray) (n : Int) (w : World) (hs : s.size ≤ 100000000000) (hn : n < 0 ∨ (L.mny s : Int) ≤ n) :
    Calls Tryd.prog 84 #[.string s, .int .i64 n] w fun e w' => e = .returned (.tuple #[.agg #[.int .i64 0, .int .i64 0], .bool false]) ∧ Below w.heap.size w w' := by
  have hm2 := L.mny_le s
  have hc := fun W => refStarts_any s W hs
  by_cases h0 : n < 0
  · clear hn
    go_enter Tryd.func84, Tryd.ntmps84
    go_wp2_with fail
    refine (hc _).mono ?_
    rintro e w' ⟨g, cap, rfl, hown, hB⟩
    obtain ⟨hbc, hbf⟩ := bcell hB
    have HO := Lib.hid hown
    clear hown
    have hz := hB.size
    simp at hz
    go_wp2_with fail
    exact bodyPost_ret (v := .tuple #[.agg #[.int .i64 0, .int .i64 0], .bool false]) (by simp [results, Tryd.results84, go_sem, hbc]) rfl ⟨rfl, ((((Below.refl _ w).alloc (Nat.le_refl _) _).trans (hB.mono (by simp))).setCell (p := ⟨w.heap.size, 0, none⟩) (Nat.le_refl _) _).setCell (p := ⟨w.heap.size, 1, none⟩) (Nat.le_refl _) _⟩
  · have hn' : (L.mny s : Int) ≤ n := by omega
    clear hn
    go_enter Tryd.func84, Tryd.ntmps84
    go_wp2_with fail
    refine (hc _).mono ?_
    rintro e w' ⟨g, cap, rfl, hown, hB⟩
    obtain ⟨hbc, hbf⟩ := bcell hB
    have HO := Lib.hid hown
    clear hown
    have hz := hB.size
    simp at hz
    go_wp2_with fail
    exact bodyPost_ret (v := .tuple #[.agg #[.int .i64 0, .int .i64 0], .bool false]) (by simp [results, Tryd.results84, go_sem, hbc]) rfl ⟨rfl, ((((Below.refl _ w).alloc (Nat.le_refl _) _).trans (hB.mono (by simp))).setCell (p := ⟨w.heap.size, 0, none⟩) (Nat.le_refl _) _).setCell (p := ⟨w.heap.size, 1, none⟩) (Nat.le_refl _) _⟩

set_option maxRecDepth 100000 in
set_option maxHeartbeats 2000000 in
theorem refLine_yes (s : ByteArray) (k : Nat) (w : World) (hs : s.size ≤ 100000000000) (hk : k < L.mny s) :
    Calls Tryd.prog 84 #[.string s, .int .i64 k] w fun e w' => e = .returned (.tuple #[.agg #[.int .i64 (L.fr s k), .int .i64 (L.to s k)], .bool true]) ∧ Below w.heap.size w w' := by
  have hm2 := L.mny_le s
  have hfr := L.fr_le hk
  have hto := L.to_le hk
  have hge := L.to_ge hk
  have hc := fun W => refStarts_any s W hs
  have HC : Hid (∀ pos, L.fr s k ≤ pos → pos ≤ L.to s k → L.ce s pos = L.to s k) := Lib.hid (fun pos h1 h2 => L.ce_same hfr h1 h2)
  have HI : Hid (L.to s k < s.size → L.brk s (L.to s k) = true) := Lib.hid (fun h => L.ce_is hfr h)
  have HF : Hid (∀ (W : World) (n₀ g cap : Nat), W.ownsRow n₀ 3 1 (.slice (some ⟨g, 0, none⟩) (L.mny s) cap) (L.mny s) (offs s (List.range (L.mny s))) → W.cell? ⟨g, k, none⟩ = some (.int .i64 (L.fr s k))) := Lib.hid (fun W n₀ g cap h => offs_cell h hk)
  generalize L.to s k = t at *
  generalize L.fr s k = f at *
  have d1 : decide ((k : Int) < 0) = false := decide_eq_false (by omega)
  have d2 : decide (L.mny s ≤ k) = false := decide_eq_false (by omega)
  go_enter Tryd.func84, Tryd.ntmps84
  go_wp2_with fail
  refine (hc _).mono ?_
  rintro e w' ⟨g, cap, rfl, hown, hB⟩
  obtain ⟨hbc, hbf⟩ := bcell hB
  have hcell := HF.out _ _ _ _ hown
  clear hown
  have hz := hB.size
  simp at hz
  go_wp2_with fail
  go_loop [7] (fun p => ∃ pos : Nat, p = .int .i64 pos ∧ f ≤ pos ∧ pos ≤ t) (fun p => s.size - (RowKit.intOf p).toNat)
  case atStart => exact ⟨f, rfl, Nat.le_refl _, hge⟩
  case round =>
    obtain ⟨pos, rfl, h1, h2⟩ := hrel
    have hend := fun W => refEnd_any s pos W (by omega) (by omega)
    by_cases hlt : pos < s.size
    · cases hb : L.brk s pos
      · rw [L.eb_no hb] at hend
        have hne : pos ≠ t := fun e => by
          have := HI.out (by omega)
          rw [← e, hb] at this
          cases this
        have hlt2 : pos + 1 ≤ t := by omega
        clear hne hb
        go_wp2_with fail
        refine (hend _).mono ?_
        rintro e w' ⟨rfl, rfl⟩
        go_wp2_with fail
        go_round
        case rel => exact ⟨pos + 1, by go_num, by omega, hlt2⟩
        case measure => simp [RowKit.intOf]; omega
      · obtain ⟨e1, e2, e3⟩ := L.eb_pos hlt hb
        have hpt : pos = t := by rw [← HC.out pos h1 h2, L.ce_brk hlt hb]
        have hz0 : ((L.eb s pos : Int) == 0) = false := by simp; omega
        clear e1 hb
        generalize L.eb s pos = d at *
        subst hpt
        go_wp2_with fail
        refine (hend _).mono ?_
        rintro e w' ⟨rfl, rfl⟩
        go_wp2_with fail
        exact bodyPost_ret (v := .tuple #[.agg #[.int .i64 f, .int .i64 pos], .bool true]) (by simp [results, Tryd.results84, go_sem, hbc]) rfl ⟨rfl, ((((Below.refl _ w).alloc (Nat.le_refl _) _).trans (hB.mono (by simp))).setCell (p := ⟨w.heap.size, 0, none⟩) (Nat.le_refl _) _).setCell (p := ⟨w.heap.size, 1, none⟩) (Nat.le_refl _) _⟩
    · obtain rfl : pos = t := by omega
      go_wp2_with fail
      exact bodyPost_ret (v := .tuple #[.agg #[.int .i64 f, .int .i64 pos], .bool true]) (by simp [results, Tryd.results84, go_sem, hbc]) rfl ⟨rfl, ((((Below.refl _ w).alloc (Nat.le_refl _) _).trans (hB.mono (by simp))).setCell (p := ⟨w.heap.size, 0, none⟩) (Nat.le_refl _) _).setCell (p := ⟨w.heap.size, 1, none⟩) (Nat.le_refl _) _⟩
theorem refLine_is (s : ByteArray) (n : Int) (w : World) (hs : s.size ≤ 100000000000) : Calls Tryd.prog 84 #[.string s, .int .i64 n] w (LineIs s n w) := by
  by_cases h : n < 0 ∨ (L.mny s : Int) ≤ n
  · exact (refLine_no s n w hs h).mono fun e w' ⟨h1, h2⟩ => ⟨.inr ⟨h, h1⟩, h2⟩
  · obtain ⟨k, rfl⟩ : ∃ k : Nat, n = k := ⟨n.toNat, by omega⟩
    exact (refLine_yes s k w hs (by omega)).mono fun e w' ⟨h1, h2⟩ => ⟨.inl ⟨k, rfl, by omega, h1⟩, h2⟩
end Go.Proofs.YtjeopabnddekgaaDoor

namespace Go.Proofs.YtjeopabnddekgaaDoor
open Go Go.RowKit Go.Lib

set_option maxHeartbeats 400000 in
set_option maxRecDepth 100000 in
theorem refUnits_any (s : ByteArray) (w : World) (hs : s.size ≤ 1000000000000) :
    Calls Tryd.prog 43 #[.string s] w (IntIs (U.units s) w) := by
  go_enter Tryd.func43, Tryd.ntmps43
  go_wp2_with fail
  go_loopw [3, 4] (fun p n wr => ∃ f pos m : Nat, p = .int .i64 pos ∧ n = .int .i64 m ∧ pos ≤ s.size ∧ m ≤ pos ∧ Hid (m + U.unitsFrom s f pos = U.units s ∧ s.size ≤ pos + f) ∧ Below w.heap.size w wr) (fun p _ _ => s.size - (RowKit.intOf p).toNat)
  case atStart => exact ⟨s.size, 0, 0, rfl, rfl, by omega, by omega, Lib.hid ⟨by unfold U.units; omega, by omega⟩, Below.refl _ _⟩
  case round =>
    obtain ⟨f, pos, m, rfl, rfl, hp, hm, HU, hbl⟩ := hrel
    by_cases hlt : pos < s.size
    · have hw1 := U.wd_pos hlt
      have hw2 := U.wd_le hlt
      have hu := U.un_le hlt
      obtain ⟨f', rfl⟩ : ∃ f', f = f' + 1 := ⟨f - 1, by have := HU.out.2; omega⟩
      have HS := Lib.hid (U.unitsFrom_step s f' pos hlt)
      have hc := fun W => step_any s pos W hlt hs
      go_wp2_with fail
      refine (hc _).mono ?_
      generalize U.wd s pos = d at *
      generalize U.un s pos = u at *
      rintro e w' ⟨rfl, hb⟩
      go_wp2_with fail
      go_roundw
      case rel =>
        refine ⟨f', pos + d, m + u, by go_num, by go_num, by omega, by omega, Lib.hid ⟨?_, ?_⟩, hbl.trans (hb.mono hbl.size)⟩
        · have := HU.out.1; rw [HS.out] at this; omega
        · have := HU.out.2; omega
      case measure => simp [RowKit.intOf]; omega
    · go_wp2_with fail
      go_ret
      refine ⟨?_, hbl⟩
      have := HU.out.1
      rw [U.unitsFrom_end s f pos hlt] at this
      rw [← this]; rfl
set_option maxHeartbeats 400000 in
set_option maxRecDepth 100000 in
theorem refCut_any (s : ByteArray) (u : Int) (w : World) (hs : s.size ≤ 1000000000000) :
    Calls Tryd.prog 85 #[.string s, .int .i64 u] w (IntIs (U.cut s u) w) := by
  go_enter Tryd.func85, Tryd.ntmps85
  go_wp2_with fail
  go_loopw [5, 6] (fun p n wr => ∃ f pos m : Nat, p = .int .i64 pos ∧ n = .int .i64 m ∧ pos ≤ s.size ∧ m ≤ pos ∧ Hid (U.cutFrom s u f pos m = U.cut s u ∧ s.size ≤ pos + f) ∧ Below w.heap.size w wr) (fun p _ _ => s.size - (RowKit.intOf p).toNat)
  case atStart => exact ⟨s.size, 0, 0, rfl, rfl, by omega, by omega, Lib.hid ⟨rfl, by omega⟩, Below.refl _ _⟩
  case round =>
    obtain ⟨f, pos, m, rfl, rfl, hp, hm, HU, hbl⟩ := hrel
    by_cases hlt : pos < s.size
    · have hw1 := U.wd_pos hlt
      have hw2 := U.wd_le hlt
      have hu := U.un_le hlt
      obtain ⟨f', rfl⟩ : ∃ f', f = f' + 1 := ⟨f - 1, by have := HU.out.2; omega⟩
      have hc := fun W => step_any s pos W hlt hs
      by_cases hst : u < ((m + U.un s pos : Nat) : Int)
      · have HS := Lib.hid (U.cutFrom_stop s u f' pos m hlt hst)
        generalize U.wd s pos = d at *
        generalize U.un s pos = v at *
        have e1 : decide (u < (m : Int) + (v : Int)) = true := decide_eq_true (by omega)
        clear hst
        go_wp2_with fail
        refine (hc _).mono ?_
        rintro e w' ⟨rfl, hb⟩
        go_wp2_with fail
        go_ret
        refine ⟨?_, hbl.trans (hb.mono hbl.size)⟩
        have := HU.out.1
        rw [HS.out] at this
        rw [← this]
        rfl
      · have HS := Lib.hid (U.cutFrom_step s u f' pos m hlt hst)
        generalize U.wd s pos = d at *
        generalize U.un s pos = v at *
        have e1 : decide (u < (m : Int) + (v : Int)) = false := decide_eq_false (by omega)
        clear hst
        go_wp2_with fail
        refine (hc _).mono ?_
        rintro e w' ⟨rfl, hb⟩
        go_wp2_with fail
        go_roundw
        case rel =>
          refine ⟨f', pos + d, m + v, by go_num, by go_num, by omega, by omega, Lib.hid ⟨?_, ?_⟩, hbl.trans (hb.mono hbl.size)⟩
          · have := HU.out.1; rw [HS.out] at this; exact this
          · have := HU.out.2; omega
        case measure => simp [RowKit.intOf]; omega
    · go_wp2_with fail
      go_ret
      refine ⟨congrArg (fun n : Nat => Ending.returned (.int .i64 n)) (show s.size = U.cut s u from ?_), hbl⟩
      have := HU.out.1
      rw [U.cutFrom_end s u f pos m hlt] at this
      omega

end Go.Proofs.YtjeopabnddekgaaDoor
