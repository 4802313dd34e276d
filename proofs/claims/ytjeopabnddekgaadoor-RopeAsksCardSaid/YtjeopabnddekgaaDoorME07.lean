/- The program's iterator over lines: it hands each line's number and span to yield, in their order, until yield says no. Conditions: a string of at most 10^12 bytes. -/
import Derived.RangeFuncNested
import Derived.RangeFuncBound
import Derived.RangeFuncBox
import Derived.RangeFuncCalls
import Derived.RangeFuncLeaves
import Derived.Shelf.Abstract
import Derived.Shelf.RegionOpen
import Derived.OwnWalkIn
import Derived.TacticsInMore
import Derived.LoopNIn
import Derived.LoopIn
import Derived.Test.YtjeopabnddekgaaDoorME06
import Derived.Test.YtjeopabnddekgaaDoorProg
import Derived.Test.YtjeopabnddekgaaDoorME01
import Derived.WalkKit
import Derived.WalkSpells
import Derived.WalkLawsBesides
import Derived.Lib.Hide
namespace Go.Proofs.YtjeopabnddekgaaDoor
open Go Go.RowKit Go.Shelf Go.Lib

attribute [local go_sem] Oper.semAt_some

def span (s : ByteArray) (k : Nat) : Value := .agg #[.int .i64 (L.fr s k), .int .i64 (L.to s k)]
/-- a round keeps the box of the string -/
def KeepS (s : ByteArray) (B : Nat) (W W' : World) : Prop := W.cell? ⟨B, 0, none⟩ = some (.string s) → W'.cell? ⟨B, 0, none⟩ = some (.string s)
theorem keepS_t {s : ByteArray} {B : Nat} {X Y Z : World} (h : KeepS s B X Y) (k : KeepS s B Y Z) : KeepS s B X Z := fun c => k (h c)
theorem keepS_b {s : ByteArray} {B : Nat} (W : World) (l : Nat) (o o' : Obj) (h : W.heap[l]? = some o) (ho : o.isCells = false) : KeepS s B W (W.putObj l o') :=
  fun c => cell_kept c (grownBy_putObj' W l o') (fun r e => by cases e; exact ⟨o, h, ho⟩)

set_option maxHeartbeats 400000 in
theorem each_any (s : ByteArray) (w : World) :
    Calls Tryd.prog 80 #[.string s] w fun e w' => e = .returned (.func (.func 98) #[] #[.pointer (some ⟨w.heap.size, 0, none⟩)]) ∧ w' = w.alloc (.cells #[.string s] 9) := by
  go_enter Tryd.func80, Tryd.ntmps80
  go_wp2_with fail
  go_ret
  exact ⟨rfl, rfl⟩

set_option maxRecDepth 100000 in
set_option maxHeartbeats 1000000 in
theorem each1_in (n l B : Nat) (hn : 1 ≤ n) (s : ByteArray) (hs : s.size ≤ 1000000000000) (J Jx : List Nat → World → Prop)
    (hY : ∀ pre x W, J pre W → pre.length < L.mny s → YieldAt Fence.wide (n - 1) Tryd.prog l #[.int .i64 (x : Nat), span s x] W fun e W' =>
      (e = .returned (.bool true) ∧ J (pre ++ [x]) W' ∧ KeepS s B W W') ∨ (e = .returned (.bool false) ∧ Jx (pre ++ [x]) W'))
    (W : World) (hB : W.cell? ⟨B, 0, none⟩ = some (.string s)) (h0 : J [] W) :
    CallsIn Fence.wide n Tryd.prog 98 #[.func (.yield l) #[] #[], .pointer (some ⟨B, 0, none⟩)] W fun e W' => (∃ v, e = .returned v) ∧
      ((∃ ys, ys = List.range (L.mny s) ∧ J ys W') ∨ (∃ pre, (∃ k, k < L.mny s ∧ pre = List.range (k + 1)) ∧ Jx pre W')) := by
  have hm1 := L.mny_pos s
  have hm2 := L.mny_le s
  refine callsIn_of_wp Tryd.func98 rfl trivial ?_ rfl
  simp only [Tryd.ntmps98, List.size_toArray, List.length_cons, List.length_nil, Nat.reduceAdd, Nat.reduceSub, Array.replicate_succ, Array.replicate_zero, List.push_toArray, List.append_toArray, List.nil_append, List.cons_append]
  gi_wp2
  gi_loopw [3, 4] (fun p q wr => ∃ k : Nat, p = .int .i64 (L.fr s k) ∧ q = .int .i64 k ∧ k < L.mny s ∧ J (List.range k) wr ∧ wr.cell? ⟨B, 0, none⟩ = some (.string s))
    (fun _ q _ => L.mny s - (RowKit.intOf q).toNat)
  case atStart => exact ⟨0, rfl, rfl, by omega, h0, hB⟩
  case round =>
    obtain ⟨k, rfl, rfl, hk, hJ, hc⟩ := hrel
    have hfr := L.fr_le hk
    have htl := L.to_le hk
    have hce := fun W => contentEnd_any s (L.fr s k) W hfr hs
    obtain ⟨fn, tmps, assign, body, hy, hR⟩ := hY (List.range k) k wr hJ (by simpa using hk)
    rw [← List.range_succ] at hR
    unfold span at hy
    change ∀ W, Calls _ _ _ _ (fun e w' => e = .returned (.int .i64 (L.to s k)) ∧ W = w') at hce
    by_cases hlast : k + 1 < L.mny s
    · have hlt := L.to_lt hlast
      have e1 : ((L.to s k : Int) == (s.size : Int)) = false := by simp; omega
      have hnx := fun W => nextStart_any s (L.to s k) W hlt hs
      rw [← L.fr_succ] at hnx
      have hfr2 := L.fr_le hlast
      generalize L.to s k = t at *
      generalize L.fr s k = f at *
      gi_wp2
      refine ⟨trivial, (callsIn_wide.2 (hce _)).mono ?_⟩
      rintro e w' ⟨rfl, rfl⟩
      gi_wp2
      refine hR.mono ?_
      rintro e W3 (⟨rfl, hJ3, hk3⟩ | ⟨rfl, hJx3⟩)
      · have hc3 := hk3 hc
        gi_wp2
        refine ⟨trivial, (callsIn_wide.2 (hnx _)).mono ?_⟩
        rintro e w' ⟨rfl, rfl⟩
        gi_wp2
        go_roundw
        case rel => exact ⟨k + 1, rfl, by go_num, hlast, hJ3, hc3⟩
        case measure => simp [RowKit.intOf]; omega
      · gi_wp2
        refine bodyPost_ret (results_none rfl _ _ _) rfl ?_
        exact ⟨⟨_, rfl⟩, .inr ⟨_, ⟨k, hk, rfl⟩, hJx3⟩⟩
    · have hle := L.to_end hk hlast
      have e1 : ((L.to s k : Int) == (s.size : Int)) = true := by simp; omega
      have HM := Lib.hid (show L.mny s = k + 1 by omega)
      clear hle
      generalize L.to s k = t at *
      generalize L.fr s k = f at *
      gi_wp2
      refine ⟨trivial, (callsIn_wide.2 (hce _)).mono ?_⟩
      rintro e w' ⟨rfl, rfl⟩
      gi_wp2
      refine hR.mono ?_
      rintro e W3 (⟨rfl, hJ3, hk3⟩ | ⟨rfl, hJx3⟩)
      · have hc3 := hk3 hc
        gi_wp2
        refine bodyPost_ret (results_none rfl _ _ _) rfl ?_
        exact ⟨⟨_, rfl⟩, .inl ⟨_, by rw [HM.out], hJ3⟩⟩
      · gi_wp2
        refine bodyPost_ret (results_none rfl _ _ _) rfl ?_
        exact ⟨⟨_, rfl⟩, .inr ⟨_, ⟨k, hk, rfl⟩, hJx3⟩⟩

theorem each_stops (n B : Nat) (hn : 1 ≤ n) (s : ByteArray) (hs : s.size ≤ 1000000000000) (w : World) (hBw : B < w.heap.size) (hc : w.cell? ⟨B, 0, none⟩ = some (.string s)) :
    SeqStopsK Fence.wide n Tryd.prog 98 #[.pointer (some ⟨B, 0, none⟩)] (fun k : Nat => #[Value.int .i64 k, span s k]) (KeepS s B) (fun ys => ys = List.range (L.mny s))
      (fun pre => ∃ k, k < L.mny s ∧ pre = List.range (k + 1)) (L.mny s) w := fun l J Jx W hW _ _ hY h0 =>
  each1_in n l B hn s hs J Jx hY W ((hW.cell (p := ⟨B, 0, none⟩) hBw).trans hc) h0
end Go.Proofs.YtjeopabnddekgaaDoor

namespace Go.Proofs.YtjeopabnddekgaaDoor
open Go Go.RowKit Go.Shelf Go.Lib

attribute [local go_sem] Oper.semAt_some

theorem keepS_set {s : ByteArray} {B B' : Nat} {W : World} (v : Value) (t : TypeId) (h : Boxed W B t (.string s)) (hne : B ≠ B') : KeepS s B W (W.setCell ⟨B', 0, none⟩ v) := fun _ => (h.other hne v).cell

set_option maxRecDepth 100000 in
set_option maxHeartbeats 1000000 in
theorem many_any (s : ByteArray) (w : World) (hs : s.size ≤ 1000000000000) :
    Calls Tryd.prog 91 #[.string s] w fun e w' => e = .returned (.int .i64 (L.mny s)) ∧ Below w.heap.size w w' := by
  have hm2 := L.mny_le s
  refine (callsIn_wide (n := 5)).1 ?_
  refine callsIn_of_wp_marks Tryd.func91 rfl trivial ?_ rfl
  simp only [Tryd.ntmps91, List.size_toArray, List.length_cons, List.length_nil, Nat.reduceAdd, Nat.reduceSub, Array.replicate_succ, Array.replicate_zero, List.push_toArray, List.append_toArray, List.nil_append, List.cons_append]
  gi_wp2
  refine ⟨trivial, (callsIn_wide.2 (each_any s _)).mono ?_⟩
  rintro e w' ⟨rfl, rfl⟩
  gi_wp2
  have bM := (Boxed.new w 3 (.int .i64 0)).alloc (.cells #[.string s] 9)
  have bS := Boxed.new (w.alloc (.cells #[.int .i64 0] 3)) 9 (.string s)
  rw [World.size_alloc] at bS
  have hB0 : Below w.heap.size w ((w.alloc (.cells #[.int .i64 0] 3)).alloc (.cells #[.string s] 9)) := ((Below.refl _ w).alloc (Nat.le_refl _) _).alloc (by simp) _
  refine wpIn_rangeFunc_ownG rfl (by decide) (gf := 98) (lb := #[.pointer (some ⟨w.heap.size + 1, 0, none⟩)]) rfl trivial (enters_of Tryd.func98 (by kernel_rfl) rfl)
    (each_stops (5 - 1) (w.heap.size + 1) (by decide) s hs _ (by simp) bS.cell) keepS_t (fun W l o o' _ h ho _ => keepS_b W l o o' h ho) (Below.refl _ _) (fun _ => rfl)
    (fun pre W => (Boxed W w.heap.size 3 (.int .i64 pre.length) ∧ Boxed W (w.heap.size + 1) 9 (.string s)) ∧ Below w.heap.size w W)
    (fun _ _ _ => False)
    (OwnFrom.and (OwnFrom.and (Own.from (boxed_own _ _ _) _) (Own.from (boxed_own _ _ _) _)) (ownFrom_below (Nat.le_refl _) (by simp; omega)))
    (fun _ _ _ _ _ hs _ _ => hs)
    ⟨⟨bM, bS⟩, hB0⟩
    (fun k => { tmps := #[.string s, undef, .int .i64 0, .pointer (some ⟨w.heap.size, 0, none⟩), .string s, .func (.func 98) #[] #[.pointer (some ⟨w.heap.size + 1, 0, none⟩)], .int .i64 k, span s k, undef, undef, undef], defers := [] }) ?assign ?body ?done ?stop
  case assign =>
    intro l x W K hK
    gi_wp2
    simpa using hK
  case body =>
    rintro l pre x W ⟨⟨b1, b2⟩, hB⟩ hlt
    have c1 := b1.cell
    have f1 := b1.frozen
    gi_wp2
    exact ⟨(KeepsOthers.setCell _ _ _).from _, keepS_set _ _ b2 (by omega), ⟨by simpa using b1.set (.int .i64 ((pre.length : Int) + 1)), b2.other (by omega) _⟩, hB.setCell (p := ⟨w.heap.size, 0, none⟩) (Nat.le_refl _) _⟩
  case done =>
    rintro D ys W hD rfl ⟨⟨b1, b2⟩, hB⟩ hK
    have c1 := b1.cell
    rw [List.length_range] at c1
    gi_wp2
    refine ⟨by simp, .inl ⟨_, _, rfl, run_takeDeferred hK, ?_⟩⟩
    exact ⟨_, results_tmp rfl _ _ _, rfl, hB.trans (belowK_b (w := w) (Nat.le_refl _) W D _ _ (by simp at hD; omega) hK rfl rfl)⟩
  case stop =>
    rintro D c pre W _ _ h _
    exact h.elim
end Go.Proofs.YtjeopabnddekgaaDoor

namespace Go.Proofs.YtjeopabnddekgaaDoor
open Go Go.RowKit Go.Lib

def NextIs (a : Int) (b : Int) (c : Bool) (w : World) (e : Ending) (w' : World) : Prop := e = .returned (.tuple #[.int .i32 a, .int .i64 b, .bool c]) ∧ Below w.heap.size w w'
theorem NextIs.of {a b a' b' : Int} {c c' : Bool} {w w' : World} (ha : a = a') (hb : b = b') (hc : c = c') (h : Below w.heap.size w w') : NextIs a b c w (.returned (.tuple #[.int .i32 a', .int .i64 b', .bool c'])) w' := by
  subst ha hb hc
  exact ⟨rfl, h⟩
namespace U
theorem nr_bad {s : ByteArray} {i : Nat} (h : bad s i = true) : nr s i = 0 := by unfold nr; rw [if_pos h]
theorem nk_bad {s : ByteArray} {i : Nat} (h : bad s i = true) : nk s i = 0 := by unfold nk; rw [if_pos h]
theorem nb_bad {s : ByteArray} {i : Nat} (h : bad s i = true) : nb s i = false := by unfold nb; rw [h]; rfl
theorem nr_good {s : ByteArray} {i : Nat} (h : bad s i = false) : nr s i = (ch s i : Int) := by unfold nr; rw [if_neg (by rw [h]; exact Bool.false_ne_true)]
theorem nk_good {s : ByteArray} {i : Nat} (h : bad s i = false) : nk s i = (wd s i : Int) := by unfold nk; rw [if_neg (by rw [h]; exact Bool.false_ne_true)]
theorem nb_good {s : ByteArray} {i : Nat} (h : bad s i = false) : nb s i = true := by unfold nb; rw [h]; rfl
end U

set_option maxHeartbeats 400000 in
set_option maxRecDepth 100000 in
theorem refNext_ascii (s : ByteArray) (i : Nat) (w : World) (hi : i < s.size) (_hs : s.size ≤ 1000000000000) (hb : (s[i].toNat : Int) < 128) :
    Calls Tryd.prog 71 #[.string s, .int .i64 i] w (NextIs (U.nr s i) (U.nk s i) (U.nb s i) w) := by
  have H := Lib.hid (U.next_ascii s i (by rw [← U.at_byte hi]; omega))
  have h1 : ¬ ((i : Int) < 0) := by omega
  have h2 : (i : Int) < (s.size : Int) := by omega
  go_enter Tryd.func71, Tryd.ntmps71
  go_wp2_with fail
  go_ret3
  obtain ⟨ha, hb, hc⟩ := H.out
  exact .of (by rw [U.nr_good hc, ha, U.at_byte hi]) (by rw [U.nk_good hc, hb]; rfl) (U.nb_good hc) (Below.refl _ _)

set_option maxHeartbeats 400000 in
set_option maxRecDepth 100000 in
theorem refNext_lone (s : ByteArray) (i : Nat) (w : World) (hi : i < s.size) (_hs : s.size ≤ 1000000000000) (hb : (128 ≤ (s[i].toNat : Int) ∧ (s[i].toNat : Int) < 192) ∨ 248 ≤ (s[i].toNat : Int)) :
    Calls Tryd.prog 71 #[.string s, .int .i64 i] w (NextIs (U.nr s i) (U.nk s i) (U.nb s i) w) := by
  have H := Lib.hid (U.next_lone s i (by rw [← U.at_byte hi]; omega))
  have h1 : ¬ ((i : Int) < 0) := by omega
  have h2 : (i : Int) < (s.size : Int) := by omega
  have h3 : (s[i].toNat : Int) < 256 := by have := s[i].toNat_lt; omega
  rcases hb with ⟨hb1, hb2⟩ | hb1
  all_goals
    go_enter Tryd.func71, Tryd.ntmps71
    go_wp2_with fail
    go_ret3
    exact .of (U.nr_bad H.out) (U.nk_bad H.out) (U.nb_bad H.out) (Below.refl _ _)
end Go.Proofs.YtjeopabnddekgaaDoor
