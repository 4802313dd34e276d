/- The program's iterator over lines: it hands each line's number and span to yield, in their order, until yield says no. Conditions: a string of at most 10^12 bytes. -/
import Derived.RangeFuncNested
import Derived.RangeFuncBound
import Derived.RangeFuncBox
import Derived.RangeFuncCalls
import Derived.RangeFuncLeaves
import Derived.Shelf.Abstract
import Derived.Shelf.RegionOpen
import Derived.OwnWalkIn
import Derived.TacticsInMore
import Derived.LoopNIn
import Derived.LoopIn
import Derived.Test.YtdhdemndeiipcaaDoorLinEnd
namespace Go.Proofs.YtdhdemndeiipcaaDoor
open Go Go.RowKit Go.Shelf Go.Lib

attribute [local go_sem] Oper.semAt_some

def span (s : ByteArray) (k : Nat) : Value := .agg #[.int .i64 (L.fr s k), .int .i64 (L.to s k)]
/-- a round keeps the box of the string -/
def KeepS (s : ByteArray) (B : Nat) (W W' : World) : Prop := W.cell? ⟨B, 0, none⟩ = some (.string s) → W'.cell? ⟨B, 0, none⟩ = some (.string s)
theorem keepS_t {s : ByteArray} {B : Nat} {X Y Z : World} (h : KeepS s B X Y) (k : KeepS s B Y Z) : KeepS s B X Z := fun c => k (h c)
theorem keepS_b {s : ByteArray} {B : Nat} (W : World) (l : Nat) (o o' : Obj) (h : W.heap[l]? = some o) (ho : o.isCells = false) : KeepS s B W (W.putObj l o') :=
  fun c => cell_kept c (grownBy_putObj' W l o') (fun r e => by cases e; exact ⟨o, h, ho⟩)

set_option maxHeartbeats 400000 in
theorem each_any (s : ByteArray) (w : World) :
    Calls Tryd.prog 21 #[.string s] w fun e w' => e = .returned (.func (.func 31) #[] #[.pointer (some ⟨w.heap.size, 0, none⟩)]) ∧ w' = w.alloc (.cells #[.string s] 9) := by
  go_enter Tryd.func21, Tryd.ntmps21
  go_wp2_with fail
  go_ret
  exact ⟨rfl, rfl⟩

set_option maxRecDepth 100000 in
set_option maxHeartbeats 1000000 in
theorem each1_in (n l B : Nat) (hn : 1 ≤ n) (s : ByteArray) (hs : s.size ≤ 1000000000000) (J Jx : List Nat → World → Prop)
    (hY : ∀ pre x W, J pre W → pre.length < L.mny s → YieldAt Fence.wide (n - 1) Tryd.prog l #[.int .i64 (x : Nat), span s x] W fun e W' =>
      (e = .returned (.bool true) ∧ J (pre ++ [x]) W' ∧ KeepS s B W W') ∨ (e = .returned (.bool false) ∧ Jx (pre ++ [x]) W'))
    (W : World) (hB : W.cell? ⟨B, 0, none⟩ = some (.string s)) (h0 : J [] W) :
    CallsIn Fence.wide n Tryd.prog 31 #[.func (.yield l) #[] #[], .pointer (some ⟨B, 0, none⟩)] W fun e W' => (∃ v, e = .returned v) ∧
      ((∃ ys, ys = List.range (L.mny s) ∧ J ys W') ∨ (∃ pre, (∃ k, k < L.mny s ∧ pre = List.range (k + 1)) ∧ Jx pre W')) := by
  have hm1 := L.mny_pos s
  have hm2 := L.mny_le s
  refine callsIn_of_wp Tryd.func31 rfl trivial ?_ rfl
  simp only [Tryd.ntmps31, List.size_toArray, List.length_cons, List.length_nil, Nat.reduceAdd, Nat.reduceSub, Array.replicate_succ, Array.replicate_zero, List.push_toArray, List.append_toArray, List.nil_append, List.cons_append]
  gi_wp2
  gi_loopw [3, 4] (fun p q wr => ∃ k : Nat, p = .int .i64 (L.fr s k) ∧ q = .int .i64 k ∧ k < L.mny s ∧ J (List.range k) wr ∧ wr.cell? ⟨B, 0, none⟩ = some (.string s))
    (fun _ q _ => L.mny s - (RowKit.intOf q).toNat)
  case atStart => exact ⟨0, rfl, rfl, by omega, h0, hB⟩
  case round =>
    obtain ⟨k, rfl, rfl, hk, hJ, hc⟩ := hrel
    have hfr := L.fr_le hk
    have htl := L.to_le hk
    have hce := fun W => contentEnd_any s (L.fr s k) W hfr hs
    obtain ⟨fn, tmps, assign, body, hy, hR⟩ := hY (List.range k) k wr hJ (by simpa using hk)
    rw [← List.range_succ] at hR
    unfold span at hy
    change ∀ W, Calls _ _ _ _ (fun e w' => e = .returned (.int .i64 (L.to s k)) ∧ W = w') at hce
    by_cases hlast : k + 1 < L.mny s
    · have hlt := L.to_lt hlast
      have e1 : ((L.to s k : Int) == (s.size : Int)) = false := by simp; omega
      have hnx := fun W => nextStart_any s (L.to s k) W hlt hs
      rw [← L.fr_succ] at hnx
      have hfr2 := L.fr_le hlast
      generalize L.to s k = t at *
      generalize L.fr s k = f at *
      gi_wp2
      refine ⟨trivial, (callsIn_wide.2 (hce _)).mono ?_⟩
      rintro e w' ⟨rfl, rfl⟩
      gi_wp2
      refine hR.mono ?_
      rintro e W3 (⟨rfl, hJ3, hk3⟩ | ⟨rfl, hJx3⟩)
      · have hc3 := hk3 hc
        gi_wp2
        refine ⟨trivial, (callsIn_wide.2 (hnx _)).mono ?_⟩
        rintro e w' ⟨rfl, rfl⟩
        gi_wp2
        go_roundw
        case rel => exact ⟨k + 1, rfl, by go_num, hlast, hJ3, hc3⟩
        case measure => simp [RowKit.intOf]; omega
      · gi_wp2
        refine bodyPost_ret (results_none rfl _ _ _) rfl ?_
        exact ⟨⟨_, rfl⟩, .inr ⟨_, ⟨k, hk, rfl⟩, hJx3⟩⟩
    · have hle := L.to_end hk hlast
      have e1 : ((L.to s k : Int) == (s.size : Int)) = true := by simp; omega
      have HM := Lib.hid (show L.mny s = k + 1 by omega)
      clear hle
      generalize L.to s k = t at *
      generalize L.fr s k = f at *
      gi_wp2
      refine ⟨trivial, (callsIn_wide.2 (hce _)).mono ?_⟩
      rintro e w' ⟨rfl, rfl⟩
      gi_wp2
      refine hR.mono ?_
      rintro e W3 (⟨rfl, hJ3, hk3⟩ | ⟨rfl, hJx3⟩)
      · have hc3 := hk3 hc
        gi_wp2
        refine bodyPost_ret (results_none rfl _ _ _) rfl ?_
        exact ⟨⟨_, rfl⟩, .inl ⟨_, by rw [HM.out], hJ3⟩⟩
      · gi_wp2
        refine bodyPost_ret (results_none rfl _ _ _) rfl ?_
        exact ⟨⟨_, rfl⟩, .inr ⟨_, ⟨k, hk, rfl⟩, hJx3⟩⟩

theorem each_stops (n B : Nat) (hn : 1 ≤ n) (s : ByteArray) (hs : s.size ≤ 1000000000000) (w : World) (hBw : B < w.heap.size) (hc : w.cell? ⟨B, 0, none⟩ = some (.string s)) :
    SeqStopsK Fence.wide n Tryd.prog 31 #[.pointer (some ⟨B, 0, none⟩)] (fun k : Nat => #[Value.int .i64 k, span s k]) (KeepS s B) (fun ys => ys = List.range (L.mny s))
      (fun pre => ∃ k, k < L.mny s ∧ pre = List.range (k + 1)) (L.mny s) w := fun l J Jx W hW _ _ hY h0 =>
  each1_in n l B hn s hs J Jx hY W ((hW.cell (p := ⟨B, 0, none⟩) hBw).trans hc) h0
end Go.Proofs.YtdhdemndeiipcaaDoor
