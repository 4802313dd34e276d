/- The program's iterator over tokens: it hands each to yield, in their order, until yield says no. Conditions: a string of at most 10^15 bytes. -/
import Derived.RangeFuncNested
import Derived.RangeFuncBound
import Derived.RangeFuncBox
import Derived.RangeFuncCalls
import Derived.RangeFuncLeaves
import Derived.Shelf.Abstract
import Derived.Shelf.RegionOpen
import Derived.OwnWalkIn
import Derived.TacticsInMore
import Derived.LoopNIn
import Derived.LoopIn
import Derived.Test.YtglanajglhneeaaMX28
import Derived.Test.YtglanajglhneeaaMX14
namespace Go.Proofs.Ytglanajglhneeaa
open Go Go.RowKit Go.Shelf Go.Lib

attribute [local go_sem] Oper.semAt_some

def tokV (t : D.Tk) : Value := .agg #[.int .u8 (t.k : Int), .int .i64 (t.w : Int), .int .i64 (t.l : Int)]
/-- a block that the slice in the caller's box points to -/
def PtL (lb : Nat) (W : World) (b : Nat) : Prop := ∃ n c, W.cell? ⟨lb, 0, none⟩ = some (.slice (some ⟨b, 0, none⟩) n c)
def GdL (lb : Nat) (W : World) : Prop := ∀ b, PtL lb W b → b < W.heap.size
def MarkL (lb : Nat) (W : World) (b : Nat) : Prop := (∃ cs t, W.heap[b]? = some (.cells cs t (0, 0)) ∧ cs.size = 3) ∧ b ≠ lb ∧ ¬ PtL lb W b
/-- what a round keeps: the box of the string, boxes of three cells, and that the caller's slice lies in memory -/
def KeepT (s : ByteArray) (B lb : Nat) (W W' : World) : Prop :=
  (W.cell? ⟨B, 0, none⟩ = some (.string s) → W'.cell? ⟨B, 0, none⟩ = some (.string s)) ∧ (∀ b, MarkL lb W b → W'.heap[b]? = W.heap[b]? ∧ MarkL lb W' b) ∧ (GdL lb W → GdL lb W') ∧ W.heap.size ≤ W'.heap.size
theorem keepT_t {s : ByteArray} {B lb : Nat} {X Y Z : World} (h : KeepT s B lb X Y) (k : KeepT s B lb Y Z) : KeepT s B lb X Z :=
  ⟨fun c => k.1 (h.1 c), fun b hb => ⟨(k.2.1 b (h.2.1 b hb).2).1.trans (h.2.1 b hb).1, (k.2.1 b (h.2.1 b hb).2).2⟩, fun g => k.2.2.1 (h.2.2.1 g), Nat.le_trans h.2.2.2 k.2.2.2⟩
/-- if all cells lie on, and nothing is lost, the round keeps -/
theorem keepT_of {s : ByteArray} {B lb : Nat} {W W' : World} (h : ∀ (b : Nat) (o : Obj), W.heap[b]? = some o → o.isCells = true → W'.heap[b]? = some o) (hc : W'.cell? ⟨B, 0, none⟩ = W.cell? ⟨B, 0, none⟩) (hl : W'.cell? ⟨lb, 0, none⟩ = W.cell? ⟨lb, 0, none⟩) (hs : W.heap.size ≤ W'.heap.size) : KeepT s B lb W W' := by
  have hp : ∀ b, PtL lb W' b ↔ PtL lb W b := fun b => by unfold PtL; rw [hl]
  refine ⟨fun c => hc.trans c, fun b hb => ?_, fun g b hb => Nat.lt_of_lt_of_le (g b ((hp b).1 hb)) hs, hs⟩
  obtain ⟨⟨cs, t, h1, h2⟩, h3, h4⟩ := hb
  have h5 := h b _ h1 rfl
  exact ⟨h5.trans h1.symm, ⟨cs, t, h5, h2⟩, h3, fun e => h4 ((hp b).1 e)⟩
theorem keepT_below {s : ByteArray} {B lb : Nat} {W W' : World} (h : Below W.heap.size W W') (hB : B < W.heap.size) (hl : lb < W.heap.size) : KeepT s B lb W W' :=
  keepT_of (fun b o ho _ => (h.block b (Array.getElem?_eq_some_iff.1 ho).1).trans ho) (h.cell (p := ⟨B, 0, none⟩) hB) (h.cell (p := ⟨lb, 0, none⟩) hl) h.size
theorem keepT_b {s : ByteArray} {B lb : Nat} (W : World) (l : Nat) (o o' : Obj) (hB : B < l) (hl : lb < l) (h : W.heap[l]? = some o) (ho : o.isCells = false) : KeepT s B lb W (W.putObj l o') := by
  have hb : ∀ b, b ≠ l → (W.putObj l o').heap[b]? = W.heap[b]? := fun b hb => World.putObj_heap_other hb
  refine keepT_of (fun b x hx hc => (hb b (fun e => ?_)).trans hx) ?_ ?_ (by simp [World.putObj])
  · subst e; rw [h] at hx; cases hx; rw [ho] at hc; cases hc
  · exact World.cell?_of_block (hb B (by omega))
  · exact World.cell?_of_block (hb lb (by omega))
set_option maxHeartbeats 400000 in
theorem tokens_any (s : ByteArray) (w : World) :
    Calls Try.prog 40 #[.string s] w fun e w' => e = .returned (.func (.func 63) #[] #[.pointer (some ⟨w.heap.size, 0, none⟩)]) ∧ w' = w.alloc (.cells #[.string s] 9) := by
  go_enter Try.func40, Try.ntmps40
  go_wp2_with fail
  go_ret
  exact ⟨rfl, rfl⟩
theorem grown_below {w w' : World} (h : Below w.heap.size w w') : w.grownBy w' none := ⟨h.os, h.tape, h.output, h.size, fun k hk _ => h.block k hk⟩
set_option maxRecDepth 100000 in
set_option maxHeartbeats 1000000 in
theorem tokens1_in (n l B lb : Nat) (hn : 1 ≤ n) (s : ByteArray) (hs : s.size ≤ 1000000000000000) (J Jx : List D.Tk → World → Prop) (hJ : ∀ pre W W', J pre W → Below W.heap.size W W' → J pre W')
    (hY : ∀ pre x W, J pre W → pre.length < s.size → YieldAt Fence.wide (n - 1) Try.prog l #[tokV x] W fun e W' =>
      (e = .returned (.bool true) ∧ J (pre ++ [x]) W' ∧ KeepT s B lb W W') ∨ (e = .returned (.bool false) ∧ Jx (pre ++ [x]) W'))
    (W : World) (hB : W.cell? ⟨B, 0, none⟩ = some (.string s)) (hBw : B < W.heap.size) (hlb : lb < W.heap.size) (hG : GdL lb W) (h0 : J [] W) :
    CallsIn Fence.wide n Try.prog 63 #[.func (.yield l) #[] #[], .pointer (some ⟨B, 0, none⟩)] W fun e W' => (∃ v, e = .returned v) ∧
      ((∃ ys, ys = D.toks s ∧ J ys W') ∨ (∃ pre, (∃ k, k < (D.toks s).length ∧ pre = (D.toks s).take (k + 1)) ∧ Jx pre W')) := by
  have HS := Lib.hid (fun (p : Nat) (h : p < s.size) W => scan_any s p h hs W)
  have HO := Lib.hid (fun (p : Int) h W => scan_out s p h hs W)
  refine callsIn_of_wp Try.func63 rfl trivial ?_ rfl
  simp only [Try.ntmps63, List.size_toArray, List.length_cons, List.length_nil, Nat.reduceAdd, Nat.reduceSub, Array.replicate_succ, Array.replicate_zero, List.push_toArray, List.append_toArray, List.nil_append, List.cons_append]
  gi_wp2
  gi_loopw [3] (fun p wr => ∃ (pre : List D.Tk) (i : Nat), p = .int .i64 i ∧ Hid (D.At s pre i) ∧ J pre wr ∧ wr.cell? ⟨B, 0, none⟩ = some (.string s) ∧ Hid (B < wr.heap.size ∧ lb < wr.heap.size ∧ GdL lb wr))
    (fun p _ => s.size - (RowKit.intOf p).toNat)
  case atStart => exact ⟨[], 0, rfl, Lib.hid (D.At.begin s), h0, hB, Lib.hid ⟨hBw, hlb, hG⟩⟩
  case round =>
    obtain ⟨pre, i, rfl, HA, hj, hc, HW⟩ := hrel
    by_cases hlt : i < s.size
    · have hsc := HS.out i hlt wr
      have hat := D.tok_at hlt
      have HN := Lib.hid (HA.out.step hlt)
      have HX := Lib.hid (HA.out.next hlt)
      have HL := Lib.hid (show pre.length < s.size by have := HA.out.2.1; omega)
      generalize D.tok (s.extract i s.size) = t at *
      obtain ⟨tk, tw, tl⟩ := t
      simp only at hat HN
      have HAT := Lib.hid (And.intro hat hlt)
      have i1 : i ≤ s.size := by omega
      clear hlt hat
      gi_wp2
      refine ⟨trivial, (callsIn_wide.2 hsc).mono ?_⟩
      rintro e w1 ⟨rfl, hb1⟩
      have hb2 : Below wr.heap.size wr (w1.alloc (.cells #[.int .u8 tk, .int .i64 tw, .int .i64 tl] 24)) := hb1.alloc hb1.size _
      have r1 : TokRow (w1.alloc (.cells #[.int .u8 tk, .int .i64 tw, .int .i64 tl] 24)) w1.heap.size tk tw tl := heap_alloc_new w1 _
      have hN : wr.heap.size ≤ w1.heap.size := hb1.size
      have hl2 : ∀ b, PtL lb (w1.alloc (.cells #[.int .u8 tk, .int .i64 tw, .int .i64 tl] 24)) b ↔ PtL lb wr b := fun b => by
        unfold PtL; rw [hb2.cell (p := ⟨lb, 0, none⟩) HW.out.2.1]
      have hM : MarkL lb (w1.alloc (.cells #[.int .u8 tk, .int .i64 tw, .int .i64 tl] 24)) w1.heap.size := ⟨⟨_, _, r1, rfl⟩, by have := HW.out.2.1; omega, fun e => by have := HW.out.2.2 _ ((hl2 _).1 e); omega⟩
      have hG2 : GdL lb (w1.alloc (.cells #[.int .u8 tk, .int .i64 tw, .int .i64 tl] 24)) := fun b hb => Nat.lt_of_lt_of_le (HW.out.2.2 b ((hl2 b).1 hb)) hb2.size
      obtain ⟨fn, tmps, assign, body, hy, hR⟩ := hY pre ⟨tk, tw, tl⟩ _ (hJ pre wr _ hj hb2) HL.out
      unfold tokV at hy
      have HM := Lib.hid (And.intro hM (And.intro hG2 (And.intro hb2 r1)))
      have hc2 := (hb2.cell (p := ⟨B, 0, none⟩) HW.out.1).trans hc
      have HC2 := Lib.hid hc2
      clear hM hG2 hb2 hb1 hl2 hc hc2 hj hsc
      gi_wp2
      refine hR.mono ?_
      rintro e W3 (⟨rfl, hJ3, hk3⟩ | ⟨rfl, hJx3⟩)
      · have r3 : TokRow W3 w1.heap.size tk tw tl := (hk3.2.1 _ HM.out.1).1.trans HM.out.2.2.2
        have z1 : W3.cell? ⟨w1.heap.size, 1, none⟩ = some (.int .i64 tw) := by rw [Lib.cell_of_heap r3]; rfl
        have HK := Lib.hid hk3
        have i2 : i + tw ≤ s.size := HAT.out.1.2.1
        clear r1 r3 hk3 hy hR
        gi_wp2
        go_roundw
        case rel => exact ⟨pre ++ [⟨tk, tw, tl⟩], i + tw, by go_num, HN, hJ3, HK.out.1 HC2.out, Lib.hid ⟨Nat.lt_of_lt_of_le HW.out.1 (Nat.le_trans HM.out.2.2.1.size HK.out.2.2.2), Nat.lt_of_lt_of_le HW.out.2.1 (Nat.le_trans HM.out.2.2.1.size HK.out.2.2.2), HK.out.2.2.1 HM.out.2.1⟩⟩
        case measure => have := HAT.out; simp [RowKit.intOf]; omega
      · gi_wp2
        refine bodyPost_ret (results_none rfl _ _ _) rfl ?_
        exact ⟨⟨_, rfl⟩, .inr ⟨_, ⟨pre.length, HX.out.2, by
          have h1 := HA.out.pre
          rw [List.take_succ_eq_append_getElem HX.out.2, ← h1]
          have h2 := HX.out.1
          rw [List.getElem?_eq_getElem HX.out.2] at h2
          rw [Option.some.inj h2]⟩, hJx3⟩⟩
    · have hsc := HO.out (i : Int) (Or.inr (by omega)) wr
      have HD := Lib.hid (HA.out.done hlt)
      clear hlt
      gi_wp2
      refine ⟨trivial, (callsIn_wide.2 hsc).mono ?_⟩
      rintro e w1 ⟨rfl, hb1⟩
      have hj2 := hJ pre wr _ hj (hb1.alloc hb1.size (.cells #[.int .u8 0, .int .i64 0, .int .i64 0] 24))
      clear hsc
      gi_wp2
      refine ⟨(by intro f h; cases h), ?_⟩
      gi_wp2
      refine bodyPost_ret (results_none rfl _ _ _) rfl ?_
      exact ⟨⟨_, rfl⟩, .inl ⟨_, HD.out, hj2⟩⟩
theorem tokens_stops (n B lb : Nat) (hn : 1 ≤ n) (s : ByteArray) (hs : s.size ≤ 1000000000000000) (w : World) (hBw : B < w.heap.size) (hlb : lb < w.heap.size) (hG : GdL lb w) (hc : w.cell? ⟨B, 0, none⟩ = some (.string s)) :
    SeqStopsK Fence.wide n Try.prog 63 #[.pointer (some ⟨B, 0, none⟩)] (fun t : D.Tk => #[tokV t]) (KeepT s B lb) (fun ys => ys = D.toks s)
      (fun pre => ∃ k, k < (D.toks s).length ∧ pre = (D.toks s).take (k + 1)) s.size w := fun l J Jx W hW hJ _ hY h0 =>
  tokens1_in n l B lb hn s hs J Jx (fun pre W1 W2 h hb => hJ pre W1 W2 none h (grown_below hb) (fun r e => by cases e)) hY W ((hW.cell (p := ⟨B, 0, none⟩) hBw).trans hc) (Nat.lt_of_lt_of_le hBw hW.size) (Nat.lt_of_lt_of_le hlb hW.size)
    (fun b hb => Nat.lt_of_lt_of_le (hG b (by unfold PtL at hb ⊢; rwa [hW.cell (p := ⟨lb, 0, none⟩) hlb] at hb)) hW.size) h0
end Go.Proofs.Ytglanajglhneeaa
