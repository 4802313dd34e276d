/- A chain of ranges as a plain tree, put together from its last one on; the box of a value in blocks of the call's own. Conditions: none. -/
import Derived.Test.YtdgmbmoaeoakpaaDoorMC28
import Derived.Test.YtdgmbmoaeoakpaaDoorMC33
import Derived.RangeFuncNested
import Derived.RangeFuncBound
import Derived.RangeFuncBox
import Derived.RangeFuncCalls
import Derived.RangeFuncLeaves
import Derived.Shelf.Abstract
import Derived.Shelf.RegionOpen
import Derived.OwnWalkIn
import Derived.TacticsInMore
import Derived.LoopNIn
import Derived.LoopIn
namespace Go.Proofs.YtdgmbmoaeoakpaaDoor
open Go Go.RowKit Go.Lib

structure Rg where
  a : Int
  b : Int
  c : Int
  d : Int
def Rg.Ok (r : Rg) : Prop := I64 r.a ∧ I64 r.b ∧ I64 r.c ∧ I64 r.d
def Rg.z : Rg := ⟨0, 0, 0, 0⟩
def Rg.v (r : Rg) : Value := .agg #[.int .i64 r.a, .int .i64 r.b, .int .i64 r.c, .int .i64 r.d]
def rgAt (l : List Rg) (i : Nat) : Rg := l.getD i Rg.z
theorem i64_zero : I64 0 := ⟨by decide, by decide⟩
theorem rg_at_ok {l : List Rg} (h : ∀ r ∈ l, r.Ok) (i : Nat) : (rgAt l i).Ok := by
  unfold rgAt
  rw [List.getD_eq_getElem?_getD]
  cases hi : l[i]? with
  | none => exact ⟨i64_zero, i64_zero, i64_zero, i64_zero⟩
  | some r => exact h r (List.mem_of_getElem? hi)
/-- one range, and what is behind it -/
def chT (r : Rg) (more : Bool) (k : Nat) (f : V.T) : V.T := .cons ⟨#[114, 97, 110, 103, 101]⟩ 6 ⟨#[]⟩ .nil (rangeT r.a r.b r.c r.d) (if more then .cons ⟨#[112, 97, 114, 101, 110, 116]⟩ k ⟨#[]⟩ .nil f .nil else .nil)
/-- what has been put together when these have come -/
def chR (l : List Rg) (pre : List Nat) : Nat × V.T := pre.foldl (fun a i => (6, chT (rgAt l i) (decide (i + 1 < l.length)) a.1 a.2)) (0, .nil)
theorem chR_snoc (l : List Rg) (pre : List Nat) (i : Nat) : chR l (pre ++ [i]) = (6, chT (rgAt l i) (decide (i + 1 < l.length)) (chR l pre).1 (chR l pre).2) := by
  unfold chR
  rw [List.foldl_append]
  rfl
theorem chR_lt (l : List Rg) (pre : List Nat) : (chR l pre).1 < 256 := by
  rcases List.eq_nil_or_concat pre with rfl | ⟨p, i, rfl⟩
  · show (0 : Nat) < 256; decide
  · rw [List.concat_eq_append, chR_snoc]; show (6 : Nat) < 256; decide
def chainK (l : List Rg) : Nat := if l.isEmpty then 0 else 6
theorem chainK_lt (l : List Rg) : chainK l < 256 := by
  unfold chainK
  split <;> decide
def chainT : List Rg → V.T
  | [] => .nil
  | r :: l => chT r (!l.isEmpty) (chainK l) (chainT l)
/-- the numbers from n on backwards, so many -/
def backs (n : Nat) : Nat → List Nat
  | 0 => []
  | j + 1 => backs n j ++ [n - 1 - j]
theorem backs_len (n j : Nat) : (backs n j).length = j := by
  induction j with
  | zero => rfl
  | succ j ih => show (backs n j ++ [n - 1 - j]).length = _; rw [List.length_append, ih]; rfl
theorem chR_backs (l : List Rg) : ∀ j, j ≤ l.length → chR l (backs l.length j) = (chainK (l.drop (l.length - j)), chainT (l.drop (l.length - j)))
  | 0, _ => by
    rw [Nat.sub_zero, List.drop_length]
    rfl
  | j + 1, h => by
    show chR l (backs l.length j ++ [l.length - 1 - j]) = _
    have hi : l.length - (j + 1) < l.length := by omega
    rw [chR_snoc, chR_backs l j (by omega), show l.length - 1 - j = l.length - (j + 1) by omega, List.drop_eq_getElem_cons hi, show l.length - (j + 1) + 1 = l.length - j by omega]
    have e : rgAt l (l.length - (j + 1)) = l[l.length - (j + 1)] := by
      unfold rgAt
      rw [List.getD_eq_getElem?_getD, List.getElem?_eq_getElem hi]
      rfl
    have e2 : decide (l.length - j < l.length) = !(l.drop (l.length - j)).isEmpty := by
      rw [Bool.eq_iff_iff, Bool.not_eq_true', decide_eq_true_iff, List.isEmpty_eq_false_iff, ne_eq, List.drop_eq_nil_iff]
      omega
    rw [e, e2]
    rfl
/-- blocks of a tree hold cells -/
def CB (w : World) (A : Nat → Prop) (b : Nat) : Prop := A b ∧ ∃ o : Obj, w.heap[b]? = some o ∧ o.isCells = true
theorem hr_cells {w : World} {A : Nat → Prop} : ∀ (t : V.T) (d b o : Nat), HR w A d b o t → HR w (CB w A) d b o t
  | .nil, _, _, _, _ => trivial
  | .cons nm k x l f tl, d, b, o, h => by
    obtain ⟨h1, h2, h3, h4, h5, ⟨v, h6, h7⟩, ⟨u, h8, h9⟩, h10, h11⟩ := h
    exact ⟨⟨h1, cells_of_cell h4⟩, h2, h3, h4, h5, ⟨v, h6, h7.imp fun b' o' => hr_cells l 0 b' o'⟩, ⟨u, h8, h9.imp fun b' o' => hr_cells f 1 b' o'⟩, h10, hr_cells tl d b _ h11⟩
theorem HS.own {X Y : World} {N B d : Nat} {v : Value} {t : V.T} {row : Option Nat} (h : HS X (Fre N X) d v t) (hg : X.grownBy Y row) (hr : ∀ r, row = some r → B ≤ r ∧ ∃ o : Obj, X.heap[r]? = some o ∧ o.isCells = false) : HS Y (Fre N Y) d v t := by
  have hne : ∀ b, CB X (Fre N X) b → some b ≠ row := fun b hb e => by
    obtain ⟨-, o, ho, hc⟩ := hr b e.symm
    obtain ⟨-, o2, ho2, hc2⟩ := hb
    rw [ho] at ho2
    cases ho2
    rw [hc] at hc2
    cases hc2
  exact (show HS X (CB X (Fre N X)) d v t from SL.imp h fun b o => hr_cells t d b o).imp (fun b hb hlt => hb.1.imp hb.1.1 (hg.block b hlt (hne b hb))) (fun b hb hlt => hg.block b hlt (hne b hb))
/-- a value's box; what it holds lies in blocks from N on -/
def VBox (N bv k : Nat) (f : V.T) (W : World) : Prop := ∃ p n c q m d, Blk4 W bv 25 (.int .u8 k) (.string ⟨#[]⟩) (.slice p n c) (.slice q m d) ∧ HS W (Fre N W) 0 (.slice p n c) .nil ∧ HS W (Fre N W) 1 (.slice q m d) f
theorem VBox.lt {N bv k : Nat} {f : V.T} {W : World} (h : VBox N bv k f W) : bv < W.heap.size := by
  obtain ⟨p, n, c, q, m, d, h1, h2, h3⟩ := h
  exact h1.lt
theorem VBox.on {N bv k : Nat} {f : V.T} {W W' : World} (h : VBox N bv k f W) (hB : Below W.heap.size W W') : VBox N bv k f W' := by
  obtain ⟨p, n, c, q, m, d, h1, h2, h3⟩ := h
  exact ⟨p, n, c, q, m, d, h1.same (hB.block _ h1.lt), h2.freB hB, h3.freB hB⟩
theorem vbox_own {β : Type} (B N bv : Nat) (K : β → Nat) (F : β → V.T) : OwnFrom B (fun s W => VBox N bv (K s) (F s) W) := by
  rintro s X Y row ⟨p, n, c, q, m, d, h1, h2, h3⟩ hg hr
  refine ⟨p, n, c, q, m, d, h1.same (hg.block bv h1.lt (fun e => ?_)), h2.own hg hr, h3.own hg hr⟩
  obtain ⟨-, o, ho, hc⟩ := hr bv e.symm
  rw [show X.heap[bv]? = _ from h1] at ho
  cases ho
  cases hc
structure Ch where
  p : Option Addr
  n : Nat
  c : Nat
  l : List Rg
/-- ranges as they lie behind a slice -/
def SrcR (w : World) (v : Value) (l : List Rg) : Prop := (l = [] ∧ ∃ p c, v = .slice p 0 c ∧ c ≤ 9223372036854775807) ∨ ∃ b o c, v = .slice (some ⟨b, o, none⟩) l.length c ∧ l.length ≤ c ∧ c ≤ 9223372036854775807 ∧ b < w.heap.size ∧ (∀ (j : Nat) (e : Rg), l[j]? = some e → w.cell? ⟨b, o + j * 4, none⟩ = some (.int .i64 e.a) ∧ w.cell? ⟨b, o + j * 4 + 1, none⟩ = some (.int .i64 e.b) ∧ w.cell? ⟨b, o + j * 4 + 2, none⟩ = some (.int .i64 e.c) ∧ w.cell? ⟨b, o + j * 4 + 3, none⟩ = some (.int .i64 e.d)) ∧ ∀ e ∈ l, e.Ok
theorem SrcR.below {w w' : World} {v : Value} {l : List Rg} (h : SrcR w v l) (hB : Below w.heap.size w w') : SrcR w' v l := by
  rcases h with h | ⟨b, o, c, h1, h2, h3, h4, h5, h6⟩
  · exact .inl h
  · exact .inr ⟨b, o, c, h1, h2, h3, Nat.lt_of_lt_of_le h4 hB.size, fun j e hj => ⟨(hB.cell (p := ⟨b, o + j * 4, none⟩) h4).trans (h5 j e hj).1, (hB.cell (p := ⟨b, o + j * 4 + 1, none⟩) h4).trans (h5 j e hj).2.1, (hB.cell (p := ⟨b, o + j * 4 + 2, none⟩) h4).trans (h5 j e hj).2.2.1, (hB.cell (p := ⟨b, o + j * 4 + 3, none⟩) h4).trans (h5 j e hj).2.2.2⟩, h6⟩
def ChOk (w : World) (e : Ch) : Prop := SrcR w (.slice e.p e.n e.c) e.l ∧ e.l.length ≤ 1000000
theorem ChOk_below {w w' : World} {e : Ch} (hB : Below w.heap.size w w') (h : ChOk w e) : ChOk w' e := ⟨h.1.below hB, h.2⟩
def listChT : List Ch → V.T
  | [] => .nil
  | e :: r => .cons ⟨#[]⟩ (chainK e.l) ⟨#[]⟩ .nil (chainT e.l) (listChT r)
theorem listChT_len (l : List Ch) : (listChT l).len = l.length := by
  induction l with
  | nil => rfl
  | cons s r ih => show (listChT r).len + 1 = _; rw [ih]; rfl
theorem listChT_drop : ∀ (l : List Ch) (i : Nat) (e : Ch), l[i]? = some e → (listChT l).drop i = .cons ⟨#[]⟩ (chainK e.l) ⟨#[]⟩ .nil (chainT e.l) (listChT (l.drop (i + 1)))
  | [], _, _, h => by simp at h
  | s' :: r, 0, s, h => by
    simp at h; subst h
    rfl
  | s' :: r, i + 1, s, h => listChT_drop r i s (by simpa using h)
end Go.Proofs.YtdgmbmoaeoakpaaDoor

namespace Go.Proofs.YtdgmbmoaeoakpaaDoor
open Go Go.RowKit Go.Shelf Go.Lib

attribute [local go_sem] Oper.semAt_some

/-- a round keeps what lay, and the slice's box -/
def KpR (M B : Nat) (sl : Value) (W W' : World) : Prop := Below M W W' ∧ (W.cell? ⟨B, 0, none⟩ = some sl → W'.cell? ⟨B, 0, none⟩ = some sl)
theorem kpR_t {M B : Nat} {sl : Value} {X Y Z : World} (h : KpR M B sl X Y) (k : KpR M B sl Y Z) : KpR M B sl X Z := ⟨h.1.trans k.1, fun c => k.2 (h.2 c)⟩
theorem kpR_b {M B : Nat} {sl : Value} {w : World} (hn : M ≤ w.heap.size) (W : World) (l : Nat) (o o' : Obj) (hl : w.heap.size ≤ l) (h : W.heap[l]? = some o) (ho : o.isCells = false) (hw : o.isWalk = false) : KpR M B sl W (W.putObj l o') :=
  ⟨belowK_b hn W l o o' hl h ho hw, fun c => cell_kept c (grownBy_putObj' W l o') (fun r e => by cases e; exact ⟨o, h, ho⟩)⟩
theorem backs_step {m i : Nat} (h : i < m) : backs m (m - i) = backs m (m - (i + 1)) ++ [i] := by
  rw [show m - i = (m - (i + 1)) + 1 by omega]
  show backs m (m - (i + 1)) ++ [m - 1 - (m - (i + 1))] = _
  rw [show m - 1 - (m - (i + 1)) = i by omega]

set_option maxHeartbeats 400000 in
theorem back_any (v : Value) (w : World) (hv : ∃ p n c, v = .slice p n c) :
    Calls Tryd.prog 85 #[v] w fun e w' => e = .returned (.func (.func 102) #[] #[.pointer (some ⟨w.heap.size, 0, none⟩)]) ∧ w' = w.alloc (.cells #[v] 58) := by
  obtain ⟨p, n, c, rfl⟩ := hv
  go_enter Tryd.func85, Tryd.ntmps85
  go_wp2_with fail
  go_ret
  exact ⟨rfl, rfl⟩
/-- where the iterator stands -/
def BkSt (m : Nat) (J : List Nat → World → Prop) (p : Value) (W : World) : Prop := (p = .int .i64 (-1) ∧ J (backs m m) W) ∨ ∃ i : Nat, p = .int .i64 (i : Int) ∧ i < m ∧ J (backs m (m - (i + 1))) W
theorem bkst_of {m i : Nat} {J : List Nat → World → Prop} {W : World} (hi : i ≤ m) (h : J (backs m (m - i)) W) : BkSt m J (.int .i64 ((i : Int) - 1)) W := by
  cases i with
  | zero => exact .inl ⟨rfl, h⟩
  | succ i => exact .inr ⟨i, by congr 1; omega, by omega, h⟩

set_option maxRecDepth 100000 in
set_option maxHeartbeats 1000000 in
theorem back1_in (n l B M m c : Nat) (p : Option Addr) (hn : 1 ≤ n) (ls : List Rg) (hm : m ≤ 1000000) (w0 : World) (hE : ∀ i, i < m → ∃ b o, p = some ⟨b, o, none⟩ ∧ ∀ W, Below M w0 W → W.cell? ⟨b, o + i * 4, none⟩ = some (.int .i64 (rgAt ls i).a) ∧ W.cell? ⟨b, o + i * 4 + 1, none⟩ = some (.int .i64 (rgAt ls i).b) ∧ W.cell? ⟨b, o + i * 4 + 2, none⟩ = some (.int .i64 (rgAt ls i).c) ∧ W.cell? ⟨b, o + i * 4 + 3, none⟩ = some (.int .i64 (rgAt ls i).d))
    (J Jx : List Nat → World → Prop)
    (hY : ∀ pre x W, J pre W → pre.length < m → YieldAt Fence.wide (n - 1) Tryd.prog l #[.int .i64 (x : Nat), (rgAt ls x).v] W fun e W' =>
      (e = .returned (.bool true) ∧ J (pre ++ [x]) W' ∧ KpR M B (.slice p m c) W W') ∨ (e = .returned (.bool false) ∧ Jx (pre ++ [x]) W'))
    (W : World) (hB : W.cell? ⟨B, 0, none⟩ = some (.slice p m c)) (hW : Below M w0 W) (h0 : J [] W) :
    CallsIn Fence.wide n Tryd.prog 102 #[.func (.yield l) #[] #[], .pointer (some ⟨B, 0, none⟩)] W fun e W' => (∃ v, e = .returned v) ∧
      ((∃ ys, ys = backs m m ∧ J ys W') ∨ (∃ pre, True ∧ Jx pre W')) := by
  have HE := Lib.hid hE
  have HM := Lib.hid hm
  have HY := Lib.hid hY
  have HJ := Lib.hid (bkst_of (i := m) (Nat.le_refl m) (by rw [Nat.sub_self]; exact h0))
  clear hE hY h0
  refine callsIn_of_wp Tryd.func102 rfl trivial ?_ rfl
  simp only [Tryd.ntmps102, List.size_toArray, List.length_cons, List.length_nil, Nat.reduceAdd, Nat.reduceSub, Array.replicate_succ, Array.replicate_zero, List.push_toArray, List.append_toArray, List.nil_append, List.cons_append]
  gi_wp2
  gi_loopw [3] (fun p' wr => Hid (BkSt m J p' wr) ∧ wr.cell? ⟨B, 0, none⟩ = some (.slice p m c) ∧ Hid (Below M w0 wr)) (fun p' _ => (RowKit.intOf p' + 1).toNat)
  case atStart => exact ⟨HJ, hB, Lib.hid hW⟩
  case round =>
    obtain ⟨HS, hc, HBw⟩ := hrel
    rcases HS.out with ⟨rfl, hJ⟩ | ⟨i, rfl, hi, hJ⟩
    · have HJ2 := Lib.hid hJ
      clear hJ HS
      gi_wp2
      exact ⟨rfl, _, results_none rfl _ _ _, ⟨_, rfl⟩, .inl ⟨_, rfl, HJ2.out⟩⟩
    · obtain ⟨b, o, rfl, hcl⟩ := HE.out i hi
      obtain ⟨c0, c1, c2, c3⟩ := hcl wr HBw.out
      obtain ⟨fn, tmps, assign, body, hy, hR⟩ := HY.out (backs m (m - (i + 1))) i wr hJ (by rw [backs_len]; omega)
      rw [← backs_step hi] at hR
      unfold Rg.v at hy
      have HI := Lib.hid hi
      have i1 : (0 : Int) ≤ (i : Int) := Int.natCast_nonneg i
      have i2 : (i : Int) < (m : Int) := by omega
      generalize rgAt ls i = g at *
      clear hcl hJ HS hi
      gi_wp2
      refine hR.mono ?_
      rintro e W3 (⟨rfl, hJ3, hk3⟩ | ⟨rfl, hJx3⟩)
      · have hc3 := hk3.2 hc
        have HJ3 := Lib.hid (bkst_of (by have := HI.out; omega) hJ3)
        have HB3 := Lib.hid (HBw.out.trans hk3.1)
        clear hJ3 hk3 hR
        gi_wp2
        go_roundw
        case rel => exact ⟨HJ3, hc3, HB3⟩
        case measure => simp [RowKit.intOf] <;> omega
      · gi_wp2
        refine bodyPost_ret (results_none rfl _ _ _) rfl ?_
        exact ⟨⟨_, rfl⟩, .inr ⟨_, trivial, hJx3⟩⟩

theorem back_stops (n B M m c : Nat) (p : Option Addr) (hn : 1 ≤ n) (ls : List Rg) (hm : m ≤ 1000000) (w0 w : World) (hE : ∀ i, i < m → ∃ b o, p = some ⟨b, o, none⟩ ∧ ∀ W, Below M w0 W → W.cell? ⟨b, o + i * 4, none⟩ = some (.int .i64 (rgAt ls i).a) ∧ W.cell? ⟨b, o + i * 4 + 1, none⟩ = some (.int .i64 (rgAt ls i).b) ∧ W.cell? ⟨b, o + i * 4 + 2, none⟩ = some (.int .i64 (rgAt ls i).c) ∧ W.cell? ⟨b, o + i * 4 + 3, none⟩ = some (.int .i64 (rgAt ls i).d))
    (hBw : B < w.heap.size) (hMw : M ≤ w.heap.size) (h0w : Below M w0 w) (hc : w.cell? ⟨B, 0, none⟩ = some (.slice p m c)) :
    SeqStopsK Fence.wide n Tryd.prog 102 #[.pointer (some ⟨B, 0, none⟩)] (fun k : Nat => #[Value.int .i64 k, (rgAt ls k).v]) (KpR M B (.slice p m c)) (fun ys => ys = backs m m) (fun _ => True) m w := fun l J Jx W hW _ _ hY h0 =>
  back1_in n l B M m c p hn ls hm w0 hE J Jx hY W ((hW.cell (p := ⟨B, 0, none⟩) hBw).trans hc) (h0w.trans (hW.mono hMw)) h0
end Go.Proofs.YtdgmbmoaeoakpaaDoor
