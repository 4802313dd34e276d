/- Changes one behind the other, and outside of their stretches: pure. Conditions: none. -/
import Derived.Test.YtjeopabnddekgaaDoorME39
import Derived.Test.YtjeopabnddekgaaDoorME41
import Derived.RangeFuncNested
import Derived.RangeFuncBound
import Derived.RangeFuncBox
import Derived.RangeFuncCalls
import Derived.RangeFuncLeaves
import Derived.Shelf.Abstract
import Derived.Shelf.RegionOpen
import Derived.OwnWalkIn
import Derived.TacticsInMore
import Derived.LoopNIn
import Derived.LoopIn
namespace Go.Proofs.YtjeopabnddekgaaDoor
open Go Go.RowKit Go.Lib

theorem sp_size {x s : ByteArray} {f k : Int} (h : spE x f k s = 0) : 0 ≤ f ∧ f ≤ k ∧ k ≤ (x.size : Int) ∧ ((spT x f k s).size : Int) = (x.size : Int) - (k - f) + (s.size : Int) ∧ (spT x f k s).size ≤ 16384 ∧ s.size ≤ 16384 := by
  obtain ⟨h1, h2, h3⟩ := sp_ok h
  obtain ⟨a, b, rfl, rfl, hab, hb, -, -⟩ := mayR_spec h1
  have z1 : (x.extract 0 a).size = a := by rw [ByteArray.size_extract]; omega
  have z2 : (x.extract b x.size).size = x.size - b := by rw [ByteArray.size_extract]; omega
  have z3 : (spT x (a : Int) (b : Int) s).size = a + s.size + (x.size - b) := by
    unfold spT
    rw [U.app_size, U.app_size, show ((a : Int)).toNat = a by omega, show ((b : Int)).toNat = b by omega, z1, z2]
  omega
namespace Ed
/-- how far the changes have come -/
structure DoS where
  E : Int
  y : ByteArray
  es : List EdE
def stepD (p : DoS) (c : ChE) : DoS :=
  if p.E = 0 then
    (if (ofX p.y c).2 = 0 then
      (if spE p.y (ofX p.y c).1.f (ofX p.y c).1.k (ofX p.y c).1.s = 0 then ⟨0, spT p.y (ofX p.y c).1.f (ofX p.y c).1.k (ofX p.y c).1.s, p.es ++ [(ofX p.y c).1]⟩ else ⟨spE p.y (ofX p.y c).1.f (ofX p.y c).1.k (ofX p.y c).1.s, p.y, p.es⟩)
    else ⟨(ofX p.y c).2, p.y, p.es⟩)
  else p
def fromD (p : DoS) (l : List ChE) : DoS := l.foldl stepD p
def runD (x : ByteArray) (l : List ChE) : DoS := fromD ⟨0, x, []⟩ l
theorem fromD_err {p : DoS} (h : ¬ p.E = 0) : ∀ l, fromD p l = p
  | [] => rfl
  | c :: r => by
    show fromD (stepD p c) r = p
    have : stepD p c = p := by unfold stepD; rw [if_neg h]
    rw [this]; exact fromD_err h r
theorem runD_app (x : ByteArray) (l r : List ChE) : runD x (l ++ r) = fromD (runD x l) r := by
  unfold runD fromD; rw [List.foldl_append]
theorem runD_take {x : ByteArray} {l : List ChE} {i : Nat} {c : ChE} (h : l[i]? = some c) : runD x (l.take (i + 1)) = stepD (runD x (l.take i)) c := by
  obtain ⟨hi, he⟩ := List.getElem?_eq_some_iff.1 h
  rw [List.take_succ_eq_append_getElem hi, he, runD_app]
  rfl
theorem runD_stop {x : ByteArray} {l : List ChE} {i : Nat} (h : ¬ (runD x (l.take i)).E = 0) : runD x l = runD x (l.take i) := by
  conv => lhs; rw [← List.take_append_drop i l, runD_app]
  exact fromD_err h _
/-- a step that goes well -/
theorem step_ok {p : DoS} {c : ChE} (h : (stepD p c).E = 0) : p.E = 0 ∧ (ofX p.y c).2 = 0 ∧ spE p.y (ofX p.y c).1.f (ofX p.y c).1.k (ofX p.y c).1.s = 0 ∧ stepD p c = ⟨0, spT p.y (ofX p.y c).1.f (ofX p.y c).1.k (ofX p.y c).1.s, p.es ++ [(ofX p.y c).1]⟩ := by
  unfold stepD at h ⊢
  by_cases h1 : p.E = 0
  · rw [if_pos h1] at h ⊢
    by_cases h2 : (ofX p.y c).2 = 0
    · rw [if_pos h2] at h ⊢
      by_cases h3 : spE p.y (ofX p.y c).1.f (ofX p.y c).1.k (ofX p.y c).1.s = 0
      · rw [if_pos h3]; exact ⟨h1, h2, h3, rfl⟩
      · rw [if_neg h3] at h; exact absurd h h3
    · rw [if_neg h2] at h; exact absurd h h2
  · rw [if_neg h1] at h; exact absurd h h1
/-- from another beginning the same, but for what was done ahead -/
theorem fromD_shift (x : ByteArray) (es : List EdE) (l : List ChE) : ∀ (p : DoS), fromD ⟨p.E, p.y, es ++ p.es⟩ l = ⟨(fromD p l).E, (fromD p l).y, es ++ (fromD p l).es⟩ := by
  induction l with
  | nil => intro p; rfl
  | cons c r ih =>
    intro p
    show fromD (stepD ⟨p.E, p.y, es ++ p.es⟩ c) r = ⟨(fromD (stepD p c) r).E, (fromD (stepD p c) r).y, es ++ (fromD (stepD p c) r).es⟩
    rw [← ih (stepD p c)]
    congr 1
    unfold stepD
    dsimp only
    by_cases h1 : p.E = 0
    · rw [if_pos h1, if_pos h1]
      by_cases h2 : (ofX p.y c).2 = 0
      · rw [if_pos h2, if_pos h2]
        by_cases h3 : spE p.y (ofX p.y c).1.f (ofX p.y c).1.k (ofX p.y c).1.s = 0
        · rw [if_pos h3, if_pos h3]
          simp only [List.append_assoc]
        · rw [if_neg h3, if_neg h3]
      · rw [if_neg h2, if_neg h2]
    · rw [if_neg h1, if_neg h1]
/-- in two messages as in one -/
theorem runD_two (x : ByteArray) (l r : List ChE) : (¬ (runD x l).E = 0 → runD x (l ++ r) = runD x l) ∧ ((runD x l).E = 0 → runD x (l ++ r) = ⟨(runD (runD x l).y r).E, (runD (runD x l).y r).y, (runD x l).es ++ (runD (runD x l).y r).es⟩) := by
  refine ⟨fun h => by rw [runD_app]; exact fromD_err h r, fun h => ?_⟩
  rw [runD_app]
  have := fromD_shift x (runD x l).es r ⟨0, (runD x l).y, []⟩
  dsimp only at this
  rw [List.append_nil] at this
  rw [show runD x l = ⟨0, (runD x l).y, (runD x l).es⟩ by rw [← h]]
  exact this
theorem runD_len (x : ByteArray) (l : List ChE) : ∀ i, i ≤ l.length → (runD x (l.take i)).E = 0 → (runD x (l.take i)).es.length = i
  | 0, _, _ => by simp [runD, fromD]
  | i + 1, h, h0 => by
    obtain ⟨c, hc⟩ : ∃ c, l[i]? = some c := ⟨_, List.getElem?_eq_getElem (by omega)⟩
    rw [runD_take hc] at h0 ⊢
    obtain ⟨h1, h2, h3, h4⟩ := step_ok h0
    rw [h4]
    simp [runD_len x l i (by omega) h1]
theorem ba_ext {a b : ByteArray} (h : a.data.toList = b.data.toList) : a = b := by
  cases a; cases b; simp at h; simpa using h
def bl (a : ByteArray) : List UInt8 := a.data.toList
theorem bl_len (a : ByteArray) : (bl a).length = a.size := by unfold bl; rw [Array.length_toList]; rfl
theorem bl_ext (a : ByteArray) (i j : Nat) : bl (a.extract i j) = ((bl a).drop i).take (j - i) := by
  unfold bl; rw [ByteArray.data_extract, Array.toList_extract]
theorem bl_app (a b : ByteArray) : bl (a ++ b) = bl a ++ bl b := by unfold bl; rw [ByteArray.data_append, Array.toList_append]
theorem bl_spT (x s : ByteArray) (f k : Nat) : bl (spT x (f : Int) (k : Int) s) = (bl x).take f ++ bl s ++ (bl x).drop k := by
  unfold spT
  rw [bl_app, bl_app, bl_ext, bl_ext, show ((f : Int)).toNat = f by omega, show ((k : Int)).toNat = k by omega, List.drop_zero, Nat.sub_zero, List.take_of_length_le (l := (bl x).drop k) (by rw [List.length_drop, bl_len]; omega)]
/-- outside of the stretches the texts are the same -/
structure Out (x y : ByteArray) (p : Sp) : Prop where
  a0 : 0 ≤ p.a
  ab : p.a ≤ p.b
  ac : p.a ≤ p.c
  bx : p.b ≤ (x.size : Int)
  cy : p.c ≤ (y.size : Int)
  rest : (x.size : Int) - p.b = (y.size : Int) - p.c
  left : (bl x).take p.a.toNat = (bl y).take p.a.toNat
  right : (bl x).drop p.b.toNat = (bl y).drop p.c.toNat
theorem Out.first (x : ByteArray) : Out x x ⟨0, 0, 0⟩ := ⟨by decide, by decide, by decide, by show (0 : Int) ≤ _; omega, by show (0 : Int) ≤ _; omega, rfl, rfl, rfl⟩
theorem out_step {x y : ByteArray} {p : Sp} {e : EdE} (h : Out x y p) (hx : x.size ≤ 16384) (hy : y.size ≤ 16384) (he : spE y e.f e.k e.s = 0) : Out x (spT y e.f e.k e.s) (stp p e) := by
  obtain ⟨f, k, s⟩ := e
  dsimp only at he ⊢
  obtain ⟨h1, h2, h3, h4, h5, h6⟩ := sp_size he
  obtain ⟨f, rfl⟩ : ∃ n : Nat, f = (n : Int) := ⟨f.toNat, by omega⟩
  obtain ⟨k, rfl⟩ : ∃ n : Nat, k = (n : Int) := ⟨k.toNat, by omega⟩
  obtain ⟨a, b, c⟩ := p
  obtain ⟨g1, g2, g3, g4, g5, g6, g7, g8⟩ := h
  dsimp only at g1 g2 g3 g4 g5 g6 g7 g8
  obtain ⟨a, rfl⟩ : ∃ n : Nat, a = (n : Int) := ⟨a.toNat, by omega⟩
  obtain ⟨b, rfl⟩ : ∃ n : Nat, b = (n : Int) := ⟨b.toNat, by omega⟩
  obtain ⟨c, rfl⟩ : ∃ n : Nat, c = (n : Int) := ⟨c.toNat, by omega⟩
  have e1 : stp ⟨(a : Int), (b : Int), (c : Int)⟩ ⟨(f : Int), (k : Int), s⟩ = ⟨((min a f : Nat) : Int), ((b + (max c k - c) : Nat) : Int), ((max c k + s.size - (k - f) : Nat) : Int)⟩ := by
    unfold stp
    dsimp only
    rw [wr_id (x := (b : Int) + max (c : Int) (k : Int)) (by omega) (by omega), wr_id (by omega) (by omega), wr_id (x := max (c : Int) (k : Int) + (s.size : Int)) (by omega) (by omega), wr_id (by omega) (by omega)]
    congr 1 <;> omega
  rw [e1]
  have hb := bl_spT y s f k
  have ly := bl_len y
  have ls := bl_len s
  refine ⟨by dsimp only; omega, by dsimp only; omega, by dsimp only; omega, by dsimp only; omega, by dsimp only; omega, by dsimp only; omega, ?_, ?_⟩
  · dsimp only at g7 ⊢
    rw [show (((min a f : Nat) : Int)).toNat = min a f by omega, hb]
    rw [show (a : Int).toNat = a by omega] at g7
    have t1 : (bl x).take (min a f) = ((bl x).take a).take (min a f) := by rw [List.take_take]; congr 1; omega
    have t2 : ((bl y).take f ++ bl s ++ (bl y).drop k).take (min a f) = (bl y).take (min a f) := by
      rw [List.append_assoc, List.take_append_of_le_length (by rw [List.length_take]; omega), List.take_take]
      congr 1; omega
    rw [t1, t2, g7, List.take_take]
    congr 1; omega
  · dsimp only at g8 ⊢
    rw [show (((b + (max c k - c) : Nat) : Int)).toNat = b + (max c k - c) by omega, show (((max c k + s.size - (k - f) : Nat) : Int)).toNat = max c k + s.size - (k - f) by omega, hb]
    rw [show (b : Int).toNat = b by omega, show (c : Int).toNat = c by omega] at g8
    have t1 : (bl x).drop (b + (max c k - c)) = ((bl x).drop b).drop (max c k - c) := by rw [List.drop_drop]
    have t2 : ((bl y).take f ++ bl s ++ (bl y).drop k).drop (max c k + s.size - (k - f)) = (bl y).drop (max c k) := by
      have l1 : ((bl y).take f ++ bl s).length = f + s.size := by rw [List.length_append, List.length_take]; omega
      rw [show max c k + s.size - (k - f) = (f + s.size) + (max c k - k) by omega, ← l1, List.drop_append, List.drop_drop]
      rw [List.drop_of_length_le (by omega), List.nil_append]
      congr 1; omega
    rw [t1, t2, g8, List.drop_drop]
    congr 1; omega
theorem out_one {x : ByteArray} {e : EdE} (he : spE x e.f e.k e.s = 0) : Out x (spT x e.f e.k e.s) (one e) := by
  obtain ⟨f, k, s⟩ := e
  dsimp only at he ⊢
  obtain ⟨h1, h2, h3, h4, h5, h6⟩ := sp_size he
  obtain ⟨f, rfl⟩ : ∃ n : Nat, f = (n : Int) := ⟨f.toNat, by omega⟩
  obtain ⟨k, rfl⟩ : ∃ n : Nat, k = (n : Int) := ⟨k.toNat, by omega⟩
  have hb := bl_spT x s f k
  have lx := bl_len x
  have ls := bl_len s
  unfold one
  refine ⟨by dsimp only; omega, by dsimp only; omega, by dsimp only; omega, by dsimp only; omega, by dsimp only; omega, by dsimp only; omega, ?_, ?_⟩
  · dsimp only
    rw [show (f : Int).toNat = f by omega, hb, List.append_assoc, List.take_append_of_le_length (by rw [List.length_take]; omega), List.take_take]
    congr 1; omega
  · dsimp only
    rw [show (k : Int).toNat = k by omega, show ((f : Int) + (s.size : Int)).toNat = f + s.size by omega, hb]
    have l1 : ((bl x).take f ++ bl s).length = f + s.size := by rw [List.length_append, List.length_take]; omega
    rw [← l1, List.drop_append, List.drop_of_length_le (Nat.le_refl _), List.nil_append, Nat.sub_self, List.drop_zero]
theorem ofX_ok {y : ByteArray} {c : ChE} (h : spE y (ofX y c).1.f (ofX y c).1.k (ofX y c).1.s = 0) (hy : y.size ≤ 16384) : Ok (ofX y c).1 ∧ okB (ofX y c).1 = true := by
  obtain ⟨h1, h2, h3, h4, h5, h6⟩ := sp_size h
  generalize (ofX y c).1 = e at *
  exact ⟨⟨⟨by omega, by omega⟩, ⟨by omega, by omega⟩, by omega⟩, okB_iff.2 ⟨by omega, by omega, by omega⟩⟩
theorem runD_out {x : ByteArray} (hx : x.size ≤ 16384) (l : List ChE) : ∀ i, i ≤ l.length → (runD x (l.take i)).E = 0 → Out x (runD x (l.take i)).y (run (runD x (l.take i)).es) ∧ (runD x (l.take i)).y.size ≤ 16384 ∧ ∀ e ∈ (runD x (l.take i)).es, Ok e ∧ okB e = true
  | 0, _, _ => ⟨Out.first x, hx, fun e he => by simp [runD, fromD] at he⟩
  | i + 1, h, h0 => by
    obtain ⟨c, hc⟩ : ∃ c, l[i]? = some c := ⟨_, List.getElem?_eq_getElem (by omega)⟩
    rw [runD_take hc] at h0 ⊢
    obtain ⟨h1, h2, h3, h4⟩ := step_ok h0
    obtain ⟨g1, g2, g3⟩ := runD_out hx l i (by omega) h1
    have hok := ofX_ok h3 g2
    have hst := out_step g1 hx g2 h3
    rw [h4]
    refine ⟨?_, (sp_size h3).2.2.2.2.1, fun e he => ?_⟩
    · dsimp only
      by_cases hn : (runD x (l.take i)).es = []
      · rw [hn] at hst ⊢
        have hi0 : i = 0 := by have := runD_len x l i (by omega) h1; rw [hn] at this; simpa using this.symm
        have hy : (runD x (l.take i)).y = x := by rw [hi0]; simp [runD, fromD]
        rw [List.nil_append, run_one]
        rw [hy] at h3 ⊢
        exact out_one h3
      · rw [run_more _ _ hn]; exact hst
    · rcases List.mem_append.1 he with he | he
      · exact g3 e he
      · rw [List.mem_singleton.1 he]; exact hok
end Ed
end Go.Proofs.YtjeopabnddekgaaDoor

namespace Go.Proofs.YtjeopabnddekgaaDoor
open Go Go.RowKit Go.Shelf Go.Lib

attribute [local go_sem] Oper.semAt_some

/-- a change's cells -/
def ChE.row (c : ChE) : Array Value := #[.bool c.r, .int .i64 c.a, .int .i64 c.b, .int .i64 c.c, .int .i64 c.d, .string c.s]
/-- a change as it lies -/
def ChAt (w : World) (z : Option Addr) (j : Nat) (c : ChE) : Prop := ∃ b o, z = some ⟨b, o, none⟩ ∧ b < w.heap.size ∧ w.cell? ⟨b, o + j * 6, none⟩ = some (.bool c.r) ∧ w.cell? ⟨b, o + j * 6 + 1, none⟩ = some (.int .i64 c.a) ∧ w.cell? ⟨b, o + j * 6 + 2, none⟩ = some (.int .i64 c.b) ∧ w.cell? ⟨b, o + j * 6 + 3, none⟩ = some (.int .i64 c.c) ∧ w.cell? ⟨b, o + j * 6 + 4, none⟩ = some (.int .i64 c.d) ∧ w.cell? ⟨b, o + j * 6 + 5, none⟩ = some (.string c.s)
theorem ChAt.below {w w' : World} {z : Option Addr} {j : Nat} {c : ChE} (h : ChAt w z j c) (hB : Below w.heap.size w w') : ChAt w' z j c := by
  obtain ⟨b, o, hz, hb, c0, c1, c2, c3, c4, c5⟩ := h
  exact ⟨b, o, hz, Nat.lt_of_lt_of_le hb hB.size, (hB.cell (p := ⟨b, _, none⟩) hb).trans c0, (hB.cell (p := ⟨b, _, none⟩) hb).trans c1, (hB.cell (p := ⟨b, _, none⟩) hb).trans c2, (hB.cell (p := ⟨b, _, none⟩) hb).trans c3, (hB.cell (p := ⟨b, _, none⟩) hb).trans c4, (hB.cell (p := ⟨b, _, none⟩) hb).trans c5⟩
set_option maxHeartbeats 4000000 in
set_option maxRecDepth 100000 in
theorem do1_any (c : ChE) (C : Nat) (v : Value) (t : R.T) (w : World) (hv : Boxed w C 24 v) (h : RopeAt w v t) (hs : t.tx.size ≤ 1000000000) (hc : Ed.Ch6 c) :
    Calls Tryd.prog 62 #[.agg #[.bool c.r, .int .i64 c.a, .int .i64 c.b, .int .i64 c.c, .int .i64 c.d, .string c.s], .pointer (some ⟨C, 0, none⟩)] w (OfR (Ed.ofX t.tx c) w) := by
  have HOf := Lib.hid (fun W (hB : Below w.heap.size w W) => of_any c v t W (h.below hB) hs hc)
  have hn := two_newE w (.cells #[.bool c.r, .int .i64 c.a, .int .i64 c.b, .int .i64 c.c, .int .i64 c.d, .string c.s] 69) (.cells #[.int .i64 0, .int .i64 0, .string ⟨#[]⟩] 63)
  have hb0 := below_al (below_al (Below.refl w.heap.size w) (.cells #[.bool c.r, .int .i64 c.a, .int .i64 c.b, .int .i64 c.c, .int .i64 c.d, .string c.s] 69)) (.cells #[.int .i64 0, .int .i64 0, .string ⟨#[]⟩] 63)
  have HV := Lib.hid hv
  have H0 := Lib.hid (And.intro hb0 hn)
  obtain ⟨b, rv, rfl, hb, -, -⟩ := h
  clear hb0 hn hb hs hc hv
  go_enter Tryd.func62, Tryd.ntmps62
  go_upto_region 1 with fail
  generalize (w.alloc (.cells #[.bool c.r, .int .i64 c.a, .int .i64 c.b, .int .i64 c.c, .int .i64 c.d, .string c.s] 69)).alloc (.cells #[.int .i64 0, .int .i64 0, .string ⟨#[]⟩] 63) = W0 at *
  have x0 : W0.cell? ⟨C, 0, none⟩ = _ := Boxed.cell (show Boxed W0 C 24 _ from (H0.out.1.block C HV.out.lt).trans HV.out)
  have y0 : W0.cell? ⟨w.heap.size, 0, none⟩ = some (.bool c.r) := by rw [Lib.cell_of_heap H0.out.2.1]; rfl
  have y1 : W0.cell? ⟨w.heap.size, 1, none⟩ = some (.int .i64 c.a) := by rw [Lib.cell_of_heap H0.out.2.1]; rfl
  have y2 : W0.cell? ⟨w.heap.size, 2, none⟩ = some (.int .i64 c.b) := by rw [Lib.cell_of_heap H0.out.2.1]; rfl
  have y3 : W0.cell? ⟨w.heap.size, 3, none⟩ = some (.int .i64 c.c) := by rw [Lib.cell_of_heap H0.out.2.1]; rfl
  have y4 : W0.cell? ⟨w.heap.size, 4, none⟩ = some (.int .i64 c.d) := by rw [Lib.cell_of_heap H0.out.2.1]; rfl
  have y5 : W0.cell? ⟨w.heap.size, 5, none⟩ = some (.string c.s) := by rw [Lib.cell_of_heap H0.out.2.1]; rfl
  go_wp2_with fail
  refine (HOf.out W0 H0.out.1).mono ?_
  rintro en w1 ⟨rfl, hB1⟩
  have r0 : EditRow w1 (w.heap.size + 1) 0 0 ⟨#[]⟩ := EditRow.below H0.out.2.2.1 hB1
  have hb := H0.out.1.trans (hB1.mono H0.out.1.size)
  clear x0 y0 y1 y2 y3 y4 y5 hB1
  generalize Ed.ofX t.tx c = r at *
  go_wp2_with (refine wpList_store_row rfl 63 _ _ rfl (w.heap.size + 1) #[.int .i64 r.1.f, .int .i64 r.1.k, .string r.1.s] (by rfl) (by rfl) 63 _ r0 info_edit rfl (one_edit _ _ _) ?_)
  exact edit_ret2 (by rfl) _ _ (w.heap.size + 1) _ _ _ (.int .i64 r.2) (by rfl) (by rfl) rfl (EditRow.set r0 r.1) ⟨rfl, below_setRow hb (by omega) _⟩
set_option maxHeartbeats 400000 in
theorem eachE_any (z : Option Addr) (n c C : Nat) (w : World) :
    Calls Tryd.prog 63 #[.slice z n c, .func (.func 62) #[] #[.pointer (some ⟨C, 0, none⟩)]] w fun e w' => e = .returned (.func (.func 87) #[] #[.pointer (some ⟨w.heap.size, 0, none⟩), .pointer (some ⟨w.heap.size + 1, 0, none⟩)]) ∧ w' = (w.alloc (.cells #[.slice z n c] 53)).alloc (.cells #[.func (.func 62) #[] #[.pointer (some ⟨C, 0, none⟩)]] 110) := by
  go_enter Tryd.func63, Tryd.ntmps63
  go_wp2_with fail
  go_ret
  exact ⟨rfl, rfl⟩
set_option maxRecDepth 100000 in
set_option maxHeartbeats 2000000 in
theorem eachE1_in (n l B1 B2 C cap : Nat) (hn : 1 ≤ n) (z : Option Addr) (L : List ChE) (hL : L.length ≤ 1000) (J : Nat → World → Prop) (Jx : World → Prop)
    (hJ : ∀ i W, J i W → W.cell? ⟨B1, 0, none⟩ = some (.slice z L.length cap) ∧ W.cell? ⟨B2, 0, none⟩ = some (.func (.func 62) #[] #[.pointer (some ⟨C, 0, none⟩)]) ∧ ∀ (j : Nat) (c : ChE), L[j]? = some c → ChAt W z j c)
    (hA : ∀ i W o, J i W → J i (W.alloc o))
    (hY : ∀ i (c : ChE) W, L[i]? = some c → J i W → Calls Tryd.prog 62 #[.agg #[.bool c.r, .int .i64 c.a, .int .i64 c.b, .int .i64 c.c, .int .i64 c.d, .string c.s], .pointer (some ⟨C, 0, none⟩)] W fun e W1 => ∃ d er, e = .returned (.tuple #[d, er]) ∧
      YieldAt Fence.wide (n - 1) Tryd.prog l #[d, er] W1 fun e W' => (e = .returned (.bool true) ∧ J (i + 1) W') ∨ (e = .returned (.bool false) ∧ Jx W'))
    (W : World) (h0 : J 0 W) :
    CallsIn Fence.wide n Tryd.prog 87 #[.func (.yield l) #[] #[], .pointer (some ⟨B1, 0, none⟩), .pointer (some ⟨B2, 0, none⟩)] W fun e W' => (∃ v, e = .returned v) ∧ (J L.length W' ∨ Jx W') := by
  have HY := Lib.hid hY
  have HJ := Lib.hid hJ
  have HA := Lib.hid hA
  have H0 := Lib.hid h0
  have b1 := (hJ 0 W h0).1
  have HL := Lib.hid hL
  clear hY hJ hA h0 hL
  refine callsIn_of_wp Tryd.func87 rfl trivial ?_ rfl
  simp only [Tryd.ntmps87, List.size_toArray, List.length_cons, List.length_nil, Nat.reduceAdd, Nat.reduceSub, Array.replicate_succ, Array.replicate_zero, List.push_toArray, List.append_toArray, List.nil_append, List.cons_append]
  gi_wp2
  gi_loopw [8] (fun p wr => ∃ i : Nat, p = .int .i64 (i : Int) ∧ i ≤ L.length ∧ Hid (J i wr)) (fun p _ => L.length - (RowKit.intOf p).toNat)
  case atStart => exact ⟨0, rfl, Nat.zero_le _, H0⟩
  case round =>
    obtain ⟨i, rfl, hi, HR⟩ := hrel
    by_cases hlt : i < L.length
    · obtain ⟨c, hj⟩ : ∃ c, L[i]? = some c := ⟨_, List.getElem?_eq_getElem hlt⟩
      obtain ⟨q1, q2, q3⟩ := HJ.out i wr HR.out
      obtain ⟨b, o, rfl, hb, c0, c1, c2, c3, c4, c5⟩ := q3 i c hj
      have HJA := Lib.hid (HA.out i wr (.cells #[.bool c.r, .int .i64 c.a, .int .i64 c.b, .int .i64 c.c, .int .i64 c.d, .string c.s] 69) HR.out)
      have HYi := Lib.hid (HY.out i c _ hj HJA.out)
      have q2' := (HJ.out i _ HJA.out).2.1
      have HI := Lib.hid hlt
      have i1 : (0 : Int) ≤ (i : Int) := Int.natCast_nonneg i
      have i2 : (i : Int) < (L.length : Int) := by omega
      have i3 : (i : Int) ≤ 1000 := by have := HL.out; omega
      clear q1 q2 q3 hj hlt hi b1 HR hb
      gi_wp2
      refine ⟨trivial, (callsIn_wide.2 HYi.out).mono ?_⟩
      rintro e W1 ⟨d, er, rfl, fn, tmps, assign, body, hy, hR⟩
      clear c0 c1 c2 c3 c4 c5 q2'
      gi_wp2
      refine hR.mono ?_
      rintro e W3 (⟨rfl, hJ3⟩ | ⟨rfl, hJx3⟩)
      · have HJ3 := Lib.hid hJ3
        clear hJ3 hR
        gi_wp2
        go_roundw
        case rel => exact ⟨i + 1, by go_num, by have := HI.out; omega, HJ3⟩
        case measure => have := HI.out; simp [RowKit.intOf]; omega
      · have HX3 := Lib.hid hJx3
        clear hJx3 hR
        gi_wp2
        refine bodyPost_ret (results_none rfl _ _ _) rfl ?_
        exact ⟨⟨_, rfl⟩, .inr HX3.out⟩
    · have ha : ¬ (i : Int) < (L.length : Int) := by omega
      have HE := Lib.hid (show J L.length wr from by rw [show L.length = i by omega]; exact HR.out)
      clear HR hi hlt
      gi_wp2
      exact ⟨rfl, _, results_none rfl _ _ _, ⟨_, rfl⟩, .inl HE.out⟩
end Go.Proofs.YtjeopabnddekgaaDoor
