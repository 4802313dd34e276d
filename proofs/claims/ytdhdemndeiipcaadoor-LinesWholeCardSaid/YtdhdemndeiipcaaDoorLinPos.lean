/- The program's Pos: the place by lines at which an offset lies. Conditions: a string of at most 10^11 bytes; the library's two tables as its text lays them. -/
import Derived.Test.YtdhdemndeiipcaaDoorLinOffset
namespace Go.Proofs.YtdhdemndeiipcaaDoor
open Go Go.RowKit Go.Shelf Go.Lib

attribute [local go_sem] Oper.semAt_some

namespace L
def lnF (s : ByteArray) (b : Nat) : Nat → Nat
  | 0 => 0
  | k + 1 => if fr s (k + 1) ≤ b then k + 1 else lnF s b k
/-- the last line that begins at or before an offset -/
def ln (s : ByteArray) (b : Nat) : Nat := lnF s b (mny s - 1)
theorem lnF_facts (s : ByteArray) (b : Nat) : ∀ k, lnF s b k ≤ k ∧ fr s (lnF s b k) ≤ b ∧ ∀ j, lnF s b k < j → j ≤ k → b < fr s j
  | 0 => ⟨Nat.le_refl _, Nat.zero_le _, fun j h1 h2 => by unfold lnF at h1; omega⟩
  | k + 1 => by
    unfold lnF
    by_cases h : fr s (k + 1) ≤ b
    · rw [if_pos h]; exact ⟨Nat.le_refl _, h, fun j h1 h2 => by omega⟩
    · rw [if_neg h]
      obtain ⟨a, c, d⟩ := lnF_facts s b k
      refine ⟨by omega, c, fun j h1 h2 => ?_⟩
      by_cases e : j = k + 1
      · rw [e]; omega
      · exact d j h1 (by omega)
theorem ln_lt (s : ByteArray) (b : Nat) : ln s b < mny s := by
  have := (lnF_facts s b (mny s - 1)).1
  have := mny_pos s
  unfold ln; omega
theorem ln_le (s : ByteArray) (b : Nat) : fr s (ln s b) ≤ b := (lnF_facts s b (mny s - 1)).2.1
theorem ln_up (s : ByteArray) {b j : Nat} (h : ln s b < j) (hj : j < mny s) : b < fr s j := (lnF_facts s b (mny s - 1)).2.2 j h (by omega)
theorem ln_eq {s : ByteArray} {b k : Nat} (hk : k < mny s) (h1 : fr s k ≤ b) (h2 : k + 1 < mny s → b < fr s (k + 1)) : ln s b = k := by
  have a := ln_lt s b
  have c := ln_le s b
  by_cases e : ln s b < k
  · have := ln_up s e hk; omega
  · by_cases e2 : k < ln s b
    · have := h2 (by omega)
      have := fr_rise (s := s) (i := k + 1) (j := ln s b) (by omega) a
      omega
    · omega
end L

/-- what the loop has noted when these lines have come -/
def lastL (pre : List Nat) : Nat := pre.getLast?.getD 0
def lastT (s : ByteArray) (pre : List Nat) : Nat := match pre.getLast? with | none => 0 | some k => L.to s k
theorem lastL_snoc (pre : List Nat) (k : Nat) : lastL (pre ++ [k]) = k := by simp [lastL]
theorem lastT_snoc (s : ByteArray) (pre : List Nat) (k : Nat) : lastT s (pre ++ [k]) = L.to s k := by simp [lastT]

/-- the place by lines of an offset -/
def posL (s : ByteArray) (b : Nat) : Nat := L.ln s b
def posC (s : ByteArray) (b : Nat) : Nat := U.units (s.extract (L.fr s (L.ln s b)) (min b (L.to s (L.ln s b))))
def PosIs (s : ByteArray) (b : Nat) (w : World) (e : Ending) (w' : World) : Prop := e = .returned (.agg #[.int .i64 (posL s b), .int .i64 (posC s b)]) ∧ Below w.heap.size w w'

theorem posX_own (s : ByteArray) (b : Nat) (B B0 B5 B6 : Nat) (c : Code) (v : Value) (BP : Nat) (u1 u2 : Value) : OwnFrom B (fun (pre : List Nat) W => c = .exit 0 ∧ ∃ ini k, pre = ini ++ [k] ∧ b < L.fr s k ∧ (∀ y ∈ ini, L.fr s y ≤ b) ∧ (Boxed W B0 3 v ∧ Boxed2 W BP 23 u1 u2) ∧ Boxed W B5 3 (.int .i64 (lastL ini)) ∧ Boxed2 W B6 29 (.int .i64 (L.fr s (lastL ini))) (.int .i64 (lastT s ini))) := fun pre X Y row hs hg hr => by
  obtain ⟨hc, ini, k, e1, e2, e3, ⟨e4, e7⟩, e5, e6⟩ := hs
  exact ⟨hc, ini, k, e1, e2, e3, ⟨boxed_own B0 _ (fun _ => _) () X Y row e4 hg (fun r e => (hr r e).2), boxed2_own BP _ (fun _ => _) (fun _ => _) () X Y row e7 hg (fun r e => (hr r e).2)⟩, boxed_own B5 _ (fun _ => _) () X Y row e5 hg (fun r e => (hr r e).2), boxed2_own B6 _ (fun _ => _) (fun _ => _) () X Y row e6 hg (fun r e => (hr r e).2)⟩

set_option maxRecDepth 100000 in
set_option maxHeartbeats 1000000 in
theorem pos_any (s : ByteArray) (i : Int) (w : World) (hs : s.size ≤ 100000000000) (hT : Tabs w) :
    Calls Tryd.prog 9 #[.string s, .int .i64 i] w (PosIs s (bgnAt s i) w) := by
  have hm2 := L.mny_le s
  have hbg := fun W (hW : Tabs W) => utfBegin_all s i W (by omega) hW
  have HT := Lib.hid hT
  clear hT
  have hbs : bgnAt s i ≤ s.size := by obtain ⟨j, n, _, h, _⟩ := U.bgnAt_facts s i; exact h
  generalize bgnAt s i = b at *
  refine (callsIn_wide (n := 5)).1 ?_
  refine callsIn_of_wp_marks Tryd.func9 rfl trivial ?_ rfl
  simp only [Tryd.ntmps9, List.size_toArray, List.length_cons, List.length_nil, Nat.reduceAdd, Nat.reduceSub, Array.replicate_succ, Array.replicate_zero, List.push_toArray, List.append_toArray, List.nil_append, List.cons_append]
  gi_wp2
  refine ⟨trivial, (callsIn_wide.2 (hbg _ (tabs_below HT.out (((Below.refl _ _).alloc (Nat.le_refl _) _).alloc (by simp) _)))).mono ?_⟩
  rintro e w1 ⟨rfl, hB1⟩
  have b0 := boxed_below ((Boxed.new w 3 (.int .i64 i)).alloc (.cells #[.int .i64 0, .int .i64 0] 23)) hB1
  have bR := Boxed2.new (w.alloc (.cells #[.int .i64 i] 3)) 23 (.int .i64 0) (.int .i64 0)
  rw [World.size_alloc] at bR
  have bR1 := bR.below hB1
  clear bR
  have hz1 := hB1.size
  simp only [World.size_alloc] at hz1
  have hB01 : Below w.heap.size w w1 := (((Below.refl _ w).alloc (Nat.le_refl _) _).alloc (by simp) _).trans (hB1.mono (by simp; omega))
  have c0 := b0.cell
  have f0 := b0.frozen
  clear hB1
  gi_wp2
  refine ⟨trivial, (callsIn_wide.2 (each_any s _)).mono ?_⟩
  rintro e w' ⟨rfl, rfl⟩
  gi_wp2
  have bA := (((b0.set (.int .i64 b)).alloc (.cells #[.int .i64 0] 3)).alloc (.cells #[.int .i64 0, .int .i64 0] 29)).alloc (.cells #[.string s] 9)
  have bP := (((Boxed2.other (o := 0) bR1 (show w.heap.size + 1 ≠ w.heap.size by omega) (.int .i64 b)).alloc (.cells #[.int .i64 0] 3)).alloc (.cells #[.int .i64 0, .int .i64 0] 29)).alloc (.cells #[.string s] 9)
  have bN := ((Boxed.new (w1.setCell ⟨w.heap.size, 0, none⟩ (.int .i64 b)) 3 (.int .i64 0)).alloc (.cells #[.int .i64 0, .int .i64 0] 29)).alloc (.cells #[.string s] 9)
  have bL := (Boxed2.new ((w1.setCell ⟨w.heap.size, 0, none⟩ (.int .i64 b)).alloc (.cells #[.int .i64 0] 3)) 29 (.int .i64 0) (.int .i64 0)).alloc (.cells #[.string s] 9)
  have bS := Boxed.new (((w1.setCell ⟨w.heap.size, 0, none⟩ (.int .i64 b)).alloc (.cells #[.int .i64 0] 3)).alloc (.cells #[.int .i64 0, .int .i64 0] 29)) 9 (.string s)
  have hB0 := (((hB01.setCell (p := ⟨w.heap.size, 0, none⟩) (Nat.le_refl _) (.int .i64 b)).alloc (by simp; omega) (.cells #[.int .i64 0] 3)).alloc (by simp; omega) (.cells #[.int .i64 0, .int .i64 0] 29)).alloc (by simp; omega) (.cells #[.string s] 9)
  simp only [World.size_alloc, World.size_setCell] at bN bL bS
  have hsz : ((((w1.setCell ⟨w.heap.size, 0, none⟩ (.int .i64 b)).alloc (.cells #[.int .i64 0] 3)).alloc (.cells #[.int .i64 0, .int .i64 0] 29)).alloc (.cells #[.string s] 9)).heap.size = w1.heap.size + 3 := by simp
  obtain ⟨W0, hW0⟩ : ∃ W0, (((w1.setCell ⟨w.heap.size, 0, none⟩ (.int .i64 b)).alloc (.cells #[.int .i64 0] 3)).alloc (.cells #[.int .i64 0, .int .i64 0] 29)).alloc (.cells #[.string s] 9) = W0 := ⟨_, rfl⟩
  rw [hW0] at bA bP bN bL bS hB0 hsz ⊢
  clear hW0 b0 bR1 hB01 c0 f0
  refine wpIn_rangeFunc_ownH rfl (by decide) (gf := 31) (lb := #[.pointer (some ⟨w1.heap.size + 1 + 1, 0, none⟩)]) rfl trivial (enters_of Tryd.func31 (by kernel_rfl) rfl)
    (each_stops (5 - 1) (w1.heap.size + 1 + 1) (by decide) s (by omega) W0 (by omega) bS.cell) keepS_t (fun W l o o' _ h ho _ => keepS_b W l o o' h ho) (Below.refl _ _) (fun _ => rfl)
    (fun pre W => ((∀ y ∈ pre, L.fr s y ≤ b) ∧ (Boxed W w.heap.size 3 (.int .i64 b) ∧ Boxed2 W (w.heap.size + 1) 23 (.int .i64 0) (.int .i64 0)) ∧ ((Boxed W w1.heap.size 3 (.int .i64 (lastL pre)) ∧ Boxed2 W (w1.heap.size + 1) 29 (.int .i64 (L.fr s (lastL pre))) (.int .i64 (lastT s pre))) ∧ Boxed W (w1.heap.size + 1 + 1) 9 (.string s))) ∧ Below w.heap.size w W)
    (fun c pre W => (c = .exit 0 ∧ ∃ ini k, pre = ini ++ [k] ∧ b < L.fr s k ∧ (∀ y ∈ ini, L.fr s y ≤ b) ∧ (Boxed W w.heap.size 3 (.int .i64 b) ∧ Boxed2 W (w.heap.size + 1) 23 (.int .i64 0) (.int .i64 0)) ∧ Boxed W w1.heap.size 3 (.int .i64 (lastL ini)) ∧ Boxed2 W (w1.heap.size + 1) 29 (.int .i64 (L.fr s (lastL ini))) (.int .i64 (lastT s ini))) ∧ Below w.heap.size w W)
    (OwnFrom.and (OwnFrom.and (ownFrom_pure _ _) (OwnFrom.and (OwnFrom.and (Own.from (boxed_own _ _ _) _) (Own.from (boxed2_own _ _ _ _) _)) (OwnFrom.and (OwnFrom.and (Own.from (boxed_own _ _ _) _) (Own.from (boxed2_own _ _ _ _) _)) (Own.from (boxed_own _ _ _) _)))) (ownFrom_below (Nat.le_refl _) (by omega)))
    (fun c => OwnFrom.and (posX_own s b _ _ _ _ c _ _ _ _) (ownFrom_below (Nat.le_refl _) (by omega)))
    ⟨⟨(fun y hy => by cases hy), ⟨bA, bP⟩, ⟨bN, bL⟩, bS⟩, hB0⟩
    (fun k a' W => ∃ B, w1.heap.size + 1 + 1 < B ∧ Boxed2 W B 29 (.int .i64 (L.fr s k)) (.int .i64 (L.to s k)) ∧ a' = { tmps := #[.string s, .int .i64 i, undef, .pointer (some ⟨w.heap.size, 0, none⟩), .pointer (some ⟨w.heap.size + 1, 0, none⟩), .pointer (some ⟨w1.heap.size, 0, none⟩), .pointer (some ⟨w1.heap.size + 1, 0, none⟩), .int .i64 k, .pointer (some ⟨B, 0, none⟩), .string s, .int .i64 i, .int .i64 b, .agg #[.int .i64 0, .int .i64 0], .string s, .func (.func 31) #[] #[.pointer (some ⟨w1.heap.size + 1 + 1, 0, none⟩)], .int .i64 k, .agg #[.int .i64 (L.fr s k), .int .i64 (L.to s k)], undef, undef, undef, undef, undef, undef, undef, undef, undef, undef, undef, undef, undef, undef, undef, undef, undef], defers := [] })
    (fun k a' _ X Y row hs hg hr => by obtain ⟨B, h1, h2, h3⟩ := hs; exact ⟨B, h1, boxed2_own B _ (fun _ => _) (fun _ => _) () X Y row h2 hg (fun r e => (hr r e).2), h3⟩)
    ?assign ?body ?done ?stop
  case assign =>
    rintro l pre x W K ⟨⟨hp, ⟨b1, b2⟩, ⟨b3, b4⟩, b5⟩, hB⟩ hK
    unfold span
    gi_wp2
    exact hK _ _ ((KeepsOthers.alloc _ _).from _) (fun _ => (b5.alloc _).cell) ⟨⟨hp, ⟨b1.alloc _, b2.alloc _⟩, ⟨b3.alloc _, b4.alloc _⟩, b5.alloc _⟩, hB.alloc hB.size _⟩ ⟨W.heap.size, b5.lt, Boxed2.new W _ _ _, rfl⟩
  case body =>
    rintro l pre x a' W hl ⟨r, hr⟩ ⟨⟨hp, ⟨b1, b2⟩, ⟨b3, b4⟩, b5⟩, hB⟩ ⟨B, hBx, bX, rfl⟩ hlt
    have c1 := b1.cell
    have cX := bX.cell0
    have cX' := bX.cell1
    by_cases hgt : b < L.fr s x
    · have hgt1 : (b : Int) < (L.fr s x : Int) := by omega
      gi_wp2
      exact ⟨KeepsFrom.refl _ _, ⟨rfl, pre, x, rfl, hgt, hp, ⟨b1, b2⟩, b3, b4⟩, hB⟩
    · have hle1 : L.fr s x ≤ b := by omega
      have hle2 : decide (b < L.fr s x) = false := decide_eq_false hgt
      have hmx : Tryd.prog.follows .mixedOrders = true := by kernel_rfl
      have c3 := b3.cell
      have f3 := b3.frozen
      have c4 := b4.cell0
      have c4' := b4.cell1
      have f4 := b4.frozen0
      have f4' := b4.frozen1
      gi_wp2
      gi_region_with_o (fail)
      all_goals gi_wp2
      all_goals (try go_bits)
      all_goals exact ⟨((((KeepsOthers.setCell _ _ _).trans (KeepsOthers.setCell _ _ _)).trans (KeepsOthers.setCell _ _ _)).trans (KeepsOthers.drew _)).from _, fun _ => (boxed_other (o := 1) (boxed_other (o := 0) (b5.other (by omega) _) (by omega) _) (by omega) _).cell,
        ⟨(fun y hy => (List.mem_append.1 hy).elim (hp y) (fun e => by simp at e; subst e; exact hle1)), ⟨boxed_other (o := 1) (boxed_other (o := 0) (b1.other (by omega) _) (by omega) _) (by omega) _, Boxed2.other (o := 1) (Boxed2.other (o := 0) (Boxed2.other (o := 0) b2 (by omega) _) (by omega) _) (by omega) _⟩,
          ⟨by rw [lastL_snoc]; exact boxed_other (o := 1) (boxed_other (o := 0) (b3.set _) (by omega) _) (by omega) _, by rw [lastL_snoc, lastT_snoc]; exact (((Boxed2.other (o := 0) b4 (by omega) _).set0 _).set1 _)⟩, boxed_other (o := 1) (boxed_other (o := 0) (b5.other (by omega) _) (by omega) _) (by omega) _⟩,
        (((hB.setCell (p := ⟨w1.heap.size, 0, none⟩) (by simp; omega) _).setCell (p := ⟨w1.heap.size + 1, 0, none⟩) (by simp; omega) _).setCell (p := ⟨w1.heap.size + 1, 1, none⟩) (by simp; omega) _).drew⟩
  case done =>
    rintro D ys W hD rfl ⟨⟨hp, ⟨b1, b2⟩, ⟨b3, b4⟩, b5⟩, hB⟩ hK
    obtain ⟨n, hn⟩ : ∃ n, L.mny s = n + 1 := ⟨L.mny s - 1, by have := L.mny_pos s; omega⟩
    rw [hn, List.range_succ, lastL_snoc] at b3
    rw [hn, List.range_succ, lastL_snoc, lastT_snoc] at b4
    have hln : L.ln s b = n := L.ln_eq (by omega) (hp n (by simp; omega)) (fun h => by omega)
    have hnm : n < L.mny s := by omega
    clear hp hn b5
    have hfr := L.fr_le hnm
    have hto := L.to_le hnm
    have hge := L.to_ge hnm
    have hfb : L.fr s n ≤ b := by rw [← hln]; exact L.ln_le s b
    have HC : Hid (posL s b = n ∧ posC s b = U.units (s.extract (L.fr s n) (min b (L.to s n)))) := Lib.hid ⟨by unfold posL; exact hln, by unfold posC; rw [hln]⟩
    obtain ⟨m, hm⟩ : ∃ m, min b (L.to s n) = m := ⟨_, rfl⟩
    have hmf : L.fr s n ≤ m := by omega
    have hms : m ≤ s.size := by omega
    have hmin : min (b : Int) (L.to s n : Int) = (m : Int) := by omega
    rw [hm] at HC
    have hun := fun W => utfUnits_is (s.extract (L.fr s n) m) W (by rw [ByteArray.size_extract]; omega)
    generalize U.units (s.extract (L.fr s n) m) = u at *
    generalize L.fr s n = f at *
    generalize L.to s n = t at *
    have c1 := b1.cell
    have c2 := b2.cell0
    have c2b := b2.cell1
    have f2 := b2.frozen0
    have f2b := b2.frozen1
    have c3 := b3.cell
    have c4 := b4.cell0
    have c4b := b4.cell1
    have l2 := b2.lt
    have l3 := b3.lt
    have l4 := b4.lt
    have l1 : w.heap.size < W.heap.size := by omega
    have n1 : w.heap.size + 1 ≠ w1.heap.size := by omega
    have n2 : w.heap.size ≠ w1.heap.size := by omega
    have n3 : w.heap.size ≠ w1.heap.size + 1 := by omega
    have z1 : w.heap.size ≠ w.heap.size + 1 := by omega
    have m1 : (0 : Int) ≤ (f : Int) := by omega
    have m2 : (f : Int) ≤ (m : Int) := by omega
    have m3 : (m : Int) ≤ (s.size : Int) := by omega
    clear hm hfr hto hge hfb hln
    gi_wp2
    refine wpIn_wide.2 ?_
    go_region_held3 (fun w' => w'.cell? ⟨w1.heap.size, 0, none⟩ = some (.int .i64 n) ∧ w'.cell? ⟨w1.heap.size + 1, 0, none⟩ = some (.int .i64 f) ∧ w'.cell? ⟨w1.heap.size + 1, 1, none⟩ = some (.int .i64 t) ∧ w'.cell? ⟨w.heap.size, 0, none⟩ = some (.int .i64 b))
      (first | go_keep | exact ⟨(hB2.cell (p := ⟨w1.heap.size, 0, none⟩) l3).trans c3, (hB2.cell (p := ⟨w1.heap.size + 1, 0, none⟩) l4).trans c4, (hB2.cell (p := ⟨w1.heap.size + 1, 1, none⟩) l4).trans c4b, (hB2.cell (p := ⟨w.heap.size, 0, none⟩) l1).trans c1⟩)
      (first | (go_at_call 22; refine (hun _).mono ?_; rintro e w2 ⟨rfl, hB2⟩; have d2 := (hB2.cell (p := ⟨w.heap.size + 1, 0, none⟩) l2).trans c2; have d2b := (hB2.cell (p := ⟨w.heap.size + 1, 1, none⟩) l2).trans c2b; have e2 := (hB2.frozen (p := ⟨w.heap.size + 1, 0, none⟩) l2).trans f2; have e2b := (hB2.frozen (p := ⟨w.heap.size + 1, 1, none⟩) l2).trans f2b))
    gi_wp2
    have hD2 : w2.heap[D]? = some (.deferred (some [])) := (hB2.block D (Array.getElem?_eq_some_iff.1 hK).1).trans hK
    have bF := ((b2.drew.below hB2).set0 (.int .i64 n)).set1 (.int .i64 u)
    have hBF := ((hB.drew.trans (hB2.mono hB.drew.size)).setCell (p := ⟨w.heap.size + 1, 0, none⟩) (by simp) (.int .i64 n)).setCell (p := ⟨w.heap.size + 1, 1, none⟩) (by simp) (.int .i64 u)
    have hK2 := ((KeepsOthers.setCell w2 ⟨w.heap.size + 1, 0, none⟩ (.int .i64 n)).trans (KeepsOthers.setCell _ ⟨w.heap.size + 1, 1, none⟩ (.int .i64 u))).same D _ hD2 rfl
    generalize (w2.setCell ⟨w.heap.size + 1, 0, none⟩ (.int .i64 n)).setCell ⟨w.heap.size + 1, 1, none⟩ (.int .i64 u) = W' at *
    refine ⟨by simp, .inl ⟨_, _, rfl, run_takeDeferred hK2, ?_⟩⟩
    have k0 := cell_kept bF.cell0 (grownBy_putObj' _ D (.deferred none)) (fun r e => by cases e; exact ⟨_, hK2, rfl⟩)
    have k1 := cell_kept bF.cell1 (grownBy_putObj' _ D (.deferred none)) (fun r e => by cases e; exact ⟨_, hK2, rfl⟩)
    refine ⟨.agg #[.int .i64 n, .int .i64 u], ?_, ?_, hBF.trans (belowK_b (w := w) (Nat.le_refl _) _ D _ _ (by omega) hK2 rfl rfl)⟩
    · simp [results, Tryd.results9, go_sem, k0, k1]
    · rw [HC.out.1, HC.out.2]
  case stop =>
    rintro D c pre W hD ⟨k, hk, rfl⟩ ⟨⟨rfl, ini, k', e1, hgt, hle, ⟨b1, b2⟩, b3, b4⟩, hB⟩ hK
    rw [List.range_succ] at e1
    obtain ⟨rfl, e5⟩ := List.append_inj' e1 rfl
    obtain rfl : k = k' := by simpa using e5
    clear e1 e5
    obtain ⟨n, rfl⟩ : ∃ n, k = n + 1 := by
      cases k with
      | zero => exact absurd hgt (by show ¬ b < 0; omega)
      | succ n => exact ⟨n, rfl⟩
    rw [List.range_succ, lastL_snoc] at b3
    rw [List.range_succ, lastL_snoc, lastT_snoc] at b4
    have hln : L.ln s b = n := L.ln_eq (by omega) (hle n (by simp)) (fun _ => hgt)
    have hnm : n < L.mny s := by omega
    clear hle hgt hk
    have hfr := L.fr_le hnm
    have hto := L.to_le hnm
    have hge := L.to_ge hnm
    have hfb : L.fr s n ≤ b := by rw [← hln]; exact L.ln_le s b
    have HC : Hid (posL s b = n ∧ posC s b = U.units (s.extract (L.fr s n) (min b (L.to s n)))) := Lib.hid ⟨by unfold posL; exact hln, by unfold posC; rw [hln]⟩
    obtain ⟨m, hm⟩ : ∃ m, min b (L.to s n) = m := ⟨_, rfl⟩
    have hmf : L.fr s n ≤ m := by omega
    have hms : m ≤ s.size := by omega
    have hmin : min (b : Int) (L.to s n : Int) = (m : Int) := by omega
    rw [hm] at HC
    have hun := fun W => utfUnits_is (s.extract (L.fr s n) m) W (by rw [ByteArray.size_extract]; omega)
    generalize U.units (s.extract (L.fr s n) m) = u at *
    generalize L.fr s n = f at *
    generalize L.to s n = t at *
    have c1 := b1.cell
    have c2 := b2.cell0
    have c2b := b2.cell1
    have f2 := b2.frozen0
    have f2b := b2.frozen1
    have c3 := b3.cell
    have c4 := b4.cell0
    have c4b := b4.cell1
    have l2 := b2.lt
    have l3 := b3.lt
    have l4 := b4.lt
    have l1 : w.heap.size < W.heap.size := by omega
    have n1 : w.heap.size + 1 ≠ w1.heap.size := by omega
    have n2 : w.heap.size ≠ w1.heap.size := by omega
    have n3 : w.heap.size ≠ w1.heap.size + 1 := by omega
    have z1 : w.heap.size ≠ w.heap.size + 1 := by omega
    have m1 : (0 : Int) ≤ (f : Int) := by omega
    have m2 : (f : Int) ≤ (m : Int) := by omega
    have m3 : (m : Int) ≤ (s.size : Int) := by omega
    clear hm hfr hto hge hfb hln
    gi_wp2
    refine wpIn_wide.2 ?_
    go_region_held3 (fun w' => w'.cell? ⟨w1.heap.size, 0, none⟩ = some (.int .i64 n) ∧ w'.cell? ⟨w1.heap.size + 1, 0, none⟩ = some (.int .i64 f) ∧ w'.cell? ⟨w1.heap.size + 1, 1, none⟩ = some (.int .i64 t) ∧ w'.cell? ⟨w.heap.size, 0, none⟩ = some (.int .i64 b))
      (first | go_keep | exact ⟨(hB2.cell (p := ⟨w1.heap.size, 0, none⟩) l3).trans c3, (hB2.cell (p := ⟨w1.heap.size + 1, 0, none⟩) l4).trans c4, (hB2.cell (p := ⟨w1.heap.size + 1, 1, none⟩) l4).trans c4b, (hB2.cell (p := ⟨w.heap.size, 0, none⟩) l1).trans c1⟩)
      (first | (go_at_call 22; refine (hun _).mono ?_; rintro e w2 ⟨rfl, hB2⟩; have d2 := (hB2.cell (p := ⟨w.heap.size + 1, 0, none⟩) l2).trans c2; have d2b := (hB2.cell (p := ⟨w.heap.size + 1, 1, none⟩) l2).trans c2b; have e2 := (hB2.frozen (p := ⟨w.heap.size + 1, 0, none⟩) l2).trans f2; have e2b := (hB2.frozen (p := ⟨w.heap.size + 1, 1, none⟩) l2).trans f2b))
    gi_wp2
    have hD2 : w2.heap[D]? = some (.deferred (some [])) := (hB2.block D (Array.getElem?_eq_some_iff.1 hK).1).trans hK
    have bF := ((b2.drew.below hB2).set0 (.int .i64 n)).set1 (.int .i64 u)
    have hBF := ((hB.drew.trans (hB2.mono hB.drew.size)).setCell (p := ⟨w.heap.size + 1, 0, none⟩) (by simp) (.int .i64 n)).setCell (p := ⟨w.heap.size + 1, 1, none⟩) (by simp) (.int .i64 u)
    have hK2 := ((KeepsOthers.setCell w2 ⟨w.heap.size + 1, 0, none⟩ (.int .i64 n)).trans (KeepsOthers.setCell _ ⟨w.heap.size + 1, 1, none⟩ (.int .i64 u))).same D _ hD2 rfl
    generalize (w2.setCell ⟨w.heap.size + 1, 0, none⟩ (.int .i64 n)).setCell ⟨w.heap.size + 1, 1, none⟩ (.int .i64 u) = W' at *
    refine ⟨by simp, .inl ⟨_, _, rfl, run_takeDeferred hK2, ?_⟩⟩
    have k0 := cell_kept bF.cell0 (grownBy_putObj' _ D (.deferred none)) (fun r e => by cases e; exact ⟨_, hK2, rfl⟩)
    have k1 := cell_kept bF.cell1 (grownBy_putObj' _ D (.deferred none)) (fun r e => by cases e; exact ⟨_, hK2, rfl⟩)
    refine ⟨.agg #[.int .i64 n, .int .i64 u], ?_, ?_, hBF.trans (belowK_b (w := w) (Nat.le_refl _) _ D _ _ (by omega) hK2 rfl rfl)⟩
    · simp [results, Tryd.results9, go_sem, k0, k1]
    · rw [HC.out.1, HC.out.2]
end Go.Proofs.YtdhdemndeiipcaaDoor
