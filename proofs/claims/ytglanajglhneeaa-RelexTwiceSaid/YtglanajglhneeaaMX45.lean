/- Of the law: rest, fits. Conditions: strings such as an argument can be. -/
import Derived.Test.YtglanajglhneeaaMX34
import Derived.Test.YtglanajglhneeaaMX41
import Derived.Test.YtglanajglhneeaaMX43
import Derived.Deep.RegionHeld3
import Derived.Test.YtglanajglhneeaaMX44
import Derived.Deep.CutBlock
import Derived.Deep.DeepCutAuto
namespace Go.Proofs
open Go Go.RowKit Go.Lib
namespace Ytglanajglhneeaa
theorem mod_is9 (n : Int) (L : Nat) (h : 0 < L) (hL : L ≤ 1000000000000) : ∃ m : Nat, m < L ∧ wrap64 ((IntKind.u64.wrap n).tmod (L : Int)) = (m : Int) := by
  have h0 : 0 ≤ IntKind.u64.wrap n := by rw [IntKind.wrap_u64]; omega
  obtain ⟨u, hu⟩ : ∃ u : Nat, IntKind.u64.wrap n = (u : Int) := ⟨(IntKind.u64.wrap n).toNat, by omega⟩
  refine ⟨u % L, Nat.mod_lt _ h, ?_⟩
  have h2 : u % L < L := Nat.mod_lt _ h
  rw [hu]
  show wrap64 (((u % L : Nat) : Int)) = _
  unfold wrap64
  omega
set_option maxHeartbeats 1000000 in
set_option maxRecDepth 100000 in
theorem rest_any (x y : Int) (L : Nat) (h : 0 < L) (hL : L ≤ 100000) (hy : y = (L : Int)) (w : World) : Calls Try.prog 32 #[.int .i64 x, .int .i64 y] w (fun e w' => ∃ m : Nat, m < L ∧ e = .returned (.int .i64 (m : Int)) ∧ Below w.heap.size w w') := by
  subst hy
  obtain ⟨m, hm, he⟩ := mod_is9 x L h (by omega)
  have e1 : ¬ (L : Int) = 0 := by omega
  have e2 : IntKind.u64.wrap (L : Int) = (L : Int) := by rw [IntKind.wrap_u64]; omega
  go_enter Try.func32, Try.ntmps32
  go_wp2_with fail
  go_ret
  exact ⟨m, hm, by first | rfl | (rw [← he]; rfl), Below.refl _ _⟩
theorem span_ret4 {fn : Func} {p q r u : Tmp} (h : fn.results = #[.cell p 32, .cell q 32, .tmp r, .tmp u]) {Q : Ending → World → Prop} (a : Act) (w : World) (g g2 : Nat) (x y x2 y2 : Int) (z z2 : Value) (hp : a.tmps.getD p undef = .pointer (some ⟨g, 0, none⟩)) (hq : a.tmps.getD q undef = .pointer (some ⟨g2, 0, none⟩)) (hr : a.tmps.getD r undef = z) (hu : a.tmps.getD u undef = z2) (hd : a.defers = []) (hg : EdRow w g x y) (hg2 : EdRow w g2 x2 y2) (hQ : Q (.returned (.tuple #[.agg #[.int .i64 x, .int .i64 y], .agg #[.int .i64 x2, .int .i64 y2], z, z2])) w) : bodyPost Try.prog fn Q .ret a w := by
  have hp' : a.tmps[p]?.getD undef = .pointer (some ⟨g, 0, none⟩) := by simpa using hp
  have hq' : a.tmps[q]?.getD undef = .pointer (some ⟨g2, 0, none⟩) := by simpa using hq
  have hr' : a.tmps[r]?.getD undef = z := by simpa using hr
  have hu' : a.tmps[u]?.getD undef = z2 := by simpa using hu
  refine bodyPost_ret (v := .tuple #[.agg #[.int .i64 x, .int .i64 y], .agg #[.int .i64 x2, .int .i64 y2], z, z2]) ?_ hd hQ
  simp [results, h, hp', hq', hr', hu', asAddr, run_loadVar_row w g _ _ _ (0, 0) _ hg Try.underlying32 rfl info_edspan, run_loadVar_row w g2 _ _ _ (0, 0) _ hg2 Try.underlying32 rfl info_edspan]
theorem three_new9 (w : World) (a b c : Obj) : (((w.alloc a).alloc b).alloc c).heap[w.heap.size]? = some a ∧ (((w.alloc a).alloc b).alloc c).heap[w.heap.size + 1]? = some b ∧ (((w.alloc a).alloc b).alloc c).heap[w.heap.size + 1 + 1]? = some c ∧ (((w.alloc a).alloc b).alloc c).heap.size = w.heap.size + 1 + 1 + 1 := by
  have h : (((w.alloc a).alloc b).alloc c).heap = ((w.heap.push a).push b).push c := rfl
  rw [h]
  refine ⟨?_, ?_, ?_, by simp⟩ <;> simp only [Array.getElem?_push, Array.size_push] <;> (repeat (first | rw [if_pos rfl] | rw [if_pos trivial] | rw [if_neg (by omega)]))
/-- what fits answers: an edit, or no -/
def FitsIs (s m : ByteArray) (w : World) (e : Ending) (w' : World) : Prop :=
  ((∃ oF oT : Nat, e = .returned (.tuple #[.agg #[.int .i64 oF, .int .i64 oT], .agg #[.int .i64 oF, .int .i64 (oF + m.size : Nat)], .string (s.extract 0 oF ++ m ++ s.extract oT s.size), .bool true]) ∧ oF ≤ oT ∧ oT ≤ s.size ∧ s.size ≤ 6000 ∧ m.size ≤ 3000) ∨ e = .returned (.tuple #[.agg #[.int .i64 0, .int .i64 0], .agg #[.int .i64 0, .int .i64 0], .string ⟨#[]⟩, .bool false])) ∧ Below w.heap.size w w'
/-- what is told of the last statement's operations -/
def FxF (n : Nat) (s m : ByteArray) (f k : Nat) : Nat → Value → World → Prop
  | 0, y, _ => y = .int .i64 (f : Int)
  | 1, y, _ => y = .int .i64 (k : Int)
  | 2, y, _ => y = .agg #[.int .i64 (f : Int), .int .i64 (k : Int)]
  | 3, y, _ => y = .int .i64 (f : Int)
  | 4, y, _ => y = .int .i64 (f : Int)
  | 5, y, _ => y = .pointer (some ⟨n, 2, none⟩)
  | 6, y, _ => y = .string m
  | 7, y, _ => y = .int .i64 (m.size : Int)
  | 8, y, _ => y = .int .i64 ((f : Int) + (m.size : Int))
  | 9, y, _ => y = .agg #[.int .i64 (f : Int), .int .i64 ((f : Int) + (m.size : Int))]
  | 10, y, _ => y = .string s
  | 11, y, _ => y = .int .i64 (f : Int)
  | 12, y, _ => y = .string (s.extract 0 f)
  | 13, y, _ => y = .pointer (some ⟨n, 2, none⟩)
  | 14, y, _ => y = .string m
  | 15, y, _ => y = .string (s.extract 0 f ++ m)
  | 16, y, _ => y = .string s
  | 17, y, _ => y = .int .i64 (k : Int)
  | 18, y, _ => y = .string (s.extract k s.size)
  | 19, y, _ => y = .string (s.extract 0 f ++ m ++ s.extract k s.size)
  | 20, _, W => EdRow W (n + 1) (f : Int) (k : Int)
  | 21, _, W => EdRow W (n + 1 + 1) (f : Int) ((f : Int) + (m.size : Int))
  | 22, y, _ => y = .string (s.extract 0 f ++ m ++ s.extract k s.size)
  | _, _, _ => True
def FxG (w : World) (m : ByteArray) (W : World) : Prop := Below w.heap.size w W ∧ W.cell? ⟨w.heap.size, 2, none⟩ = some (.string m) ∧ (∃ x y, EdRow W (w.heap.size + 1) x y) ∧ (∃ x y, EdRow W (w.heap.size + 1 + 1) x y)
def FxR (w : World) (m : ByteArray) (f k : Nat) (W W' : World) : Prop := (FxG w m W → FxG w m W') ∧ (EdRow W (w.heap.size + 1) (f : Int) (k : Int) → EdRow W' (w.heap.size + 1) (f : Int) (k : Int)) ∧ (EdRow W (w.heap.size + 1 + 1) (f : Int) ((f : Int) + (m.size : Int)) → EdRow W' (w.heap.size + 1 + 1) (f : Int) ((f : Int) + (m.size : Int)))
theorem FxR.refl (w : World) (m : ByteArray) (f k : Nat) (W : World) : FxR w m f k W W := ⟨fun h => h, fun h => h, fun h => h⟩
theorem cell_setRow9 (W : World) (b g i : Nat) (c : Array Value) (h : b ≠ g) : (W.setRow g c).cell? ⟨b, i, none⟩ = W.cell? ⟨b, i, none⟩ := by
  have e := setRow_other W g b c h
  unfold World.cell?
  simp only [e]
theorem FxR.one (w : World) (m : ByteArray) (f k : Nat) (W : World) : FxR w m f k W (W.setRow (w.heap.size + 1) #[.int .i64 (f : Int), .int .i64 (k : Int)]) := by
  refine ⟨fun ⟨h1, h2, ⟨x, y, h3⟩, ⟨x2, y2, h4⟩⟩ => ⟨below_setRow h1 (by omega) _, ?_, ⟨_, _, EdRow.set h3 _ _⟩, ⟨_, _, EdRow.other h4 _ (by omega)⟩⟩, fun h => EdRow.set h _ _, fun h => EdRow.other h _ (by omega)⟩
  rw [cell_setRow9 _ _ _ _ _ (by omega)]; exact h2
theorem FxR.two (w : World) (m : ByteArray) (f k : Nat) (W : World) : FxR w m f k W (W.setRow (w.heap.size + 1 + 1) #[.int .i64 (f : Int), .int .i64 ((f : Int) + (m.size : Int))]) := by
  refine ⟨fun ⟨h1, h2, ⟨x, y, h3⟩, ⟨x2, y2, h4⟩⟩ => ⟨below_setRow h1 (by omega) _, ?_, ⟨_, _, EdRow.other h3 _ (by omega)⟩, ⟨_, _, EdRow.set h4 _ _⟩⟩, fun h => EdRow.other h _ (by omega), fun h => EdRow.set h _ _⟩
  rw [cell_setRow9 _ _ _ _ _ (by omega)]; exact h2
set_option maxHeartbeats 8000000 in
set_option maxRecDepth 100000 in
theorem fits_any (s m : ByteArray) (f0 k0 : Int) (hs : s.size ≤ 1000000000000000) (hm : m.size ≤ 1000000000000000) (w : World) : Calls Try.prog 10 #[.string s, .agg #[.int .i64 f0, .int .i64 k0, .string m]] w (FitsIs s m w) := by
  have HV1 := Lib.hid (fun W (h : s.size ≤ 1000000000000) => refValid_any s W h)
  have HV2 := Lib.hid (fun W (h : m.size ≤ 1000000000000) => refValid_any m W h)
  go_enter Try.func10, Try.ntmps10
  go_upto_region 1 with fail
  have hn := three_new9 w (.cells #[.int .i64 f0, .int .i64 k0, .string m] 30) (.cells #[.int .i64 0, .int .i64 0] 32) (.cells #[.int .i64 0, .int .i64 0] 32)
  have hbw : Below w.heap.size w (((w.alloc (.cells #[.int .i64 f0, .int .i64 k0, .string m] 30)).alloc (.cells #[.int .i64 0, .int .i64 0] 32)).alloc (.cells #[.int .i64 0, .int .i64 0] 32)) := (((Below.refl _ _).alloc (Nat.le_refl _) _).alloc (by simp) _).alloc (by simp; omega) _
  generalize ((w.alloc _).alloc _).alloc _ = W1 at *
  have HC := Lib.hid (fun X (hX : Below W1.heap.size W1 X) => (show (X.cell? ⟨w.heap.size, 0, none⟩ = some (.int .i64 f0) ∧ X.cell? ⟨w.heap.size, 1, none⟩ = some (.int .i64 k0) ∧ X.cell? ⟨w.heap.size, 2, none⟩ = some (.string m)) ∧ EdRow X (w.heap.size + 1) 0 0 ∧ EdRow X (w.heap.size + 1 + 1) 0 0 ∧ Below w.heap.size w X from by
    have r0 := (hX.block _ (Array.getElem?_eq_some_iff.1 hn.1).1).trans hn.1
    have r1 := (hX.block _ (Array.getElem?_eq_some_iff.1 hn.2.1).1).trans hn.2.1
    have r2 := (hX.block _ (Array.getElem?_eq_some_iff.1 hn.2.2.1).1).trans hn.2.2.1
    exact ⟨⟨by rw [Lib.cell_of_heap r0]; rfl, by rw [Lib.cell_of_heap r0]; rfl, by rw [Lib.cell_of_heap r0]; rfl⟩, r1, r2, hbw.trans (hX.mono hbw.size)⟩))
  clear hn hbw
  by_cases c1 : 6000 < s.size
  · have k1 : (6000 : Int) < (s.size : Int) := by omega
    obtain ⟨⟨y0, y1, y2⟩, r1, r2, hb⟩ := HC.out W1 (Below.refl _ _)
    have HB := Lib.hid hb
    clear c1 hb
    go_wp2_with (first
      | (refine wpList_store_row rfl 32 _ _ rfl (w.heap.size + 1) #[.int .i64 0, .int .i64 0] (by rfl) (by rfl) 32 _ r1 info_edspan rfl (one_edspan _ _) ?_)
      | (refine wpList_store_row rfl 32 _ _ rfl (w.heap.size + 1 + 1) #[.int .i64 0, .int .i64 0] (by rfl) (by rfl) 32 _ (EdRow.other r2 _ (by omega)) info_edspan rfl (one_edspan _ _) ?_))
    exact span_ret4 (by rfl) _ _ (w.heap.size + 1) (w.heap.size + 1 + 1) 0 0 0 0 _ _ (by rfl) (by rfl) (by rfl) (by rfl) rfl (EdRow.other (EdRow.set r1 0 0) _ (by omega)) (EdRow.set (EdRow.other r2 _ (by omega)) 0 0) ⟨Or.inr rfl, below_setRow (below_setRow HB.out (by omega) _) (by omega) _⟩
  have k1 : ¬ (6000 : Int) < (s.size : Int) := by omega
  by_cases c2 : 3000 < m.size
  · have k2 : (3000 : Int) < (m.size : Int) := by omega
    obtain ⟨⟨y0, y1, y2⟩, r1, r2, hb⟩ := HC.out W1 (Below.refl _ _)
    have HB := Lib.hid hb
    clear c1 c2 hb
    go_wp2_with (first
      | (refine wpList_store_row rfl 32 _ _ rfl (w.heap.size + 1) #[.int .i64 0, .int .i64 0] (by rfl) (by rfl) 32 _ r1 info_edspan rfl (one_edspan _ _) ?_)
      | (refine wpList_store_row rfl 32 _ _ rfl (w.heap.size + 1 + 1) #[.int .i64 0, .int .i64 0] (by rfl) (by rfl) 32 _ (EdRow.other r2 _ (by omega)) info_edspan rfl (one_edspan _ _) ?_))
    exact span_ret4 (by rfl) _ _ (w.heap.size + 1) (w.heap.size + 1 + 1) 0 0 0 0 _ _ (by rfl) (by rfl) (by rfl) (by rfl) rfl (EdRow.other (EdRow.set r1 0 0) _ (by omega)) (EdRow.set (EdRow.other r2 _ (by omega)) 0 0) ⟨Or.inr rfl, below_setRow (below_setRow HB.out (by omega) _) (by omega) _⟩
  have k2 : ¬ (3000 : Int) < (m.size : Int) := by omega
  have hs6 : s.size ≤ 6000 := by omega
  have hm3 : m.size ≤ 3000 := by omega
  have hv1 := fun W => HV1.out W (by omega)
  have hv2 := fun W => HV2.out W (by omega)
  clear c1 c2 hs hm
  generalize U.valid s = b1 at *
  generalize U.valid m = b2 at *
  obtain ⟨⟨y0, y1, y2⟩, r1, r2, hb⟩ := HC.out W1 (Below.refl _ _)
  cases b1
  · clear hb r1 r2
    go_wp2_with fail
    refine (hv1 _).mono ?_
    rintro e W2 ⟨rfl, hB2⟩
    obtain ⟨⟨y0, y1, y2⟩, r1, r2, hb⟩ := HC.out W2 hB2
    have HB := Lib.hid hb
    clear hb hB2 hv1 hv2
    go_wp2_with (first
      | (refine wpList_store_row rfl 32 _ _ rfl (w.heap.size + 1) #[.int .i64 0, .int .i64 0] (by rfl) (by rfl) 32 _ r1 info_edspan rfl (one_edspan _ _) ?_)
      | (refine wpList_store_row rfl 32 _ _ rfl (w.heap.size + 1 + 1) #[.int .i64 0, .int .i64 0] (by rfl) (by rfl) 32 _ (EdRow.other r2 _ (by omega)) info_edspan rfl (one_edspan _ _) ?_))
    exact span_ret4 (by rfl) _ _ (w.heap.size + 1) (w.heap.size + 1 + 1) 0 0 0 0 _ _ (by rfl) (by rfl) (by rfl) (by rfl) rfl (EdRow.other (EdRow.set r1 0 0) _ (by omega)) (EdRow.set (EdRow.other r2 _ (by omega)) 0 0) ⟨Or.inr rfl, below_setRow (below_setRow HB.out (by omega) _) (by omega) _⟩
  clear hb r1 r2
  go_wp2_with fail
  refine (hv1 _).mono ?_
  rintro e W2 ⟨rfl, hB2⟩
  obtain ⟨⟨y0, y1, y2⟩, r1, r2, hb⟩ := HC.out W2 hB2
  have HB2 := Lib.hid hB2
  clear hb hB2 hv1 r1 r2
  cases b2
  · go_wp2_with fail
    refine (hv2 _).mono ?_
    rintro e W3 ⟨rfl, hB3⟩
    obtain ⟨⟨y0, y1, y2⟩, r1, r2, hb⟩ := HC.out W3 (HB2.out.trans (hB3.mono HB2.out.size))
    have HB := Lib.hid hb
    clear hb hB3 hv2
    go_wp2_with (first
      | (refine wpList_store_row rfl 32 _ _ rfl (w.heap.size + 1) #[.int .i64 0, .int .i64 0] (by rfl) (by rfl) 32 _ r1 info_edspan rfl (one_edspan _ _) ?_)
      | (refine wpList_store_row rfl 32 _ _ rfl (w.heap.size + 1 + 1) #[.int .i64 0, .int .i64 0] (by rfl) (by rfl) 32 _ (EdRow.other r2 _ (by omega)) info_edspan rfl (one_edspan _ _) ?_))
    exact span_ret4 (by rfl) _ _ (w.heap.size + 1) (w.heap.size + 1 + 1) 0 0 0 0 _ _ (by rfl) (by rfl) (by rfl) (by rfl) rfl (EdRow.other (EdRow.set r1 0 0) _ (by omega)) (EdRow.set (EdRow.other r2 _ (by omega)) 0 0) ⟨Or.inr rfl, below_setRow (below_setRow HB.out (by omega) _) (by omega) _⟩
  go_wp2_with fail
  refine (hv2 _).mono ?_
  rintro e W3 ⟨rfl, hB3⟩
  have HB3 := Lib.hid (HB2.out.trans (hB3.mono HB2.out.size))
  clear hB3 hv2 y0 y1 y2
  obtain ⟨⟨y0, y1, y2⟩, r1, r2, hb⟩ := HC.out W3 HB3.out
  clear hb r1 r2
  have HR1 := Lib.hid (fun W => rest_any f0 ((s.size : Int) + 1) (s.size + 1) (by omega) (by omega) (by omega) W)
  go_wp2_with fail
  refine (HR1.out _).mono ?_
  rintro e W4 ⟨f1, hf1, rfl, hB4⟩
  have HB4 := Lib.hid (HB3.out.trans (hB4.mono HB3.out.size))
  clear hB4 y0 y1 y2
  obtain ⟨⟨y0, y1, y2⟩, r1, r2, hb⟩ := HC.out W4 HB4.out
  clear hb r1 r2
  have hf1' : f1 ≤ s.size := by omega
  have HR2 := Lib.hid (fun W => rest_any k0 ((s.size : Int) - (f1 : Int) + 1) (s.size - f1 + 1) (by omega) (by omega) (by omega) W)
  go_wp2_with fail
  refine (HR2.out _).mono ?_
  rintro e W5 ⟨d1, hd1, rfl, hB5⟩
  have HB5 := Lib.hid (HB4.out.trans (hB5.mono HB4.out.size))
  clear hB5 y0 y1 y2
  have hk1 : f1 + d1 ≤ s.size := by omega
  go_upto_block 0 with fail
  go_cut [8] (fun q wx => ∃ f : Nat, q = .int .i64 f ∧ f ≤ f1 ∧ W5 = wx)
  case first =>
    go_wp2_with fail
    go_loopw [8] (fun q wr => ∃ f : Nat, q = .int .i64 f ∧ f ≤ f1 ∧ W5 = wr) (fun q _ => (RowKit.intOf q).toNat)
    case atStart => exact ⟨f1, rfl, Nat.le_refl _, rfl⟩
    case round =>
      obtain ⟨f, rfl, hf, rfl⟩ := hrel
      by_cases g0 : 0 < f
      · have j0 : (0 : Int) < (f : Int) := by omega
        by_cases g1 : f < s.size
        · have j1 : (f : Int) < (s.size : Int) := by omega
          go_wp2_with fail
          all_goals first
            | (go_meet
               case rel => exact ⟨f, rfl, hf, by first | rfl | trivial⟩)
            | (go_roundw
               case rel => exact ⟨f - 1, by rw [show ((f - 1 : Nat) : Int) = (f : Int) - 1 by omega], by omega, by first | rfl | trivial⟩
               case measure => simp [RowKit.intOf]; omega)
        · have j1 : ¬ (f : Int) < (s.size : Int) := by omega
          go_wp2_with fail
          go_meet
          case rel => exact ⟨f, rfl, hf, by first | rfl | trivial⟩
      · have j0 : ¬ (0 : Int) < (f : Int) := by omega
        go_wp2_with fail
        go_meet
        case rel => exact ⟨f, rfl, hf, by first | rfl | trivial⟩
  case rest =>
  obtain ⟨f, rfl, hf, rfl⟩ := hcut
  go_upto_block 2 with fail
  go_cut [9] (fun q wx => ∃ k : Nat, q = .int .i64 k ∧ f1 + d1 ≤ k ∧ k ≤ s.size ∧ W5 = wx)
  case first =>
    go_wp2_with fail
    go_loopw [9] (fun q wr => ∃ k : Nat, q = .int .i64 k ∧ f1 + d1 ≤ k ∧ k ≤ s.size ∧ W5 = wr) (fun q _ => s.size - (RowKit.intOf q).toNat)
    case atStart => exact ⟨f1 + d1, by first | rfl | (rw [Int.natCast_add]), Nat.le_refl _, hk1, rfl⟩
    case round =>
      obtain ⟨k, rfl, hk, hk2, rfl⟩ := hrel
      have j0 : (0 : Int) ≤ (k : Int) := Int.natCast_nonneg k
      by_cases g1 : k < s.size
      · have j1 : (k : Int) < (s.size : Int) := by omega
        go_wp2_with fail
        all_goals first
          | (go_meet
             case rel => exact ⟨k, rfl, hk, hk2, by first | rfl | trivial⟩)
          | (go_roundw
             case rel => exact ⟨k + 1, by first | go_num | rfl, by omega, by omega, by first | rfl | trivial⟩
             case measure => simp [RowKit.intOf]; omega)
      · have j1 : ¬ (k : Int) < (s.size : Int) := by omega
        go_wp2_with fail
        go_meet
        case rel => exact ⟨k, rfl, hk, hk2, by first | rfl | trivial⟩
  case rest =>
  obtain ⟨k, rfl, hk, hk2, rfl⟩ := hcut
  obtain ⟨⟨y0, y1, y2⟩, r1, r2, hb⟩ := HC.out W5 HB5.out
  have HBf := Lib.hid hb
  have j0 : (0 : Int) ≤ (k : Int) := Int.natCast_nonneg k
  have j1 : (0 : Int) ≤ (f : Int) := Int.natCast_nonneg f
  have j2 : (f : Int) ≤ (s.size : Int) := by omega
  have j3 : (k : Int) ≤ (s.size : Int) := by omega
  have j4 : f ≤ s.size := by omega
  have HFK := Lib.hid (show f ≤ k by omega)
  have x1 : (s.extract 0 f ++ m).size ≤ 1000000000000 := by rw [ByteArray.size_append, ByteArray.size_extract]; omega
  have x2 : (s.extract 0 f ++ m ++ s.extract k s.size).size ≤ 1000000000000 := by rw [ByteArray.size_append, ByteArray.size_append, ByteArray.size_extract, ByteArray.size_extract]; omega
  clear hb HV1 HV2 HB2 HB3 HB4 HR1 HR2 hd1 hf1 hf1' hk1 hk hf
  go_wp2_with fail
  have HG5 := Lib.hid (show FxG w m W5.drew from ⟨HBf.out.drew, y2, ⟨_, _, r1⟩, ⟨_, _, r2⟩⟩)
  clear y0 y1 y2 r1 r2
  have HW9 := Lib.hid (show IntKind.i64.wrap ((f : Int) + (m.size : Int)) = (f : Int) + (m.size : Int) by rw [IntKind.wrap_i64]; omega)
  have HN9 := Lib.hid (show ¬ 9223372036854775807 < f + m.size ∧ ¬ 9223372036854775807 < f + m.size + (s.size - k) by omega)
  refine RR.wp_region_steps (Rl := FxR w m f k) [some 78, some 79, some 80, some 81, some 82, some 83, some 84, some 85, some 86, some 87, some 88, some 89, some 90, some 91, some 92, some 93, some 94, some 95, some 96, some 97, none, none, some 6, some 7] _ _ (G := FxG w m) (F := FxF w.heap.size s m f k) (z := 23) (by kernel_rfl) rfl (by decide +kernel) rfl (by decide +kernel) (by decide +kernel) rfl (fun W W' h hB => hB.1 h) (fun i y W W' h hB => ?_) ?_ ?_ HG5.out
  · unfold FxF at h ⊢
    split at h
    · exact h
    · exact h
    · exact h
    · exact h
    · exact h
    · exact h
    · exact h
    · exact h
    · exact h
    · exact h
    · exact h
    · exact h
    · exact h
    · exact h
    · exact h
    · exact h
    · exact h
    · exact h
    · exact h
    · exact h
    · exact hB.2.1 h
    · exact hB.2.2 h
    · exact h
    · trivial
  · intro i o ho hz a W hg hd hold K' hK
    have hlt : i < 24 := (Array.getElem?_eq_some_iff.1 ho).1
    obtain rfl | rfl | rfl | rfl | rfl | rfl | rfl | rfl | rfl | rfl | rfl | rfl | rfl | rfl | rfl | rfl | rfl | rfl | rfl | rfl | rfl | rfl | rfl | rfl : i = 0 ∨ i = 1 ∨ i = 2 ∨ i = 3 ∨ i = 4 ∨ i = 5 ∨ i = 6 ∨ i = 7 ∨ i = 8 ∨ i = 9 ∨ i = 10 ∨ i = 11 ∨ i = 12 ∨ i = 13 ∨ i = 14 ∨ i = 15 ∨ i = 16 ∨ i = 17 ∨ i = 18 ∨ i = 19 ∨ i = 20 ∨ i = 21 ∨ i = 22 ∨ i = 23 := by omega
    · obtain rfl := Option.some.inj ho
      have o8 : a.tmps[8]? = _ := (hold 8 rfl).trans rfl
      clear hd hold
      go_simp
      exact hK.out _ _ (by rfl) (FxR.refl _ _ _ _ _)
    · obtain rfl := Option.some.inj ho
      have o9 : a.tmps[9]? = _ := (hold 9 rfl).trans rfl
      clear hd hold
      go_simp
      exact hK.out _ _ (by rfl) (FxR.refl _ _ _ _ _)
    · obtain rfl := Option.some.inj ho
      obtain ⟨v0, e0, h0⟩ := hd 0 78 rfl (by decide +kernel) (by decide)
      have h0 : v0 = _ := h0
      subst h0
      obtain ⟨v1, e1, h1⟩ := hd 1 79 rfl (by decide +kernel) (by decide)
      have h1 : v1 = _ := h1
      subst h1
      clear hd hold
      go_simp
      exact hK.out _ _ (by rfl) (FxR.refl _ _ _ _ _)
    · obtain rfl := Option.some.inj ho
      have o8 : a.tmps[8]? = _ := (hold 8 rfl).trans rfl
      clear hd hold
      go_simp
      exact hK.out _ _ (by rfl) (FxR.refl _ _ _ _ _)
    · obtain rfl := Option.some.inj ho
      have o8 : a.tmps[8]? = _ := (hold 8 rfl).trans rfl
      clear hd hold
      go_simp
      exact hK.out _ _ (by rfl) (FxR.refl _ _ _ _ _)
    · obtain rfl := Option.some.inj ho
      have o3 : a.tmps[3]? = _ := (hold 3 rfl).trans rfl
      clear hd hold
      go_simp
      exact hK.out _ _ (by rfl) (FxR.refl _ _ _ _ _)
    · obtain rfl := Option.some.inj ho
      obtain ⟨v5, e5, h5⟩ := hd 5 83 rfl (by decide +kernel) (by decide)
      have h5 : v5 = _ := h5
      subst h5
      have y2 := hg.2.1
      clear hd hold
      go_simp
      exact hK.out _ _ (by rfl) (FxR.refl _ _ _ _ _)
    · obtain rfl := Option.some.inj ho
      obtain ⟨v6, e6, h6⟩ := hd 6 84 rfl (by decide +kernel) (by decide)
      have h6 : v6 = _ := h6
      subst h6
      clear hd hold
      go_simp
      exact hK.out _ _ (by rfl) (FxR.refl _ _ _ _ _)
    · obtain rfl := Option.some.inj ho
      obtain ⟨v4, e4, h4⟩ := hd 4 82 rfl (by decide +kernel) (by decide)
      have h4 : v4 = _ := h4
      subst h4
      obtain ⟨v7, e7, h7⟩ := hd 7 85 rfl (by decide +kernel) (by decide)
      have h7 : v7 = _ := h7
      subst h7
      have hw := HW9.out
      clear hd hold
      go_simp
      exact hK.out _ _ (by rfl) (FxR.refl _ _ _ _ _)
    · obtain rfl := Option.some.inj ho
      obtain ⟨v3, e3, h3⟩ := hd 3 81 rfl (by decide +kernel) (by decide)
      have h3 : v3 = _ := h3
      subst h3
      obtain ⟨v8, e8, h8⟩ := hd 8 86 rfl (by decide +kernel) (by decide)
      have h8 : v8 = _ := h8
      subst h8
      clear hd hold
      go_simp
      exact hK.out _ _ (by rfl) (FxR.refl _ _ _ _ _)
    · obtain rfl := Option.some.inj ho
      have o0 : a.tmps[0]? = _ := (hold 0 rfl).trans rfl
      clear hd hold
      go_simp
      exact hK.out _ _ (by rfl) (FxR.refl _ _ _ _ _)
    · obtain rfl := Option.some.inj ho
      have o8 : a.tmps[8]? = _ := (hold 8 rfl).trans rfl
      clear hd hold
      go_simp
      exact hK.out _ _ (by rfl) (FxR.refl _ _ _ _ _)
    · obtain rfl := Option.some.inj ho
      obtain ⟨v10, e10, h10⟩ := hd 10 88 rfl (by decide +kernel) (by decide)
      have h10 : v10 = _ := h10
      subst h10
      obtain ⟨v11, e11, h11⟩ := hd 11 89 rfl (by decide +kernel) (by decide)
      have h11 : v11 = _ := h11
      subst h11
      clear hd hold
      go_simp
      exact hK.out _ _ (by rfl) (FxR.refl _ _ _ _ _)
    · obtain rfl := Option.some.inj ho
      have o3 : a.tmps[3]? = _ := (hold 3 rfl).trans rfl
      clear hd hold
      go_simp
      exact hK.out _ _ (by rfl) (FxR.refl _ _ _ _ _)
    · obtain rfl := Option.some.inj ho
      obtain ⟨v13, e13, h13⟩ := hd 13 91 rfl (by decide +kernel) (by decide)
      have h13 : v13 = _ := h13
      subst h13
      have y2 := hg.2.1
      clear hd hold
      go_simp
      exact hK.out _ _ (by rfl) (FxR.refl _ _ _ _ _)
    · obtain rfl := Option.some.inj ho
      obtain ⟨v12, e12, h12⟩ := hd 12 90 rfl (by decide +kernel) (by decide)
      have h12 : v12 = _ := h12
      subst h12
      obtain ⟨v14, e14, h14⟩ := hd 14 92 rfl (by decide +kernel) (by decide)
      have h14 : v14 = _ := h14
      subst h14
      have nb := HN9.out.1
      clear hd hold
      go_simp
      exact hK.out _ _ (by rfl) (FxR.refl _ _ _ _ _)
    · obtain rfl := Option.some.inj ho
      have o0 : a.tmps[0]? = _ := (hold 0 rfl).trans rfl
      clear hd hold
      go_simp
      exact hK.out _ _ (by rfl) (FxR.refl _ _ _ _ _)
    · obtain rfl := Option.some.inj ho
      have o9 : a.tmps[9]? = _ := (hold 9 rfl).trans rfl
      clear hd hold
      go_simp
      exact hK.out _ _ (by rfl) (FxR.refl _ _ _ _ _)
    · obtain rfl := Option.some.inj ho
      obtain ⟨v16, e16, h16⟩ := hd 16 94 rfl (by decide +kernel) (by decide)
      have h16 : v16 = _ := h16
      subst h16
      obtain ⟨v17, e17, h17⟩ := hd 17 95 rfl (by decide +kernel) (by decide)
      have h17 : v17 = _ := h17
      subst h17
      clear hd hold
      go_simp
      exact hK.out _ _ (by rfl) (FxR.refl _ _ _ _ _)
    · obtain rfl := Option.some.inj ho
      obtain ⟨v15, e15, h15⟩ := hd 15 93 rfl (by decide +kernel) (by decide)
      have h15 : v15 = _ := h15
      subst h15
      obtain ⟨v18, e18, h18⟩ := hd 18 96 rfl (by decide +kernel) (by decide)
      have h18 : v18 = _ := h18
      subst h18
      have nb := HN9.out.2
      clear hd hold
      go_simp
      exact hK.out _ _ (by rfl) (FxR.refl _ _ _ _ _)
    · obtain rfl := Option.some.inj ho
      have o4 : a.tmps[4]? = _ := (hold 4 rfl).trans rfl
      obtain ⟨v2, e2, h2⟩ := hd 2 80 rfl (by decide +kernel) (by decide)
      have h2 : v2 = _ := h2
      subst h2
      obtain ⟨x9, y9, hr⟩ := hg.2.2.1
      clear hd hold
      rw [if_pos (by rfl)]
      refine wp_store_row _ _ _ rfl (w.heap.size + 1) #[.int .i64 (f : Int), .int .i64 (k : Int)] (by simp [Act.eval, o4]) (by simp [Act.eval, e2]) 32 _ hr info_edspan rfl (one_edspan _ _) ?_
      exact hK.out _ _ (EdRow.set hr _ _) (FxR.one _ _ _ _ _)
    · obtain rfl := Option.some.inj ho
      have o5 : a.tmps[5]? = _ := (hold 5 rfl).trans rfl
      obtain ⟨v9, e9, h9⟩ := hd 9 87 rfl (by decide +kernel) (by decide)
      have h9 : v9 = _ := h9
      subst h9
      obtain ⟨x9, y9, hr⟩ := hg.2.2.2
      clear hd hold
      rw [if_pos (by rfl)]
      refine wp_store_row _ _ _ rfl (w.heap.size + 1 + 1) #[.int .i64 (f : Int), .int .i64 ((f : Int) + (m.size : Int))] (by simp [Act.eval, o5]) (by simp [Act.eval, e9]) 32 _ hr info_edspan rfl (one_edspan _ _) ?_
      exact hK.out _ _ (EdRow.set hr _ _) (FxR.two _ _ _ _ _)
    · obtain rfl := Option.some.inj ho
      obtain ⟨v19, e19, h19⟩ := hd 19 97 rfl (by decide +kernel) (by decide)
      have h19 : v19 = _ := h19
      subst h19
      clear hd hold
      go_simp
      exact hK.out _ _ (by rfl) (FxR.refl _ _ _ _ _)
    · exact absurd rfl hz
  · intro rr W hg hf K' hK
    have e22 : rr 22 = .string (s.extract 0 f ++ m ++ s.extract k s.size) := hf 22 (by decide) (by decide)
    have r1 : EdRow W (w.heap.size + 1) (f : Int) (k : Int) := hf 20 (by decide) (by decide)
    have r2 : EdRow W (w.heap.size + 1 + 1) (f : Int) ((f : Int) + (m.size : Int)) := hf 21 (by decide) (by decide)
    have hb := hg.1
    have HE := Lib.hid (And.intro e22 (And.intro r1 (And.intro r2 hb)))
    clear hf hg e22 r1 r2 hb
    go_simp
    refine hK.out _ _ ?_
    simp only [putL, Act.put, List.setIfInBounds_toArray, List.set_cons_zero, List.set_cons_succ]
    clear hK K'
    go_wp2_with fail
    exact span_ret4 (by rfl) _ _ (w.heap.size + 1) (w.heap.size + 1 + 1) _ _ _ _ (.string (s.extract 0 f ++ m ++ s.extract k s.size)) (.bool true) (by rfl) (by rfl) (by show rr 22 = _; exact HE.out.1) (by rfl) rfl HE.out.2.1 HE.out.2.2.1 ⟨Or.inl ⟨f, k, by rw [Int.natCast_add], HFK.out, hk2, hs6, hm3⟩, HE.out.2.2.2⟩
end Ytglanajglhneeaa
end Go.Proofs
