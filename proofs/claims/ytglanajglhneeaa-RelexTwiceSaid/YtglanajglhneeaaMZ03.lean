/- The stretches around edits, walked. Conditions: none. -/
import Derived.Test.YtglanajglhneeaaMZ02
import Derived.Test.YtglanajglhneeaaMX43
import Derived.Test.YtglanajglhneeaaMX44
import Derived.Laws.CopyRow
namespace Go.Proofs.Ytglanajglhneeaa
open Go Go.RowKit Go.Lib

/-- how far the second loop has come -/
def AndRun (w : World) (l : List EdE) (i : Nat) (W : World) : Prop := EdRow W w.heap.size (Ed.run (l.take i)).a (Ed.run (l.take i)).b ∧ EdRow W (w.heap.size + 1) (Ed.run (l.take i)).a (Ed.run (l.take i)).c ∧ Below w.heap.size w W ∧ w.heap.size + 1 < W.heap.size
def AndOk (l : List EdE) (i : Nat) : Prop := ∀ (j : Nat) (e : EdE), j < i → l[j]? = some e → Ed.okB e = true
/-- what Around answers -/
def ArdIs (l : List EdE) (w : World) (en : Ending) (w' : World) : Prop := en = .returned (.tuple #[.agg #[.int .i64 (Ed.ans l).a, .int .i64 (Ed.ans l).b], .agg #[.int .i64 (Ed.ans l).a, .int .i64 (Ed.ans l).c], .int .i64 (Ed.err l)]) ∧ Below w.heap.size w w'
theorem ard_no {l : List EdE} {n : Int} (h : Ed.err l = n) (hn : ¬ n = 0) : (Value.tuple #[.agg #[.int .i64 0, .int .i64 0], .agg #[.int .i64 0, .int .i64 0], .int .i64 n]) = .tuple #[.agg #[.int .i64 (Ed.ans l).a, .int .i64 (Ed.ans l).b], .agg #[.int .i64 (Ed.ans l).a, .int .i64 (Ed.ans l).c], .int .i64 (Ed.err l)] := by
  unfold Ed.ans
  rw [if_neg (by rw [h]; exact hn), h]
theorem widened_one (e : EdE) (he : Ed.Ok e) (hb : Ed.okB e = true) (w : World) : Calls Try.prog 42 #[.agg #[.int .i64 e.f, .int .i64 e.k], .agg #[.int .i64 e.f, .int .i64 e.k], .agg #[.int .i64 e.f, .int .i64 e.k, .string e.s]] w
    (fun en w' => en = .returned (.tuple #[.agg #[.int .i64 e.f, .int .i64 e.k], .agg #[.int .i64 e.f, .int .i64 (e.f + (e.s.size : Int))]]) ∧ Below w.heap.size w w') := by
  have h := widened_any e.f e.k e.f e.k e w
  have hq := Ed.widen_one (e := e) he hb
  rw [hq.1, hq.2.1, hq.2.2] at h
  exact h
def FAr (x y : Value) : Nat → Value → World → Prop
  | 0, v, _ => v = x
  | 1, v, _ => v = y
  | _, _, _ => True
set_option maxHeartbeats 8000000 in
set_option maxRecDepth 100000 in
theorem around_any (v : Value) (l : List EdE) (w : World) (h : RdEd w v l) (ho : ∀ e ∈ l, Ed.Ok e) : Calls Try.prog 18 #[v] w (ArdIs l w) := by
  obtain ⟨z, cap, rfl, hln, hr⟩ := h
  have HE := Lib.hid (fun W (hB : Below w.heap.size w W) (j : Nat) (e : EdE) (hj : l[j]? = some e) => (show ∃ b o, z = some ⟨b, o, none⟩ ∧ W.cell? ⟨b, o + j * 3, none⟩ = some (.int .i64 e.f) ∧ W.cell? ⟨b, o + j * 3 + 1, none⟩ = some (.int .i64 e.k) ∧ W.cell? ⟨b, o + j * 3 + 2, none⟩ = some (.string e.s) from by
    obtain ⟨b, o, hz, hb, c0, c1, c2⟩ := hr j e hj
    exact ⟨b, o, hz, (hB.cell (p := ⟨b, _, none⟩) hb).trans c0, (hB.cell (p := ⟨b, _, none⟩) hb).trans c1, (hB.cell (p := ⟨b, _, none⟩) hb).trans c2⟩))
  have HO := Lib.hid ho
  have HPr := Lib.hid proper_any
  have HWi := Lib.hid widened_any
  have HWo := Lib.hid widened_one
  have HLn := Lib.hid hln
  have h0 := two_newE w (.cells #[.int .i64 0, .int .i64 0] 32) (.cells #[.int .i64 0, .int .i64 0] 32)
  have hb0 := below_al (below_al (Below.refl w.heap.size w) (.cells #[.int .i64 0, .int .i64 0] 32)) (.cells #[.int .i64 0, .int .i64 0] 32)
  have H0 := Lib.hid (And.intro hb0 h0)
  clear hr ho h0 hb0
  go_enter Try.func18, Try.ntmps18
  go_upto_region 1 with fail
  generalize (w.alloc (.cells #[.int .i64 0, .int .i64 0] 32)).alloc (.cells #[.int .i64 0, .int .i64 0] 32) = W0 at *
  go_wp2_with fail
  go_loopw [11] (fun p wr => ∃ (i : Nat), p = .int .i64 (i : Int) ∧ i ≤ l.length ∧ Hid (Below W0.heap.size W0 wr ∧ AndOk l i)) (fun p _ => l.length - (RowKit.intOf p).toNat)
  case atStart => exact ⟨0, rfl, Nat.zero_le _, Lib.hid ⟨Below.refl _ _, fun j e hj => by omega⟩⟩
  case round =>
    obtain ⟨i, rfl, hi, HR⟩ := hrel
    by_cases hlt : i < l.length
    · obtain ⟨e, hj⟩ : ∃ e, l[i]? = some e := ⟨_, List.getElem?_eq_getElem hlt⟩
      obtain ⟨b, o, rfl, c0, c1, c2⟩ := HE.out wr (H0.out.1.trans (HR.out.1.mono H0.out.1.size)) i e hj
      have HJ := Lib.hid (And.intro hj hlt)
      have i1 : (0 : Int) ≤ (i : Int) := Int.natCast_nonneg i
      have i2 : (i : Int) < (l.length : Int) := by omega
      have i4 : (i : Int) ≤ 10000000000000 := by omega
      clear hj hlt hi
      go_wp2_with fail
      refine (HPr.out e _).mono ?_
      rintro en w1 ⟨rfl, hB⟩
      have hb1 := HR.out.1.trans ((((Below.refl wr.heap.size wr).alloc (Nat.le_refl _) _).trans (hB.mono (by rw [World.size_alloc]; omega))).mono HR.out.1.size)
      have H1 := Lib.hid hb1
      clear hB hb1 c0 c1 c2
      rcases hk : Ed.okB e with _ | _
      · have HErr := Lib.hid (Ed.err_bad HJ.out.1 hk)
        have r0 : EdRow w1 w.heap.size 0 0 := EdRow.below H0.out.2.1 H1.out
        have r1 : EdRow w1 (w.heap.size + 1) 0 0 := EdRow.below H0.out.2.2.1 H1.out
        have hb1 := H0.out.1.trans (H1.out.mono H0.out.1.size)
        go_wp2_with (first
          | (refine wpList_store_row rfl 32 _ _ rfl (w.heap.size) #[.int .i64 (0), .int .i64 (0)] (by rfl) (by rfl) 32 _ r0 info_edspan rfl (one_edspan _ _) ?_)
          | (refine wpList_store_row rfl 32 _ _ rfl (w.heap.size + 1) #[.int .i64 (0), .int .i64 (0)] (by rfl) (by rfl) 32 _ (EdRow.other r1 _ (by omega)) info_edspan rfl (one_edspan _ _) ?_))
        exact edspan_ret3 (by rfl) _ _ w.heap.size (w.heap.size + 1) _ _ _ _ (.int .i64 2) (by rfl) (by rfl) (by rfl) rfl ((EdRow.set r0 0 0).other _ (by omega)) (EdRow.set (EdRow.other r1 _ (by omega)) 0 0) ⟨(by rw [← ard_no HErr.out (by decide)]), below_setRow (below_setRow hb1 (by omega) _) (by omega) _⟩
      · have HK := Lib.hid (show AndOk l (i + 1) from fun j e' hj' he' => by
          by_cases hji : j < i
          · exact HR.out.2 j e' hji he'
          · obtain rfl : j = i := by omega
            rw [HJ.out.1] at he'
            cases he'
            exact hk)
        go_wp2_with fail
        go_roundw
        case rel => exact ⟨i + 1, by go_num, by have := HJ.out.2; omega, Lib.hid ⟨H1.out, HK.out⟩⟩
        case measure => have := HJ.out.2; simp [RowKit.intOf]; omega
    · have ha : ¬ (i : Int) < (l.length : Int) := by omega
      have HAll := Lib.hid (show ∀ (j : Nat) (e : EdE), l[j]? = some e → Ed.okB e = true from fun j e he => HR.out.2 j e (by have := (List.getElem?_eq_some_iff.1 he).1; omega) he)
      have r0 : EdRow wr w.heap.size 0 0 := EdRow.below H0.out.2.1 HR.out.1
      have r1 : EdRow wr (w.heap.size + 1) 0 0 := EdRow.below H0.out.2.2.1 HR.out.1
      have hb1 := H0.out.1.trans (HR.out.1.mono H0.out.1.size)
      have hz1 : w.heap.size + 1 < wr.heap.size := by have := H0.out.2.2.2; have := HR.out.1.size; omega
      clear hi hlt
      by_cases hmany : (l.length : Int) > 65536
      · have HErr := Lib.hid (show Ed.err l = 4 by rw [Ed.err_all HAll.out, if_pos (by omega)])
        go_wp2_with (first
          | (refine wpList_store_row rfl 32 _ _ rfl (w.heap.size) #[.int .i64 (0), .int .i64 (0)] (by rfl) (by rfl) 32 _ r0 info_edspan rfl (one_edspan _ _) ?_)
          | (refine wpList_store_row rfl 32 _ _ rfl (w.heap.size + 1) #[.int .i64 (0), .int .i64 (0)] (by rfl) (by rfl) 32 _ (EdRow.other r1 _ (by omega)) info_edspan rfl (one_edspan _ _) ?_))
        exact edspan_ret3 (by rfl) _ _ w.heap.size (w.heap.size + 1) _ _ _ _ (.int .i64 4) (by rfl) (by rfl) (by rfl) rfl ((EdRow.set r0 0 0).other _ (by omega)) (EdRow.set (EdRow.other r1 _ (by omega)) 0 0) ⟨(by rw [← ard_no HErr.out (by decide)]), below_setRow (below_setRow hb1 (by omega) _) (by omega) _⟩
      · have HErr := Lib.hid (show Ed.err l = 0 by rw [Ed.err_all HAll.out, if_neg (by omega)])
        have HA0 : Hid (AndRun w l 0 wr) := Lib.hid ⟨by simpa [Ed.run] using r0, by simpa [Ed.run] using r1, hb1, hz1⟩
        clear r0 r1 hb1 hz1 HR
        go_wp2_with fail
        go_loopw [28] (fun p wr => ∃ (i : Nat), p = .int .i64 (i : Int) ∧ i ≤ l.length ∧ Hid (AndRun w l i wr)) (fun p _ => l.length - (RowKit.intOf p).toNat)
        case atStart => exact ⟨0, rfl, Nat.zero_le _, HA0⟩
        case round =>
          obtain ⟨i, rfl, hi, HR⟩ := hrel
          by_cases hlt : i < l.length
          · obtain ⟨e, hj⟩ : ∃ e, l[i]? = some e := ⟨_, List.getElem?_eq_getElem hlt⟩
            obtain ⟨b, o, rfl, c0, c1, c2⟩ := HE.out wr HR.out.2.2.1 i e hj
            have HL := Lib.hid hlt
            have HOk := Lib.hid (And.intro (HO.out e (List.mem_of_getElem? hj)) (And.intro (HAll.out i e hj) hj))
            have HIn := Lib.hid (Ed.runsIn9 l HO.out (fun e he => by obtain ⟨j, hj, rfl⟩ := List.getElem_of_mem he; exact HAll.out j _ (List.getElem?_eq_getElem hj)) i hi)
            have i1 : (0 : Int) ≤ (i : Int) := Int.natCast_nonneg i
            have i2 : (i : Int) < (l.length : Int) := by omega
            have i4 : (i : Int) ≤ 10000000000000 := by omega
            have hbD := (Below.refl wr.heap.size wr).alloc (Nat.le_refl _) (.cells #[.int .i64 e.f, .int .i64 e.k, .string e.s] 48)
            have HD := Lib.hid (show EdRow (wr.alloc (.cells #[.int .i64 e.f, .int .i64 e.k, .string e.s] 48)) w.heap.size (Ed.run (l.take i)).a (Ed.run (l.take i)).b ∧ EdRow (wr.alloc (.cells #[.int .i64 e.f, .int .i64 e.k, .string e.s] 48)) (w.heap.size + 1) (Ed.run (l.take i)).a (Ed.run (l.take i)).c ∧ (wr.alloc (.cells #[.int .i64 e.f, .int .i64 e.k, .string e.s] 48)).heap[wr.heap.size]? = some (.cells #[.int .i64 e.f, .int .i64 e.k, .string e.s] 48 (0, 0)) ∧ Below w.heap.size w (wr.alloc (.cells #[.int .i64 e.f, .int .i64 e.k, .string e.s] 48)) ∧ w.heap.size + 1 < (wr.alloc (.cells #[.int .i64 e.f, .int .i64 e.k, .string e.s] 48)).heap.size from
              ⟨HR.out.1.below hbD, HR.out.2.1.below hbD, heap_alloc_new _ _, HR.out.2.2.1.trans (hbD.mono HR.out.2.2.1.size), by have := HR.out.2.2.2; rw [World.size_alloc]; omega⟩)
            have HDz := Lib.hid HR.out.2.2.2
            clear hj hlt hi hbD
            go_upto_region 12 with fail
            generalize wr.alloc (.cells #[.int .i64 e.f, .int .i64 e.k, .string e.s] 48) = W1 at *
            clear c0 c1 c2 HR
            generalize wr.heap.size = D at *
            by_cases h00 : i = 0
            · subst h00
              have x0 : W1.cell? ⟨D, 0, none⟩ = some (.int .i64 e.f) := by rw [Lib.cell_of_heap HD.out.2.2.1]; rfl
              have x1 : W1.cell? ⟨D, 1, none⟩ = some (.int .i64 e.k) := by rw [Lib.cell_of_heap HD.out.2.2.1]; rfl
              have q0 := HD.out.1
              have q1 := HD.out.2.1
              have hDw := HDz.out
              have f1 := EdRow.set q0 e.f e.k
              have f2 : (W1.setRow w.heap.size #[.int .i64 e.f, .int .i64 e.k]).heap[D]? = _ := (setRow_other W1 w.heap.size D _ (by omega)).trans HD.out.2.2.1
              have f3 := EdRow.other q1 #[.int .i64 e.f, .int .i64 e.k] (g := w.heap.size) (by omega)
              have f4 := below_setRow HD.out.2.2.2.1 (Nat.le_refl w.heap.size) #[.int .i64 e.f, .int .i64 e.k]
              have HF := Lib.hid (And.intro f1 (And.intro f3 (And.intro f2 (And.intro f4 (show w.heap.size + 1 < (W1.setRow w.heap.size #[.int .i64 e.f, .int .i64 e.k]).heap.size by rw [size_setRow]; exact HD.out.2.2.2.2)))))
              clear f1 f2 f3 f4
              go_upto_region 14 with (refine wpList_store_row rfl 32 _ _ rfl (w.heap.size) #[.int .i64 (e.f), .int .i64 (e.k)] (by rfl) (by rfl) 32 _ q0 info_edspan rfl (one_edspan _ _) ?_)
              clear x0 x1 q0 q1
              generalize W1.setRow w.heap.size #[.int .i64 e.f, .int .i64 e.k] = W1b at *
              have q0 := HF.out.1
              have q1 := HF.out.2.1
              have x0 := q0.cell0
              have x1 := q0.cell1
              have f1 := EdRow.set q1 e.f e.k
              have f2 : (W1b.setRow (w.heap.size + 1) #[.int .i64 e.f, .int .i64 e.k]).heap[D]? = _ := (setRow_other W1b (w.heap.size + 1) D _ (by omega)).trans HF.out.2.2.1
              have f3 := EdRow.other q0 #[.int .i64 e.f, .int .i64 e.k] (g := w.heap.size + 1) (by omega)
              have f4 := below_setRow HF.out.2.2.2.1 (show w.heap.size ≤ w.heap.size + 1 by omega) #[.int .i64 e.f, .int .i64 e.k]
              have H2 := Lib.hid (And.intro f3 (And.intro f1 (And.intro f2 (And.intro f4 (show w.heap.size + 1 < (W1b.setRow (w.heap.size + 1) #[.int .i64 e.f, .int .i64 e.k]).heap.size by rw [size_setRow]; exact HF.out.2.2.2.2)))))
              clear f1 f2 f3 f4 hDw
              go_upto_region 15 with (refine wpList_store_row rfl 32 _ _ rfl (w.heap.size + 1) #[.int .i64 (e.f), .int .i64 (e.k)] (by rfl) (by rfl) 32 _ q1 info_edspan rfl (one_edspan _ _) ?_)
              clear x0 x1 q0 q1
              generalize W1b.setRow (w.heap.size + 1) #[.int .i64 e.f, .int .i64 e.k] = W2 at *
              have y0 := H2.out.1.cell0
              have y1 := H2.out.1.cell1
              have y2 := H2.out.2.1.cell0
              have y3 := H2.out.2.1.cell1
              have y4 : W2.cell? ⟨D, 0, none⟩ = some (.int .i64 e.f) := by rw [Lib.cell_of_heap H2.out.2.2.1]; rfl
              have y5 : W2.cell? ⟨D, 1, none⟩ = some (.int .i64 e.k) := by rw [Lib.cell_of_heap H2.out.2.2.1]; rfl
              have y6 : W2.cell? ⟨D, 2, none⟩ = some (.string e.s) := by rw [Lib.cell_of_heap H2.out.2.2.1]; rfl
              go_wp2_with fail
              refine (HWo.out e HOk.out.1 HOk.out.2.1 W2).mono ?_
              rintro en w3 ⟨rfl, hB⟩
              have r0 := H2.out.1.below hB
              have r1 := H2.out.2.1.below hB
              have hb3 := H2.out.2.2.2.1.trans (hB.mono H2.out.2.2.2.1.size)
              have hz3 : w.heap.size + 1 < w3.heap.size := Nat.lt_of_lt_of_le H2.out.2.2.2.2 hB.size
              have g0 := (EdRow.set r0 (e.f) (e.k)).other #[.int .i64 (e.f), .int .i64 (e.f + (e.s.size : Int))] (g := w.heap.size + 1) (by omega)
              have g1 := EdRow.set (EdRow.other r1 #[.int .i64 (e.f), .int .i64 (e.k)] (g := w.heap.size) (by omega)) (e.f) (e.f + (e.s.size : Int))
              have g2 := below_setRow (below_setRow hb3 (Nat.le_refl w.heap.size) #[.int .i64 (e.f), .int .i64 (e.k)]) (show w.heap.size ≤ w.heap.size + 1 by omega) #[.int .i64 (e.f), .int .i64 (e.f + (e.s.size : Int))]
              have HG := Lib.hid (And.intro g0 (And.intro g1 g2))
              clear g0 g1 g2 y0 y1 y2 y3 y4 y5 y6
              go_wp2_with (first
                | (refine wpList_store_row rfl 32 _ _ rfl (w.heap.size) #[.int .i64 (e.f), .int .i64 (e.k)] (by rfl) (by rfl) 32 _ r0 info_edspan rfl (one_edspan _ _) ?_)
                | (refine wpList_store_row rfl 32 _ _ rfl (w.heap.size + 1) #[.int .i64 (e.f), .int .i64 (e.f + (e.s.size : Int))] (by rfl) (by rfl) 32 _ (EdRow.other r1 _ (by omega)) info_edspan rfl (one_edspan _ _) ?_))
              have HK : Hid (AndRun w l (0 + 1) ((w3.setRow w.heap.size #[.int .i64 (e.f), .int .i64 (e.k)]).setRow (w.heap.size + 1) #[.int .i64 (e.f), .int .i64 (e.f + (e.s.size : Int))])) := Lib.hid (by
                have g0 := HG.out.1
                have g1 := HG.out.2.1
                have g2 := HG.out.2.2
                have hst : Ed.run (l.take (0 + 1)) = ⟨e.f, e.k, e.f + (e.s.size : Int)⟩ := by rw [Ed.run_take HOk.out.2.2, if_pos rfl]; rfl
                exact ⟨by rw [hst]; exact g0, by rw [hst]; exact g1, HG.out.2.2, by rw [size_setRow, size_setRow]; exact hz3⟩)
              go_roundw
              case rel => exact ⟨0 + 1, by first | rfl | go_num, by have := HL.out; omega, HK⟩
              case measure => have := HL.out; simp [RowKit.intOf]; omega
            · have H00 := Lib.hid h00
              have H2 := HD
              obtain ⟨p, hp⟩ : ∃ p, Ed.run (l.take i) = p := ⟨_, rfl⟩
              rw [hp] at H2 HIn
              have HP := Lib.hid hp
              have n0 : ¬ (i : Int) = 0 := by omega
              clear hp h00 HD
              go_upto_region 15 with fail
              generalize W1 = W2 at *
              have y0 := H2.out.1.cell0
              have y1 := H2.out.1.cell1
              have y2 := H2.out.2.1.cell0
              have y3 := H2.out.2.1.cell1
              have y4 : W2.cell? ⟨D, 0, none⟩ = some (.int .i64 e.f) := by rw [Lib.cell_of_heap H2.out.2.2.1]; rfl
              have y5 : W2.cell? ⟨D, 1, none⟩ = some (.int .i64 e.k) := by rw [Lib.cell_of_heap H2.out.2.2.1]; rfl
              have y6 : W2.cell? ⟨D, 2, none⟩ = some (.string e.s) := by rw [Lib.cell_of_heap H2.out.2.2.1]; rfl
              go_wp2_with fail
              refine (HWi.out p.a p.b p.a p.c e W2).mono ?_
              rintro en w3 ⟨rfl, hB⟩
              have r0 := H2.out.1.below hB
              have r1 := H2.out.2.1.below hB
              have hb3 := H2.out.2.2.2.1.trans (hB.mono H2.out.2.2.2.1.size)
              have hz3 : w.heap.size + 1 < w3.heap.size := Nat.lt_of_lt_of_le H2.out.2.2.2.2 hB.size
              have g0 := (EdRow.set r0 (min p.a e.f) (Ed.wr (Ed.wr (p.b + max p.c e.k) - p.c))).other #[.int .i64 (min p.a e.f), .int .i64 (Ed.wr (max p.c e.k + Ed.wr ((e.s.size : Int) - Ed.wr (e.k - e.f))))] (g := w.heap.size + 1) (by omega)
              have g1 := EdRow.set (EdRow.other r1 #[.int .i64 (min p.a e.f), .int .i64 (Ed.wr (Ed.wr (p.b + max p.c e.k) - p.c))] (g := w.heap.size) (by omega)) (min p.a e.f) (Ed.wr (max p.c e.k + Ed.wr ((e.s.size : Int) - Ed.wr (e.k - e.f))))
              have g2 := below_setRow (below_setRow hb3 (Nat.le_refl w.heap.size) #[.int .i64 (min p.a e.f), .int .i64 (Ed.wr (Ed.wr (p.b + max p.c e.k) - p.c))]) (show w.heap.size ≤ w.heap.size + 1 by omega) #[.int .i64 (min p.a e.f), .int .i64 (Ed.wr (max p.c e.k + Ed.wr ((e.s.size : Int) - Ed.wr (e.k - e.f))))]
              have HG := Lib.hid (And.intro g0 (And.intro g1 g2))
              clear g0 g1 g2 y0 y1 y2 y3 y4 y5 y6
              go_wp2_with (first
                | (refine wpList_store_row rfl 32 _ _ rfl (w.heap.size) #[.int .i64 (min p.a e.f), .int .i64 (Ed.wr (Ed.wr (p.b + max p.c e.k) - p.c))] (by rfl) (by rfl) 32 _ r0 info_edspan rfl (one_edspan _ _) ?_)
                | (refine wpList_store_row rfl 32 _ _ rfl (w.heap.size + 1) #[.int .i64 (min p.a e.f), .int .i64 (Ed.wr (max p.c e.k + Ed.wr ((e.s.size : Int) - Ed.wr (e.k - e.f))))] (by rfl) (by rfl) 32 _ (EdRow.other r1 _ (by omega)) info_edspan rfl (one_edspan _ _) ?_))
              have HK : Hid (AndRun w l (i + 1) ((w3.setRow w.heap.size #[.int .i64 (min p.a e.f), .int .i64 (Ed.wr (Ed.wr (p.b + max p.c e.k) - p.c))]).setRow (w.heap.size + 1) #[.int .i64 (min p.a e.f), .int .i64 (Ed.wr (max p.c e.k + Ed.wr ((e.s.size : Int) - Ed.wr (e.k - e.f))))])) := Lib.hid (by
                have g0 := HG.out.1
                have g1 := HG.out.2.1
                have g2 := HG.out.2.2
                have hst : Ed.run (l.take (i + 1)) = Ed.stp p e := by rw [Ed.run_take HOk.out.2.2, if_neg H00.out, HP.out]
                have hq := Ed.widen_is (p := p) (e := e) HIn.out HOk.out.1 HOk.out.2.1
                exact ⟨by rw [hst]; exact g0, by rw [hst, ← hq]; exact g1, HG.out.2.2, by rw [size_setRow, size_setRow]; exact hz3⟩)
              go_roundw
              case rel => exact ⟨i + 1, by first | rfl | go_num, by have := HL.out; omega, HK⟩
              case measure => have := HL.out; simp [RowKit.intOf]; omega
          · have ha2 : ¬ (i : Int) < (l.length : Int) := by omega
            have hil : i = l.length := by omega
            have r0 := HR.out.1
            have r1 := HR.out.2.1
            have hb1 := HR.out.2.2.1
            have hans : Ed.ans l = Ed.run (l.take i) := by unfold Ed.ans; rw [if_pos HErr.out, hil, List.take_length]
            have HAns := Lib.hid hans
            clear hans hil hi hlt
            generalize Ed.run (l.take i) = p at *
            have HRo := Lib.hid (And.intro (show EdRow wr.drew w.heap.size p.a p.b from r0) (And.intro (show EdRow wr.drew (w.heap.size + 1) p.a p.c from r1) hb1.drew))
            clear r0 r1 hb1 HR
            go_upto_region 17 with fail
            refine RR.wp_region_stepsP (Rl := fun W W' => W' = W) [some 49, some 50, none, none, some 4] _ _ (G := fun W => W = wr.drew) (F := FAr (.agg #[.int .i64 p.a, .int .i64 p.b]) (.agg #[.int .i64 p.a, .int .i64 p.c])) (z := 4) (by kernel_rfl) rfl (by decide +kernel) rfl (by decide +kernel) (by decide +kernel) rfl (fun W W' h hB => by rw [hB]; exact h) (fun i y W W' h hB => by rw [hB]; exact h) ?_ ?_ rfl
            · intro i o' ho hz a W hg hd hold K' hK
              have hlt : i < 5 := (Array.getElem?_eq_some_iff.1 ho).1
              obtain rfl : W = wr.drew := hg
              have y0 := HRo.out.1.cell0
              have y1 := HRo.out.1.cell1
              have y2 := HRo.out.2.1.cell0
              have y3 := HRo.out.2.1.cell1
              obtain rfl | rfl | rfl | rfl | rfl : i = 0 ∨ i = 1 ∨ i = 2 ∨ i = 3 ∨ i = 4 := by omega
              · obtain rfl := Option.some.inj ho
                have o2 : a.tmps[2]? = _ := (hold 2 rfl).trans rfl
                clear hd hold
                go_simp
                exact hK.out _ _ (by rfl) rfl
              · obtain rfl := Option.some.inj ho
                have o3 : a.tmps[3]? = _ := (hold 3 rfl).trans rfl
                clear hd hold
                go_simp
                exact hK.out _ _ (by rfl) rfl
              · obtain rfl := Option.some.inj ho
                obtain ⟨v0, e0, h0⟩ := hd 0 49 rfl (by decide +kernel) (by decide)
                have h0 : v0 = _ := h0
                subst h0
                have o2 : a.tmps[2]? = _ := (hold 2 rfl).trans rfl
                clear hd hold
                rw [if_pos (by rfl)]
                refine wp_store_row _ _ _ rfl w.heap.size #[.int .i64 p.a, .int .i64 p.b] (by simp [Act.eval, o2]) (by simp [Act.eval, e0]) 32 _ HRo.out.1 info_edspan rfl (one_edspan _ _) ?_
                rw [setRow_self _ _ _ _ _ HRo.out.1]
                exact hK.out _ _ trivial rfl
              · obtain rfl := Option.some.inj ho
                obtain ⟨v0, e0, h0⟩ := hd 1 50 rfl (by decide +kernel) (by decide)
                have h0 : v0 = _ := h0
                subst h0
                have o3 : a.tmps[3]? = _ := (hold 3 rfl).trans rfl
                clear hd hold
                rw [if_pos (by rfl)]
                refine wp_store_row _ _ _ rfl (w.heap.size + 1) #[.int .i64 p.a, .int .i64 p.c] (by simp [Act.eval, o3]) (by simp [Act.eval, e0]) 32 _ HRo.out.2.1 info_edspan rfl (one_edspan _ _) ?_
                rw [setRow_self _ _ _ _ _ HRo.out.2.1]
                exact hK.out _ _ trivial rfl
              · exact absurd rfl hz
            · intro a W hg hf hold hput hall K' hK
              obtain rfl : W = wr.drew := hg
              clear hf hold hall
              go_simp
              refine hK.out _ _ ?_
              obtain ⟨rr, ha⟩ := hput.out
              clear hput
              subst ha
              simp only [putL, Act.put, List.setIfInBounds_toArray, List.set_cons_zero, List.set_cons_succ]
              clear hK K'
              go_wp2_with fail
              exact edspan_ret3 (by rfl) _ _ w.heap.size (w.heap.size + 1) _ _ _ _ (.int .i64 0) (by rfl) (by rfl) (by rfl) rfl HRo.out.1 HRo.out.2.1 ⟨by rw [HAns.out, HErr.out], HRo.out.2.2⟩
end Go.Proofs.Ytglanajglhneeaa
