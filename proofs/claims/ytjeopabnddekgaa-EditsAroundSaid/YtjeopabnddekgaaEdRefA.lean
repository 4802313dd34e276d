/- The document's stretches around edits; are edits the same? Walked. Conditions: none. -/
import Derived.Test.YtjeopabnddekgaaEdAround
namespace Go.Proofs.Ytjeopabnddekgaa
open Go Go.RowKit Go.Lib

theorem below_drewN {B : Nat} {a w : World} (h : Below B a w) (q : Nat) : Below B a (w.drewN q) := ⟨h.os, h.tape, h.output, h.size, h.block⟩
theorem ref_bad (e : EdE) (h : e.f < 0 ∨ e.k < e.f ∨ e.f > 1099511627776 ∨ e.k > 1099511627776) : Ed.okB e = false := by
  cases hk : Ed.okB e with
  | false => rfl
  | true => exfalso; have := Ed.okB_iff.1 hk; omega
set_option maxHeartbeats 8000000 in
set_option maxRecDepth 100000 in
theorem refAround_any (v : Value) (l : List EdE) (w : World) (h : RdEd w v l) (ho : ∀ e ∈ l, Ed.Ok e) : Calls Try.prog 5 #[v] w (ArdIs l w) := by
  obtain ⟨z, cap, rfl, hln, hr⟩ := h
  have HE := Lib.hid (fun W (hB : Below w.heap.size w W) (j : Nat) (e : EdE) (hj : l[j]? = some e) => (show ∃ b o, z = some ⟨b, o, none⟩ ∧ W.cell? ⟨b, o + j * 3, none⟩ = some (.int .i64 e.f) ∧ W.cell? ⟨b, o + j * 3 + 1, none⟩ = some (.int .i64 e.k) ∧ W.cell? ⟨b, o + j * 3 + 2, none⟩ = some (.string e.s) from by
    obtain ⟨b, o, hz, hb, c0, c1, c2⟩ := hr j e hj
    exact ⟨b, o, hz, (hB.cell (p := ⟨b, _, none⟩) hb).trans c0, (hB.cell (p := ⟨b, _, none⟩) hb).trans c1, (hB.cell (p := ⟨b, _, none⟩) hb).trans c2⟩))
  have HO := Lib.hid ho
  have HLn := Lib.hid hln
  have h0 := two_newE w (.cells #[.int .i64 0, .int .i64 0] 24) (.cells #[.int .i64 0, .int .i64 0] 24)
  have hb0 := below_al (below_al (Below.refl w.heap.size w) (.cells #[.int .i64 0, .int .i64 0] 24)) (.cells #[.int .i64 0, .int .i64 0] 24)
  have H0 := Lib.hid (And.intro hb0 h0)
  clear hr ho h0 hb0
  go_enter Try.func5, Try.ntmps5
  go_upto_region 1 with fail
  generalize (w.alloc (.cells #[.int .i64 0, .int .i64 0] 24)).alloc (.cells #[.int .i64 0, .int .i64 0] 24) = W0 at *
  go_wp2_with fail
  go_loopw [5] (fun p wr => ∃ (i : Nat), p = .int .i64 (i : Int) ∧ i ≤ l.length ∧ Hid (Below W0.heap.size W0 wr ∧ AndOk l i)) (fun p _ => l.length - (RowKit.intOf p).toNat)
  case atStart => exact ⟨0, rfl, Nat.zero_le _, Lib.hid ⟨Below.refl _ _, fun j e hj => by omega⟩⟩
  case round =>
    obtain ⟨i, rfl, hi, HR⟩ := hrel
    by_cases hlt : i < l.length
    · obtain ⟨e, hj⟩ : ∃ e, l[i]? = some e := ⟨_, List.getElem?_eq_getElem hlt⟩
      obtain ⟨b, o, rfl, c0, c1, c2⟩ := HE.out wr (H0.out.1.trans (HR.out.1.mono H0.out.1.size)) i e hj
      have HJ := Lib.hid (And.intro hj hlt)
      have i1 : (0 : Int) ≤ (i : Int) := Int.natCast_nonneg i
      have i2 : (i : Int) < (l.length : Int) := by omega
      have i4 : (i : Int) ≤ 10000000000000 := by omega
      clear hj hlt hi
      go_upto_region 4 with fail
      have d1 : decide (e.f < 0) = true ∨ decide (e.f < 0) = false := by cases decide (e.f < 0) <;> simp
      have d2 : decide (e.k < e.f) = true ∨ decide (e.k < e.f) = false := by cases decide (e.k < e.f) <;> simp
      have d3 : decide (e.f > 1099511627776) = true ∨ decide (e.f > 1099511627776) = false := by cases decide (e.f > 1099511627776) <;> simp
      have d4 : decide (e.k > 1099511627776) = true ∨ decide (e.k > 1099511627776) = false := by cases decide (e.k > 1099511627776) <;> simp
      rcases d1 with d1 | d1
      · have HErr := Lib.hid (Ed.err_bad HJ.out.1 (ref_bad e (.inl (of_decide_eq_true d1))))
        clear d2 d3 d4
        go_quiet (fail)
        have r0' := (show EdRow (wr.drewN nq) _ 0 0 from EdRow.below H0.out.2.1 (below_drewN HR.out.1 nq))
        have r1' := (show EdRow (wr.drewN nq) _ 0 0 from EdRow.below H0.out.2.2.1 (below_drewN HR.out.1 nq))
        have HQ := Lib.hid (And.intro ((EdRow.set r0' (0) (0)).other #[.int .i64 (0), .int .i64 (0)] (g := w.heap.size + 1) (by omega)) (And.intro (EdRow.set (EdRow.other r1' #[.int .i64 (0), .int .i64 (0)] (g := w.heap.size) (by omega)) (0) (0)) (below_setRow (below_setRow (H0.out.1.trans ((below_drewN HR.out.1 nq).mono H0.out.1.size)) (Nat.le_refl w.heap.size) #[.int .i64 (0), .int .i64 (0)]) (show w.heap.size ≤ w.heap.size + 1 by omega) #[.int .i64 (0), .int .i64 (0)])))
        go_wp2_with (first
          | (refine wpList_store_row rfl 24 _ _ rfl (w.heap.size) #[.int .i64 (0), .int .i64 (0)] (by rfl) (by rfl) 24 _ r0' info_edspan rfl (one_edspan _ _) ?_)
          | (refine wpList_store_row rfl 24 _ _ rfl (w.heap.size + 1) #[.int .i64 (0), .int .i64 (0)] (by rfl) (by rfl) 24 _ (EdRow.other r1' _ (by omega)) info_edspan rfl (one_edspan _ _) ?_))
        exact edspan_ret3 (by rfl) _ _ w.heap.size (w.heap.size + 1) _ _ _ _ (.int .i64 2) (by rfl) (by rfl) (by rfl) rfl HQ.out.1 HQ.out.2.1 ⟨(by rw [← ard_no HErr.out (by decide)]), HQ.out.2.2⟩
      · rcases d2 with d2 | d2
        · have HErr := Lib.hid (Ed.err_bad HJ.out.1 (ref_bad e (.inr (.inl (of_decide_eq_true d2)))))
          clear d3 d4
          go_quiet (fail)
          have r0' := (show EdRow (wr.drewN nq) _ 0 0 from EdRow.below H0.out.2.1 (below_drewN HR.out.1 nq))
          have r1' := (show EdRow (wr.drewN nq) _ 0 0 from EdRow.below H0.out.2.2.1 (below_drewN HR.out.1 nq))
          have HQ := Lib.hid (And.intro ((EdRow.set r0' (0) (0)).other #[.int .i64 (0), .int .i64 (0)] (g := w.heap.size + 1) (by omega)) (And.intro (EdRow.set (EdRow.other r1' #[.int .i64 (0), .int .i64 (0)] (g := w.heap.size) (by omega)) (0) (0)) (below_setRow (below_setRow (H0.out.1.trans ((below_drewN HR.out.1 nq).mono H0.out.1.size)) (Nat.le_refl w.heap.size) #[.int .i64 (0), .int .i64 (0)]) (show w.heap.size ≤ w.heap.size + 1 by omega) #[.int .i64 (0), .int .i64 (0)])))
          go_wp2_with (first
            | (refine wpList_store_row rfl 24 _ _ rfl (w.heap.size) #[.int .i64 (0), .int .i64 (0)] (by rfl) (by rfl) 24 _ r0' info_edspan rfl (one_edspan _ _) ?_)
            | (refine wpList_store_row rfl 24 _ _ rfl (w.heap.size + 1) #[.int .i64 (0), .int .i64 (0)] (by rfl) (by rfl) 24 _ (EdRow.other r1' _ (by omega)) info_edspan rfl (one_edspan _ _) ?_))
          exact edspan_ret3 (by rfl) _ _ w.heap.size (w.heap.size + 1) _ _ _ _ (.int .i64 2) (by rfl) (by rfl) (by rfl) rfl HQ.out.1 HQ.out.2.1 ⟨(by rw [← ard_no HErr.out (by decide)]), HQ.out.2.2⟩
        · rcases d3 with d3 | d3
          · have HErr := Lib.hid (Ed.err_bad HJ.out.1 (ref_bad e (.inr (.inr (.inl (of_decide_eq_true d3))))))
            clear d4
            go_quiet (fail)
            have r0' := (show EdRow (wr.drewN nq) _ 0 0 from EdRow.below H0.out.2.1 (below_drewN HR.out.1 nq))
            have r1' := (show EdRow (wr.drewN nq) _ 0 0 from EdRow.below H0.out.2.2.1 (below_drewN HR.out.1 nq))
            have HQ := Lib.hid (And.intro ((EdRow.set r0' (0) (0)).other #[.int .i64 (0), .int .i64 (0)] (g := w.heap.size + 1) (by omega)) (And.intro (EdRow.set (EdRow.other r1' #[.int .i64 (0), .int .i64 (0)] (g := w.heap.size) (by omega)) (0) (0)) (below_setRow (below_setRow (H0.out.1.trans ((below_drewN HR.out.1 nq).mono H0.out.1.size)) (Nat.le_refl w.heap.size) #[.int .i64 (0), .int .i64 (0)]) (show w.heap.size ≤ w.heap.size + 1 by omega) #[.int .i64 (0), .int .i64 (0)])))
            go_wp2_with (first
              | (refine wpList_store_row rfl 24 _ _ rfl (w.heap.size) #[.int .i64 (0), .int .i64 (0)] (by rfl) (by rfl) 24 _ r0' info_edspan rfl (one_edspan _ _) ?_)
              | (refine wpList_store_row rfl 24 _ _ rfl (w.heap.size + 1) #[.int .i64 (0), .int .i64 (0)] (by rfl) (by rfl) 24 _ (EdRow.other r1' _ (by omega)) info_edspan rfl (one_edspan _ _) ?_))
            exact edspan_ret3 (by rfl) _ _ w.heap.size (w.heap.size + 1) _ _ _ _ (.int .i64 2) (by rfl) (by rfl) (by rfl) rfl HQ.out.1 HQ.out.2.1 ⟨(by rw [← ard_no HErr.out (by decide)]), HQ.out.2.2⟩
          · rcases d4 with d4 | d4
            · have HErr := Lib.hid (Ed.err_bad HJ.out.1 (ref_bad e (.inr (.inr (.inr (of_decide_eq_true d4))))))
              go_quiet (fail)
              have r0' := (show EdRow (wr.drewN nq) _ 0 0 from EdRow.below H0.out.2.1 (below_drewN HR.out.1 nq))
              have r1' := (show EdRow (wr.drewN nq) _ 0 0 from EdRow.below H0.out.2.2.1 (below_drewN HR.out.1 nq))
              have HQ := Lib.hid (And.intro ((EdRow.set r0' (0) (0)).other #[.int .i64 (0), .int .i64 (0)] (g := w.heap.size + 1) (by omega)) (And.intro (EdRow.set (EdRow.other r1' #[.int .i64 (0), .int .i64 (0)] (g := w.heap.size) (by omega)) (0) (0)) (below_setRow (below_setRow (H0.out.1.trans ((below_drewN HR.out.1 nq).mono H0.out.1.size)) (Nat.le_refl w.heap.size) #[.int .i64 (0), .int .i64 (0)]) (show w.heap.size ≤ w.heap.size + 1 by omega) #[.int .i64 (0), .int .i64 (0)])))
              go_wp2_with (first
                | (refine wpList_store_row rfl 24 _ _ rfl (w.heap.size) #[.int .i64 (0), .int .i64 (0)] (by rfl) (by rfl) 24 _ r0' info_edspan rfl (one_edspan _ _) ?_)
                | (refine wpList_store_row rfl 24 _ _ rfl (w.heap.size + 1) #[.int .i64 (0), .int .i64 (0)] (by rfl) (by rfl) 24 _ (EdRow.other r1' _ (by omega)) info_edspan rfl (one_edspan _ _) ?_))
              exact edspan_ret3 (by rfl) _ _ w.heap.size (w.heap.size + 1) _ _ _ _ (.int .i64 2) (by rfl) (by rfl) (by rfl) rfl HQ.out.1 HQ.out.2.1 ⟨(by rw [← ard_no HErr.out (by decide)]), HQ.out.2.2⟩
            · have hk := Ed.okB_iff.2 ⟨Int.not_lt.1 (of_decide_eq_false d1), Int.not_lt.1 (of_decide_eq_false d2), Int.not_lt.1 (of_decide_eq_false d4)⟩
              have HK := Lib.hid (show AndOk l (i + 1) from fun j e' hj' he' => by
                by_cases hji : j < i
                · exact HR.out.2 j e' hji he'
                · obtain rfl : j = i := by omega
                  rw [HJ.out.1] at he'
                  cases he'
                  exact hk)
              clear hk
              go_quiet (fail)
              go_wp2_with fail
              go_roundw
              case rel => exact ⟨i + 1, by go_num, by have := HJ.out.2; omega, Lib.hid ⟨below_drewN HR.out.1 _, HK.out⟩⟩
              case measure => have := HJ.out.2; simp [RowKit.intOf]; omega
    · have ha : ¬ (i : Int) < (l.length : Int) := by omega
      have HAll := Lib.hid (show ∀ (j : Nat) (e : EdE), l[j]? = some e → Ed.okB e = true from fun j e he => HR.out.2 j e (by have := (List.getElem?_eq_some_iff.1 he).1; omega) he)
      have r0 : EdRow wr w.heap.size 0 0 := EdRow.below H0.out.2.1 HR.out.1
      have r1 : EdRow wr (w.heap.size + 1) 0 0 := EdRow.below H0.out.2.2.1 HR.out.1
      have hb1 := H0.out.1.trans (HR.out.1.mono H0.out.1.size)
      have hz1 : w.heap.size + 1 < wr.heap.size := by have := H0.out.2.2.2; have := HR.out.1.size; omega
      clear hi hlt
      by_cases hmany : (l.length : Int) > 65536
      · have HErr := Lib.hid (show Ed.err l = 4 by rw [Ed.err_all HAll.out, if_pos (by omega)])
        have r0' := r0
        have r1' := r1
        have HQ := Lib.hid (And.intro ((EdRow.set r0' (0) (0)).other #[.int .i64 (0), .int .i64 (0)] (g := w.heap.size + 1) (by omega)) (And.intro (EdRow.set (EdRow.other r1' #[.int .i64 (0), .int .i64 (0)] (g := w.heap.size) (by omega)) (0) (0)) (below_setRow (below_setRow hb1 (Nat.le_refl w.heap.size) #[.int .i64 (0), .int .i64 (0)]) (show w.heap.size ≤ w.heap.size + 1 by omega) #[.int .i64 (0), .int .i64 (0)])))
        go_wp2_with (first
          | (refine wpList_store_row rfl 24 _ _ rfl (w.heap.size) #[.int .i64 (0), .int .i64 (0)] (by rfl) (by rfl) 24 _ r0' info_edspan rfl (one_edspan _ _) ?_)
          | (refine wpList_store_row rfl 24 _ _ rfl (w.heap.size + 1) #[.int .i64 (0), .int .i64 (0)] (by rfl) (by rfl) 24 _ (EdRow.other r1' _ (by omega)) info_edspan rfl (one_edspan _ _) ?_))
        exact edspan_ret3 (by rfl) _ _ w.heap.size (w.heap.size + 1) _ _ _ _ (.int .i64 4) (by rfl) (by rfl) (by rfl) rfl HQ.out.1 HQ.out.2.1 ⟨(by rw [← ard_no HErr.out (by decide)]), HQ.out.2.2⟩
      · have HErr := Lib.hid (show Ed.err l = 0 by rw [Ed.err_all HAll.out, if_neg (by omega)])
        have HA0 : Hid (EdRow wr w.heap.size 0 0 ∧ EdRow wr (w.heap.size + 1) 0 0 ∧ Below w.heap.size w wr ∧ w.heap.size + 1 < wr.heap.size) := Lib.hid ⟨r0, r1, hb1, hz1⟩
        clear r0 r1 hb1 hz1 HR
        go_wp2_with fail
        go_loopw [6, 7, 8, 9] (fun pa pb pc p wr => ∃ (i : Nat), p = .int .i64 (i : Int) ∧ i ≤ l.length ∧ pa = .int .i64 (Ed.run (l.take i)).a ∧ pb = .int .i64 (Ed.run (l.take i)).b ∧ pc = .int .i64 (Ed.run (l.take i)).c ∧ Hid (EdRow wr w.heap.size 0 0 ∧ EdRow wr (w.heap.size + 1) 0 0 ∧ Below w.heap.size w wr ∧ w.heap.size + 1 < wr.heap.size)) (fun _ _ _ p _ => l.length - (RowKit.intOf p).toNat)
        case atStart => exact ⟨0, rfl, Nat.zero_le _, rfl, rfl, rfl, HA0⟩
        case round =>
          obtain ⟨i, rfl, hi, rfl, rfl, rfl, HR⟩ := hrel
          by_cases hlt : i < l.length
          · obtain ⟨e, hj⟩ : ∃ e, l[i]? = some e := ⟨_, List.getElem?_eq_getElem hlt⟩
            obtain ⟨b, o, rfl, c0, c1, c2⟩ := HE.out wr HR.out.2.2.1 i e hj
            have HL := Lib.hid hlt
            have hOk := Ed.okB_iff.1 (HAll.out i e hj)
            have hSz := (HO.out e (List.mem_of_getElem? hj)).2.2
            have HSt := Lib.hid (Ed.run_take hj)
            obtain ⟨p, hp⟩ : ∃ p, Ed.run (l.take i) = p := ⟨_, rfl⟩
            rw [hp] at HSt ⊢
            obtain ⟨pa, pb, pc⟩ := p
            have i1 : (0 : Int) ≤ (i : Int) := Int.natCast_nonneg i
            have i2 : (i : Int) < (l.length : Int) := by omega
            have i4 : (i : Int) ≤ 10000000000000 := by omega
            have w1 : wrap64 (e.k - e.f) = e.k - e.f := Ed.wr_id (by omega) (by omega)
            have hbD := (Below.refl wr.heap.size wr).alloc (Nat.le_refl _) (.cells #[.int .i64 e.f, .int .i64 e.k, .string e.s] 33)
            have HK : Hid (EdRow (wr.alloc (.cells #[.int .i64 e.f, .int .i64 e.k, .string e.s] 33)) w.heap.size 0 0 ∧ EdRow (wr.alloc (.cells #[.int .i64 e.f, .int .i64 e.k, .string e.s] 33)) (w.heap.size + 1) 0 0 ∧ Below w.heap.size w (wr.alloc (.cells #[.int .i64 e.f, .int .i64 e.k, .string e.s] 33)) ∧ w.heap.size + 1 < (wr.alloc (.cells #[.int .i64 e.f, .int .i64 e.k, .string e.s] 33)).heap.size) := Lib.hid
              ⟨HR.out.1.below hbD, HR.out.2.1.below hbD, HR.out.2.2.1.trans (hbD.mono HR.out.2.2.1.size), by have := HR.out.2.2.2; rw [World.size_alloc]; omega⟩
            clear hj hlt hi hbD hp
            by_cases h00 : i = 0
            · subst h00
              rw [Nat.zero_mul, Nat.add_zero] at c0 c1 c2
              have hst := HSt.out
              rw [if_pos rfl] at hst
              have HS := Lib.hid hst
              have HW2 := Lib.hid (show wrap64 (e.f + (e.s.size : Int)) = e.f + (e.s.size : Int) from Ed.wr_id (by omega) (by omega))
              clear hst hOk hSz HSt
              go_wp2_with fail
              go_roundw
              case rel => exact ⟨0 + 1, by first | rfl | go_num, by have := HL.out; omega, by rw [HS.out]; rfl, by rw [HS.out]; rfl, by rw [HS.out]; first | rfl | exact congrArg _ HW2.out, HK⟩
              case measure => have := HL.out; simp [RowKit.intOf]; omega
            · have hst := HSt.out
              rw [if_neg h00] at hst
              have HS := Lib.hid hst
              have HM := Lib.hid (show (min pa e.f = pa ∧ pa ≤ e.f) ∨ (min pa e.f = e.f ∧ e.f < pa) by omega)
              have HX := Lib.hid (show (max pc e.k = pc ∧ e.k ≤ pc) ∨ (max pc e.k = e.k ∧ pc < e.k) by omega)
              have n0 : ¬ (i : Int) = 0 := by omega
              clear hst hOk hSz HSt h00
              rcases HM.out with ⟨hm, hm2⟩ | ⟨hm, hm2⟩ <;> rcases HX.out with ⟨hx, hx2⟩ | ⟨hx, hx2⟩
              all_goals
                have HMX := Lib.hid (And.intro hm hx)
                clear hm hx
                go_wp2_with fail
                go_roundw
                case rel => exact ⟨i + 1, by go_num, by have := HL.out; omega, by rw [HS.out]; unfold Ed.stp; dsimp only; rw [HMX.out.1], by rw [HS.out]; unfold Ed.stp; dsimp only; rw [HMX.out.2]; rfl, by rw [HS.out]; unfold Ed.stp; dsimp only; rw [HMX.out.2]; rfl, HK⟩
                case measure => have := HL.out; simp [RowKit.intOf]; omega
          · have ha2 : ¬ (i : Int) < (l.length : Int) := by omega
            have hil : i = l.length := by omega
            have hans : Ed.ans l = Ed.run (l.take i) := by unfold Ed.ans; rw [if_pos HErr.out, hil, List.take_length]
            have HAns := Lib.hid hans
            clear hans hil hi hlt
            generalize Ed.run (l.take i) = p at *
            have r0' := HR.out.1
            have r1' := HR.out.2.1
            have HQ := Lib.hid (And.intro ((EdRow.set r0' (p.a) (p.b)).other #[.int .i64 (p.a), .int .i64 (p.c)] (g := w.heap.size + 1) (by omega)) (And.intro (EdRow.set (EdRow.other r1' #[.int .i64 (p.a), .int .i64 (p.b)] (g := w.heap.size) (by omega)) (p.a) (p.c)) (below_setRow (below_setRow HR.out.2.2.1 (Nat.le_refl w.heap.size) #[.int .i64 (p.a), .int .i64 (p.b)]) (show w.heap.size ≤ w.heap.size + 1 by omega) #[.int .i64 (p.a), .int .i64 (p.c)])))
            go_wp2_with (first
              | (refine wpList_store_row rfl 24 _ _ rfl (w.heap.size) #[.int .i64 (p.a), .int .i64 (p.b)] (by rfl) (by rfl) 24 _ r0' info_edspan rfl (one_edspan _ _) ?_)
              | (refine wpList_store_row rfl 24 _ _ rfl (w.heap.size + 1) #[.int .i64 (p.a), .int .i64 (p.c)] (by rfl) (by rfl) 24 _ (EdRow.other r1' _ (by omega)) info_edspan rfl (one_edspan _ _) ?_))
            exact edspan_ret3 (by rfl) _ _ w.heap.size (w.heap.size + 1) _ _ _ _ (.int .i64 0) (by rfl) (by rfl) (by rfl) rfl HQ.out.1 HQ.out.2.1 ⟨(by rw [HAns.out, HErr.out]), HQ.out.2.2⟩
end Go.Proofs.Ytjeopabnddekgaa
