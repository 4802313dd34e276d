/- Are two lists of tokens the same, the document's Same. Conditions: none. -/
import Derived.Test.YtglanajglhneeaaMX31
namespace Go.Proofs
open Go Go.RowKit Go.Lib
namespace Ytglanajglhneeaa
def SameD9 (w w' : World) : Prop := Below w.heap.size w w'
theorem below_dr9 {a w : World} (h : Below a.heap.size a w) (n : Nat) : Below a.heap.size a (w.drewN n) := h.trans ⟨rfl, rfl, rfl, Nat.le_refl _, fun _ _ => rfl⟩
theorem tki_ne {x y : TkI} (h : ¬ x = y) : ¬ x.k = y.k ∨ (x.k = y.k ∧ ¬ x.w = y.w) ∨ (x.k = y.k ∧ x.w = y.w ∧ ¬ x.l = y.l) := by
  by_cases h1 : x.k = y.k
  · by_cases h2 : x.w = y.w
    · by_cases h3 : x.l = y.l
      · refine absurd ?_ h
        cases x; cases y; cases h1; cases h2; cases h3; rfl
      · exact Or.inr (Or.inr ⟨h1, h2, h3⟩)
    · exact Or.inr (Or.inl ⟨h1, h2⟩)
  · exact Or.inl h1
set_option maxHeartbeats 2000000 in
set_option maxRecDepth 100000 in
theorem same_any (va vb : Value) (ta tb : List TkI) (b : Bool) (hb : b = true ↔ ta = tb) (w : World) (ha : RdT w va ta) (hbb : RdT w vb tb) : Calls Try.prog 14 #[va, vb] w (fun e w' => e = .returned (.bool b) ∧ SameD9 w w') := by
  have HBo := Lib.hid hb
  clear hb
  have HRa := Lib.hid ha
  have HRb := Lib.hid hbb
  obtain ⟨za, ca, rfl, a1, a2, a3, _, _⟩ := ha
  obtain ⟨zb, cb, rfl, b1, b2, b3, _, _⟩ := hbb
  by_cases hl : ta.length = tb.length
  · have e0 : ((ta.length : Int) != (tb.length : Int)) = false := by simp; omega
    have HL := Lib.hid hl
    clear hl
    go_enter Try.func14, Try.ntmps14
    go_wp2_with fail
    go_loopw [5] (fun q wr => ∃ (i : Nat), q = .int .i64 i ∧ i ≤ ta.length ∧ Hid (Below w.heap.size w wr ∧ ta.take i = tb.take i)) (fun q _ => ta.length - (RowKit.intOf q).toNat)
    case atStart => exact ⟨0, rfl, Nat.zero_le _, Lib.hid ⟨Below.refl _ _, rfl⟩⟩
    case round =>
      obtain ⟨i, rfl, hi, HW⟩ := hrel
      by_cases hlt : i < ta.length
      · obtain ⟨x, hx⟩ : ∃ x, ta[i]? = some x := ⟨_, List.getElem?_eq_getElem hlt⟩
        obtain ⟨y, hy⟩ : ∃ y, tb[i]? = some y := ⟨_, List.getElem?_eq_getElem (by have := HL.out; omega)⟩
        obtain ⟨z2, cap2, hzz, _, _, _, _, hra⟩ := HRa.out.below HW.out.1
        injection hzz with hz1 hz2 hz3
        subst hz1 hz3
        obtain ⟨z3, cap3, hzz, _, _, _, _, hrb⟩ := HRb.out.below HW.out.1
        injection hzz with hz1 hz2 hz3
        subst hz1 hz3
        obtain ⟨ba, oa, rfl, _, c0, c1, c2⟩ := hra i x hx
        obtain ⟨bb, ob, rfl, _, d0, d1, d2⟩ := hrb i y hy
        have i1 : (i : Int) < (ta.length : Int) := by omega
        have i2 : (i : Int) < (tb.length : Int) := by have := HL.out; omega
        have i0 : (0 : Int) ≤ (i : Int) := Int.natCast_nonneg i
        have i3 : (i : Int) ≤ 1000000000000000 := by omega
        have HXY := Lib.hid (And.intro hx (And.intro hy hlt))
        by_cases he : x = y
        · subst he
          have HN := Lib.hid (show ta.take (i + 1) = tb.take (i + 1) by
            rw [List.take_add_one, List.take_add_one, HW.out.2, HXY.out.1, HXY.out.2.1])
          obtain ⟨k, x1, l⟩ := x
          simp only at c0 c1 c2 d0 d1 d2
          clear hx hy hlt hra hrb
          go_wp2_with fail
          go_quiet (fail)
          go_wp2_with fail
          go_roundw
          case rel => exact ⟨i + 1, by go_num, HXY.out.2.2, Lib.hid ⟨below_dr9 HW.out.1 _, HN.out⟩⟩
          case measure => have := HXY.out.2.2; simp [RowKit.intOf]; omega
        · have hbf : b = false := by
            cases hbb : b
            · rfl
            · have := HBo.out.1 hbb
              rw [this, HXY.out.2.1] at hx
              exact absurd (Option.some.inj hx).symm he
          subst hbf
          have hne := tki_ne he
          obtain ⟨k, x1, l⟩ := x
          obtain ⟨k', x1', l'⟩ := y
          simp only at c0 c1 c2 d0 d1 d2 hne
          clear hx hy hlt hra hrb he
          rcases hne with h1 | ⟨rfl, h1⟩ | ⟨rfl, rfl, h1⟩
          · have e1 : ((k : Int) == (k' : Int)) = false := by simp; omega
            clear h1
            go_wp2_with fail
            go_quiet (fail)
            go_wp2_with fail
            go_ret
            exact ⟨rfl, below_dr9 HW.out.1 _⟩
          · have e1 : (x1 == x1') = false := by simp; omega
            clear h1
            go_wp2_with fail
            go_quiet (fail)
            go_wp2_with fail
            go_ret
            exact ⟨rfl, below_dr9 HW.out.1 _⟩
          · have e1 : (l == l') = false := by simp; omega
            clear h1
            go_wp2_with fail
            go_quiet (fail)
            go_wp2_with fail
            go_ret
            exact ⟨rfl, below_dr9 HW.out.1 _⟩
      · have i1 : ¬ (i : Int) < (ta.length : Int) := by omega
        have hbt : b = true := HBo.out.2 (by
          have h1 := HW.out.2
          rw [List.take_of_length_le (by omega), List.take_of_length_le (by have := HL.out; omega)] at h1
          exact h1)
        subst hbt
        clear hlt
        go_wp2_with fail
        go_ret
        exact ⟨rfl, HW.out.1⟩
  · have e0 : ((ta.length : Int) != (tb.length : Int)) = true := by simp; omega
    have hbf : b = false := by
      cases hbb : b
      · rfl
      · exact absurd (congrArg List.length (HBo.out.1 hbb)) hl
    subst hbf
    clear hl
    go_enter Try.func14, Try.ntmps14
    go_wp2_with fail
    go_ret
    exact ⟨rfl, Below.refl _ _⟩
end Ytglanajglhneeaa
end Go.Proofs
