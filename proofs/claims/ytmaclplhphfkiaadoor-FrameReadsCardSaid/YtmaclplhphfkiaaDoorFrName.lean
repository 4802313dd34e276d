/- A line's name, and a number's digits. Conditions: a string of at most 10^9 bytes. -/
import Derived.Test.YtmaclplhphfkiaaDoorFrState
import Derived.Test.YtmaclplhphfkiaaDoorFrLaysG
import Derived.Shelf.GgClosure.StringsRunes
import Derived.Laws.RangeString
import Derived.Laws.RangeAny
namespace Go.Proofs
open Go Go.RowKit Go.Lib
namespace YtmaclplhphfkiaaDoor
open F

namespace F
def BoolBelow0 (b : Bool) (w : World) (e : Ending) (w' : World) : Prop := e = .returned (.bool b) ∧ Below w.heap.size w w'
def outA (lo hi x : Nat) : Bool := decide (x < lo) || decide (hi < x)
theorem ba_size (l : Bs) : (ba l).size = l.length := by show l.toArray.size = _; rw [List.size_toArray]
theorem ba_get (l : Bs) (i : Nat) (h : i < (ba l).size) : (ba l)[i]'h = l[i]'(by rw [← ba_size]; exact h) := by
  have h1 := Lib.data_getElem? (ba l) i h
  have h2 : (ba l).data.toList = l := rfl
  rw [h2] at h1
  exact ((List.getElem?_eq_some_iff.1 h1).2).symm
/-- no rune but such of a range of ASCII: no byte but such -/
theorem idx_from (lo hi : Nat) (hlo : lo ≤ hi) (hhi : hi < 128) (l : Bs) : ∀ (f pos : Nat), l.length ≤ pos + f → pos ≤ l.length → (0 ≤ Lib.idxFuncFrom (outA lo hi) true (ba l) f pos ↔ ¬ (l.drop pos).all fun c => decide (lo ≤ c.toNat) && decide (c.toNat ≤ hi))
  | 0, pos, h1, h2 => by
    rw [show Lib.idxFuncFrom (outA lo hi) true (ba l) 0 pos = -1 from rfl, List.drop_eq_nil_of_le (by omega)]
    simp
  | f + 1, pos, h1, h2 => by
    unfold Lib.idxFuncFrom
    by_cases hlt : pos < l.length
    · have hlt' : pos < (ba l).size := by rw [ba_size]; exact hlt
      rw [if_pos hlt', List.drop_eq_getElem_cons hlt, List.all_cons]
      have hg := ba_get l pos hlt'
      by_cases ha : (l[pos]'hlt).toNat < 128
      · have hd := decode_ascii (ba l) pos hlt' (by rw [hg]; exact ha)
        rw [hd, hg]
        dsimp only
        by_cases hin : lo ≤ (l[pos]'hlt).toNat ∧ (l[pos]'hlt).toNat ≤ hi
        · have ho : outA lo hi (l[pos]'hlt).toNat = false := by unfold outA; simp; omega
          rw [if_neg (by rw [ho]; decide)]
          have := idx_from lo hi hlo hhi l f (pos + 1) (by omega) (by omega)
          rw [this]
          simp [hin.1, hin.2]
        · have ho : outA lo hi (l[pos]'hlt).toNat = true := by unfold outA; simp; omega
          rw [if_pos ho]
          have hf : (decide (lo ≤ (l[pos]'hlt).toNat) && decide ((l[pos]'hlt).toNat ≤ hi)) = false := by simp; omega
          rw [hf]
          simp
      · have hd := decode_high (ba l) pos hlt' (by rw [hg]; omega)
        have ho : outA lo hi (Utf8.decode (ba l) pos).1 = true := by unfold outA; simp; omega
        rw [if_pos ho]
        have hf : (decide (lo ≤ (l[pos]'hlt).toNat) && decide ((l[pos]'hlt).toNat ≤ hi)) = false := by simp; omega
        rw [hf]
        simp
    · rw [if_neg (by rw [ba_size]; exact hlt), List.drop_eq_nil_of_le (by omega)]
      simp
theorem idx_all (lo hi : Nat) (hlo : lo ≤ hi) (hhi : hi < 128) (l : Bs) : decide (0 ≤ Lib.idxFunc (outA lo hi) true (ba l)) = !(l.all fun c => decide (lo ≤ c.toNat) && decide (c.toNat ≤ hi)) := by
  have := idx_from lo hi hlo hhi l (ba l).size 0 (by rw [ba_size]; omega) (Nat.zero_le _)
  rw [List.drop_zero] at this
  unfold Lib.idxFunc
  cases hb : l.all fun c => decide (lo ≤ c.toNat) && decide (c.toNat ≤ hi)
  · rw [hb] at this; exact decide_eq_true (this.2 (by decide))
  · rw [hb] at this; exact decide_eq_false (fun h => this.1 h rfl)
end F
set_option maxRecDepth 100000 in
set_option maxHeartbeats 400000 in
theorem name1_runes (w : World) : PredAtRunes Tryd.prog 175 #[] (outA 33 126) w := fun W x hx _ => by
  unfold FnGives outA
  by_cases h1 : x < 33
  · have e1 : decide ((x : Int) < 33) = true := decide_eq_true (by omega)
    go_enter Tryd.func175, Tryd.ntmps175
    go_wp2_with fail
    go_ret
    exact ⟨by rw [decide_eq_true h1]; rfl, 0, rfl⟩
  · have e1 : decide ((x : Int) < 33) = false := decide_eq_false (by omega)
    have e2 : decide ((126 : Int) < (x : Int)) = decide (126 < x) := decide_eq_decide.2 (by omega)
    go_enter Tryd.func175, Tryd.ntmps175
    go_wp2_with fail
    go_ret
    exact ⟨by rw [decide_eq_false h1]; rfl, 0, rfl⟩
set_option maxRecDepth 100000 in
set_option maxHeartbeats 400000 in
theorem num1_runes (w : World) : PredAtRunes Tryd.prog 155 #[] (outA 48 57) w := fun W x hx _ => by
  unfold FnGives outA
  by_cases h1 : x < 48
  · have e1 : decide ((x : Int) < 48) = true := decide_eq_true (by omega)
    go_enter Tryd.func155, Tryd.ntmps155
    go_wp2_with fail
    go_ret
    exact ⟨by rw [decide_eq_true h1]; rfl, 0, rfl⟩
  · have e1 : decide ((x : Int) < 48) = false := decide_eq_false (by omega)
    have e2 : decide ((57 : Int) < (x : Int)) = decide (57 < x) := decide_eq_decide.2 (by omega)
    go_enter Tryd.func155, Tryd.ntmps155
    go_wp2_with fail
    go_ret
    exact ⟨by rw [decide_eq_false h1]; rfl, 0, rfl⟩
theorem ba_empty (l : Bs) : (ba l).toList.isEmpty = l.isEmpty := by rw [ByteArray.toList_eq]; rfl
set_option maxRecDepth 100000 in
set_option maxHeartbeats 400000 in
theorem isName_any (l : Bs) (w : World) : Calls Tryd.prog 149 #[.string (ba l)] w (BoolBelow0 (okName l) w) := by
  have eg : ∀ args w, (callFunc 175 args).run Tryd.prog w = .ok (.enter 175 args) w := enters_of Tryd.func175 (by kernel_rfl) rfl
  have hc := Any.strings_ContainsFunc_runes Tryd.laysContainsFunc 175 #[] eg (outA 33 126) (ba l) w (name1_runes w)
  rw [idx_all 33 126 (by decide) (by decide)] at hc
  change Calls Tryd.prog 154 _ _ _ at hc
  unfold okName
  have e1 := ba_empty l
  generalize (l.all fun c => decide (33 ≤ c.toNat) && decide (c.toNat ≤ 126)) = b at *
  cases hl : l.isEmpty
  · rw [hl] at e1
    clear hl
    go_enter Tryd.func149, Tryd.ntmps149
    go_wp2_with fail
    refine hc.mono ?_
    rintro e w' ⟨rfl, hB⟩
    have HB := Lib.hid hB
    clear hB
    go_wp2_with fail
    go_ret
    exact ⟨by cases b <;> rfl, HB.out⟩
  · rw [hl] at e1
    clear hl
    go_enter Tryd.func149, Tryd.ntmps149
    go_wp2_with fail
    go_ret
    exact ⟨rfl, Below.refl _ _⟩
set_option maxRecDepth 100000 in
set_option maxHeartbeats 400000 in
theorem isNumber_any (l : Bs) (w : World) : Calls Tryd.prog 124 #[.string (ba l)] w (BoolBelow0 (isNum l) w) := by
  have eg : ∀ args w, (callFunc 155 args).run Tryd.prog w = .ok (.enter 155 args) w := enters_of Tryd.func155 (by kernel_rfl) rfl
  have hc := Any.strings_ContainsFunc_runes Tryd.laysContainsFunc 155 #[] eg (outA 48 57) (ba l) w (num1_runes w)
  rw [idx_all 48 57 (by decide) (by decide)] at hc
  change Calls Tryd.prog 154 _ _ _ at hc
  unfold isNum
  have e1 := ba_empty l
  generalize (l.all fun c => decide (48 ≤ c.toNat) && decide (c.toNat ≤ 57)) = b at *
  cases hl : l.isEmpty
  · rw [hl] at e1
    clear hl
    go_enter Tryd.func124, Tryd.ntmps124
    go_wp2_with fail
    refine hc.mono ?_
    rintro e w' ⟨rfl, hB⟩
    have HB := Lib.hid hB
    clear hB
    go_wp2_with fail
    go_ret
    exact ⟨by cases b <;> rfl, HB.out⟩
  · rw [hl] at e1
    clear hl
    go_enter Tryd.func124, Tryd.ntmps124
    go_wp2_with fail
    go_ret
    exact ⟨rfl, Below.refl _ _⟩
end YtmaclplhphfkiaaDoor
end Go.Proofs
