/- The program's Int, whole: a number's int, or none. Conditions: a string of at most 10^12 bytes; strconv.ErrRange holds an error. -/
import Derived.Test.YtoolkaahjmnjeaaGreatDoorMW41
import Derived.Test.YtoolkaahjmnjeaaGreatDoorMW42
import Derived.Test.YtoolkaahjmnjeaaGreatDoorMW43
import Derived.Test.YtoolkaahjmnjeaaGreatDoorMW05
namespace Go.Proofs
open Go Go.RowKit Go.Shelf Go.Lib

namespace YtoolkaahjmnjeaaGreatDoor
/-- the library's error of range is there -/
def ErrC (w : World) : Prop := ∃ ev, w.cell? ⟨3, 0, none⟩ = some ev ∧ (ev = .nilIface ∨ ∃ te pe, ev = .iface te pe)
theorem ErrC.on {w w' : World} (h : ErrC w) (hB : Below w.heap.size w w') : ErrC w' := by
  obtain ⟨ev, h1, h2⟩ := h
  exact ⟨ev, (hB.cell (p := ⟨3, 0, none⟩) (World.block_lt_of_cell? w _ h1)).trans h1, h2⟩
set_option maxHeartbeats 1000000 in
set_option maxRecDepth 100000 in
theorem int_range (x : ByteArray) (va ua : Value) (w : World) (hx : x.size ≤ 140737488355328) (h : bothS (ciS x) = true) (hv : Lib.atoiAll x.data.toList = .range) (hE : ErrC w) : Calls Tryz.prog 12 #[.agg #[.int .u8 3, .string x, va, ua]] w (IntR (0, false) w) := by
  have hB := Lib.hid ((Below.refl w.heap.size w).alloc (Nat.le_refl _) (.cells #[.int .u8 3, .string x, va, ua] 25))
  have hbk : Blk4 (w.alloc (.cells #[.int .u8 3, .string x, va, ua] 25)) w.heap.size 25 (.int .u8 3) (.string x) va ua := heap_alloc_new _ _
  have HBK := Lib.hid hbk
  have hI := fun W => isInteger_any x W hx
  rw [h] at hI
  unfold BoolB at hI
  have HA := Lib.hid (fun W (hB : Below w.heap.size w W) => Any.strconv_Atoi_range Tryz.laysAtoi x (by omega) hv (hE.on hB).choose W (hE.on hB).choose_spec.1 (hE.on hB).choose_spec.2)
  have HE := Lib.hid hE
  clear h hbk
  go_enter Tryz.func12, Tryz.ntmps12
  go_wp2_with fail
  refine (hI _).mono ?_
  rintro e w1 ⟨rfl, hB1⟩
  have H1 := Lib.hid (hB.out.trans (hB1.mono hB.out.size))
  have b1 := HBK.out.same (hB1.block _ HBK.out.lt)
  obtain ⟨d0, d1, d2, d3⟩ := b1.box
  clear hB1 hI b1
  go_wp2_with fail
  refine (HA.out _ H1.out).mono ?_
  rintro e w2 ⟨N, rfl, _, _, hB2⟩
  have H2 := Lib.hid (H1.out.trans (hB2.mono H1.out.size))
  clear hB2 d0 d1 d2 d3
  go_wp2_with fail
  go_ret2
  exact ⟨rfl, H2.out⟩
/-- a value's int, as the chapter says -/
def intV (k : Nat) (x : ByteArray) : Int × Bool := if k = 3 then intS x else (0, false)
theorem int_any (k : Nat) (x : ByteArray) (va ua : Value) (w : World) (hx : x.size ≤ 140737488355328) (hE : ErrC w) : Calls Tryz.prog 12 #[.agg #[.int .u8 k, .string x, va, ua]] w (IntR (intV k x) w) := by
  by_cases hk : k = 3
  · subst hk
    have e : intV 3 x = intS x := if_pos rfl
    rw [e]
    cases h : bothS (ciS x)
    · have e2 : intS x = (0, false) := by unfold intS; rw [h]; rfl
      rw [e2]
      exact int_text x va ua w hx h
    · rcases atoi_both h with ⟨h1, h2⟩ | ⟨h1, h2⟩
      · have e2 : intS x = ((intS x).1, true) := Prod.ext rfl h2
        rw [e2]
        exact int_some x va ua _ w hx h h1
      · rw [h2]
        exact int_range x va ua w hx h h1 hE
  · have e : intV k x = (0, false) := if_neg hk
    rw [e]
    exact int_kind k x va ua w hk
end YtoolkaahjmnjeaaGreatDoor
end Go.Proofs

namespace Go.Proofs
open Go Go.RowKit Go.Lib

namespace YtoolkaahjmnjeaaGreatDoor
theorem both_num {x : ByteArray} (h : bothS (ciS x) = true) : numS x = true := by
  rw [both_cut, decide_eq_true_eq] at h
  rw [num_from h]
  have e : J.n4 x (J.n3 x (x.size, 0)) = (x.size, 0) := by
    unfold J.n3
    rw [if_neg (by show ¬ J.is x x.size 0 46 = true; rw [J.is_no_end 0 46 (Nat.lt_irrefl _)]; decide)]
    unfold J.n4
    rw [if_neg (by show ¬ (J.is x x.size 0 101 || J.is x x.size 0 69) = true; rw [J.is_no_end 0 101 (Nat.lt_irrefl _), J.is_no_end 0 69 (Nat.lt_irrefl _)]; decide)]
  exact decide_eq_true e
theorem numL_step {x : ByteArray} {p acc : Nat} (h : p < x.size) : numL acc (x.data.toList.drop p) = numL (acc * 10 + ((x.get! p).toNat - 48)) (x.data.toList.drop (p + 1)) := by
  have hl : p < x.data.toList.length := by rw [← Lib.size_eq]; exact h
  rw [List.drop_eq_getElem_cons hl, ← U_get h]
  rfl
theorem numL_end {x : ByteArray} {p acc : Nat} (h : x.size ≤ p) : numL acc (x.data.toList.drop p) = acc := by
  rw [List.drop_eq_nil_of_le (by rw [← Lib.size_eq]; exact h)]
  rfl
theorem int_dig {x : ByteArray} (h : bothS (ciS x) = true) {p : Nat} (h1 : atI x ≤ p) (h2 : p < x.size) : 48 ≤ (x.get! p).toNat ∧ (x.get! p).toNat ≤ 57 := by
  obtain ⟨_, hd⟩ := both_digits h
  have := dg_all x (x.size - atI x) (atI x) (by have := at_le x; omega) (p - atI x) (by omega)
  rw [show atI x + (p - atI x) = p by omega] at this
  exact of_decide_eq_true this.2
theorem lim_div (D : Nat) (h : D ≤ 9) : (-9223372036854775808 + (48 + (D : Int) - 48)).tdiv 10 = -(((9223372036854775808 - D) / 10 : Nat) : Int) := by
  rw [show (-9223372036854775808 + (48 + (D : Int) - 48)) = -((9223372036854775808 - D : Nat) : Int) by omega, Int.neg_tdiv]
  rfl
theorem intV_3 (x : ByteArray) : intV 3 x = intS x := if_pos rfl
set_option maxHeartbeats 4000000 in
set_option maxRecDepth 100000 in
theorem int04_any (k : Nat) (x : ByteArray) (va ua : Value) (w : World) (hx : x.size ≤ 1000000000000) : Calls Tryz.prog 13 #[.agg #[.int .u8 k, .string x, va, ua]] w (IntR (intV k x) w) := by
  have HB := Lib.hid ((Below.refl w.heap.size w).alloc (Nat.le_refl _) (.cells #[.int .u8 k, .string x, va, ua] 25))
  have hbk : Blk4 (w.alloc (.cells #[.int .u8 k, .string x, va, ua] 25)) w.heap.size 25 (.int .u8 k) (.string x) va ua := heap_alloc_new _ _
  have hnum := fun W => number04_any x W hx
  have hb2 := both_num (x := x)
  have hsz := hx
  by_cases hk : k = 3
  · subst hk
    rw [intV_3]
    cases hwh : bothS (ciS x)
    · have HI := Lib.hid (show intS x = (0, false) by unfold intS; rw [hwh]; rfl)
      rw [hwh] at hnum
      generalize numS x = nb at *
      obtain ⟨c0, c1, c2, c3⟩ := hbk.box
      clear hbk hb2 hwh
      go_enter Tryz.func13, Tryz.ntmps13
      go_upto_region 1 with fail
      generalize w.alloc (.cells #[.int .u8 3, .string x, va, ua] 25) = W0 at *
      go_wp2_with fail
      refine (hnum _).mono ?_
      rintro e w1 ⟨rfl, hw1⟩
      have hw2 := hw1.symm
      subst hw2
      clear hnum hw1
      cases nb
      · go_wp2_with fail
        go_ret2
        exact ⟨by rw [HI.out]; rfl, HB.out⟩
      · go_wp2_with fail
        go_ret2
        exact ⟨by rw [HI.out]; rfl, HB.out⟩
    · rw [hwh, hb2 hwh] at hnum
      have HS := Lib.hid (show intS x = (if ngI x = true then (if magI x ≤ 9223372036854775808 then (-(magI x : Int), true) else (0, false)) else (if magI x < 9223372036854775808 then ((magI x : Int), true) else (0, false))) by unfold intS; rw [if_pos hwh])
      have hat := (both_digits hwh).1
      have HDG := Lib.hid (fun (p : Nat) (h1 : atI x ≤ p) (h2 : p < x.size) => int_dig hwh h1 h2)
      have HST := Lib.hid (fun (p acc : Nat) (h : p < x.size) => numL_step (x := x) (p := p) (acc := acc) h)
      have HEN := Lib.hid (fun (p acc : Nat) (h : x.size ≤ p) => numL_end (x := x) (p := p) (acc := acc) h)
      have HMG := Lib.hid (show numL 0 (x.data.toList.drop (atI x)) = magI x from rfl)
      generalize magI x = M at *
      generalize intS x = r at *
      have h0 : 0 < x.size := by omega
      have hx0 := J.at_byte h0
      have hng : ngI x = decide ((x.get! 0).toNat = 45) := is_at h0 45
      have hatn : atI x = if ngI x = true then 1 else 0 := rfl
      generalize (x.get! 0).toNat = c at *
      generalize hng2 : ngI x = ng at *
      generalize atI x = a at *
      obtain ⟨c0, c1, c2, c3⟩ := hbk.box
      have HH := Lib.hid (And.intro hat (And.intro hng hatn))
      clear hbk hb2 hwh hat hng hatn hng2
      go_enter Tryz.func13, Tryz.ntmps13
      go_upto_region 1 with fail
      generalize w.alloc (.cells #[.int .u8 3, .string x, va, ua] 25) = W0 at *
      go_wp2_with fail
      refine (hnum _).mono ?_
      rintro e w1 ⟨rfl, hw1⟩
      have hw2 := hw1.symm
      subst hw2
      clear hnum hw1
      go_upto_if 30 with fail
      go_cut [7, 8] (fun q s wx => q = .int .i64 a ∧ s = .bool ng ∧ W0 = wx)
      case first =>
        by_cases h45 : c = 45
        · have t1 : ((c : Int) == 45) = true := by simp; omega
          have HX := Lib.hid (show ng = true ∧ a = 1 by have := HH.out.2.1; rw [decide_eq_true h45] at this; exact ⟨this, by rw [HH.out.2.2, this]; rfl⟩)
          clear h45
          go_wp2_with fail
          go_meet
          case rel => exact ⟨by rw [HX.out.2]; rfl, by rw [HX.out.1], rfl⟩
        · have t1 : ((c : Int) == 45) = false := by simp; omega
          have HX := Lib.hid (show ng = false ∧ a = 0 by have := HH.out.2.1; rw [decide_eq_false h45] at this; exact ⟨this, by rw [HH.out.2.2, this]; rfl⟩)
          clear h45
          go_wp2_with fail
          go_meet
          case rel => exact ⟨by rw [HX.out.2]; rfl, by rw [HX.out.1], rfl⟩
      case rest =>
      obtain ⟨rfl, rfl, rfl⟩ := hcut
      clear hx0 c0
      go_wp2_with fail
      go_loopw [6, 7] (fun u q wr => ∃ acc p : Nat, u = .int .i64 (-(acc : Int)) ∧ q = .int .i64 p ∧ p ≤ x.size ∧ acc ≤ 9223372036854775808 ∧ Hid (a ≤ p ∧ numL acc (x.data.toList.drop p) = M ∧ W0 = wr)) (fun _ q _ => x.size - (RowKit.intOf q).toNat)
      case atStart => exact ⟨0, a, by simp, rfl, by have := HH.out.1; omega, by decide, Lib.hid ⟨Nat.le_refl _, HMG.out, rfl⟩⟩
      case round =>
        obtain ⟨acc, p, rfl, rfl, hp, hacc, HR⟩ := hrel
        obtain ⟨hap, hM, rfl⟩ := HR.out
        by_cases hlt : p < x.size
        · have tp : decide ((p : Int) < (x.size : Int)) = true := decide_eq_true (by omega)
          have tpn : decide (p < x.size) = true := decide_eq_true hlt
          have hxp := J.at_byte hlt
          obtain ⟨hd1, hd2⟩ := HDG.out p hap hlt
          have hst := HST.out p acc hlt
          generalize (x.get! p).toNat = b at *
          obtain ⟨D, rfl⟩ : ∃ D, b = 48 + D := ⟨b - 48, by omega⟩
          rw [Nat.add_sub_cancel_left] at hst
          have HT := Lib.hid (hst.symm.trans hM)
          have HL := Lib.hid hlt
          have HAP := Lib.hid hap
          clear hst hM hap hd1
          have hD : D ≤ 9 := by omega
          clear hd2 HR
          have HG := Lib.hid (numL_ge (x.data.toList.drop (p + 1)) (acc * 10 + D))
          by_cases hfit : acc * 10 + D ≤ 9223372036854775808
          · have t5 : decide (-(acc : Int) < (-9223372036854775808 + (48 + (D : Int) - 48)).tdiv 10) = false := by
              rw [lim_div D hD]
              exact decide_eq_false (by omega)
            have w1 : wrap64 (-(acc : Int) * 10) = -(acc : Int) * 10 := (by unfold wrap64; omega)
            have w2 : wrap64 (-(acc : Int) * 10 - (48 + (D : Int) - 48)) = -(acc : Int) * 10 - (48 + (D : Int) - 48) := (by unfold wrap64; omega)
            have HF := Lib.hid hfit
            clear hfit
            go_wp2_with fail
            go_roundw
            case rel => exact ⟨acc * 10 + D, p + 1, by congr 1; push_cast; omega, by push_cast; rfl, HL.out, HF.out, Lib.hid ⟨by have := HAP.out; omega, HT.out, by first | rfl | trivial⟩⟩
            case measure => have := HL.out; simp [RowKit.intOf]; omega
          · have t5 : decide (-(acc : Int) < (-9223372036854775808 + (48 + (D : Int) - 48)).tdiv 10) = true := by
              rw [lim_div D hD]
              exact decide_eq_true (by omega)
            have HF := Lib.hid (show r = (0, false) by
              have h1 := HG.out
              rw [HT.out] at h1
              rw [HS.out]
              split
              · rw [if_neg (by omega)]
              · rw [if_neg (by omega)])
            clear hfit
            go_wp2_with fail
            go_ret2
            exact ⟨by rw [HF.out]; rfl, HB.out⟩
        · have tp : decide ((p : Int) < (x.size : Int)) = false := decide_eq_false (by omega)
          have tpn : decide (p < x.size) = false := decide_eq_false hlt
          have HM := Lib.hid (show acc = M from (HEN.out p acc (by omega)).symm.trans hM)
          clear hM hap hlt HR
          cases ng
          · by_cases hfull : acc = 9223372036854775808
            · have t6 : (-(acc : Int) == -9223372036854775808) = true := by rw [hfull]; decide
              have HF := Lib.hid (show r = (0, false) by rw [HS.out, if_neg (by decide), if_neg (by have := HM.out; omega)])
              clear hfull
              go_wp2_with fail
              go_ret2
              exact ⟨by rw [HF.out]; rfl, HB.out⟩
            · have t6 : (-(acc : Int) == -9223372036854775808) = false := by simp; omega
              have HF := Lib.hid (show r = ((acc : Int), true) by rw [HS.out, if_neg (by decide), if_pos (by have := HM.out; omega), HM.out])
              have w3 : wrap64 (acc : Int) = (acc : Int) := (by unfold wrap64; omega)
              have W3 := Lib.hid w3
              clear w3
              clear hfull
              go_wp2_with fail
              go_ret2
              exact ⟨by rw [HF.out]; show Ending.returned (.tuple #[.int .i64 (wrap64 acc), .bool true]) = _; rw [W3.out], HB.out⟩
          · have HF := Lib.hid (show r = (-(acc : Int), true) by rw [HS.out, if_pos rfl, if_pos (by have := HM.out; omega), HM.out])
            go_wp2_with fail
            go_ret2
            exact ⟨by rw [HF.out]; rfl, HB.out⟩
  · have HK := Lib.hid (show intV k x = (0, false) from if_neg hk)
    have t3 : ((k : Int) != 3) = true := by simp; omega
    generalize numS x = nb at *
    generalize bothS (ciS x) = wh at *
    obtain ⟨c0, c1, c2, c3⟩ := hbk.box
    clear hbk hb2 hk
    go_enter Tryz.func13, Tryz.ntmps13
    go_upto_region 1 with fail
    generalize w.alloc (.cells #[.int .u8 k, .string x, va, ua] 25) = W0 at *
    go_wp2_with fail
    refine (hnum _).mono ?_
    rintro e w1 ⟨rfl, hw1⟩
    have hw2 := hw1.symm
    subst hw2
    clear hnum hw1
    go_wp2_with fail
    go_ret2
    exact ⟨by rw [HK.out]; rfl, HB.out⟩
end YtoolkaahjmnjeaaGreatDoor
end Go.Proofs
