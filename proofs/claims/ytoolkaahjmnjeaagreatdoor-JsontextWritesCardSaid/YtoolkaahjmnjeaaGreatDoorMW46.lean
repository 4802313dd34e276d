/- The document's own May, walked. Conditions: strings of at most 10^12 bytes. -/
import Derived.Test.YtoolkaahjmnjeaaGreatDoorMW44
namespace Go.Proofs.YtoolkaahjmnjeaaGreatDoor
open Go Go.RowKit Go.Lib

theorem noTx (x : ByteArray) : x.toList.isEmpty = decide (x.size = 0) := by
  have h2 := Lib.size_eq x
  rw [Lib.toList_data]
  cases h : x.data.toList with
  | nil => rw [h, List.length_nil] at h2; rw [decide_eq_true h2]; rfl
  | cons a l => rw [h, List.length_cons] at h2; rw [decide_eq_false (by omega)]; rfl
set_option maxHeartbeats 8000000 in
set_option maxRecDepth 100000 in
theorem may04_step (N : Nat) (ih : MayR N) (k : Nat) (x : ByteArray) (va ua : Value) (l f : V.T) (A : Nat → Prop) (d : Nat) (w : World) (hN : l.size + f.size < N + 1) (hk : k < 256) (hx : x.size ≤ 1000000000000) (hsl : Sm l) (hsf : Sm f) (hva : HS w A 0 va l) (hua : HS w A 1 ua f) (hd : d ≤ 64) :
    Calls Tryz.prog 52 #[.agg #[.int .u8 k, .string x, va, ua], .int .i64 ((d : Int) + 1)] w (Bools (mayV k x l f d) w) := by
  obtain ⟨pa, ca, rfl, ba0, ba1, ba2⟩ := hva.len
  obtain ⟨qa, da, rfl, ba5, ba3, ba4⟩ := hua.len
  have HX := Lib.hid hx
  have HR0 := fun W0 => may04_rest N ih k x l f A d w pa qa ca da l.len f.len W0 hN hsl hsf hva hua rfl rfl
  have HNB := Lib.hid (fun h => not_bad (k := k) (x := x) (l := l) (f := f) h)
  have HBAD := Lib.hid (fun (h : Bad k x l f) => mayV_bad (d := d) h)
  have HROWS := Lib.hid (fun h h3 h4 h5 => mayV_rows (k := k) (x := x) (l := l) (f := f) (d := d) h h3 h4 h5)
  have HDEEP := Lib.hid (fun (h : 5 ≤ k) => mayV_deep (k := k) (x := x) (l := l) (f := f) h)
  have HNUM := Lib.hid (fun (e : k = 3) (h : ¬ Bad k x l f) => show mayV k x l f d = numS x by subst e; exact mayV_num h)
  have HTXT := Lib.hid (fun (e : k = 4) (h : ¬ Bad k x l f) => show mayV k x l f d = U.valid x by subst e; exact mayV_txt h)
  unfold Bad at HNB HBAD HROWS HNUM HTXT
  generalize ea : l.len = na at *
  generalize fa1 : f.len = ma at *
  have HR := Lib.hid HR0
  have HD := Lib.hid (And.intro hd hk)
  have hd3 : (d : Int) ≤ 64 := by omega
  clear hN hsl hsf hva hua hx ea fa1 hd hk HR0
  go_enter Tryz.func52, Tryz.ntmps52
  go_upto_region 1 with fail
  have hbk : Blk4 (w.alloc (.cells #[.int .u8 k, .string x, .slice pa na ca, .slice qa ma da] 25)) w.heap.size 25 (.int .u8 k) (.string x) (.slice pa na ca) (.slice qa ma da) := heap_alloc_new _ _
  have HB := Lib.hid ((Below.refl w.heap.size w).alloc (Nat.le_refl _) (.cells #[.int .u8 k, .string x, .slice pa na ca, .slice qa ma da] 25))
  generalize w.alloc (.cells #[.int .u8 k, .string x, .slice pa na ca, .slice qa ma da] 25) = W0 at *
  obtain ⟨c0, c1, c2, c3⟩ := hbk.box
  have HBK := Lib.hid hbk
  clear hbk
  by_cases hk6 : 6 < k
  · have ti6 : decide ((6 : Int) < (k : Int)) = true := decide_eq_true (by omega)
    have tt6 : decide (6 < k) = true := decide_eq_true (by omega)
    have HM := Lib.hid (HBAD.out (by omega))
    clear hk6
    go_wp2_with fail
    go_ret
    exact ⟨by rw [HM.out]; rfl, HB.out⟩
  · have ti6 : decide ((6 : Int) < (k : Int)) = false := decide_eq_false (by omega)
    have tt6 : decide (6 < k) = false := decide_eq_false (by omega)
    by_cases hx0 : x.size = 0
    · have tx : x.toList.isEmpty = true := (noTx x).trans (decide_eq_true hx0)
      by_cases hna : 0 < na
      · have tina : decide ((0 : Int) < (na : Int)) = true := decide_eq_true (by omega)
        have ttna : decide (0 < na) = true := decide_eq_true (by omega)
        by_cases hk_5 : k = 5
        · have tn5 : ((k : Int) != 5) = false := by simp; omega
          have te5 : ((k : Int) == 5) = true := by simp; omega
          by_cases hma : 0 < ma
          · have tima : decide ((0 : Int) < (ma : Int)) = true := decide_eq_true (by omega)
            have ttma : decide (0 < ma) = true := decide_eq_true (by omega)
            have tn6 : ((k : Int) != 6) = true := by simp; omega
            have HM := Lib.hid (HBAD.out (by omega))
            clear hk6 hx0 hna hk_5 hma
            go_wp2_with fail
            go_ret
            exact ⟨by rw [HM.out]; rfl, HB.out⟩
          · have tima : decide ((0 : Int) < (ma : Int)) = false := decide_eq_false (by omega)
            have ttma : decide (0 < ma) = false := decide_eq_false (by omega)
            have te3 : ((k : Int) == 3) = false := by simp; omega
            have te4 : ((k : Int) == 4) = false := by simp; omega
            by_cases h5 : 5 ≤ k
            · have t5 : decide ((5 : Int) ≤ (k : Int)) = true := decide_eq_true (by omega)
              have t5b : decide (5 ≤ k) = true := decide_eq_true h5
              by_cases hd64 : d = 64
              · have t6 : decide ((64 : Int) < (d : Int) + 1) = true := decide_eq_true (by omega)
                have HM := Lib.hid (show mayV k x l f d = false by rw [hd64]; exact HDEEP.out h5)
                clear hk6 hx0 hna hk_5 hma h5 hd64
                go_wp2_with fail
                go_ret
                exact ⟨by rw [HM.out]; rfl, HB.out⟩
              · have t6 : decide ((64 : Int) < (d : Int) + 1) = false := decide_eq_false (by have := HD.out; omega)
                have HM := Lib.hid (HROWS.out (by omega) (by omega) (by omega) (by omega))
                have HL := Lib.hid (show (0 < na → d + 1 ≤ 64) ∧ (0 < ma → d + 1 ≤ 64) from ⟨fun h => by have := HD.out; omega, fun h => by have := HD.out; omega⟩)
                clear hk6 hx0 hna hk_5 hma h5 hd64
                go_upto_if 72 with fail
                iterate 4 go_step
                exact HR.out _ HL.out hd3 HB.out HBK.out HM.out ba0 ba1 ba2 ba5 ba3 ba4
            · have t5 : decide ((5 : Int) ≤ (k : Int)) = false := decide_eq_false (by omega)
              have t5b : decide (5 ≤ k) = false := decide_eq_false h5
              have HM := Lib.hid (HROWS.out (by omega) (by omega) (by omega) (by omega))
              have HL := Lib.hid (show (0 < na → d + 1 ≤ 64) ∧ (0 < ma → d + 1 ≤ 64) from ⟨fun h => by have := HD.out; omega, fun h => by have := HD.out; omega⟩)
              clear hk6 hx0 hna hk_5 hma h5
              go_upto_if 72 with fail
              iterate 4 go_step
              exact HR.out _ HL.out hd3 HB.out HBK.out HM.out ba0 ba1 ba2 ba5 ba3 ba4
        · have tn5 : ((k : Int) != 5) = true := by simp; omega
          have te5 : ((k : Int) == 5) = false := by simp; omega
          have HM := Lib.hid (HBAD.out (by omega))
          clear hk6 hx0 hna hk_5
          go_wp2_with fail
          go_ret
          exact ⟨by rw [HM.out]; rfl, HB.out⟩
      · have tina : decide ((0 : Int) < (na : Int)) = false := decide_eq_false (by omega)
        have ttna : decide (0 < na) = false := decide_eq_false (by omega)
        by_cases hma : 0 < ma
        · have tima : decide ((0 : Int) < (ma : Int)) = true := decide_eq_true (by omega)
          have ttma : decide (0 < ma) = true := decide_eq_true (by omega)
          by_cases hk_6 : k = 6
          · have tn6 : ((k : Int) != 6) = false := by simp; omega
            have te6 : ((k : Int) == 6) = true := by simp; omega
            have te3 : ((k : Int) == 3) = false := by simp; omega
            have te4 : ((k : Int) == 4) = false := by simp; omega
            by_cases h5 : 5 ≤ k
            · have t5 : decide ((5 : Int) ≤ (k : Int)) = true := decide_eq_true (by omega)
              have t5b : decide (5 ≤ k) = true := decide_eq_true h5
              by_cases hd64 : d = 64
              · have t6 : decide ((64 : Int) < (d : Int) + 1) = true := decide_eq_true (by omega)
                have HM := Lib.hid (show mayV k x l f d = false by rw [hd64]; exact HDEEP.out h5)
                clear hk6 hx0 hna hma hk_6 h5 hd64
                go_wp2_with fail
                go_ret
                exact ⟨by rw [HM.out]; rfl, HB.out⟩
              · have t6 : decide ((64 : Int) < (d : Int) + 1) = false := decide_eq_false (by have := HD.out; omega)
                have HM := Lib.hid (HROWS.out (by omega) (by omega) (by omega) (by omega))
                have HL := Lib.hid (show (0 < na → d + 1 ≤ 64) ∧ (0 < ma → d + 1 ≤ 64) from ⟨fun h => by have := HD.out; omega, fun h => by have := HD.out; omega⟩)
                clear hk6 hx0 hna hma hk_6 h5 hd64
                go_upto_if 72 with fail
                iterate 4 go_step
                exact HR.out _ HL.out hd3 HB.out HBK.out HM.out ba0 ba1 ba2 ba5 ba3 ba4
            · have t5 : decide ((5 : Int) ≤ (k : Int)) = false := decide_eq_false (by omega)
              have t5b : decide (5 ≤ k) = false := decide_eq_false h5
              have HM := Lib.hid (HROWS.out (by omega) (by omega) (by omega) (by omega))
              have HL := Lib.hid (show (0 < na → d + 1 ≤ 64) ∧ (0 < ma → d + 1 ≤ 64) from ⟨fun h => by have := HD.out; omega, fun h => by have := HD.out; omega⟩)
              clear hk6 hx0 hna hma hk_6 h5
              go_upto_if 72 with fail
              iterate 4 go_step
              exact HR.out _ HL.out hd3 HB.out HBK.out HM.out ba0 ba1 ba2 ba5 ba3 ba4
          · have tn6 : ((k : Int) != 6) = true := by simp; omega
            have te6 : ((k : Int) == 6) = false := by simp; omega
            have HM := Lib.hid (HBAD.out (by omega))
            clear hk6 hx0 hna hma hk_6
            go_wp2_with fail
            go_ret
            exact ⟨by rw [HM.out]; rfl, HB.out⟩
        · have tima : decide ((0 : Int) < (ma : Int)) = false := decide_eq_false (by omega)
          have ttma : decide (0 < ma) = false := decide_eq_false (by omega)
          by_cases hk_3 : k = 3
          · have tn3 : ((k : Int) != 3) = false := by simp; omega
            have te3 : ((k : Int) == 3) = true := by simp; omega
            have HM := Lib.hid (HNUM.out (by omega) (by omega))
            have hnum := fun W => number04_any x W HX.out
            clear hk6 hx0 hna hma hk_3
            go_wp2_with fail
            refine (hnum _).mono ?_
            rintro e w1 ⟨rfl, rfl⟩
            clear hnum
            go_wp2_with fail
            go_ret
            exact ⟨by rw [HM.out]; rfl, HB.out⟩
          · have tn3 : ((k : Int) != 3) = true := by simp; omega
            have te3 : ((k : Int) == 3) = false := by simp; omega
            by_cases hk_4 : k = 4
            · have tn4 : ((k : Int) != 4) = false := by simp; omega
              have te4 : ((k : Int) == 4) = true := by simp; omega
              have HM := Lib.hid (HTXT.out (by omega) (by omega))
              have hval := fun W => refValid_any x W HX.out
              clear hk6 hx0 hna hma hk_3 hk_4
              go_wp2_with fail
              refine (hval _).mono ?_
              rintro e w1 ⟨rfl, hB1⟩
              have H1 := Lib.hid (HB.out.trans (hB1.mono HB.out.size))
              clear hval hB1
              go_wp2_with fail
              go_ret
              exact ⟨by rw [HM.out]; rfl, H1.out⟩
            · have tn4 : ((k : Int) != 4) = true := by simp; omega
              have te4 : ((k : Int) == 4) = false := by simp; omega
              by_cases h5 : 5 ≤ k
              · have t5 : decide ((5 : Int) ≤ (k : Int)) = true := decide_eq_true (by omega)
                have t5b : decide (5 ≤ k) = true := decide_eq_true h5
                by_cases hd64 : d = 64
                · have t6 : decide ((64 : Int) < (d : Int) + 1) = true := decide_eq_true (by omega)
                  have HM := Lib.hid (show mayV k x l f d = false by rw [hd64]; exact HDEEP.out h5)
                  clear hk6 hx0 hna hma hk_3 hk_4 h5 hd64
                  go_wp2_with fail
                  go_ret
                  exact ⟨by rw [HM.out]; rfl, HB.out⟩
                · have t6 : decide ((64 : Int) < (d : Int) + 1) = false := decide_eq_false (by have := HD.out; omega)
                  have HM := Lib.hid (HROWS.out (by omega) (by omega) (by omega) (by omega))
                  have HL := Lib.hid (show (0 < na → d + 1 ≤ 64) ∧ (0 < ma → d + 1 ≤ 64) from ⟨fun h => by have := HD.out; omega, fun h => by have := HD.out; omega⟩)
                  clear hk6 hx0 hna hma hk_3 hk_4 h5 hd64
                  go_upto_if 72 with fail
                  iterate 4 go_step
                  exact HR.out _ HL.out hd3 HB.out HBK.out HM.out ba0 ba1 ba2 ba5 ba3 ba4
              · have t5 : decide ((5 : Int) ≤ (k : Int)) = false := decide_eq_false (by omega)
                have t5b : decide (5 ≤ k) = false := decide_eq_false h5
                have HM := Lib.hid (HROWS.out (by omega) (by omega) (by omega) (by omega))
                have HL := Lib.hid (show (0 < na → d + 1 ≤ 64) ∧ (0 < ma → d + 1 ≤ 64) from ⟨fun h => by have := HD.out; omega, fun h => by have := HD.out; omega⟩)
                clear hk6 hx0 hna hma hk_3 hk_4 h5
                go_upto_if 72 with fail
                iterate 4 go_step
                exact HR.out _ HL.out hd3 HB.out HBK.out HM.out ba0 ba1 ba2 ba5 ba3 ba4
    · have tx : x.toList.isEmpty = false := (noTx x).trans (decide_eq_false hx0)
      by_cases hk_3 : k = 3
      · have tn3 : ((k : Int) != 3) = false := by simp; omega
        have te3 : ((k : Int) == 3) = true := by simp; omega
        by_cases hna : 0 < na
        · have tina : decide ((0 : Int) < (na : Int)) = true := decide_eq_true (by omega)
          have ttna : decide (0 < na) = true := decide_eq_true (by omega)
          have tn5 : ((k : Int) != 5) = true := by simp; omega
          have HM := Lib.hid (HBAD.out (by omega))
          clear hk6 hx0 hk_3 hna
          go_wp2_with fail
          go_ret
          exact ⟨by rw [HM.out]; rfl, HB.out⟩
        · have tina : decide ((0 : Int) < (na : Int)) = false := decide_eq_false (by omega)
          have ttna : decide (0 < na) = false := decide_eq_false (by omega)
          by_cases hma : 0 < ma
          · have tima : decide ((0 : Int) < (ma : Int)) = true := decide_eq_true (by omega)
            have ttma : decide (0 < ma) = true := decide_eq_true (by omega)
            have tn6 : ((k : Int) != 6) = true := by simp; omega
            have HM := Lib.hid (HBAD.out (by omega))
            clear hk6 hx0 hk_3 hna hma
            go_wp2_with fail
            go_ret
            exact ⟨by rw [HM.out]; rfl, HB.out⟩
          · have tima : decide ((0 : Int) < (ma : Int)) = false := decide_eq_false (by omega)
            have ttma : decide (0 < ma) = false := decide_eq_false (by omega)
            have HM := Lib.hid (HNUM.out (by omega) (by omega))
            have hnum := fun W => number04_any x W HX.out
            clear hk6 hx0 hk_3 hna hma
            go_wp2_with fail
            refine (hnum _).mono ?_
            rintro e w1 ⟨rfl, rfl⟩
            clear hnum
            go_wp2_with fail
            go_ret
            exact ⟨by rw [HM.out]; rfl, HB.out⟩
      · have tn3 : ((k : Int) != 3) = true := by simp; omega
        have te3 : ((k : Int) == 3) = false := by simp; omega
        by_cases hk_4 : k = 4
        · have tn4 : ((k : Int) != 4) = false := by simp; omega
          have te4 : ((k : Int) == 4) = true := by simp; omega
          by_cases hna : 0 < na
          · have tina : decide ((0 : Int) < (na : Int)) = true := decide_eq_true (by omega)
            have ttna : decide (0 < na) = true := decide_eq_true (by omega)
            have tn5 : ((k : Int) != 5) = true := by simp; omega
            have HM := Lib.hid (HBAD.out (by omega))
            clear hk6 hx0 hk_3 hk_4 hna
            go_wp2_with fail
            go_ret
            exact ⟨by rw [HM.out]; rfl, HB.out⟩
          · have tina : decide ((0 : Int) < (na : Int)) = false := decide_eq_false (by omega)
            have ttna : decide (0 < na) = false := decide_eq_false (by omega)
            by_cases hma : 0 < ma
            · have tima : decide ((0 : Int) < (ma : Int)) = true := decide_eq_true (by omega)
              have ttma : decide (0 < ma) = true := decide_eq_true (by omega)
              have tn6 : ((k : Int) != 6) = true := by simp; omega
              have HM := Lib.hid (HBAD.out (by omega))
              clear hk6 hx0 hk_3 hk_4 hna hma
              go_wp2_with fail
              go_ret
              exact ⟨by rw [HM.out]; rfl, HB.out⟩
            · have tima : decide ((0 : Int) < (ma : Int)) = false := decide_eq_false (by omega)
              have ttma : decide (0 < ma) = false := decide_eq_false (by omega)
              have HM := Lib.hid (HTXT.out (by omega) (by omega))
              have hval := fun W => refValid_any x W HX.out
              clear hk6 hx0 hk_3 hk_4 hna hma
              go_wp2_with fail
              refine (hval _).mono ?_
              rintro e w1 ⟨rfl, hB1⟩
              have H1 := Lib.hid (HB.out.trans (hB1.mono HB.out.size))
              clear hval hB1
              go_wp2_with fail
              go_ret
              exact ⟨by rw [HM.out]; rfl, H1.out⟩
        · have tn4 : ((k : Int) != 4) = true := by simp; omega
          have te4 : ((k : Int) == 4) = false := by simp; omega
          have HM := Lib.hid (HBAD.out (by omega))
          clear hk6 hx0 hk_3 hk_4
          go_wp2_with fail
          go_ret
          exact ⟨by rw [HM.out]; rfl, HB.out⟩
theorem may04_any : ∀ N, MayR N
  | 0 => fun k x va ua l f A d w h => absurd h (Nat.not_lt_zero _)
  | N + 1 => fun k x va ua l f A d w hN hk hx hsl hsf hva hua hd => may04_step N (may04_any N) k x va ua l f A d w hN hk hx hsl hsf hva hua hd
end Go.Proofs.YtoolkaahjmnjeaaGreatDoor
