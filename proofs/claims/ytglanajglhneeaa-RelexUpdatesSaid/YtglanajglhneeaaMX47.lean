/- Numbers, the document's. Conditions: two texts, equal ahead of and behind an edit. -/
import Derived.Test.YtglanajglhneeaaMX46
import Derived.Test.YtglanajglhneeaaMX37
namespace Go.Proofs
open Go Go.RowKit Go.Lib
namespace Ytglanajglhneeaa
def NumIs (s t : ByteArray) (oF oT nT : Nat) (w : World) (e : Ending) (w' : World) : Prop := ∃ a b c : Nat, e = .returned (.tuple #[.int .i64 (a : Int), .int .i64 (b : Int), .int .i64 (c : Int)]) ∧ D.IsNum (D.toks s) (D.toks t) oF oT nT a b c ∧ Below w.heap.size w w'
set_option maxHeartbeats 16000000 in
set_option maxRecDepth 100000 in
theorem refNumbers_any (s t : ByteArray) (oF oT nT : Nat) (hs : s.size ≤ 16000) (ht : t.size ≤ 16000) (hE : D.Ed1 s t oF oT nT) (va vb : Value) (w : World) (ha : RdT w va ((D.toks s).map D.Tk.i)) (hb : RdT w vb ((D.toks t).map D.Tk.i)) : Calls Try.prog 39 #[va, vb, .agg #[.int .i64 oF, .int .i64 oT], .agg #[.int .i64 oF, .int .i64 nT]] w (NumIs s t oF oT nT w) := by
  have HE := Lib.hid hE
  have HRa := Lib.hid ha
  have HFS := Lib.hid (D.toks_fine s (by omega))
  have HFT := Lib.hid (D.toks_fine t (by omega))
  have HPS := Lib.hid (D.toks_pos s)
  have hl0 : (D.toks s).length ≤ 16000 := Nat.le_trans (D.toks_len s) hs
  have hlt0 : (D.toks t).length ≤ 16000 := Nat.le_trans (D.toks_len t) ht
  have HLS := Lib.hid (fun n (h : n ≤ (D.toks s).length) => Nat.le_trans (D.bg_le s h) hs)
  have HLT := Lib.hid (fun n (h : n ≤ (D.toks t).length) => Nat.le_trans (D.bg_le t h) ht)
  have HFst := Lib.hid (fun n (h : D.Wi (D.toks s) oF n) => hE.fst h)
  obtain ⟨e1, e2, e3⟩ : oF ≤ 16000 ∧ oT ≤ 16000 ∧ nT ≤ 16000 := by
    have := hE.h1; have := hE.h2; have := hE.h4; omega
  have HSa := Lib.hid (fun W (hW : Below w.heap.size w W) => refSpans_any va _ W (ha.below hW) (by rw [List.length_map]; omega))
  have HSb := Lib.hid (fun W (hW : Below w.heap.size w W) => refSpans_any vb _ W (hb.below hW) (by rw [List.length_map]; omega))
  obtain ⟨za, ca, rfl, a1, a2⟩ := ha.shape rfl
  obtain ⟨zb, cb, rfl, b1, b2⟩ := hb.shape rfl
  clear ha hb hE
  generalize hS : D.toks s = S at *
  generalize hT : D.toks t = T at *
  have HST := Lib.hid (And.intro hS hT)
  clear hS hT
  go_enter Try.func39, Try.ntmps39
  go_upto_region 1 with fail
  have n0 : ((w.alloc (.cells #[.int .i64 (oF : Int), .int .i64 (oT : Int)] 32)).alloc (.cells #[.int .i64 (oF : Int), .int .i64 (nT : Int)] 32)).heap[w.heap.size]? = some (.cells #[.int .i64 (oF : Int), .int .i64 (oT : Int)] 32 (0, 0)) := (heap_alloc_old _ _ (by simp)).trans (heap_alloc_new w _)
  have n1 : ((w.alloc (.cells #[.int .i64 (oF : Int), .int .i64 (oT : Int)] 32)).alloc (.cells #[.int .i64 (oF : Int), .int .i64 (nT : Int)] 32)).heap[w.heap.size + 1]? = some (.cells #[.int .i64 (oF : Int), .int .i64 (nT : Int)] 32 (0, 0)) := by
    have := heap_alloc_new (w.alloc (.cells #[.int .i64 (oF : Int), .int .i64 (oT : Int)] 32)) (.cells #[.int .i64 (oF : Int), .int .i64 (nT : Int)] 32)
    rwa [World.size_alloc] at this
  have hbw : Below w.heap.size w ((w.alloc (.cells #[.int .i64 (oF : Int), .int .i64 (oT : Int)] 32)).alloc (.cells #[.int .i64 (oF : Int), .int .i64 (nT : Int)] 32)) := ((Below.refl _ _).alloc (Nat.le_refl _) _).alloc (by simp) _
  generalize (w.alloc _).alloc _ = W1 at *
  have H1 := Lib.hid (And.intro n0 (And.intro n1 hbw))
  clear n0 n1 hbw
  go_wp2_with fail
  refine (HSa.out _ H1.out.2.2).mono ?_
  rintro e w2 ⟨vsa, rfl, hsa, hB2⟩
  have H2 := Lib.hid (And.intro hsa (And.intro hB2 (H1.out.2.2.trans (hB2.mono H1.out.2.2.size))))
  clear hsa hB2
  go_wp2_with fail
  refine (HSb.out _ H2.out.2.2).mono ?_
  rintro e w3 ⟨vsb, rfl, hsb, hB3⟩
  have hB13 := H2.out.2.1.trans (hB3.mono H2.out.2.1.size)
  have hsa3 := H2.out.1.below hB3
  have H3 := Lib.hid (And.intro hsa3 (And.intro hsb (H1.out.2.2.trans (hB13.mono H1.out.2.2.size))))
  have r0 := (hB13.block _ (Array.getElem?_eq_some_iff.1 H1.out.1).1).trans H1.out.1
  have r1 := (hB13.block _ (Array.getElem?_eq_some_iff.1 H1.out.2.1).1).trans H1.out.2.1
  have HRow := Lib.hid (And.intro r0 r1)
  obtain ⟨zsa, csa, rfl⟩ := hsa3.shape
  obtain ⟨zsb, csb, rfl⟩ := hsb.shape
  clear hsb hB3 hB13 hsa3 r0 r1
  go_wp2_with fail
  have HC := Lib.hid (fun X (hX : Below w3.heap.size w3 X) => (show X.cell? ⟨w.heap.size, 0, none⟩ = some (.int .i64 (oF : Int)) ∧ X.cell? ⟨w.heap.size, 1, none⟩ = some (.int .i64 (oT : Int)) ∧ X.cell? ⟨w.heap.size + 1, 1, none⟩ = some (.int .i64 (nT : Int)) from by
    have r0 := (hX.block _ (Array.getElem?_eq_some_iff.1 HRow.out.1).1).trans HRow.out.1
    have r1 := (hX.block _ (Array.getElem?_eq_some_iff.1 HRow.out.2).1).trans HRow.out.2
    exact ⟨by rw [Lib.cell_of_heap r0]; rfl, by rw [Lib.cell_of_heap r0]; rfl, by rw [Lib.cell_of_heap r1]; rfl⟩))
  have HDw := Lib.hid (fun X (hX : Below w3.heap.size w3 X) => H3.out.2.2.trans (hX.mono H3.out.2.2.size))
  go_loopg [13] S.length (fun g s13 wx => ∃ i : Nat, i + g = S.length ∧ s13 = .int .i64 i ∧ Hid (Below w3.heap.size w3 wx ∧ ∀ j t, j < i → S[j]? = some t → D.bg S j + t.w + t.l ≤ oF))
  case atStart => exact ⟨0, by omega, rfl, Lib.hid ⟨Below.refl _ _, fun j t hj => absurd hj (Nat.not_lt_zero _)⟩⟩
  case round =>
    obtain ⟨i, hgi, rfl, HW⟩ := hrel
    obtain ⟨y0, y1, y2⟩ := HC.out _ HW.out.1
    by_cases hlt : i < S.length
    · obtain ⟨t5, ht5⟩ : ∃ t, S[i]? = some t := ⟨_, List.getElem?_eq_getElem hlt⟩
      have hat := HFS.out.at ht5
      obtain ⟨b, o, rfl, _, c0, c1, c2⟩ := (HRa.out.below (HDw.out _ HW.out.1)).tk ht5
      obtain ⟨b5, o5, rfl, _, d0, d1⟩ := (H3.out.1.below HW.out.1).sp HFS.out hlt
      rw [hat.2.1] at d1
      have hx := hat.2.2
      have HX := Lib.hid (And.intro ht5 hlt)
      obtain ⟨tk, tw, tl⟩ := t5
      simp only at c0 c1 c2 d0 d1 hat hx
      have hw2 := hat.1
      have HBg := Lib.hid (rfl : D.bg S i = D.bg S i)
      generalize hxx : D.bg S i = x at *
      have HXX := Lib.hid hxx
      have i1 : (i : Int) < (S.length : Int) := by omega
      have i0 : (0 : Int) ≤ (i : Int) := Int.natCast_nonneg i
      have i3 : (i : Int) ≤ 1000000000000000 := by omega
      clear ht5 hat hxx
      by_cases hle : x + tw + tl ≤ oF
      · have f1 : decide (((x + tw : Nat) : Int) + (tl : Int) ≤ (oF : Int)) = true := decide_eq_true (by omega)
        have f2 : decide ((x : Int) + (tw : Int) + (tl : Int) ≤ (oF : Int)) = true := decide_eq_true (by omega)
        go_wp2_with fail
        go_quiet (fail)
        go_wp2_with fail
        go_roundg (S.length - (i + 1))
        case measure => omega
        case rel => exact ⟨i + 1, by omega, by go_num, Lib.hid ⟨below_dq9 HW.out.1 _, fun j t hj hjt => by
          by_cases e : j = i
          · subst e
            rw [HX.out.1] at hjt
            cases hjt
            rw [HXX.out]
            simp only
            omega
          · exact HW.out.2 j t (by omega) hjt⟩⟩
      · have f1 : decide ((x : Int) + (tw : Int) + (tl : Int) ≤ (oF : Int)) = false := decide_eq_false (by omega)
        have f2 : decide (x + tw + tl ≤ oF) = false := decide_eq_false hle
        have HWi := Lib.hid (show D.Wi S oF i from ⟨by omega, HW.out.2, fun t ht => by
          rw [HX.out.1] at ht
          cases ht
          rw [HXX.out]
          exact hle⟩)
        clear hle
        have HBQ := Lib.hid (fun q => below_dq9 HW.out.1 q)
        go_wp2_with fail
        go_quiet (fail)
        generalize hWX : wr.drewN _ = WX
        have HBX := Lib.hid (show Below w3.heap.size w3 WX by rw [← hWX]; exact HBQ.out _)
        clear hWX y0 y1 y2 c0 c1 c2 d0 d1 HW
        obtain ⟨a, rfl⟩ : ∃ a, a = i := ⟨i, rfl⟩
        have hf := HFst.out a HWi.out
        have ha16 : a ≤ S.length := HWi.out.1
        have haT : a ≤ T.length := hf.1
        have HB4 := Lib.hid (show Below w3.heap.size w3 WX from HBX.out)
        obtain ⟨y0, y1, y2⟩ := HC.out _ HBX.out
        clear hf
        go_wp2_with fail
        go_loopg [15] (T.length - a) (fun g s15 wx => ∃ i : Nat, i + g = T.length ∧ a ≤ i ∧ s15 = .int .i64 i ∧ Hid (Below w3.heap.size w3 wx ∧ ∀ i', a ≤ i' → i' < i → ∀ k, ¬ D.Mt S T oT nT i' k))
        case atStart => exact ⟨a, by omega, Nat.le_refl _, rfl, Lib.hid ⟨HB4.out, fun i' h1 h2 => by omega⟩⟩
        case round =>
          clear y0 y1 y2
          obtain ⟨i, hgi, hai, rfl, HV⟩ := hrel
          obtain ⟨y0, y1, y2⟩ := HC.out _ HV.out.1
          by_cases hlt : i < T.length
          · obtain ⟨b6, o6, rfl, _, d0, d1⟩ := (H3.out.2.1.below HV.out.1).sp HFT.out hlt
            have hx := HLT.out i (by omega)
            have hi5 : i ≤ 16000 := by omega
            have HLt := Lib.hid hlt
            generalize hxx : D.bg T i = x at *
            have HXX := Lib.hid hxx
            have i1 : (i : Int) < (T.length : Int) := by omega
            have i0 : (0 : Int) ≤ (i : Int) := Int.natCast_nonneg i
            have i3 : (i : Int) ≤ 1000000000000000 := by omega
            clear hxx d1
            by_cases hn : x < nT
            · have k1 : (x : Int) < (nT : Int) := by omega
              have HN := Lib.hid (show ∀ k, ¬ D.Mt S T oT nT i k from fun k hm => by have := hm.2.1; rw [HXX.out] at this; omega)
              clear hn
              go_wp2_with fail
              go_quiet (fail)
              go_wp2_with fail
              go_roundg (T.length - (i + 1))
              case measure => omega
              case rel => exact ⟨i + 1, by omega, by omega, by go_num, Lib.hid ⟨below_dq9 HV.out.1 _, fun i' h1 h2 k => by
                by_cases e : i' = i
                · subst e; exact HN.out k
                · exact HV.out.2 i' h1 (by omega) k⟩⟩
            · have k1 : ¬ (x : Int) < (nT : Int) := by omega
              have HNn := Lib.hid hn
              clear hn
              go_wp2_with fail
              go_quiet (fail)
              have HB6 := Lib.hid (fun q => below_dq9 HV.out.1 q)
              go_wp2_with fail
              go_loopg [16] S.length (fun g s16 wx => ∃ k : Nat, k + g = S.length ∧ s16 = .int .i64 k ∧ Hid (Below w3.heap.size w3 wx ∧ ∀ k', k' < k → ¬ D.Mt S T oT nT i k'))
              case atStart => exact ⟨0, by omega, rfl, Lib.hid ⟨HB6.out _, fun k' h => by omega⟩⟩
              case round =>
                clear y0 y1 y2 d0
                obtain ⟨k, hgk, rfl, HU⟩ := hrel
                obtain ⟨y0, y1, y2⟩ := HC.out _ HU.out.1
                by_cases hkl : k < S.length
                · obtain ⟨b7, o7, e7, _, d0, _⟩ := (H3.out.2.1.below HU.out.1).sp HFT.out HLt.out
                  cases e7
                  rw [HXX.out] at d0
                  obtain ⟨b8, o8, e8, _, f0, f1⟩ := (H3.out.1.below HU.out.1).sp HFS.out hkl
                  cases e8
                  have hy := HLS.out k (by omega)
                  have HKl := Lib.hid hkl
                  generalize hyy : D.bg S k = y at *
                  have HYY := Lib.hid hyy
                  have k1 : (k : Int) < (S.length : Int) := by omega
                  have k0 : (0 : Int) ≤ (k : Int) := Int.natCast_nonneg k
                  have k3 : (k : Int) ≤ 1000000000000000 := by omega
                  have k4 : k ≤ 16000 := by omega
                  clear hyy f1
                  by_cases ho : oT ≤ y
                  · have m1 : decide ((oT : Int) ≤ (y : Int)) = true := decide_eq_true (by omega)
                    have m2 : (oT : Int) ≤ (y : Int) := by omega
                    by_cases hq : y + nT = x + oT
                    · have m3 : ((y : Int) + ((nT : Int) - (oT : Int)) == (x : Int)) = true := by rw [beq_iff_eq]; omega
                      have HNum := Lib.hid (show D.IsNum S T oF oT nT a k i from ⟨HWi.out, hai, HV.out.2, Or.inl ⟨HLt.out, HKl.out, by rw [HXX.out]; omega, by rw [HYY.out]; exact ho, by rw [HXX.out, HYY.out]; exact hq⟩⟩)
                      clear ho hq
                      go_wp2_with fail
                      go_quiet (fail)
                      go_wp2_with fail
                      go_ret3
                      exact ⟨a, k, i, rfl, by rw [HST.out.1, HST.out.2]; exact HNum.out, below_dq9 (HDw.out _ HU.out.1) _⟩
                    · have m3 : ((y : Int) + ((nT : Int) - (oT : Int)) == (x : Int)) = false := by rw [beq_eq_false_iff_ne]; omega
                      have HNo := Lib.hid (show ¬ D.Mt S T oT nT i k from fun hm => by have := hm.2.2.2; rw [HXX.out, HYY.out] at this; exact hq this)
                      clear ho hq
                      go_wp2_with fail
                      go_quiet (fail)
                      go_wp2_with fail
                      go_roundg (S.length - (k + 1))
                      case measure => omega
                      case rel => exact ⟨k + 1, by omega, by go_num, Lib.hid ⟨below_dq9 HU.out.1 _, fun k' h => by
                        by_cases e : k' = k
                        · subst e; exact HNo.out
                        · exact HU.out.2 k' (by omega)⟩⟩
                  · have m1 : decide ((oT : Int) ≤ (y : Int)) = false := decide_eq_false (by omega)
                    have m2 : decide (oT ≤ y) = false := decide_eq_false ho
                    have HNo := Lib.hid (show ¬ D.Mt S T oT nT i k from fun hm => by have := hm.2.2.1; rw [HYY.out] at this; exact ho this)
                    clear ho
                    go_wp2_with fail
                    go_quiet (fail)
                    go_wp2_with fail
                    go_roundg (S.length - (k + 1))
                    case measure => omega
                    case rel => exact ⟨k + 1, by omega, by go_num, Lib.hid ⟨below_dq9 HU.out.1 _, fun k' h => by
                      by_cases e : k' = k
                      · subst e; exact HNo.out
                      · exact HU.out.2 k' (by omega)⟩⟩
                · have k1 : ¬ (k : Int) < (S.length : Int) := by omega
                  have HKl := Lib.hid hkl
                  clear hkl
                  go_wp2_with fail
                  go_roundg (T.length - (i + 1))
                  case measure => omega
                  case rel => exact ⟨i + 1, by omega, by omega, by go_num, Lib.hid ⟨HU.out.1, fun i' h1 h2 k' => by
                    by_cases e : i' = i
                    · subst e
                      by_cases e2 : k' < k
                      · exact HU.out.2 k' e2
                      · intro hm; have := hm.1; have := HKl.out; omega
                    · exact HV.out.2 i' h1 (by omega) k'⟩⟩
          · have i1 : ¬ (i : Int) < (T.length : Int) := by omega
            have HNum := Lib.hid (show D.IsNum S T oF oT nT a S.length T.length from ⟨HWi.out, haT, fun i' h1 h2 => HV.out.2 i' h1 (by omega), Or.inr ⟨rfl, rfl⟩⟩)
            clear hlt
            go_wp2_with fail
            go_ret3
            exact ⟨a, S.length, T.length, rfl, by rw [HST.out.1, HST.out.2]; exact HNum.out, HDw.out _ HV.out.1⟩
    · have f1 : decide ((i : Int) < (S.length : Int)) = false := decide_eq_false (by omega)
      have f2 : decide (i < S.length) = false := decide_eq_false hlt
      have HWi := Lib.hid (show D.Wi S oF i from ⟨by omega, HW.out.2, fun t ht => by
        have := (List.getElem?_eq_some_iff.1 ht).1
        exact absurd this hlt⟩)
      clear hlt
      have HBQ := Lib.hid (fun q => below_dq9 HW.out.1 q)
      go_wp2_with fail
      go_quiet (fail)
      generalize hWX : wr.drewN _ = WX
      have HBX := Lib.hid (show Below w3.heap.size w3 WX by rw [← hWX]; exact HBQ.out _)
      clear hWX y0 y1 y2 HW
      obtain ⟨a, rfl⟩ : ∃ a, a = i := ⟨i, rfl⟩
      have hf := HFst.out a HWi.out
      have ha16 : a ≤ S.length := HWi.out.1
      have haT : a ≤ T.length := hf.1
      have HB4 := Lib.hid (show Below w3.heap.size w3 WX from HBX.out)
      obtain ⟨y0, y1, y2⟩ := HC.out _ HBX.out
      clear hf
      go_wp2_with fail
      go_loopg [15] (T.length - a) (fun g s15 wx => ∃ i : Nat, i + g = T.length ∧ a ≤ i ∧ s15 = .int .i64 i ∧ Hid (Below w3.heap.size w3 wx ∧ ∀ i', a ≤ i' → i' < i → ∀ k, ¬ D.Mt S T oT nT i' k))
      case atStart => exact ⟨a, by omega, Nat.le_refl _, rfl, Lib.hid ⟨HB4.out, fun i' h1 h2 => by omega⟩⟩
      case round =>
        clear y0 y1 y2
        obtain ⟨i, hgi, hai, rfl, HV⟩ := hrel
        obtain ⟨y0, y1, y2⟩ := HC.out _ HV.out.1
        by_cases hlt : i < T.length
        · obtain ⟨b6, o6, rfl, _, d0, d1⟩ := (H3.out.2.1.below HV.out.1).sp HFT.out hlt
          have hx := HLT.out i (by omega)
          have hi5 : i ≤ 16000 := by omega
          have HLt := Lib.hid hlt
          generalize hxx : D.bg T i = x at *
          have HXX := Lib.hid hxx
          have i1 : (i : Int) < (T.length : Int) := by omega
          have i0 : (0 : Int) ≤ (i : Int) := Int.natCast_nonneg i
          have i3 : (i : Int) ≤ 1000000000000000 := by omega
          clear hxx d1
          by_cases hn : x < nT
          · have k1 : (x : Int) < (nT : Int) := by omega
            have HN := Lib.hid (show ∀ k, ¬ D.Mt S T oT nT i k from fun k hm => by have := hm.2.1; rw [HXX.out] at this; omega)
            clear hn
            go_wp2_with fail
            go_quiet (fail)
            go_wp2_with fail
            go_roundg (T.length - (i + 1))
            case measure => omega
            case rel => exact ⟨i + 1, by omega, by omega, by go_num, Lib.hid ⟨below_dq9 HV.out.1 _, fun i' h1 h2 k => by
              by_cases e : i' = i
              · subst e; exact HN.out k
              · exact HV.out.2 i' h1 (by omega) k⟩⟩
          · have k1 : ¬ (x : Int) < (nT : Int) := by omega
            have HNn := Lib.hid hn
            clear hn
            go_wp2_with fail
            go_quiet (fail)
            have HB6 := Lib.hid (fun q => below_dq9 HV.out.1 q)
            go_wp2_with fail
            go_loopg [16] S.length (fun g s16 wx => ∃ k : Nat, k + g = S.length ∧ s16 = .int .i64 k ∧ Hid (Below w3.heap.size w3 wx ∧ ∀ k', k' < k → ¬ D.Mt S T oT nT i k'))
            case atStart => exact ⟨0, by omega, rfl, Lib.hid ⟨HB6.out _, fun k' h => by omega⟩⟩
            case round =>
              clear y0 y1 y2 d0
              obtain ⟨k, hgk, rfl, HU⟩ := hrel
              obtain ⟨y0, y1, y2⟩ := HC.out _ HU.out.1
              by_cases hkl : k < S.length
              · obtain ⟨b7, o7, e7, _, d0, _⟩ := (H3.out.2.1.below HU.out.1).sp HFT.out HLt.out
                cases e7
                rw [HXX.out] at d0
                obtain ⟨b8, o8, e8, _, f0, f1⟩ := (H3.out.1.below HU.out.1).sp HFS.out hkl
                cases e8
                have hy := HLS.out k (by omega)
                have HKl := Lib.hid hkl
                generalize hyy : D.bg S k = y at *
                have HYY := Lib.hid hyy
                have k1 : (k : Int) < (S.length : Int) := by omega
                have k0 : (0 : Int) ≤ (k : Int) := Int.natCast_nonneg k
                have k3 : (k : Int) ≤ 1000000000000000 := by omega
                have k4 : k ≤ 16000 := by omega
                clear hyy f1
                by_cases ho : oT ≤ y
                · have m1 : decide ((oT : Int) ≤ (y : Int)) = true := decide_eq_true (by omega)
                  have m2 : (oT : Int) ≤ (y : Int) := by omega
                  by_cases hq : y + nT = x + oT
                  · have m3 : ((y : Int) + ((nT : Int) - (oT : Int)) == (x : Int)) = true := by rw [beq_iff_eq]; omega
                    have HNum := Lib.hid (show D.IsNum S T oF oT nT a k i from ⟨HWi.out, hai, HV.out.2, Or.inl ⟨HLt.out, HKl.out, by rw [HXX.out]; omega, by rw [HYY.out]; exact ho, by rw [HXX.out, HYY.out]; exact hq⟩⟩)
                    clear ho hq
                    go_wp2_with fail
                    go_quiet (fail)
                    go_wp2_with fail
                    go_ret3
                    exact ⟨a, k, i, rfl, by rw [HST.out.1, HST.out.2]; exact HNum.out, below_dq9 (HDw.out _ HU.out.1) _⟩
                  · have m3 : ((y : Int) + ((nT : Int) - (oT : Int)) == (x : Int)) = false := by rw [beq_eq_false_iff_ne]; omega
                    have HNo := Lib.hid (show ¬ D.Mt S T oT nT i k from fun hm => by have := hm.2.2.2; rw [HXX.out, HYY.out] at this; exact hq this)
                    clear ho hq
                    go_wp2_with fail
                    go_quiet (fail)
                    go_wp2_with fail
                    go_roundg (S.length - (k + 1))
                    case measure => omega
                    case rel => exact ⟨k + 1, by omega, by go_num, Lib.hid ⟨below_dq9 HU.out.1 _, fun k' h => by
                      by_cases e : k' = k
                      · subst e; exact HNo.out
                      · exact HU.out.2 k' (by omega)⟩⟩
                · have m1 : decide ((oT : Int) ≤ (y : Int)) = false := decide_eq_false (by omega)
                  have m2 : decide (oT ≤ y) = false := decide_eq_false ho
                  have HNo := Lib.hid (show ¬ D.Mt S T oT nT i k from fun hm => by have := hm.2.2.1; rw [HYY.out] at this; exact ho this)
                  clear ho
                  go_wp2_with fail
                  go_quiet (fail)
                  go_wp2_with fail
                  go_roundg (S.length - (k + 1))
                  case measure => omega
                  case rel => exact ⟨k + 1, by omega, by go_num, Lib.hid ⟨below_dq9 HU.out.1 _, fun k' h => by
                    by_cases e : k' = k
                    · subst e; exact HNo.out
                    · exact HU.out.2 k' (by omega)⟩⟩
              · have k1 : ¬ (k : Int) < (S.length : Int) := by omega
                have HKl := Lib.hid hkl
                clear hkl
                go_wp2_with fail
                go_roundg (T.length - (i + 1))
                case measure => omega
                case rel => exact ⟨i + 1, by omega, by omega, by go_num, Lib.hid ⟨HU.out.1, fun i' h1 h2 k' => by
                  by_cases e : i' = i
                  · subst e
                    by_cases e2 : k' < k
                    · exact HU.out.2 k' e2
                    · intro hm; have := hm.1; have := HKl.out; omega
                  · exact HV.out.2 i' h1 (by omega) k'⟩⟩
        · have i1 : ¬ (i : Int) < (T.length : Int) := by omega
          have HNum := Lib.hid (show D.IsNum S T oF oT nT a S.length T.length from ⟨HWi.out, haT, fun i' h1 h2 => HV.out.2 i' h1 (by omega), Or.inr ⟨rfl, rfl⟩⟩)
          clear hlt
          go_wp2_with fail
          go_ret3
          exact ⟨a, S.length, T.length, rfl, by rw [HST.out.1, HST.out.2]; exact HNum.out, HDw.out _ HV.out.1⟩
end Ytglanajglhneeaa
end Go.Proofs
