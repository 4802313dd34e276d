/- Of relex: measure, lies, fault, within. Conditions: tokens of a text. -/
import Derived.Test.YtglanajglhneeaaMX14
import Derived.Test.YtglanajglhneeaaMX32
import Derived.Deep.QuietTactic
import Derived.BigQuiet
namespace Go.Proofs
open Go Go.RowKit Go.Lib
namespace Ytglanajglhneeaa
/-- tokens of a text that is not too long -/
def D.Fine (ts : List D.Tk) : Prop := ts.length ≤ 20000 ∧ D.Pos ts ∧ D.bg ts ts.length ≤ 20000 ∧ ∀ t ∈ ts, t.k < 256 ∧ t.w ≤ 20000 ∧ t.l ≤ 3
theorem D.toks_fine (s : ByteArray) (h : s.size ≤ 20000) : D.Fine (D.toks s) := by
  refine ⟨by have := D.toks_len s; omega, D.toks_pos s, by rw [D.bg_len]; exact h, fun t ht => ?_⟩
  have := D.tkF_all s _ _ t ht
  omega
theorem D.Fine.le {ts : List D.Tk} (h : D.Fine ts) {n : Nat} (hn : n ≤ ts.length) : D.bg ts n ≤ 20000 := Nat.le_trans (D.bg_mono h.2.1 hn (Nat.le_refl _)) h.2.2.1
theorem D.Fine.at {ts : List D.Tk} (h : D.Fine ts) {n : Nat} {t : D.Tk} (ht : ts[n]? = some t) : (t.k < 256 ∧ 0 < t.w ∧ t.w ≤ 20000 ∧ t.l ≤ 3) ∧ D.bg ts (n + 1) = D.bg ts n + t.w ∧ D.bg ts n + t.w ≤ 20000 := by
  have hm := List.mem_of_getElem? ht
  have h1 := h.2.2.2 t hm
  have h2 := h.2.1 t hm
  have h3 := h.le (show n + 1 ≤ ts.length from (List.getElem?_eq_some_iff.1 ht).1)
  rw [D.bg_succ ht] at h3
  exact ⟨⟨h1.1, h2, h1.2.1, h1.2.2⟩, D.bg_succ ht, h3⟩
/-- a token of a list that is read -/
theorem RdT.tk {W : World} {z : Option Addr} {n cap : Nat} {ts : List D.Tk} (h : RdT W (.slice z n cap) (ts.map D.Tk.i)) {j : Nat} {t : D.Tk} (ht : ts[j]? = some t) : ∃ b o, z = some ⟨b, o, none⟩ ∧ b < W.heap.size ∧ W.cell? ⟨b, o + j * 3, none⟩ = some (.int .u8 (t.k : Int)) ∧ W.cell? ⟨b, o + j * 3 + 1, none⟩ = some (.int .i64 (t.w : Int)) ∧ W.cell? ⟨b, o + j * 3 + 2, none⟩ = some (.int .i64 (t.l : Int)) := by
  obtain ⟨z2, c2, hv, _, _, _, _, hr⟩ := h
  injection hv with h1 h2 h3
  subst h1
  exact hr j t.i (by rw [List.getElem?_map, ht]; rfl)
/-- a list's first tokens -/
theorem RdT.takes {W : World} {z : Option Addr} {n cap : Nat} {ts : List TkI} (h : RdT W (.slice z n cap) ts) (k : Nat) (hk : k ≤ n) : RdT W (.slice z k cap) (ts.take k) := by
  obtain ⟨z2, c2, hv, h1, h2, h3, h4, hr⟩ := h
  injection hv with e1 e2 e3
  subst e1 e2 e3
  have hl : (ts.take k).length = k := by rw [List.length_take]; omega
  refine ⟨z, cap, by rw [hl], by omega, h2, by omega, fun t ht => h4 t (List.mem_of_mem_take ht), fun j t hj => hr j t ?_⟩
  have hjk : j < k := by have := (List.getElem?_eq_some_iff.1 hj).1; omega
  rwa [List.getElem?_take_of_lt hjk] at hj
/-- and the others -/
theorem RdT.drops {W : World} {z : Option Addr} {n cap : Nat} {ts : List TkI} (h : RdT W (.slice z n cap) ts) (k : Nat) (hk : k ≤ n) (z' : Option Addr) (hz : k < n → ∀ b o, z = some ⟨b, o, none⟩ → z' = some ⟨b, o + k * 3, none⟩) (cap' : Nat) (hc : n - k ≤ cap') (hc2 : cap' ≤ 9223372036854775807) : RdT W (.slice z' (n - k) cap') (ts.drop k) := by
  obtain ⟨z2, c2, hv, h1, h2, h3, h4, hr⟩ := h
  injection hv with e1 e2 e3
  subst e1 e2 e3
  have hl : (ts.drop k).length = ts.length - k := List.length_drop
  refine ⟨z', cap', by rw [hl], by omega, hc2, by omega, fun t ht => h4 t (List.mem_of_mem_drop ht), fun j t hj => ?_⟩
  have hjk : j < ts.length - k := by have := (List.getElem?_eq_some_iff.1 hj).1; omega
  rw [List.getElem?_drop] at hj
  obtain ⟨b, o, rfl, hb, c0, c1, c2⟩ := hr _ t hj
  refine ⟨b, o + k * 3, hz (by omega) b o rfl, hb, ?_, ?_, ?_⟩
  · rw [← c0]; congr 2; omega
  · rw [← c1]; congr 2; omega
  · rw [← c2]; congr 2; omega
theorem below_dq9 {a w : World} {n : Nat} (h : Below n a w) (q : Nat) : Below n a (w.drewN q) := ⟨h.os, h.tape, h.output, h.size, h.block⟩
theorem RdT.len {W : World} {z : Option Addr} {n cap : Nat} {ts : List TkI} (h : RdT W (.slice z n cap) ts) : n = ts.length := by
  obtain ⟨z2, c2, hv, _⟩ := h
  injection hv
set_option maxHeartbeats 2000000 in
set_option maxRecDepth 100000 in
theorem within_any (v : Value) (ts : List D.Tk) (c : Nat) (hc : c ≤ 1000000) (w : World) (h : RdT w v (ts.map D.Tk.i)) (hf : D.Fine ts) : Calls Try.prog 36 #[v, .int .i64 c] w (fun e w' => ∃ n, D.Wi ts c n ∧ e = .returned (.tuple #[.int .i64 (n : Int), .int .i64 (D.bg ts n : Int)]) ∧ Below w.heap.size w w') := by
  have HRd := Lib.hid h
  have HF := Lib.hid hf
  obtain ⟨z, cap, rfl, hlc, hcap, hlen, _, _⟩ := h
  have hl0 := hf.1
  rw [List.length_map] at *
  clear hf
  go_enter Try.func36, Try.ntmps36
  go_wp2_with fail
  go_loopw [4, 5] (fun a b wr => ∃ (i x : Nat), a = .int .i64 i ∧ b = .int .i64 x ∧ i ≤ ts.length ∧ x ≤ 20000 ∧ Hid (Below w.heap.size w wr ∧ x = D.bg ts i ∧ ∀ j t, j < i → ts[j]? = some t → D.bg ts j + t.w + t.l ≤ c)) (fun a _ _ => ts.length - (RowKit.intOf a).toNat)
  case atStart => exact ⟨0, 0, rfl, rfl, Nat.zero_le _, Nat.zero_le _, Lib.hid ⟨Below.refl _ _, (D.bg_zero ts).symm, fun j t hj => absurd hj (Nat.not_lt_zero _)⟩⟩
  case round =>
    obtain ⟨i, x, rfl, rfl, hi, hx, HW⟩ := hrel
    by_cases hlt : i < ts.length
    · obtain ⟨t, ht⟩ : ∃ t, ts[i]? = some t := ⟨_, List.getElem?_eq_getElem hlt⟩
      have hat := HF.out.at ht
      rw [← HW.out.2.1] at hat
      obtain ⟨b, o, rfl, _, c0, c1, c2⟩ := (HRd.out.below HW.out.1).tk ht
      have i1 : (i : Int) < (ts.length : Int) := by omega
      have i0 : (0 : Int) ≤ (i : Int) := Int.natCast_nonneg i
      have i3 : (i : Int) ≤ 1000000000000000 := by omega
      have i4 : i < ts.length := hlt
      have HX := Lib.hid (And.intro ht hat)
      obtain ⟨tk, tw, tl⟩ := t
      simp only at c0 c1 c2 hat
      have hb := hat.2.2
      have hw2 := hat.1
      clear ht hat hlt
      by_cases hle : x + tw + tl ≤ c
      · have e1 : decide ((x : Int) + (tw : Int) + (tl : Int) ≤ (c : Int)) = true := decide_eq_true (by omega)
        clear hle
        go_wp2_with fail
        go_quiet (fail)
        go_wp2_with fail
        go_roundw
        case rel => exact ⟨i + 1, x + tw, by go_num, by go_num, i4, by omega, Lib.hid ⟨below_dq9 HW.out.1 _, HX.out.2.2.1.symm, fun j t hj hjt => by
          by_cases e : j = i
          · subst e
            rw [HX.out.1] at hjt
            cases hjt
            rw [← HW.out.2.1]
            have := of_decide_eq_true e1
            simp only
            omega
          · exact HW.out.2.2 j t (by omega) hjt⟩⟩
        case measure => simp [RowKit.intOf]; omega
      · have e1 : decide ((x : Int) + (tw : Int) + (tl : Int) ≤ (c : Int)) = false := decide_eq_false (by omega)
        have HY := Lib.hid hle
        clear hle
        go_wp2_with fail
        go_quiet (fail)
        go_wp2_with fail
        go_ret2
        refine ⟨i, ⟨by omega, HW.out.2.2, fun t ht => ?_⟩, by rw [← HW.out.2.1]; rfl, below_dq9 HW.out.1 _⟩
        rw [HX.out.1] at ht
        cases ht
        rw [← HW.out.2.1]
        exact HY.out
    · have e1 : decide ((i : Int) < (ts.length : Int)) = false := decide_eq_false (by omega)
      have e2 : decide (i < ts.length) = false := decide_eq_false hlt
      have HY := Lib.hid hlt
      clear hlt
      go_wp2_with fail
      go_quiet (fail)
      go_wp2_with fail
      go_ret2
      refine ⟨i, ⟨by omega, HW.out.2.2, fun t ht => ?_⟩, by rw [← HW.out.2.1]; rfl, below_dq9 HW.out.1 _⟩
      have := (List.getElem?_eq_some_iff.1 ht).1
      exact absurd this HY.out
end Ytglanajglhneeaa
end Go.Proofs
