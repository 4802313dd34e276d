/- At, Next, the document's, of any list of tokens. Conditions: none. -/
import Derived.Test.YthglpfmbmmlbjaaDoorLxRefS
namespace Go.Proofs
open Go Go.RowKit Go.Lib
namespace YthglpfmbmmlbjaaDoor
namespace D
theorem nx_lt {ts : List TkI} {n : Int} {i : Nat} (h : (i : Int) + 1 = n) (hi : i + 1 ≤ ts.length) : nx ts n = nxF ts (ts.length - (i + 1)) (i + 1) := by
  unfold nx
  have e : n.toNat = i + 1 := by omega
  by_cases h1 : (ts.length : Int) ≤ n
  · have h2 : i + 1 = ts.length := by omega
    rw [if_pos h1, h2, nxF_end]
  · rw [if_neg h1, e]
theorem nx_le {ts : List TkI} {n : Int} (h : n ≤ 0) : nx ts n = nxF ts (ts.length - 0) 0 := by
  unfold nx
  by_cases h1 : (ts.length : Int) ≤ n
  · have h2 : ts.length = 0 := by omega
    rw [if_pos h1, h2]; rfl
  · rw [if_neg h1, show n.toNat = 0 by omega]
theorem atI_neg {ts : List TkI} {p : Int} (h : p < 0) : atI ts p = -1 := by unfold atI; rw [if_pos h]
theorem atI_pos {ts : List TkI} {p : Int} (h : ¬ p < 0) : atI ts p = atF ts p ts.length 0 := by unfold atI; rw [if_neg h]
end D
set_option maxHeartbeats 1000000 in
set_option maxRecDepth 100000 in
theorem refNext_list (v : Value) (ts : List TkI) (n : Int) (hn : I6 n) (w : World) (h : RdT w v ts) : Calls Tryd.prog 12 #[v, .int .i64 n] w (fun e w' => e = .returned (.int .i64 (D.nx ts n)) ∧ SameN w w') := by
  obtain ⟨z, cap, rfl, hlc, hcap, hlen, hok, hr⟩ := h
  unfold I6 at hn
  have HR := Lib.hid hr
  have HOk := Lib.hid hok
  generalize hy : D.nx ts n = y
  have HY := Lib.hid hy
  have HC := Lib.hid refCounts_any
  clear hr hok hy
  go_enter Tryd.func12, Tryd.ntmps12
  go_wp2_with fail
  go_loopw [5] (fun p wr => ∃ i : Nat, p = .int .i64 i ∧ i ≤ ts.length ∧ Hid (SameN w wr ∧ (n ≤ (i : Int) → D.nxF ts (ts.length - i) i = y))) (fun p _ => ts.length - (RowKit.intOf p).toNat)
  case atStart => exact ⟨0, rfl, Nat.zero_le _, Lib.hid ⟨rfl, fun h => by rw [← HY.out]; exact (D.nx_le h).symm⟩⟩
  case round =>
    obtain ⟨i, rfl, hi, HW⟩ := hrel
    obtain rfl : wr = w := HW.out.1
    by_cases hlt : i < ts.length
    · obtain ⟨t, hj⟩ : ∃ t, ts[i]? = some t := ⟨_, List.getElem?_eq_getElem hlt⟩
      obtain ⟨b, o, rfl, hb, c0, c1, c2⟩ := HR.out i t hj
      have hk := (HOk.out t (List.mem_of_getElem? hj)).1
      have hc := fun W => HC.out t.k hk W
      have i1 : (i : Int) < (ts.length : Int) := by omega
      have i0 : (0 : Int) ≤ (i : Int) := Int.natCast_nonneg i
      have i2 : (i : Int) ≤ 1000000000000000 := by omega
      have HL := Lib.hid (And.intro hlt hj)
      by_cases hni : n ≤ (i : Int)
      · have e1 : decide (n ≤ (i : Int)) = true := decide_eq_true hni
        have hv := HW.out.2 hni
        obtain ⟨f, hf⟩ : ∃ f, ts.length - i = f + 1 := ⟨ts.length - i - 1, by omega⟩
        have HF := Lib.hid hf
        have HV := Lib.hid hv
        clear hj hlt hf hv c1 c2 hk hni
        cases hcn : D.cnt t.k
        · rw [hcn] at hc
          have HN := Lib.hid (D.nxF_no (f := f) HL.out.2 hcn)
          generalize t.k = k at *
          go_wp2_with fail
          refine (hc _).mono ?_
          rintro e w1 ⟨rfl, rfl⟩
          go_wp2_with fail
          go_roundw
          case rel => exact ⟨i + 1, by go_num, HL.out.1, Lib.hid ⟨rfl, fun _ => by rw [← HV.out, HF.out, HN.out]; congr 1; have := HF.out; omega⟩⟩
          case measure => have := HL.out.1; simp [RowKit.intOf]; omega
        · rw [hcn] at hc
          have HN := Lib.hid (D.nxF_yes (f := f) HL.out.2 hcn)
          generalize t.k = k at *
          go_wp2_with fail
          refine (hc _).mono ?_
          rintro e w1 ⟨rfl, rfl⟩
          go_wp2_with fail
          go_ret
          exact ⟨by rw [← HV.out, HF.out, HN.out]; rfl, rfl⟩
      · have e1 : decide (n ≤ (i : Int)) = false := decide_eq_false hni
        have HNI := Lib.hid hni
        clear hj hlt c0 c1 c2 hk hni hc
        go_wp2_with fail
        go_roundw
        case rel => exact ⟨i + 1, by go_num, HL.out.1, Lib.hid ⟨rfl, fun h => by rw [← HY.out]; exact (D.nx_lt (by have := HNI.out; omega) HL.out.1).symm⟩⟩
        case measure => have := HL.out.1; simp [RowKit.intOf]; omega
    · obtain rfl : i = ts.length := by omega
      have hv : y = ts.length := by
        by_cases hni : n ≤ (ts.length : Int)
        · rw [← HW.out.2 hni, D.nxF_end]
        · rw [← HY.out]; unfold D.nx; rw [if_pos (by omega)]
      have HV := Lib.hid hv
      clear hlt hv
      go_wp2_with fail
      go_ret
      exact ⟨by rw [HV.out]; rfl, rfl⟩
set_option maxHeartbeats 1000000 in
set_option maxRecDepth 100000 in
theorem refAt_any (v : Value) (ts : List TkI) (p : Int) (hp : I6 p) (w : World) (h : RdT w v ts) (hlen8 : ts.length ≤ 1000000000) : Calls Tryd.prog 10 #[v, .int .i64 p] w (IntB (D.atI ts p) w) := by
  have HS := Lib.hid (refSpans_any v ts w h hlen8)
  unfold I6 at hp
  generalize hy : D.atI ts p = y
  have HY := Lib.hid hy
  clear hy h
  go_enter Tryd.func10, Tryd.ntmps10
  go_wp2_with fail
  refine HS.out.mono ?_
  rintro e w1 ⟨v2, rfl, hrd, hB⟩
  have HB := Lib.hid hB
  obtain ⟨z, cap, rfl, hr⟩ := hrd
  have HR := Lib.hid hr
  clear hr hB
  go_wp2_with fail
  go_loopw [6] (fun q wr => ∃ i : Nat, q = .int .i64 i ∧ i ≤ ts.length ∧ Hid (SameN w1 wr ∧ (p < 0 ∨ (D.spAt ts i ≤ p ∧ D.atF ts p (ts.length - i) i = y)))) (fun q _ => ts.length - (RowKit.intOf q).toNat)
  case atStart =>
    refine ⟨0, rfl, Nat.zero_le _, Lib.hid ⟨rfl, ?_⟩⟩
    by_cases hneg : p < 0
    · exact Or.inl hneg
    · exact Or.inr ⟨by show (0 : Int) ≤ p; omega, by rw [← HY.out]; exact (D.atI_pos hneg).symm⟩
  case round =>
    obtain ⟨i, rfl, hi, HW⟩ := hrel
    obtain rfl : wr = w1 := HW.out.1
    by_cases hlt : i < ts.length
    · obtain ⟨b, o, rfl, hb, c0, c1⟩ := HR.out i hlt
      have hin := D.spAt_in ts i
      have i1 : (i : Int) < (ts.length : Int) := by omega
      have i0 : (0 : Int) ≤ (i : Int) := Int.natCast_nonneg i
      have i2 : (i : Int) ≤ 1000000000000000 := by omega
      have HL := Lib.hid hlt
      obtain ⟨f, hf⟩ : ∃ f, ts.length - i = f + 1 := ⟨ts.length - i - 1, by omega⟩
      have HF := Lib.hid hf
      rcases HW.out.2 with hneg | ⟨h1, h2⟩
      · have e1 : decide (D.spAt ts i ≤ p) = false := decide_eq_false (by omega)
        have HN := Lib.hid hneg
        clear c1 hlt hf hneg hin
        generalize D.spAt ts i = x at *
        go_wp2_with fail
        go_roundw
        case rel => exact ⟨i + 1, by go_num, HL.out, Lib.hid ⟨rfl, Or.inl HN.out⟩⟩
        case measure => have := HL.out; simp [RowKit.intOf]; omega
      · have e1 : decide (D.spAt ts i ≤ p) = true := decide_eq_true h1
        have H2 := Lib.hid h2
        by_cases h3 : p < D.spAt ts (i + 1)
        · have e2 : decide (p < D.spAt ts (i + 1)) = true := decide_eq_true h3
          have HN := Lib.hid (D.atF_yes (f := f) hlt h3)
          clear hlt hf h1 h2 h3 hin
          generalize D.spAt ts i = x at *
          generalize D.spAt ts (i + 1) = x2 at *
          go_wp2_with fail
          go_ret
          exact ⟨by rw [← H2.out, HF.out, HN.out]; rfl, HB.out⟩
        · have e2 : decide (p < D.spAt ts (i + 1)) = false := decide_eq_false h3
          have HN := Lib.hid (And.intro h3 (D.atF_no (f := f) hlt h3))
          clear hlt hf h1 h2 h3 hin
          generalize D.spAt ts i = x at *
          generalize hx2 : D.spAt ts (i + 1) = x2 at *
          have HX2 := Lib.hid hx2
          clear hx2
          go_wp2_with fail
          go_roundw
          case rel => exact ⟨i + 1, by go_num, HL.out, Lib.hid ⟨rfl, Or.inr ⟨by rw [HX2.out]; have := HN.out.1; omega, by rw [← H2.out, HF.out, HN.out.2]; congr 1; have := HF.out; omega⟩⟩⟩
          case measure => have := HL.out; simp [RowKit.intOf]; omega
    · have hv : y = -1 := by
        rcases HW.out.2 with hneg | ⟨_, h2⟩
        · rw [← HY.out]; exact D.atI_neg hneg
        · rw [← h2]; exact D.atF_end hlt
      have HV := Lib.hid hv
      have i1 : ¬ (i : Int) < (ts.length : Int) := by omega
      clear hlt hv
      go_wp2_with fail
      go_ret
      exact ⟨by rw [HV.out]; rfl, HB.out⟩
end YthglpfmbmmlbjaaDoor
end Go.Proofs
