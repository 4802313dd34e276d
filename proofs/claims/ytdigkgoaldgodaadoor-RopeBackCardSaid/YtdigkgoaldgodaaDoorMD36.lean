/- A rope's stretches: asked for, replaced. Conditions: a rope's text and what comes in of at most 10^9 bytes; the library's tables. -/
import Derived.Test.YtdigkgoaldgodaaDoorMD35
namespace Go.Proofs.YtdigkgoaldgodaaDoor
open Go Go.RowKit Go.Lib

theorem mayR_spec {x : ByteArray} {f k : Int} (h : mayR x f k = true) : ∃ a b : Nat, f = (a : Int) ∧ k = (b : Int) ∧ a ≤ b ∧ b ≤ x.size ∧ U.bga x (a : Int) = a ∧ U.bga x (b : Int) = b := by
  unfold mayR at h
  rw [Bool.and_eq_true_iff, Bool.and_eq_true_iff, decide_eq_true_iff, decide_eq_true_iff, decide_eq_true_iff] at h
  obtain ⟨h1, h2, h3⟩ := h
  have l := U.bga_le x k
  refine ⟨U.bga x f, U.bga x k, h2.symm, h3.symm, by omega, l, ?_, ?_⟩
  · rw [h2]
  · rw [h3]
theorem may_parts {x : ByteArray} (hv : U.valid x = true) {a : Nat} (ha : a ≤ x.size) (h : U.bga x (a : Int) = a) : U.valid (x.extract 0 a) = true ∧ U.valid (x.extract a x.size) = true := by
  have hp := ext_parts x a ha
  have hz : (x.extract 0 a).size = a := by rw [ByteArray.size_extract]; omega
  refine U.valid_part _ _ (by rw [hp]; exact hv) ?_
  rw [hp, hz]; exact h
def SliceR (x : ByteArray) (f k : Int) (w : World) (e : Ending) (w' : World) : Prop := (∃ y n, e = .returned (.tuple #[.string y, .int .i64 n]) ∧ (mayR x f k = true → y = x.extract f.toNat k.toNat ∧ n = 0) ∧ (mayR x f k = false → y = ByteArray.empty ∧ n = 90)) ∧ Below w.heap.size w w'
set_option maxHeartbeats 4000000 in
set_option maxRecDepth 100000 in
theorem slice_any (v : Value) (t : R.T) (f k : Int) (w : World) (h : RopeAt w v t) (hs : t.tx.size ≤ 1000000000) (hf : I64 f) (hk : I64 k) (hT : Tabs w) : Calls Tryd.prog 13 #[v, .int .i64 f, .int .i64 k] w (SliceR t.tx f k w) := by
  have HH := Lib.hid (has_any v t f k w h hs hf hk hT)
  obtain ⟨b, rv, rfl, hb, hn, ht⟩ := h
  by_cases hm : mayR t.tx f k = true
  · obtain ⟨a, c, rfl, rfl, hac, hc, -, -⟩ := mayR_spec hm
    have HM := Lib.hid hm
    rw [hm] at HH
    have HC := Lib.hid (fun W (hB : Below w.heap.size w W) => (show W.cell? ⟨b, 0, none⟩ = some rv from by rw [Lib.cell_of_heap ((hB.block b (Array.getElem?_eq_some_iff.1 hb).1).trans hb)]; rfl))
    have HN := Lib.hid (fun W (hB : Below w.heap.size w W) => hn.on hB (Nat.le_refl _))
    have HF := Lib.hid (And.intro ht (And.intro hs (And.intro hac hc)))
    clear hb hn ht hs hf hk hT hm hac hc
    go_enter Tryd.func13, Tryd.ntmps13
    go_wp2_with fail
    refine HH.out.mono ?_
    rintro e w1 ⟨rfl, hB⟩
    have hBb := (Below.refl w1.heap.size w1).alloc (Nat.le_refl _) (.cells #[.pointer none, .slice none 0 0] 72)
    have H1 := Lib.hid (And.intro (hB.trans (hBb.mono hB.size)) (And.intro (IsB.fresh w1) (And.intro hB.size (show w1.heap.size ≤ (w1.alloc (.cells #[.pointer none, .slice none 0 0] 72)).heap.size by rw [World.size_alloc]; omega))))
    clear hB hBb
    go_upto_region 6 with fail
    generalize w1.alloc (.cells #[.pointer none, .slice none 0 0] 72) = W1 at *
    generalize w1.heap.size = N at *
    have c0 := HC.out W1 H1.out.1
    have HW := Lib.hid (write_any N N t rv a c [] W1 HF.out.1 ((HN.out W1 H1.out.1).up H1.out.2.2.1) HF.out.2.2.1 HF.out.2.2.2 (by have := HF.out.2.1; simp; omega) H1.out.2.1 H1.out.2.2.2)
    go_wp2_with fail
    refine HW.out.mono ?_
    rintro e w2 ⟨rfl, hb2, hB⟩
    rw [List.nil_append] at hb2
    have H2 := Lib.hid (And.intro (H1.out.1.trans (hB.mono H1.out.2.2.1)) (And.intro hb2 (Nat.le_trans H1.out.2.2.2 hB.size)))
    clear hB hb2 c0 HW
    go_wp2_with fail
    refine (string_any N N _ w2 H2.out.2.1 H2.out.2.2).mono ?_
    rintro e w3 ⟨rfl, hB, -⟩
    have H3 := Lib.hid (H2.out.1.trans (hB.mono H1.out.2.2.1))
    clear hB
    go_wp2_with fail
    go_ret2
    exact ⟨⟨_, _, rfl, fun _ => ⟨by simp, rfl⟩, fun h => by rw [HM.out] at h; cases h⟩, H3.out⟩
  · have hm : mayR t.tx f k = false := by simpa using hm
    have HM := Lib.hid hm
    rw [hm] at HH
    clear hb hn ht hs hf hk hT hm
    go_enter Tryd.func13, Tryd.ntmps13
    go_wp2_with fail
    refine HH.out.mono ?_
    rintro e w1 ⟨rfl, hB⟩
    have H1 := Lib.hid hB
    clear hB
    go_wp2_with fail
    go_ret2
    exact ⟨⟨_, _, rfl, fun h => by rw [HM.out] at h; (first | cases h), fun _ => ⟨rfl, rfl⟩⟩, H1.out⟩
/-- what Splice answers -/
def spE (x : ByteArray) (f k : Int) (s : ByteArray) : Int := if mayR x f k = true then (if U.valid s = true then (if 16384 - ((x.size : Int) - (k - f)) < (s.size : Int) then 3 else 0) else 10) else 90
def spT (x : ByteArray) (f k : Int) (s : ByteArray) : ByteArray := x.extract 0 f.toNat ++ s ++ x.extract k.toNat x.size
set_option maxHeartbeats 8000000 in
set_option maxRecDepth 100000 in
theorem splice_may (v : Value) (t : R.T) (a c : Nat) (s : ByteArray) (w : World) (h : RopeAt w v t) (hs : t.tx.size ≤ 1000000000) (hss : s.size ≤ 1000000000) (hac : a ≤ c) (hc : c ≤ t.tx.size) (hm : mayR t.tx a c = true) (v1 : U.valid (t.tx.extract 0 a) = true) (v2 : U.valid (t.tx.extract c t.tx.size) = true) (hT : Tabs w) :
    Calls Tryd.prog 10 #[v, .int .i64 (a : Nat), .int .i64 (c : Nat), .string s] w (NewR (spE t.tx a c s) (spT t.tx a c s) w) := by
  have HH := Lib.hid (has_any v t a c w h hs (by unfold I64; omega) (by unfold I64; omega) hT)
  rw [hm] at HH
  have HV := Lib.hid (fun W (hB : Below w.heap.size w W) => utfValid_any s W (by omega) (tabs_below hT hB))
  have HL := Lib.hid (fun W (hB : Below w.heap.size w W) => len_any v t W (h.below hB))
  have hcb : (R.cn t.tx).b = t.tx.size := rfl
  rw [hcb] at HL
  have hE : spE t.tx a c s = if U.valid s = true then (if 16384 - ((t.tx.size : Int) - ((c : Int) - (a : Int))) < (s.size : Int) then 3 else 0) else 10 := by unfold spE; rw [if_pos hm]
  have hX : spT t.tx a c s = t.tx.extract 0 a ++ s ++ t.tx.extract c t.tx.size := by unfold spT; simp
  rw [hE, hX]
  clear hE hX hcb
  obtain ⟨b, rv, rfl, hb, hn, ht⟩ := h
  have HC := Lib.hid (fun W (hB : Below w.heap.size w W) => (show W.cell? ⟨b, 0, none⟩ = some rv from by rw [Lib.cell_of_heap ((hB.block b (Array.getElem?_eq_some_iff.1 hb).1).trans hb)]; rfl))
  have HSp := Lib.hid (fun W (hB : Below w.heap.size w W) (v3 : U.valid s = true) => spliced_any rv t a c s W (hn.below hB) ht hac hc hs hss v1 v2 v3 (tabs_below hT hB))
  have n1 : (t.tx.size : Int) ≤ 1000000000 := by omega
  have n2 : (c : Int) ≤ 1000000000 := by omega
  have n3 : (a : Int) ≤ 1000000000 := by omega
  have n4 : (s.size : Int) ≤ 1000000000 := by omega
  clear hb hn ht hs hss hac hc hm v1 v2 hT
  generalize hvs : U.valid s = vs at *
  have HVs := Lib.hid hvs
  clear hvs
  obtain ⟨E, hE0⟩ : ∃ E : Int, E = if vs = true then (if 16384 - ((t.tx.size : Int) - ((c : Int) - (a : Int))) < (s.size : Int) then 3 else 0) else 10 := ⟨_, rfl⟩
  rw [← hE0]
  have HE := Lib.hid hE0
  clear hE0
  generalize t.tx.extract 0 a ++ s ++ t.tx.extract c t.tx.size = Y at *
  go_enter Tryd.func10, Tryd.ntmps10
  go_wp2_with fail
  refine HH.out.mono ?_
  rintro e w1 ⟨rfl, hB⟩
  have H1 := Lib.hid hB
  clear hB
  go_wp2_with fail
  refine (HV.out w1 H1.out).mono ?_
  rintro e w2 ⟨rfl, hB⟩
  have H2 := Lib.hid (H1.out.trans (hB.mono H1.out.size))
  clear hB
  cases vs
  · obtain rfl : E = 10 := by have := HE.out; rw [if_neg (by decide)] at this; exact this
    go_wp2_with fail
    go_ret2
    exact ⟨_, rfl, H2.out, .inr ⟨by decide, rfl⟩⟩
  · have hE1 := HE.out
    rw [if_pos rfl] at hE1
    have HE1 := Lib.hid hE1
    clear hE1 HE
    go_wp2_with fail
    refine (HL.out w2 H2.out).mono ?_
    rintro e w3 ⟨rfl, hB⟩
    have H3 := Lib.hid (H2.out.trans (hB.mono H2.out.size))
    clear hB
    by_cases hE : 16384 - ((t.tx.size : Int) - ((c : Int) - (a : Int))) < (s.size : Int)
    · obtain rfl : E = 3 := by have := HE1.out; rw [if_pos hE] at this; exact this
      go_wp2_with fail
      go_ret2
      exact ⟨_, rfl, H3.out, .inr ⟨by decide, rfl⟩⟩
    · obtain rfl : E = 0 := by have := HE1.out; rw [if_neg hE] at this; exact this
      have c0 := HC.out w3 H3.out
      go_wp2_with fail
      refine (HSp.out w3 H3.out trivial).mono ?_
      rintro e w4 ⟨tg, vg, rfl, ng, hg, hB⟩
      have H4 := Lib.hid (And.intro ng (And.intro hg (H3.out.trans (hB.mono H3.out.size))))
      clear ng hg hB c0
      have fin : ∀ vg', vg' = vg → NewR 0 Y w (.returned (.tuple #[.pointer (some ⟨w4.heap.size, 0, none⟩), .int .i64 0])) (w4.alloc (.cells #[vg'] 61)) := fun vg' e => by
        subst e
        have hBz := (Below.refl w4.heap.size w4).alloc (Nat.le_refl _) (.cells #[vg'] 61)
        exact ⟨_, rfl, H4.out.2.2.trans (hBz.mono H4.out.2.2.size), .inl ⟨rfl, tg, ⟨w4.heap.size, vg', rfl, heap_alloc_new _ _, H4.out.1.below hBz, H4.out.2.1.1⟩, H4.out.2.1.2⟩⟩
      have HFn := Lib.hid fin
      clear fin
      rcases H4.out.1.shape with rfl | ⟨T, x, rfl⟩
      · go_wp2_with fail
        go_ret2
        exact HFn.out _ rfl
      · go_wp2_with fail
        go_ret2
        exact HFn.out _ rfl
set_option maxHeartbeats 4000000 in
set_option maxRecDepth 100000 in
theorem splice_any (v : Value) (t : R.T) (f k : Int) (s : ByteArray) (w : World) (h : RopeAt w v t) (hs : t.tx.size ≤ 1000000000) (hss : s.size ≤ 1000000000) (hf : I64 f) (hk : I64 k) (hT : Tabs w) :
    Calls Tryd.prog 10 #[v, .int .i64 f, .int .i64 k, .string s] w (NewR (spE t.tx f k s) (spT t.tx f k s) w) := by
  by_cases hm : mayR t.tx f k = true
  · obtain ⟨a, c, rfl, rfl, hac, hc, ga, gc⟩ := mayR_spec hm
    have hv : U.valid t.tx = true := by obtain ⟨b, rv, rfl, hb, hn, ht⟩ := h; exact ht.valid
    exact splice_may v t a c s w h hs hss hac hc hm (may_parts hv (by omega) ga).1 (may_parts hv hc gc).2 hT
  · have HH := Lib.hid (has_any v t f k w h hs hf hk hT)
    have hE : spE t.tx f k s = 90 := by unfold spE; rw [if_neg hm]
    have hm : mayR t.tx f k = false := by simpa using hm
    rw [hm] at HH
    rw [hE]
    obtain ⟨b, rv, rfl, hb, hn, ht⟩ := h
    clear hb hn ht hs hf hk hT hm hE
    go_enter Tryd.func10, Tryd.ntmps10
    go_wp2_with fail
    refine HH.out.mono ?_
    rintro e w1 ⟨rfl, hB⟩
    have H1 := Lib.hid hB
    clear hB
    go_wp2_with fail
    go_ret2
    exact ⟨_, rfl, H1.out, .inr ⟨by decide, rfl⟩⟩
end Go.Proofs.YtdigkgoaldgodaaDoor
