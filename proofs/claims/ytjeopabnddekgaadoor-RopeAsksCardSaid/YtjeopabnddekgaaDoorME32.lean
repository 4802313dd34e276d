/- A rope's stretches: asked for, replaced. Conditions: a rope's text and what comes in of at most 10^9 bytes; the library's tables. -/
import Derived.Test.YtjeopabnddekgaaDoorME31
namespace Go.Proofs.YtjeopabnddekgaaDoor
open Go Go.RowKit Go.Lib

theorem mayR_spec {x : ByteArray} {f k : Int} (h : mayR x f k = true) : ∃ a b : Nat, f = (a : Int) ∧ k = (b : Int) ∧ a ≤ b ∧ b ≤ x.size ∧ U.bga x (a : Int) = a ∧ U.bga x (b : Int) = b := by
  unfold mayR at h
  rw [Bool.and_eq_true_iff, Bool.and_eq_true_iff, decide_eq_true_iff, decide_eq_true_iff, decide_eq_true_iff] at h
  obtain ⟨h1, h2, h3⟩ := h
  have l := U.bga_le x k
  refine ⟨U.bga x f, U.bga x k, h2.symm, h3.symm, by omega, l, ?_, ?_⟩
  · rw [h2]
  · rw [h3]
theorem may_parts {x : ByteArray} (hv : U.valid x = true) {a : Nat} (ha : a ≤ x.size) (h : U.bga x (a : Int) = a) : U.valid (x.extract 0 a) = true ∧ U.valid (x.extract a x.size) = true := by
  have hp := ext_parts x a ha
  have hz : (x.extract 0 a).size = a := by rw [ByteArray.size_extract]; omega
  refine U.valid_part _ _ (by rw [hp]; exact hv) ?_
  rw [hp, hz]; exact h
def SliceR (x : ByteArray) (f k : Int) (w : World) (e : Ending) (w' : World) : Prop := (∃ y n, e = .returned (.tuple #[.string y, .int .i64 n]) ∧ (mayR x f k = true → y = x.extract f.toNat k.toNat ∧ n = 0) ∧ (mayR x f k = false → y = ByteArray.empty ∧ n = 90)) ∧ Below w.heap.size w w'
set_option maxHeartbeats 4000000 in
set_option maxRecDepth 100000 in
theorem slice_any (v : Value) (t : R.T) (f k : Int) (w : World) (h : RopeAt w v t) (hs : t.tx.size ≤ 1000000000) (hf : I64 f) (hk : I64 k) (hT : Tabs w) : Calls Tryd.prog 16 #[v, .int .i64 f, .int .i64 k] w (SliceR t.tx f k w) := by
  have HH := Lib.hid (has_any v t f k w h hs hf hk hT)
  obtain ⟨b, rv, rfl, hb, hn, ht⟩ := h
  by_cases hm : mayR t.tx f k = true
  · obtain ⟨a, c, rfl, rfl, hac, hc, -, -⟩ := mayR_spec hm
    have HM := Lib.hid hm
    rw [hm] at HH
    have HC := Lib.hid (fun W (hB : Below w.heap.size w W) => (show W.cell? ⟨b, 0, none⟩ = some rv from by rw [Lib.cell_of_heap ((hB.block b (Array.getElem?_eq_some_iff.1 hb).1).trans hb)]; rfl))
    have HN := Lib.hid (fun W (hB : Below w.heap.size w W) => hn.on hB (Nat.le_refl _))
    have HF := Lib.hid (And.intro ht (And.intro hs (And.intro hac hc)))
    clear hb hn ht hs hf hk hT hm hac hc
    go_enter Tryd.func16, Tryd.ntmps16
    go_wp2_with fail
    refine HH.out.mono ?_
    rintro e w1 ⟨rfl, hB⟩
    have hBb := (Below.refl w1.heap.size w1).alloc (Nat.le_refl _) (.cells #[.pointer none, .slice none 0 0] 93)
    have H1 := Lib.hid (And.intro (hB.trans (hBb.mono hB.size)) (And.intro (IsB.fresh w1) (And.intro hB.size (show w1.heap.size ≤ (w1.alloc (.cells #[.pointer none, .slice none 0 0] 93)).heap.size by rw [World.size_alloc]; omega))))
    clear hB hBb
    go_upto_region 6 with fail
    generalize w1.alloc (.cells #[.pointer none, .slice none 0 0] 93) = W1 at *
    generalize w1.heap.size = N at *
    have c0 := HC.out W1 H1.out.1
    have HW := Lib.hid (write_any N N t rv a c [] W1 HF.out.1 ((HN.out W1 H1.out.1).up H1.out.2.2.1) HF.out.2.2.1 HF.out.2.2.2 (by have := HF.out.2.1; simp; omega) H1.out.2.1 H1.out.2.2.2)
    go_wp2_with fail
    refine HW.out.mono ?_
    rintro e w2 ⟨rfl, hb2, hB⟩
    rw [List.nil_append] at hb2
    have H2 := Lib.hid (And.intro (H1.out.1.trans (hB.mono H1.out.2.2.1)) (And.intro hb2 (Nat.le_trans H1.out.2.2.2 hB.size)))
    clear hB hb2 c0 HW
    go_wp2_with fail
    refine (string_any N N _ w2 H2.out.2.1 H2.out.2.2).mono ?_
    rintro e w3 ⟨rfl, hB, -⟩
    have H3 := Lib.hid (H2.out.1.trans (hB.mono H1.out.2.2.1))
    clear hB
    go_wp2_with fail
    go_ret2
    exact ⟨⟨_, _, rfl, fun _ => ⟨by simp, rfl⟩, fun h => by rw [HM.out] at h; cases h⟩, H3.out⟩
  · have hm : mayR t.tx f k = false := by simpa using hm
    have HM := Lib.hid hm
    rw [hm] at HH
    clear hb hn ht hs hf hk hT hm
    go_enter Tryd.func16, Tryd.ntmps16
    go_wp2_with fail
    refine HH.out.mono ?_
    rintro e w1 ⟨rfl, hB⟩
    have H1 := Lib.hid hB
    clear hB
    go_wp2_with fail
    go_ret2
    exact ⟨⟨_, _, rfl, fun h => by rw [HM.out] at h; (first | cases h), fun _ => ⟨rfl, rfl⟩⟩, H1.out⟩
/-- what Splice answers -/
def spE (x : ByteArray) (f k : Int) (s : ByteArray) : Int := if mayR x f k = true then (if U.valid s = true then (if 16384 - ((x.size : Int) - (k - f)) < (s.size : Int) then 3 else 0) else 10) else 90
def spT (x : ByteArray) (f k : Int) (s : ByteArray) : ByteArray := x.extract 0 f.toNat ++ s ++ x.extract k.toNat x.size
set_option maxHeartbeats 8000000 in
set_option maxRecDepth 100000 in
theorem splice_may (v : Value) (t : R.T) (a c : Nat) (s : ByteArray) (w : World) (h : RopeAt w v t) (hs : t.tx.size ≤ 1000000000) (hss : s.size ≤ 1000000000) (hac : a ≤ c) (hc : c ≤ t.tx.size) (hm : mayR t.tx a c = true) (v1 : U.valid (t.tx.extract 0 a) = true) (v2 : U.valid (t.tx.extract c t.tx.size) = true) (hT : Tabs w) :
    Calls Tryd.prog 13 #[v, .int .i64 (a : Nat), .int .i64 (c : Nat), .string s] w (NewR (spE t.tx a c s) (spT t.tx a c s) w) := by
  have HH := Lib.hid (has_any v t a c w h hs (by unfold I64; omega) (by unfold I64; omega) hT)
  rw [hm] at HH
  have HV := Lib.hid (fun W (hB : Below w.heap.size w W) => utfValid_any s W (by omega) (tabs_below hT hB))
  have HL := Lib.hid (fun W (hB : Below w.heap.size w W) => len_any v t W (h.below hB))
  have hcb : (R.cn t.tx).b = t.tx.size := rfl
  rw [hcb] at HL
  have hE : spE t.tx a c s = if U.valid s = true then (if 16384 - ((t.tx.size : Int) - ((c : Int) - (a : Int))) < (s.size : Int) then 3 else 0) else 10 := by unfold spE; rw [if_pos hm]
  have hX : spT t.tx a c s = t.tx.extract 0 a ++ s ++ t.tx.extract c t.tx.size := by unfold spT; simp
  rw [hE, hX]
  clear hE hX hcb
  obtain ⟨b, rv, rfl, hb, hn, ht⟩ := h
  have HC := Lib.hid (fun W (hB : Below w.heap.size w W) => (show W.cell? ⟨b, 0, none⟩ = some rv from by rw [Lib.cell_of_heap ((hB.block b (Array.getElem?_eq_some_iff.1 hb).1).trans hb)]; rfl))
  have HSp := Lib.hid (fun W (hB : Below w.heap.size w W) (v3 : U.valid s = true) => spliced_any rv t a c s W (hn.below hB) ht hac hc hs hss v1 v2 v3 (tabs_below hT hB))
  have n1 : (t.tx.size : Int) ≤ 1000000000 := by omega
  have n2 : (c : Int) ≤ 1000000000 := by omega
  have n3 : (a : Int) ≤ 1000000000 := by omega
  have n4 : (s.size : Int) ≤ 1000000000 := by omega
  clear hb hn ht hs hss hac hc hm v1 v2 hT
  generalize hvs : U.valid s = vs at *
  have HVs := Lib.hid hvs
  clear hvs
  obtain ⟨E, hE0⟩ : ∃ E : Int, E = if vs = true then (if 16384 - ((t.tx.size : Int) - ((c : Int) - (a : Int))) < (s.size : Int) then 3 else 0) else 10 := ⟨_, rfl⟩
  rw [← hE0]
  have HE := Lib.hid hE0
  clear hE0
  generalize t.tx.extract 0 a ++ s ++ t.tx.extract c t.tx.size = Y at *
  go_enter Tryd.func13, Tryd.ntmps13
  go_wp2_with fail
  refine HH.out.mono ?_
  rintro e w1 ⟨rfl, hB⟩
  have H1 := Lib.hid hB
  clear hB
  go_wp2_with fail
  refine (HV.out w1 H1.out).mono ?_
  rintro e w2 ⟨rfl, hB⟩
  have H2 := Lib.hid (H1.out.trans (hB.mono H1.out.size))
  clear hB
  cases vs
  · obtain rfl : E = 10 := by have := HE.out; rw [if_neg (by decide)] at this; exact this
    go_wp2_with fail
    go_ret2
    exact ⟨_, rfl, H2.out, .inr ⟨by decide, rfl⟩⟩
  · have hE1 := HE.out
    rw [if_pos rfl] at hE1
    have HE1 := Lib.hid hE1
    clear hE1 HE
    go_wp2_with fail
    refine (HL.out w2 H2.out).mono ?_
    rintro e w3 ⟨rfl, hB⟩
    have H3 := Lib.hid (H2.out.trans (hB.mono H2.out.size))
    clear hB
    by_cases hE : 16384 - ((t.tx.size : Int) - ((c : Int) - (a : Int))) < (s.size : Int)
    · obtain rfl : E = 3 := by have := HE1.out; rw [if_pos hE] at this; exact this
      go_wp2_with fail
      go_ret2
      exact ⟨_, rfl, H3.out, .inr ⟨by decide, rfl⟩⟩
    · obtain rfl : E = 0 := by have := HE1.out; rw [if_neg hE] at this; exact this
      have c0 := HC.out w3 H3.out
      go_wp2_with fail
      refine (HSp.out w3 H3.out trivial).mono ?_
      rintro e w4 ⟨tg, vg, rfl, ng, hg, hB⟩
      have H4 := Lib.hid (And.intro ng (And.intro hg (H3.out.trans (hB.mono H3.out.size))))
      clear ng hg hB c0
      have fin : ∀ vg', vg' = vg → NewR 0 Y w (.returned (.tuple #[.pointer (some ⟨w4.heap.size, 0, none⟩), .int .i64 0])) (w4.alloc (.cells #[vg'] 84)) := fun vg' e => by
        subst e
        have hBz := (Below.refl w4.heap.size w4).alloc (Nat.le_refl _) (.cells #[vg'] 84)
        exact ⟨_, rfl, H4.out.2.2.trans (hBz.mono H4.out.2.2.size), .inl ⟨rfl, tg, ⟨w4.heap.size, vg', rfl, heap_alloc_new _ _, H4.out.1.below hBz, H4.out.2.1.1⟩, H4.out.2.1.2⟩⟩
      have HFn := Lib.hid fin
      clear fin
      rcases H4.out.1.shape with rfl | ⟨T, x, rfl⟩
      · go_wp2_with fail
        go_ret2
        exact HFn.out _ rfl
      · go_wp2_with fail
        go_ret2
        exact HFn.out _ rfl
set_option maxHeartbeats 4000000 in
set_option maxRecDepth 100000 in
theorem splice_any (v : Value) (t : R.T) (f k : Int) (s : ByteArray) (w : World) (h : RopeAt w v t) (hs : t.tx.size ≤ 1000000000) (hss : s.size ≤ 1000000000) (hf : I64 f) (hk : I64 k) (hT : Tabs w) :
    Calls Tryd.prog 13 #[v, .int .i64 f, .int .i64 k, .string s] w (NewR (spE t.tx f k s) (spT t.tx f k s) w) := by
  by_cases hm : mayR t.tx f k = true
  · obtain ⟨a, c, rfl, rfl, hac, hc, ga, gc⟩ := mayR_spec hm
    have hv : U.valid t.tx = true := by obtain ⟨b, rv, rfl, hb, hn, ht⟩ := h; exact ht.valid
    exact splice_may v t a c s w h hs hss hac hc hm (may_parts hv (by omega) ga).1 (may_parts hv hc gc).2 hT
  · have HH := Lib.hid (has_any v t f k w h hs hf hk hT)
    have hE : spE t.tx f k s = 90 := by unfold spE; rw [if_neg hm]
    have hm : mayR t.tx f k = false := by simpa using hm
    rw [hm] at HH
    rw [hE]
    obtain ⟨b, rv, rfl, hb, hn, ht⟩ := h
    clear hb hn ht hs hf hk hT hm hE
    go_enter Tryd.func13, Tryd.ntmps13
    go_wp2_with fail
    refine HH.out.mono ?_
    rintro e w1 ⟨rfl, hB⟩
    have H1 := Lib.hid hB
    clear hB
    go_wp2_with fail
    go_ret2
    exact ⟨_, rfl, H1.out, .inr ⟨by decide, rfl⟩⟩
end Go.Proofs.YtjeopabnddekgaaDoor

namespace Go.Proofs.YtjeopabnddekgaaDoor
open Go Go.RowKit Go.Lib

def FBf (u s : ByteArray) (i j B : Nat) : Nat → Value → World → Prop
  | 0, y, _ => y = (.agg #[Value.int .i64 (((R.cn u).b : Nat) : Int), Value.int .i64 (((R.cn u).u : Nat) : Int), Value.int .i64 (((R.cn u).k : Nat) : Int), Value.bool (R.cn u).f, Value.bool (R.cn u).e])
  | 1, y, _ => y = .string s
  | 2, y, _ => y = .int .i64 (i : Nat)
  | 3, y, _ => y = .pointer (some ⟨B, 0, none⟩)
  | 4, y, _ => y = .int .i64 (u.size : Nat)
  | 5, y, _ => y = .int .i64 (j : Nat)
  | 6, y, _ => y = .string (s.extract 0 j)
  | 7, y, _ => y = (.agg #[Value.int .i64 (((R.cn (s.extract 0 j)).b : Nat) : Int), Value.int .i64 (((R.cn (s.extract 0 j)).u : Nat) : Int), Value.int .i64 (((R.cn (s.extract 0 j)).k : Nat) : Int), Value.bool (R.cn (s.extract 0 j)).f, Value.bool (R.cn (s.extract 0 j)).e])
  | 8, y, W => ∃ g, y = .slice (some ⟨g, 0, none⟩) 2 2 ∧ Two W g (R.cn u) (R.cn (s.extract 0 j))
  | 9, y, _ => y = (.agg #[Value.int .i64 ((((R.cn u).add (R.cn (s.extract 0 j))).b : Nat) : Int), Value.int .i64 ((((R.cn u).add (R.cn (s.extract 0 j))).u : Nat) : Int), Value.int .i64 ((((R.cn u).add (R.cn (s.extract 0 j))).k : Nat) : Int), Value.bool ((R.cn u).add (R.cn (s.extract 0 j))).f, Value.bool ((R.cn u).add (R.cn (s.extract 0 j))).e])
  | _, _, _ => True
theorem FBf.on {u s : ByteArray} {i j B : Nat} {iz : Nat} {y : Value} {W W' : World} (h : FBf u s i j B iz y W) (hB : Below W.heap.size W W') : FBf u s i j B iz y W' := by
  unfold FBf at h ⊢
  split at h
  · exact h
  · exact h
  · exact h
  · exact h
  · exact h
  · exact h
  · exact h
  · exact h
  · obtain ⟨g, e, h⟩ := h; exact ⟨g, e, (hB.block g (Array.getElem?_eq_some_iff.1 h).1).trans h⟩
  · exact h
  · trivial
theorem ahead_of (x u s v : ByteArray) (i : Nat) (h : x = u ++ s ++ v) (h0 : u.size = 0 ∨ u.size ≤ i) (h1 : v.size = 0 ∨ i < u.size + s.size) (hi : i ≤ x.size) : u.size ≤ i ∧ i - u.size ≤ s.size ∧ x.extract 0 i = u ++ s.extract 0 (i - u.size) := by
  have z : x.size = u.size + s.size + v.size := by rw [h, U.app_size, U.app_size]
  have a1 : u.size ≤ i := by omega
  have a2 : i - u.size ≤ s.size := by omega
  refine ⟨a1, a2, ?_⟩
  rw [h, ByteArray.append_assoc, R.ext_app, R.ext_all u i a1, R.ext_app, Nat.zero_sub, R.ext_none v _ _ (.inl (by omega)), R.app_none (s.extract 0 (i - u.size)) _ rfl]
set_option maxHeartbeats 4000000 in
set_option maxRecDepth 100000 in
theorem before_any (i : Nat) (v : Value) (t : R.T) (w : World) (ht : t.Fit) (hs : t.tx.size ≤ 1000000000000) (hi : i ≤ t.tx.size) (h : NT w w.heap.size v t) :
    Calls Tryd.prog 56 #[v, .int .i64 (i : Nat)] w (CnIs (R.cn (t.tx.extract 0 i)) w) := by
  obtain ⟨u, s, x, efd, F, hu, hx⟩ := R.at_spec t ht (i : Int)
  obtain ⟨b1, b2, b3⟩ := ahead_of t.tx u s x i F.tx (by omega) (by omega) hi
  have hsz : t.tx.size = u.size + s.size + x.size := by rw [F.tx, U.app_size, U.app_size]
  have hBb := (Below.refl w.heap.size w).alloc (Nat.le_refl _) (.cells #[Value.int .i64 0, Value.int .i64 0, Value.int .i64 0, .bool false, .bool false] 96)
  have HL := Lib.hid (leafAt_any (i : Int) v t (w.alloc (.cells #[Value.int .i64 0, Value.int .i64 0, Value.int .i64 0, .bool false, .bool false] 96)) ht hs (h.below hBb))
  rw [efd] at HL
  rw [b3]
  have HFt := Lib.hid (And.intro (R.cn_fits u (by omega)) (R.cn_fits (s.extract 0 (i - u.size)) (by rw [ByteArray.size_extract]; omega)))
  have HSm := Lib.hid (R.cn_add u (s.extract 0 (i - u.size)) F.hu)
  have HSz : Hid ((s.extract 0 (i - u.size)).size ≤ 1000000000000) := Lib.hid (by rw [ByteArray.size_extract]; omega)
  have HWr : Hid (IntKind.i64.wrap ((i : Int) - (u.size : Int)) = ((i - u.size : Nat) : Int)) := Lib.hid (by rw [wrapI _ (by omega) (by omega)]; omega)
  have HH : Hid ((0 : Int) ≤ ((i - u.size : Nat) : Int) ∧ ((i - u.size : Nat) : Int) ≤ (s.size : Int) ∧ i - u.size ≤ s.size ∧ 0 ≤ i - u.size) := Lib.hid (by omega)
  have H0 := Lib.hid (And.intro hBb (And.intro (show CnRow (w.alloc (.cells #[Value.int .i64 0, Value.int .i64 0, Value.int .i64 0, .bool false, .bool false] 96)) w.heap.size R.Cn.none from CnRow.new w R.Cn.none) (World.size_alloc w (.cells #[Value.int .i64 0, Value.int .i64 0, Value.int .i64 0, .bool false, .bool false] 96))))
  clear hBb h hs hi b1 b2 b3 hsz hu hx F ht efd
  generalize i - u.size = j at *
  go_enter Tryd.func56, Tryd.ntmps56
  go_upto_region 1 with fail
  generalize w.alloc (.cells #[Value.int .i64 0, Value.int .i64 0, Value.int .i64 0, .bool false, .bool false] 96) = W0 at *
  have hz0 : W0.heap.size = w.heap.size + 1 := H0.out.2.2
  go_wp2_with fail
  refine HL.out.mono ?_
  rintro e w1 ⟨rfl, hB1⟩
  have hB2 := (Below.refl w1.heap.size w1).alloc (Nat.le_refl _) (.cells #[Value.int .i64 (((R.cn u).b : Nat) : Int), Value.int .i64 (((R.cn u).u : Nat) : Int), Value.int .i64 (((R.cn u).k : Nat) : Int), Value.bool (R.cn u).f, Value.bool (R.cn u).e] 96)
  have hr : CnRow (w1.alloc (.cells #[Value.int .i64 (((R.cn u).b : Nat) : Int), Value.int .i64 (((R.cn u).u : Nat) : Int), Value.int .i64 (((R.cn u).k : Nat) : Int), Value.bool (R.cn u).f, Value.bool (R.cn u).e] 96)) w1.heap.size (R.cn u) := CnRow.new w1 _
  have hBa : Below W0.heap.size W0 _ := hB1.trans (hB2.mono hB1.size)
  have hz : w1.heap.size < (w1.alloc (.cells #[Value.int .i64 (((R.cn u).b : Nat) : Int), Value.int .i64 (((R.cn u).u : Nat) : Int), Value.int .i64 (((R.cn u).k : Nat) : Int), Value.bool (R.cn u).f, Value.bool (R.cn u).e] 96)).heap.size := by rw [World.size_alloc]; omega
  have hr0 : CnRow (w1.alloc (.cells #[Value.int .i64 (((R.cn u).b : Nat) : Int), Value.int .i64 (((R.cn u).u : Nat) : Int), Value.int .i64 (((R.cn u).k : Nat) : Int), Value.bool (R.cn u).f, Value.bool (R.cn u).e] 96)) w.heap.size R.Cn.none := CnRow.below (N := W0.heap.size) H0.out.2.1 hBa (by omega)
  have H1 := Lib.hid (And.intro (H0.out.1.trans (hBa.mono H0.out.1.size)) (And.intro hr (And.intro hz (And.intro hr0 (show w.heap.size < (w1.alloc (.cells #[Value.int .i64 (((R.cn u).b : Nat) : Int), Value.int .i64 (((R.cn u).u : Nat) : Int), Value.int .i64 (((R.cn u).k : Nat) : Int), Value.bool (R.cn u).f, Value.bool (R.cn u).e] 96)).heap.size by have := hBa.size; omega)))))
  clear hB1 hB2 hr hz hBa hr0 HL H0
  dsimp only
  go_upto_region 2 with fail
  generalize w1.alloc (.cells #[Value.int .i64 (((R.cn u).b : Nat) : Int), Value.int .i64 (((R.cn u).u : Nat) : Int), Value.int .i64 (((R.cn u).k : Nat) : Int), Value.bool (R.cn u).f, Value.bool (R.cn u).e] 96) = W1 at *
  generalize w1.heap.size = B at *
  have HC0 := Lib.hid (fun W (hB : Below W1.heap.size W1 W) => (H1.out.2.1.below hB H1.out.2.2.1).cnAt)
  have HRd := Lib.hid ((Below.refl W1.heap.size W1).drew)
  refine wp_region_stepsP [some 13, some 14, some 15, some 16, some 17, some 18, some 19, some 20, some 21, some 22, none] _ _ (G := fun W => Below W1.heap.size W1 W) (F := FBf u s i j B) (z := 10) (by kernel_rfl) rfl (by decide +kernel) rfl (by decide +kernel) (by decide +kernel) rfl (fun W W' h hB => h.trans (hB.mono h.size)) (fun i y W W' h hB => h.on hB) ?_ ?_ HRd.out
  · intro i o' ho hz a W hg hd hold K' hK
    have HG := Lib.hid hg
    have hlt : i < 11 := (Array.getElem?_eq_some_iff.1 ho).1
    clear hg
    obtain rfl | rfl | rfl | rfl | rfl | rfl | rfl | rfl | rfl | rfl | rfl : i = 0 ∨ i = 1 ∨ i = 2 ∨ i = 3 ∨ i = 4 ∨ i = 5 ∨ i = 6 ∨ i = 7 ∨ i = 8 ∨ i = 9 ∨ i = 10 := by omega
    · obtain rfl := Option.some.inj ho
      have o5 : a.tmps[5]? = _ := (hold 5 rfl).trans rfl
      obtain ⟨f0, f1, f2, f3, f4⟩ := HC0.out W HG.out
      clear hd hold
      go_simp
      exact hK.out _ _ (by rfl) (Below.refl _ _)
    · obtain rfl := Option.some.inj ho
      have o6 : a.tmps[6]? = _ := (hold 6 rfl).trans rfl
      clear hd hold
      go_simp
      exact hK.out _ _ (by rfl) (Below.refl _ _)
    · obtain rfl := Option.some.inj ho
      have o1 : a.tmps[1]? = _ := (hold 1 rfl).trans rfl
      clear hd hold
      go_simp
      exact hK.out _ _ (by rfl) (Below.refl _ _)
    · obtain rfl := Option.some.inj ho
      have o5 : a.tmps[5]? = _ := (hold 5 rfl).trans rfl
      clear hd hold
      go_simp
      exact hK.out _ _ (by rfl) (Below.refl _ _)
    · obtain rfl := Option.some.inj ho
      obtain ⟨y3, e3, h3⟩ := hd 3 16 rfl (by decide +kernel) (by decide)
      have h3 : y3 = _ := h3
      have h3 := h3.symm
      subst h3
      obtain ⟨f0, f1, f2, f3, f4⟩ := HC0.out W HG.out
      clear hd hold
      go_simp
      exact hK.out _ _ (by rfl) (Below.refl _ _)
    · obtain rfl := Option.some.inj ho
      obtain ⟨y2, e2, h2⟩ := hd 2 15 rfl (by decide +kernel) (by decide)
      have h2 : y2 = _ := h2
      have h2 := h2.symm
      subst h2
      obtain ⟨y4, e4, h4⟩ := hd 4 17 rfl (by decide +kernel) (by decide)
      have h4 : y4 = _ := h4
      have h4 := h4.symm
      subst h4
      have w1 := HWr.out
      clear hd hold
      go_simp
      exact hK.out _ _ (by rfl) (Below.refl _ _)
    · obtain rfl := Option.some.inj ho
      obtain ⟨y1, e1, h1⟩ := hd 1 14 rfl (by decide +kernel) (by decide)
      have h1 : y1 = _ := h1
      have h1 := h1.symm
      subst h1
      obtain ⟨y5, e5, h5⟩ := hd 5 18 rfl (by decide +kernel) (by decide)
      have h5 : y5 = _ := h5
      have h5 := h5.symm
      subst h5
      obtain ⟨k1, k2, k3, k4⟩ := HH.out
      clear hd hold
      go_simp
      exact hK.out _ _ (by rfl) (Below.refl _ _)
    · obtain rfl := Option.some.inj ho
      obtain ⟨y6, e6, h6⟩ := hd 6 19 rfl (by decide +kernel) (by decide)
      have h6 : y6 = _ := h6
      have h6 := h6.symm
      subst h6
      have HC := Lib.hid (measure_any (s.extract 0 j) W HSz.out)
      clear hd hold 
      go_simp
      go_at_call 68
      (with_reducible refine HC.out.mono ?_)
      rintro e W1 ⟨rfl, hB⟩
      exact hK.out _ _ (by rfl) hB
    · obtain rfl := Option.some.inj ho
      obtain ⟨y0, e0, h0⟩ := hd 0 13 rfl (by decide +kernel) (by decide)
      have h0 : y0 = _ := h0
      have h0 := h0.symm
      subst h0
      obtain ⟨y7, e7, h7⟩ := hd 7 20 rfl (by decide +kernel) (by decide)
      have h7 : y7 = _ := h7
      have h7 := h7.symm
      subst h7
      clear hd hold
      go_simp
      exact hK.out _ _ ⟨W.heap.size, rfl, heap_alloc_new _ _⟩ ((Below.refl _ W).alloc (Nat.le_refl _) _)
    · obtain rfl := Option.some.inj ho
      obtain ⟨y8, e8, h8⟩ := hd 8 21 rfl (by decide +kernel) (by decide)
      obtain ⟨g8, hy8, hg8⟩ : ∃ g, y8 = .slice (some ⟨g, 0, none⟩) 2 2 ∧ Two W g (R.cn u) (R.cn (s.extract 0 j)) := h8
      subst hy8
      have HC := Lib.hid (add_any (R.cn u) (R.cn (s.extract 0 j)) HFt.out.1 HFt.out.2 g8 W hg8)
      clear hd hold 
      go_simp
      go_at_call 78
      (with_reducible refine HC.out.mono ?_)
      rintro e W1 ⟨rfl, hB⟩
      exact hK.out _ _ (by rfl) hB
    · exact absurd rfl hz
  · intro a W hg hf hold hput K' hK
    obtain ⟨y9, o22, hv9⟩ := hf 9 22 rfl (by decide) (by decide)
    have hv9 : y9 = _ := hv9
    subst hv9
    have o4 : a.tmps[4]? = _ := (hold 4 rfl).trans rfl
    have hr := H1.out.2.2.2.1.below hg H1.out.2.2.2.2
    have HB := Lib.hid (below_setRow (H1.out.1.trans (hg.mono H1.out.1.size)) (Nat.le_refl w.heap.size))
    clear hg hf hold
    rw [if_pos (by rfl)]
    refine wp_store_row _ _ _ rfl w.heap.size #[Value.int .i64 ((((R.cn u).add (R.cn (s.extract 0 j))).b : Nat) : Int), Value.int .i64 ((((R.cn u).add (R.cn (s.extract 0 j))).u : Nat) : Int), Value.int .i64 ((((R.cn u).add (R.cn (s.extract 0 j))).k : Nat) : Int), Value.bool ((R.cn u).add (R.cn (s.extract 0 j))).f, Value.bool ((R.cn u).add (R.cn (s.extract 0 j))).e] (by simp [Act.eval, o4]) (by simp [Act.eval, o22]) 96 _ hr info_counts rfl (one_counts _) ?_
    refine hK.out _ _ ?_
    obtain ⟨rr, ha⟩ := hput.out
    clear hput o22 o4
    subst ha
    simp only [putL, Act.put, List.setIfInBounds_toArray, List.set_cons_zero, List.set_cons_succ]
    clear hK K'
    have hrs := hr.set ((R.cn u).add (R.cn (s.extract 0 j)))
    go_wp2_with fail
    exact cn_ret (by rfl) _ _ w.heap.size ((R.cn u).add (R.cn (s.extract 0 j))) (by rfl) rfl hrs ⟨by rw [HSm.out], HB.out _⟩
end Go.Proofs.YtjeopabnddekgaaDoor
