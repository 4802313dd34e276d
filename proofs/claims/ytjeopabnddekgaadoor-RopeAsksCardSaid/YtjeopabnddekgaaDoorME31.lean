/- A rope: made, asked, spliced. Conditions: texts of at most 2^20 bytes; the library's tables. -/
import Derived.Test.YtjeopabnddekgaaDoorME30
namespace Go.Proofs.YtjeopabnddekgaaDoor
open Go Go.RowKit Go.Lib

theorem NT.shape {w : World} {N : Nat} {v : Value} {t : R.T} (h : NT w N v t) : v = .nilIface ∨ ∃ T x, v = .iface T x := by
  cases t with
  | none => exact .inl h
  | leaf s => obtain ⟨b, _, rfl, _⟩ := h; exact .inr ⟨_, _, rfl⟩
  | inner d l r => obtain ⟨b, vl, vr, _, rfl, _⟩ := h; exact .inr ⟨_, _, rfl⟩
def RopeAt (w : World) (v : Value) (t : R.T) : Prop := ∃ b rv, v = .pointer (some ⟨b, 0, none⟩) ∧ w.heap[b]? = some (.cells #[rv] 84 (0, 0)) ∧ NT w w.heap.size rv t ∧ t.Fit
theorem RopeAt.below {w w' : World} {v : Value} {t : R.T} (h : RopeAt w v t) (hB : Below w.heap.size w w') : RopeAt w' v t := by
  obtain ⟨b, rv, hv, hb, hn, ht⟩ := h
  exact ⟨b, rv, hv, (hB.block b (Array.getElem?_eq_some_iff.1 hb).1).trans hb, hn.below hB, ht⟩
/-- what New answers -/
def newE (s : ByteArray) : Int := if 16384 < s.size then 3 else if U.valid s = true then 0 else 10
def NewR (E : Int) (x : ByteArray) (w : World) (e : Ending) (w' : World) : Prop := ∃ v, e = .returned (.tuple #[v, .int .i64 E]) ∧ Below w.heap.size w w' ∧ ((E = 0 ∧ ∃ t, RopeAt w' v t ∧ t.tx = x) ∨ (¬ E = 0 ∧ v = .pointer none))
set_option maxHeartbeats 4000000 in
set_option maxRecDepth 100000 in
theorem new_long (s : ByteArray) (w : World) (h : 16384 < s.size) (hs : s.size ≤ 1000000000000) : Calls Tryd.prog 11 #[.string s] w (NewR 3 s w) := by
  have k1 : (16384 : Int) < (s.size : Int) := by omega
  clear h
  go_enter Tryd.func11, Tryd.ntmps11
  go_wp2_with fail
  go_ret2
  exact ⟨_, rfl, Below.refl _ _, .inr ⟨by decide, rfl⟩⟩
set_option maxHeartbeats 4000000 in
set_option maxRecDepth 100000 in
theorem new_bad (s : ByteArray) (w : World) (h : ¬ 16384 < s.size) (hv : U.valid s = false) (hT : Tabs w) : Calls Tryd.prog 11 #[.string s] w (NewR 10 s w) := by
  have k1 : ¬ (16384 : Int) < (s.size : Int) := by omega
  have HV := Lib.hid (utfValid_any s w (by omega) hT)
  rw [hv] at HV
  clear h hv hT
  go_enter Tryd.func11, Tryd.ntmps11
  go_wp2_with fail
  refine HV.out.mono ?_
  rintro e w1 ⟨rfl, hB⟩
  have H := Lib.hid hB
  clear hB
  go_wp2_with fail
  go_ret2
  exact ⟨_, rfl, H.out, .inr ⟨by decide, rfl⟩⟩
set_option maxHeartbeats 4000000 in
set_option maxRecDepth 100000 in
theorem new_good (s : ByteArray) (w : World) (h : ¬ 16384 < s.size) (hv : U.valid s = true) (hT : Tabs w) : Calls Tryd.prog 11 #[.string s] w (NewR 0 s w) := by
  have k1 : ¬ (16384 : Int) < (s.size : Int) := by omega
  have HV := Lib.hid (utfValid_any s w (by omega) hT)
  have HG := Lib.hid (fun W (hB : Below w.heap.size w W) => grown_any s.size s W (Nat.le_refl _) (by omega) hv (tabs_below hT hB))
  rw [hv] at HV
  clear h hv hT
  go_enter Tryd.func11, Tryd.ntmps11
  go_wp2_with fail
  refine HV.out.mono ?_
  rintro e w1 ⟨rfl, hB⟩
  have H := Lib.hid hB
  clear hB
  go_wp2_with fail
  refine (HG.out w1 H.out).mono ?_
  rintro e w2 ⟨tg, vg, rfl, ng, hg, hB⟩
  have H2 := Lib.hid (And.intro ng (And.intro hg (H.out.trans (hB.mono H.out.size))))
  clear ng hg hB
  have fin : ∀ vg', vg' = vg → NewR 0 s w (.returned (.tuple #[.pointer (some ⟨w2.heap.size, 0, none⟩), .int .i64 0])) (w2.alloc (.cells #[vg'] 84)) := fun vg' e => by
    subst e
    have hBz := (Below.refl w2.heap.size w2).alloc (Nat.le_refl _) (.cells #[vg'] 84)
    exact ⟨_, rfl, H2.out.2.2.trans (hBz.mono H2.out.2.2.size), .inl ⟨rfl, tg, ⟨w2.heap.size, vg', rfl, heap_alloc_new _ _, H2.out.1.below hBz, H2.out.2.1.1⟩, H2.out.2.1.2⟩⟩
  have HF := Lib.hid fin
  clear fin
  rcases H2.out.1.shape with rfl | ⟨T, x, rfl⟩
  · go_wp2_with fail
    go_ret2
    exact HF.out _ rfl
  · go_wp2_with fail
    go_ret2
    exact HF.out _ rfl
theorem new_any (s : ByteArray) (w : World) (hs : s.size ≤ 1000000000000) (hT : Tabs w) : Calls Tryd.prog 11 #[.string s] w (NewR (newE s) s w) := by
  unfold newE
  by_cases h : 16384 < s.size
  · rw [if_pos h]; exact new_long s w h hs
  · rw [if_neg h]
    by_cases hv : U.valid s = true
    · rw [if_pos hv]; exact new_good s w h hv hT
    · rw [if_neg hv]; exact new_bad s w h (by simpa using hv) hT
end Go.Proofs.YtjeopabnddekgaaDoor

namespace Go.Proofs.YtjeopabnddekgaaDoor
open Go Go.RowKit Go.Lib

set_option maxHeartbeats 4000000 in
set_option maxRecDepth 100000 in
theorem tree_is (b : Nat) (rv : Value) (w : World) (hb : w.heap[b]? = some (.cells #[rv] 84 (0, 0))) : Calls Tryd.prog 58 #[.pointer (some ⟨b, 0, none⟩)] w fun e w' => e = .returned rv ∧ Below w.heap.size w w' := by
  have c0 : w.cell? ⟨b, 0, none⟩ = some rv := by rw [Lib.cell_of_heap hb]; rfl
  clear hb
  go_enter Tryd.func58, Tryd.ntmps58
  go_wp2_with fail
  go_ret
  exact ⟨rfl, Below.refl _ _⟩
def TreeR (t : R.T) (w : World) (e : Ending) (w' : World) : Prop := ∃ rv, e = .returned rv ∧ NT w' w'.heap.size rv t ∧ Below w.heap.size w w'
set_option maxHeartbeats 4000000 in
set_option maxRecDepth 100000 in
theorem tree_any (v : Value) (t : R.T) (w : World) (h : RopeAt w v t) : Calls Tryd.prog 58 #[v] w (TreeR t w) := by
  obtain ⟨b, rv, rfl, hb, hn, -⟩ := h
  have c0 : w.cell? ⟨b, 0, none⟩ = some rv := by rw [Lib.cell_of_heap hb]; rfl
  have HN := Lib.hid hn
  clear hb hn
  go_enter Tryd.func58, Tryd.ntmps58
  go_wp2_with fail
  go_ret
  exact ⟨_, rfl, HN.out, Below.refl _ _⟩
theorem field_1 (c : R.Cn) (W : World) : (Instr.field 96 (.agg #[Value.int .i64 (((c).b : Nat) : Int), Value.int .i64 (((c).u : Nat) : Int), Value.int .i64 (((c).k : Nat) : Int), Value.bool (c).f, Value.bool (c).e]) 1).run Tryd.prog W = .ok (.int .i64 (c.u : Nat)) W := by kernel_rfl
theorem field_2 (c : R.Cn) (W : World) : (Instr.field 96 (.agg #[Value.int .i64 (((c).b : Nat) : Int), Value.int .i64 (((c).u : Nat) : Int), Value.int .i64 (((c).k : Nat) : Int), Value.bool (c).f, Value.bool (c).e]) 2).run Tryd.prog W = .ok (.int .i64 (c.k : Nat)) W := by kernel_rfl
set_option maxHeartbeats 4000000 in
set_option maxRecDepth 100000 in
theorem len_any (v : Value) (t : R.T) (w : World) (h : RopeAt w v t) : Calls Tryd.prog 25 #[v] w (IntR (R.cn t.tx).b w) := by
  have HT := Lib.hid (tree_any v t w h)
  have fc := field_cn (R.cn t.tx)
  clear h
  go_enter Tryd.func25, Tryd.ntmps25
  go_wp2_with fail
  refine HT.out.mono ?_
  rintro e w1 ⟨rv, rfl, hn, hB⟩
  have H := Lib.hid (And.intro (total_any rv t w1 hn) hB)
  clear hn hB
  go_wp2_with fail
  refine H.out.1.mono ?_
  rintro e w2 ⟨rfl, hB⟩
  have H2 := Lib.hid (H.out.2.trans (hB.mono H.out.2.size))
  clear hB
  go_wp2_with fail
  go_ret
  exact ⟨rfl, H2.out⟩
set_option maxHeartbeats 4000000 in
set_option maxRecDepth 100000 in
theorem unitsR_any (v : Value) (t : R.T) (w : World) (h : RopeAt w v t) : Calls Tryd.prog 42 #[v] w (IntR (R.cn t.tx).u w) := by
  have HT := Lib.hid (tree_any v t w h)
  have fc := field_1 (R.cn t.tx)
  clear h
  go_enter Tryd.func42, Tryd.ntmps42
  go_wp2_with fail
  refine HT.out.mono ?_
  rintro e w1 ⟨rv, rfl, hn, hB⟩
  have H := Lib.hid (And.intro (total_any rv t w1 hn) hB)
  clear hn hB
  go_wp2_with fail
  refine H.out.1.mono ?_
  rintro e w2 ⟨rfl, hB⟩
  have H2 := Lib.hid (H.out.2.trans (hB.mono H.out.2.size))
  clear hB
  go_wp2_with fail
  go_ret
  exact ⟨rfl, H2.out⟩
set_option maxHeartbeats 4000000 in
set_option maxRecDepth 100000 in
theorem breaks_any (v : Value) (t : R.T) (w : World) (h : RopeAt w v t) : Calls Tryd.prog 26 #[v] w (IntR (R.cn t.tx).k w) := by
  have HT := Lib.hid (tree_any v t w h)
  have fc := field_2 (R.cn t.tx)
  clear h
  go_enter Tryd.func26, Tryd.ntmps26
  go_wp2_with fail
  refine HT.out.mono ?_
  rintro e w1 ⟨rv, rfl, hn, hB⟩
  have H := Lib.hid (And.intro (total_any rv t w1 hn) hB)
  clear hn hB
  go_wp2_with fail
  refine H.out.1.mono ?_
  rintro e w2 ⟨rfl, hB⟩
  have H2 := Lib.hid (H.out.2.trans (hB.mono H.out.2.size))
  clear hB
  go_wp2_with fail
  go_ret
  exact ⟨rfl, H2.out⟩
set_option maxHeartbeats 4000000 in
set_option maxRecDepth 100000 in
theorem depthR_any (v : Value) (t : R.T) (w : World) (h : RopeAt w v t) : Calls Tryd.prog 45 #[v] w (IntR t.dep w) := by
  have HT := Lib.hid (tree_any v t w h)
  clear h
  go_enter Tryd.func45, Tryd.ntmps45
  go_wp2_with fail
  refine HT.out.mono ?_
  rintro e w1 ⟨rv, rfl, hn, hB⟩
  have H := Lib.hid (And.intro (depth_any rv t w1 hn) hB)
  clear hn hB
  go_wp2_with fail
  refine H.out.1.mono ?_
  rintro e w2 ⟨rfl, hB⟩
  have H2 := Lib.hid (H.out.2.trans (hB.mono H.out.2.size))
  clear hB
  go_wp2_with fail
  go_ret
  exact ⟨rfl, H2.out⟩
def StrR (x : ByteArray) (w : World) (e : Ending) (w' : World) : Prop := e = .returned (.string x) ∧ Below w.heap.size w w'
set_option maxHeartbeats 4000000 in
set_option maxRecDepth 100000 in
theorem text_any (v : Value) (t : R.T) (w : World) (h : RopeAt w v t) (hs : t.tx.size ≤ 1000000000) : Calls Tryd.prog 31 #[v] w (StrR t.tx w) := by
  have HR := Lib.hid h
  have HLn := Lib.hid (fun W (hB : Below w.heap.size w W) => len_any v t W (h.below hB))
  obtain ⟨b, rv, rfl, hb, hn, ht⟩ := h
  have hBb := (Below.refl w.heap.size w).alloc (Nat.le_refl _) (.cells #[.pointer none, .slice none 0 0] 93)
  have hIB := IsB.fresh w
  have HTr := Lib.hid (fun W (hB : Below w.heap.size w W) => tree_is b rv W ((hB.block b (Array.getElem?_eq_some_iff.1 hb).1).trans hb))
  have HNt := Lib.hid (fun W (hB : Below w.heap.size w W) => hn.on hB (Nat.le_refl _))
  have hN : w.heap.size ≤ (w.alloc (.cells #[.pointer none, .slice none 0 0] 93)).heap.size := by rw [World.size_alloc]; omega
  have HF := Lib.hid (And.intro ht hs)
  clear ht hs hb hn
  go_enter Tryd.func31, Tryd.ntmps31
  go_upto_region 2 with fail
  generalize hW : w.alloc (.cells #[.pointer none, .slice none 0 0] 93) = W1 at *
  have H1 := Lib.hid (And.intro hBb (And.intro hIB hN))
  clear hW hBb hIB hN
  go_wp2_with fail
  refine (HTr.out W1 H1.out.1).mono ?_
  rintro e w2 ⟨rfl, hB⟩
  have H2 := Lib.hid (And.intro (H1.out.1.trans (hB.mono H1.out.2.2)) (And.intro (H1.out.2.1.below hB) (Nat.le_trans H1.out.2.2 hB.size)))
  clear hB
  go_wp2_with fail
  refine (HLn.out w2 H2.out.1).mono ?_
  rintro e w3 ⟨rfl, hB⟩
  have H3 := Lib.hid (And.intro (H2.out.1.trans (hB.mono H2.out.2.2)) (And.intro (H2.out.2.1.below hB) (Nat.le_trans H2.out.2.2 hB.size)))
  clear hB
  have hw := write_any w.heap.size w.heap.size t rv 0 t.tx.size [] w3 HF.out.1 (HNt.out w3 H3.out.1) (Nat.zero_le _) (Nat.le_refl _) (by have := HF.out.2; simp; omega) H3.out.2.1 H3.out.2.2
  rw [R.ext_all t.tx _ (Nat.le_refl _)] at hw
  have HW := Lib.hid hw
  clear hw
  go_wp2_with fail
  refine HW.out.mono ?_
  rintro e w4 ⟨rfl, hb4, hB⟩
  rw [List.nil_append] at hb4
  have H4 := Lib.hid (And.intro (H3.out.1.trans hB) (And.intro hb4 (Nat.le_trans H3.out.2.2 hB.size)))
  clear hB hb4 HW
  go_wp2_with fail
  refine (string_any w.heap.size w.heap.size t.tx w4 H4.out.2.1 H4.out.2.2).mono ?_
  rintro e w5 ⟨rfl, hB, -⟩
  have H5 := Lib.hid (H4.out.1.trans hB)
  clear hB
  go_wp2_with fail
  go_ret
  exact ⟨rfl, H5.out⟩
/-- may this stretch be asked for? -/
def mayR (x : ByteArray) (f k : Int) : Bool := decide (f ≤ k) && (decide ((U.bga x f : Int) = f) && decide ((U.bga x k : Int) = k))
set_option maxHeartbeats 4000000 in
set_option maxRecDepth 100000 in
theorem has_any (v : Value) (t : R.T) (f k : Int) (w : World) (h : RopeAt w v t) (hs : t.tx.size ≤ 1000000000) (hf : I64 f) (hk : I64 k) (hT : Tabs w) : Calls Tryd.prog 39 #[v, .int .i64 f, .int .i64 k] w (BoolIs (mayR t.tx f k) w) := by
  obtain ⟨b, rv, rfl, hb, hn, ht⟩ := h
  have HB1 := Lib.hid (fun W (hB : Below w.heap.size w W) => begin_any f rv t W ht (by omega) hf (hn.below hB) (tabs_below hT hB))
  have HB2 := Lib.hid (fun W (hB : Below w.heap.size w W) => begin_any k rv t W ht (by omega) hk (hn.below hB) (tabs_below hT hB))
  have HC := Lib.hid (fun W (hB : Below w.heap.size w W) => (show W.cell? ⟨b, 0, none⟩ = some rv from by rw [Lib.cell_of_heap ((hB.block b (Array.getElem?_eq_some_iff.1 hb).1).trans hb)]; rfl))
  clear hb hn ht hs hf hk hT
  unfold mayR
  generalize U.bga t.tx f = p at *
  generalize U.bga t.tx k = q at *
  have c0 := HC.out w (Below.refl _ _)
  by_cases h1 : f ≤ k
  · rw [decide_eq_true h1, Bool.true_and]
    by_cases h2 : (p : Int) = f
    · have e2 : ((p : Int) == f) = true := by simpa using h2
      rw [decide_eq_true h2, Bool.true_and]
      have HH := Lib.hid h2
      clear h2
      go_enter Tryd.func39, Tryd.ntmps39
      go_wp2_with fail
      refine (HB1.out w (Below.refl _ _)).mono ?_
      rintro e w1 ⟨rfl, hB⟩
      have H1 := Lib.hid hB
      clear hB c0
      have c0 := HC.out w1 H1.out
      go_wp2_with fail
      refine (HB2.out w1 H1.out).mono ?_
      rintro e w2 ⟨rfl, hB⟩
      have H2 := Lib.hid (H1.out.trans (hB.mono H1.out.size))
      clear hB c0
      go_wp2_with fail
      go_ret
      exact ⟨by first | rfl | (congr 2), H2.out⟩
    · have e2 : ((p : Int) == f) = false := by simpa using h2
      rw [decide_eq_false h2, Bool.false_and]
      clear h2
      go_enter Tryd.func39, Tryd.ntmps39
      go_wp2_with fail
      refine (HB1.out w (Below.refl _ _)).mono ?_
      rintro e w1 ⟨rfl, hB⟩
      have H1 := Lib.hid hB
      clear hB c0
      go_wp2_with fail
      go_ret
      exact ⟨rfl, H1.out⟩
  · rw [decide_eq_false h1, Bool.false_and]
    go_enter Tryd.func39, Tryd.ntmps39
    go_wp2_with fail
    go_ret
    exact ⟨rfl, Below.refl _ _⟩
end Go.Proofs.YtjeopabnddekgaaDoor
