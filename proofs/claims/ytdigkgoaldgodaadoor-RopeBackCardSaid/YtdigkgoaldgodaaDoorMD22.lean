/- Two trees under a node. Conditions: a text of at most 10^12 bytes. -/
import Derived.Test.YtdigkgoaldgodaaDoorMD21
namespace Go.Proofs.YtdigkgoaldgodaaDoor
open Go Go.RowKit Go.Lib

theorem R.T.Ok.low {t : R.T} (h : t.Ok) (hs : t.tx.size ≤ 1000000000000) : t.dep ≤ 81 := by
  by_cases hd : t.dep ≤ 81
  · exact hd
  · exfalso
    have h1 := h.many
    have h2 : 2 ^ 41 ≤ 2 ^ (t.dep / 2) := Nat.pow_le_pow_right (by omega) (by omega)
    have h3 : (2 : Nat) ^ 41 = 2199023255552 := by decide
    omega
def NodeR (t : R.T) (w : World) (e : Ending) (w' : World) : Prop := ∃ v, e = .returned v ∧ NT w' w'.heap.size v t ∧ Below w.heap.size w w'
set_option maxHeartbeats 4000000 in
set_option maxRecDepth 100000 in
theorem pair_any (vl vr : Value) (l r : R.T) (w : World) (hl : NT w w.heap.size vl l) (hr : NT w w.heap.size vr r) (ol : l.Ok) (or : r.Ok) (hs : l.tx.size + r.tx.size ≤ 1000000000000) :
    Calls Tryd.prog 79 #[vl, vr] w (NodeR (R.pr l r) w) := by
  obtain ⟨Tl, xl, rfl, ml⟩ := hl.meth (fun e => by subst e; exact ol)
  obtain ⟨Tr, xr, rfl, mr⟩ := hr.meth (fun e => by subst e; exact or)
  have HML := Lib.hid ml
  have HMR := Lib.hid mr
  have HNL := Lib.hid (fun W (hB : Below w.heap.size w W) => hl.below hB)
  have HNR := Lib.hid (fun W (hB : Below w.heap.size w W) => hr.below hB)
  have HDL := Lib.hid (fun W (hB : Below w.heap.size w W) => depth_any _ l W (hl.below hB))
  have HDR := Lib.hid (fun W (hB : Below w.heap.size w W) => depth_any _ r W (hr.below hB))
  have HF := Lib.hid (And.intro (R.cn_fits l.tx (by omega)) (R.cn_fits r.tx (by omega)))
  have HS := Lib.hid (show (R.cn l.tx).add (R.cn r.tx) = R.cn (l.tx ++ r.tx) from R.cn_add _ _ ol.valid)
  have d1 := ol.low (by omega)
  have d2 := or.low (by omega)
  have hmx : (0 : Int) ≤ max (l.dep : Int) (r.dep : Int) ∧ max (l.dep : Int) (r.dep : Int) ≤ 81 := by omega
  obtain ⟨hm1, hm2⟩ := hmx
  clear ml mr hl hr
  have m1 : (method 247 Tl xl "glossator/rope.whole").run Tryd.prog w = _ := HML.out 246 w (Below.refl _ _)
  go_enter Tryd.func79, Tryd.ntmps79
  go_wp2_with (refine (whole_any _ _).mono ?_)
  rintro e w1 ⟨rfl, hB1⟩
  clear m1
  have m1 : (method 247 Tr xr "glossator/rope.whole").run Tryd.prog w1 = _ := HMR.out 246 w1 hB1
  have H1 := Lib.hid hB1
  clear hB1
  go_wp2_with (refine (whole_any _ _).mono ?_)
  rintro e w2 ⟨rfl, hB2⟩
  clear m1
  have H2 := Lib.hid (H1.out.trans (hB2.mono H1.out.size))
  clear hB2 H1
  go_wp2_with fail
  have ht : Two (w2.alloc (.cells #[Value.int .i64 ((R.cn l.tx).b : Nat), Value.int .i64 ((R.cn l.tx).u : Nat), Value.int .i64 ((R.cn l.tx).k : Nat), Value.bool (R.cn l.tx).f, Value.bool (R.cn l.tx).e, Value.int .i64 ((R.cn r.tx).b : Nat), Value.int .i64 ((R.cn r.tx).u : Nat), Value.int .i64 ((R.cn r.tx).k : Nat), Value.bool (R.cn r.tx).f, Value.bool (R.cn r.tx).e] 75)) w2.heap.size (R.cn l.tx) (R.cn r.tx) := heap_alloc_new _ _
  have H3 := Lib.hid (H2.out.alloc H2.out.size (.cells #[Value.int .i64 ((R.cn l.tx).b : Nat), Value.int .i64 ((R.cn l.tx).u : Nat), Value.int .i64 ((R.cn l.tx).k : Nat), Value.bool (R.cn l.tx).f, Value.bool (R.cn l.tx).e, Value.int .i64 ((R.cn r.tx).b : Nat), Value.int .i64 ((R.cn r.tx).u : Nat), Value.int .i64 ((R.cn r.tx).k : Nat), Value.bool (R.cn r.tx).f, Value.bool (R.cn r.tx).e] 75))
  refine (add_any (R.cn l.tx) (R.cn r.tx) HF.out.1 HF.out.2 w2.heap.size _ ht).mono ?_
  rintro e w4 ⟨rfl, hB4⟩
  have H4 := Lib.hid (H3.out.trans (hB4.mono H3.out.size))
  clear hB4 ht H3
  rw [HS.out]
  go_wp2_with fail
  refine (HDL.out w4 H4.out).mono ?_
  rintro e w5 ⟨rfl, hB5⟩
  have H5 := Lib.hid (H4.out.trans (hB5.mono H4.out.size))
  clear hB5 H4
  go_wp2_with fail
  refine (HDR.out w5 H5.out).mono ?_
  rintro e w6 ⟨rfl, hB6⟩
  have H6 := Lib.hid (H5.out.trans (hB6.mono H5.out.size))
  clear hB6 H5
  go_wp2_with fail
  go_ret
  have e : (1 : Int) + max (l.dep : Int) (r.dep : Int) = ((1 + max l.dep r.dep : Nat) : Int) := by omega
  rw [e]
  have hBz := H6.out.alloc H6.out.size (.cells #[Value.int .i64 ((R.cn (l.tx ++ r.tx)).b : Nat), Value.int .i64 ((R.cn (l.tx ++ r.tx)).u : Nat), Value.int .i64 ((R.cn (l.tx ++ r.tx)).k : Nat), Value.bool (R.cn (l.tx ++ r.tx)).f, Value.bool (R.cn (l.tx ++ r.tx)).e, Value.int .i64 ((1 + max l.dep r.dep : Nat) : Int), .iface Tl xl, .iface Tr xr] 113)
  exact ⟨_, rfl, ⟨w6.heap.size, .iface Tl xl, .iface Tr xr, by rw [World.size_alloc]; omega, rfl, heap_alloc_new _ _, HNL.out _ hBz, HNR.out _ hBz⟩, hBz⟩
end Go.Proofs.YtdigkgoaldgodaaDoor
