/- Two trees under a node, their depths differing by two at most. Conditions: a text of at most 10^12 bytes. -/
import Derived.Test.YtjeopabnddekgaaDoorME19
import Derived.Test.YtjeopabnddekgaaDoorME16
import Derived.Deep.QuietTactic
import Derived.BigQuiet
import Derived.Deep.CutBlock
import Derived.Deep.DeepCutAuto
namespace Go.Proofs.YtjeopabnddekgaaDoor
open Go Go.RowKit Go.Lib

set_option maxHeartbeats 1000000 in
set_option maxRecDepth 100000 in
theorem depth_same (v : Value) (t : R.T) (w : World) (h : NT w w.heap.size v t) :
    Calls Tryd.prog 77 #[v] w fun e w' => e = .returned (.int .i64 (t.dep : Nat)) ∧ w' = w := by
  cases t with
  | none =>
    obtain rfl : v = .nilIface := h
    have t1 := ta_nil_leaf
    have t2 := ta_nil_inner
    go_enter Tryd.func77, Tryd.ntmps77
    go_wp2_with fail
    go_ret
    exact ⟨rfl, rfl⟩
  | leaf s =>
    obtain ⟨b, hb, rfl, h⟩ := h
    have t1 := fun W => ta_leaf_leaf W (.pointer (some ⟨b, 0, none⟩))
    go_enter Tryd.func77, Tryd.ntmps77
    go_wp2_with fail
    go_ret
    exact ⟨rfl, rfl⟩
  | inner d l r =>
    obtain ⟨b, vl, vr, hb, rfl, h, -, -⟩ := h
    have c5 := h.rest.1
    have t1 := fun W => ta_inner_leaf W (.pointer (some ⟨b, 0, none⟩))
    have t2 := fun W => ta_inner_inner W (.pointer (some ⟨b, 0, none⟩))
    go_enter Tryd.func77, Tryd.ntmps77
    go_wp2_with fail
    go_ret
    exact ⟨rfl, rfl⟩
namespace R
theorem dep_in (d : Nat) (l r : T) : (T.inner d l r).dep = d := rfl
/-- two trees' texts, one behind the other, in a tree that is as deep as the deeper one, or by one deeper -/
structure Joined (l r t : T) : Prop where
  ok : t.Ok
  tx : t.tx = l.tx ++ r.tx
  lo : max l.dep r.dep ≤ t.dep
  hi : t.dep ≤ max l.dep r.dep + 1
  eq : l.dep ≤ r.dep + 1 → r.dep ≤ l.dep + 1 → t.dep = 1 + max l.dep r.dep
theorem lev_A1 {d dy : Nat} {x y1 y2 r : T} (h : (T.inner d x (.inner dy y1 y2)).Ok) (hr : r.Ok) (h1 : r.dep + 1 < d) (h2 : d ≤ r.dep + 2) (h3 : x.dep < dy) : Joined (.inner d x (.inner dy y1 y2)) r (pr (pr x y1) (pr y2 r)) ∧ (pr x y1).Ok ∧ (pr y2 r).Ok ∧ x.Ok ∧ y1.Ok ∧ y2.Ok := by
  obtain ⟨hx, ⟨h4, h5, h6, h7, h8⟩, h9, h10, h11⟩ := h
  simp only [dep_in] at *
  have a : (pr x y1).Ok := pr_ok hx h4 (by omega) (by omega)
  have b : (pr y2 r).Ok := pr_ok h5 hr (by omega) (by omega)
  refine ⟨⟨pr_ok a b (by simp only [pr_dep]; omega) (by simp only [pr_dep]; omega), by simp only [pr_tx, T.tx, ByteArray.append_assoc], by simp only [pr_dep, dep_in]; omega, by simp only [pr_dep, dep_in]; omega, fun e1 _ => by simp only [dep_in] at e1; omega⟩, a, b, hx, h4, h5⟩
theorem lev_A2 {d : Nat} {x y r : T} (h : (T.inner d x y).Ok) (hr : r.Ok) (h1 : r.dep + 1 < d) (h2 : d ≤ r.dep + 2) (h3 : y.dep ≤ x.dep) : Joined (.inner d x y) r (pr x (pr y r)) ∧ (pr y r).Ok ∧ x.Ok ∧ y.Ok := by
  obtain ⟨hx, hy, h9, h10, h11⟩ := h
  try simp only [dep_in] at *
  have b : (pr y r).Ok := pr_ok hy hr (by omega) (by omega)
  refine ⟨⟨pr_ok hx b (by simp only [pr_dep]; omega) (by simp only [pr_dep]; omega), by simp only [pr_tx, T.tx, ByteArray.append_assoc], by simp only [pr_dep, dep_in]; omega, by simp only [pr_dep, dep_in]; omega, fun e1 _ => by simp only [dep_in] at e1; omega⟩, b, hx, hy⟩
theorem lev_B1 {d dx : Nat} {l x1 x2 y : T} (hl : l.Ok) (h : (T.inner d (.inner dx x1 x2) y).Ok) (h1 : l.dep + 1 < d) (h2 : d ≤ l.dep + 2) (h3 : y.dep < dx) : Joined l (.inner d (.inner dx x1 x2) y) (pr (pr l x1) (pr x2 y)) ∧ (pr l x1).Ok ∧ (pr x2 y).Ok ∧ x1.Ok ∧ x2.Ok ∧ y.Ok := by
  obtain ⟨⟨h4, h5, h6, h7, h8⟩, hy, h9, h10, h11⟩ := h
  try simp only [dep_in] at *
  have a : (pr l x1).Ok := pr_ok hl h4 (by omega) (by omega)
  have b : (pr x2 y).Ok := pr_ok h5 hy (by omega) (by omega)
  refine ⟨⟨pr_ok a b (by simp only [pr_dep]; omega) (by simp only [pr_dep]; omega), by simp only [pr_tx, T.tx, ByteArray.append_assoc], by simp only [pr_dep, dep_in]; omega, by simp only [pr_dep, dep_in]; omega, fun _ e2 => by simp only [dep_in] at e2; omega⟩, a, b, h4, h5, hy⟩
theorem lev_B2 {d : Nat} {l x y : T} (hl : l.Ok) (h : (T.inner d x y).Ok) (h1 : l.dep + 1 < d) (h2 : d ≤ l.dep + 2) (h3 : x.dep ≤ y.dep) : Joined l (.inner d x y) (pr (pr l x) y) ∧ (pr l x).Ok ∧ x.Ok ∧ y.Ok := by
  obtain ⟨hx, hy, h9, h10, h11⟩ := h
  try simp only [dep_in] at *
  have b : (pr l x).Ok := pr_ok hl hx (by omega) (by omega)
  refine ⟨⟨pr_ok b hy (by simp only [pr_dep]; omega) (by simp only [pr_dep]; omega), by simp only [pr_tx, T.tx, ByteArray.append_assoc], by simp only [pr_dep, dep_in]; omega, by simp only [pr_dep, dep_in]; omega, fun _ e2 => by simp only [dep_in] at e2; omega⟩, b, hx, hy⟩
theorem lev_C {l r : T} (hl : l.Ok) (hr : r.Ok) (h1 : l.dep ≤ r.dep + 1) (h2 : r.dep ≤ l.dep + 1) : Joined l r (pr l r) :=
  ⟨pr_ok hl hr h1 h2, rfl, by simp only [pr_dep]; omega, by simp only [pr_dep]; omega, fun _ _ => rfl⟩
end R
def JoinR (l r : R.T) (w : World) (e : Ending) (w' : World) : Prop := ∃ t v, e = .returned v ∧ NT w' w'.heap.size v t ∧ R.Joined l r t ∧ Below w.heap.size w w'
def FLv5 (b bx by_ : Nat) (vx v1 v2 vr : Value) (x y1 y2 r : R.T) : Nat → Value → World → Prop
  | 0, y, _ => y = .pointer (some ⟨b, 0, none⟩)
  | 1, y, _ => y = .pointer (some ⟨b, 0, none⟩)
  | 2, y, _ => y = .pointer (some ⟨b, 6, none⟩)
  | 3, y, _ => y = vx
  | 4, y, _ => y = .pointer (some ⟨by_, 0, none⟩)
  | 5, y, _ => y = .pointer (some ⟨by_, 0, none⟩)
  | 6, y, _ => y = .pointer (some ⟨by_, 6, none⟩)
  | 7, y, _ => y = v1
  | 8, y, W => NT W W.heap.size y (R.pr (x) (y1))
  | 9, y, _ => y = .pointer (some ⟨by_, 0, none⟩)
  | 10, y, _ => y = .pointer (some ⟨by_, 0, none⟩)
  | 11, y, _ => y = .pointer (some ⟨by_, 7, none⟩)
  | 12, y, _ => y = v2
  | 13, y, _ => y = vr
  | 14, y, W => NT W W.heap.size y (R.pr (y2) (r))
  | 15, y, W => NT W W.heap.size y (R.pr (R.pr x y1) (R.pr y2 r))
  | _, _, _ => True
theorem FLv5.on {b bx by_ : Nat} {vx v1 v2 vr : Value} {x y1 y2 r : R.T} {iz : Nat} {y : Value} {W W' : World} (h : FLv5 b bx by_ vx v1 v2 vr x y1 y2 r iz y W) (hB : Below W.heap.size W W') : FLv5 b bx by_ vx v1 v2 vr x y1 y2 r iz y W' := by
  unfold FLv5 at h ⊢
  split at h
  · exact h
  · exact h
  · exact h
  · exact h
  · exact h
  · exact h
  · exact h
  · exact h
  · exact h.below hB
  · exact h
  · exact h
  · exact h
  · exact h
  · exact h
  · exact h.below hB
  · exact h.below hB
  · trivial

set_option maxHeartbeats 8000000 in
set_option maxRecDepth 100000 in
theorem level_A1 (vl vr : Value) (d dy : Nat) (x y1 y2 r : R.T) (w : World) (hl : NT w w.heap.size vl (.inner d x (.inner dy y1 y2))) (hr : NT w w.heap.size vr r) (ol : (R.T.inner d x (.inner dy y1 y2)).Ok) (or : r.Ok) (hs : (R.T.inner d x (.inner dy y1 y2)).tx.size + r.tx.size ≤ 1000000000000) (h1 : r.dep + 1 < d) (h2 : d ≤ r.dep + 2) (h3 : x.dep < dy) :
    Calls Tryd.prog 94 #[vl, vr] w (JoinR (.inner d x (.inner dy y1 y2)) r w) := by
  obtain ⟨J, a, b', ox, o1, o2⟩ := R.lev_A1 ol or h1 h2 h3
  have HJd := Lib.hid J
  obtain ⟨b, vx, vy, hb, rfl, hi, hx, hy⟩ := hl
  obtain ⟨by_, v1, v2, hby, rfl, hj, hy1, hy2⟩ := hy
  have hz : x.tx.size + (y1.tx.size + y2.tx.size) + r.tx.size ≤ 1000000000000 := by simpa [R.T.tx, U.app_size] using hs
  have HI := Lib.hid (fun W (hB : Below w.heap.size w W) => (show InnerAt W b _ d _ _ from (hB.block b hb).trans hi).rest)
  have HJ := Lib.hid (fun W (hB : Below w.heap.size w W) => (show InnerAt W by_ _ dy _ _ from (hB.block by_ hby).trans hj).rest)
  have HNx := Lib.hid (fun W (hB : Below w.heap.size w W) => hx.below hB)
  have HN1 := Lib.hid (fun W (hB : Below w.heap.size w W) => hy1.below hB)
  have HN2 := Lib.hid (fun W (hB : Below w.heap.size w W) => hy2.below hB)
  have HNr := Lib.hid (fun W (hB : Below w.heap.size w W) => hr.below hB)
  have HDr := Lib.hid (fun W (hB : Below w.heap.size w W) => depth_any _ r W (hr.below hB))
  have HDx := Lib.hid (fun W (hB : Below w.heap.size w W) => depth_any _ x W (hx.below hB))
  have HO := Lib.hid (show x.Ok ∧ y1.Ok ∧ x.tx.size + y1.tx.size ≤ 1000000000000 ∧ y2.Ok ∧ r.Ok ∧ y2.tx.size + r.tx.size ≤ 1000000000000 ∧ (R.pr x y1).Ok ∧ (R.pr y2 r).Ok ∧ (R.pr x y1).tx.size + (R.pr y2 r).tx.size ≤ 1000000000000 from ⟨ox, o1, by omega, o2, or, by omega, a, b', by simp only [R.pr_tx, U.app_size]; omega⟩)
  have t1 := fun W => ta_inner_inner W (.pointer (some ⟨b, 0, none⟩))
  have t2 := fun W => ta_inner_inner W (.pointer (some ⟨by_, 0, none⟩))
  have hld := or.low (by omega)
  have q1 : ((r.dep : Nat) : Int) + 1 < (d : Int) := by omega
  have q2 : ((x.dep : Nat) : Int) < (dy : Int) := by omega
  have q3 : ((r.dep : Nat) : Int) ≤ 81 := by omega
  have w1 : IntKind.i64.wrap ((r.dep : Int) + 1) = (r.dep : Int) + 1 := wrapI _ (by omega) (by omega)
  clear hi hj hx hy1 hy2 hr J a b' ox o1 o2 ol or hs h1 h2 h3 hz hld
  go_enter Tryd.func94, Tryd.ntmps94
  go_upto_region 2 with fail
  obtain ⟨c5, c6, c7⟩ := HI.out w (Below.refl _ _)
  obtain ⟨e5, e6, e7⟩ := HJ.out w (Below.refl _ _)
  have KEEP := Lib.hid (fun w' (hB : Below w.heap.size w w') => (show w'.cell? ⟨b, 5, none⟩ = some (.int .i64 (d : Nat)) from (HI.out w' hB).1))
  go_region_held3 (fun w' => w'.cell? ⟨b, 5, none⟩ = some (.int .i64 (d : Nat)))
    (first | exact KEEP.out _ hC1 | exact KEEP.out _ (Below.refl _ _).drew | exact KEEP.out _ (Below.refl _ _))
    (first | (go_at_call 77; (with_reducible refine (HDr.out _ (Below.refl _ _).drew).mono ?_); rintro e wc1 ⟨rfl, hB⟩; have hC1 := (Below.refl w.heap.size w).drew.trans hB; clear hB))
  rename_i hHeld
  have HC1 := Lib.hid hC1
  clear hHeld KEEP c5 c6 c7 e5 e6 e7 hC1
  obtain ⟨c5, c6, c7⟩ := HI.out wc1 HC1.out
  obtain ⟨e5, e6, e7⟩ := HJ.out wc1 HC1.out
  go_upto_region 4 with fail
  have KEEP := Lib.hid (fun w' (hB : Below wc1.heap.size wc1 w') => (show w'.cell? ⟨b, 6, none⟩ = some vx ∧ w'.cell? ⟨by_, 5, none⟩ = some (.int .i64 (dy : Nat)) from ⟨(HI.out w' (HC1.out.trans (hB.mono HC1.out.size))).2.1, (HJ.out w' (HC1.out.trans (hB.mono HC1.out.size))).1⟩))
  go_region_held3 (fun w' => w'.cell? ⟨b, 6, none⟩ = some vx ∧ w'.cell? ⟨by_, 5, none⟩ = some (.int .i64 (dy : Nat)))
    (first | exact KEEP.out _ hC2 | exact KEEP.out _ (Below.refl _ _).drew | exact KEEP.out _ (Below.refl _ _))
    (first | (go_at_call 77; (with_reducible refine (HDx.out _ (HC1.out.drew)).mono ?_); rintro e wc2 ⟨rfl, hB⟩; have hC2 := (Below.refl wc1.heap.size wc1).drew.trans hB; clear hB))
  rename_i hHeld
  have HC2 := Lib.hid (HC1.out.trans (hC2.mono HC1.out.size))
  clear hHeld KEEP c5 c6 c7 e5 e6 e7 hC2 HC1
  go_upto_region 5 with fail
  have HRd := Lib.hid (HC2.out.drew)
  refine wp_region_stepsP [some 50, some 51, some 52, some 53, some 54, some 55, some 56, some 57, some 58, some 59, some 60, some 61, some 62, some 63, some 64, some 65, some 4] _ _ (G := fun W => Below w.heap.size w W) (F := FLv5 b b by_ vx v1 v2 vr x y1 y2 r) (z := 16) (by kernel_rfl) rfl (by decide +kernel) rfl (by decide +kernel) (by decide +kernel) rfl (fun W W' h hB => h.trans (hB.mono h.size)) (fun i y W W' h hB => h.on hB) ?_ ?_ HRd.out
  · intro i o' ho hz a W hg hd hold K' hK
    have HG := Lib.hid hg
    have hlt : i < 17 := (Array.getElem?_eq_some_iff.1 ho).1
    clear hg
    obtain rfl | rfl | rfl | rfl | rfl | rfl | rfl | rfl | rfl | rfl | rfl | rfl | rfl | rfl | rfl | rfl | rfl : i = 0 ∨ i = 1 ∨ i = 2 ∨ i = 3 ∨ i = 4 ∨ i = 5 ∨ i = 6 ∨ i = 7 ∨ i = 8 ∨ i = 9 ∨ i = 10 ∨ i = 11 ∨ i = 12 ∨ i = 13 ∨ i = 14 ∨ i = 15 ∨ i = 16 := by omega
    · obtain rfl := Option.some.inj ho
      have o5 : a.tmps[5]? = _ := (hold 5 rfl).trans rfl
      clear hd hold
      go_simp
      exact hK.out _ _ (by rfl) (Below.refl _ _)
    · obtain rfl := Option.some.inj ho
      obtain ⟨y0, e0, h0⟩ := hd 0 50 rfl (by decide +kernel) (by decide)
      have h0 : y0 = _ := h0
      have h0 := h0.symm
      subst h0
      clear hd hold
      go_simp
      exact hK.out _ _ (by rfl) (Below.refl _ _)
    · obtain rfl := Option.some.inj ho
      obtain ⟨y1, e1, h1⟩ := hd 1 51 rfl (by decide +kernel) (by decide)
      have h1 : y1 = _ := h1
      have h1 := h1.symm
      subst h1
      clear hd hold
      go_simp
      exact hK.out _ _ (by rfl) (Below.refl _ _)
    · obtain rfl := Option.some.inj ho
      obtain ⟨y2, e2, h2⟩ := hd 2 52 rfl (by decide +kernel) (by decide)
      have h2 : y2 = _ := h2
      have h2 := h2.symm
      subst h2
      have c6 := (HI.out W HG.out).2.1
      clear hd hold
      go_simp
      exact hK.out _ _ (by rfl) (Below.refl _ _)
    · obtain rfl := Option.some.inj ho
      have o7 : a.tmps[7]? = _ := (hold 7 rfl).trans rfl
      clear hd hold
      go_simp
      exact hK.out _ _ (by rfl) (Below.refl _ _)
    · obtain rfl := Option.some.inj ho
      obtain ⟨y4, e4, h4⟩ := hd 4 54 rfl (by decide +kernel) (by decide)
      have h4 : y4 = _ := h4
      have h4 := h4.symm
      subst h4
      clear hd hold
      go_simp
      exact hK.out _ _ (by rfl) (Below.refl _ _)
    · obtain rfl := Option.some.inj ho
      obtain ⟨y5, e5, h5⟩ := hd 5 55 rfl (by decide +kernel) (by decide)
      have h5 : y5 = _ := h5
      have h5 := h5.symm
      subst h5
      clear hd hold
      go_simp
      exact hK.out _ _ (by rfl) (Below.refl _ _)
    · obtain rfl := Option.some.inj ho
      obtain ⟨y6, e6, h6⟩ := hd 6 56 rfl (by decide +kernel) (by decide)
      have h6 : y6 = _ := h6
      have h6 := h6.symm
      subst h6
      have c6 := (HJ.out W HG.out).2.1
      clear hd hold
      go_simp
      exact hK.out _ _ (by rfl) (Below.refl _ _)
    · obtain rfl := Option.some.inj ho
      obtain ⟨y3, e3, h3⟩ := hd 3 53 rfl (by decide +kernel) (by decide)
      have h3 : y3 = _ := h3
      have h3 := h3.symm
      subst h3
      obtain ⟨y7, e7, h7⟩ := hd 7 57 rfl (by decide +kernel) (by decide)
      have h7 : y7 = _ := h7
      have h7 := h7.symm
      subst h7
      have HC := Lib.hid (pair_any vx v1 (x) (y1) W (HNx.out W HG.out) (HN1.out W HG.out) HO.out.1 HO.out.2.1 HO.out.2.2.1)
      clear hd hold 
      go_simp
      go_at_call 95
      (with_reducible refine HC.out.mono ?_)
      rintro e W1 ⟨y, rfl, hn, hB⟩
      exact hK.out _ _ hn hB
    · obtain rfl := Option.some.inj ho
      have o7 : a.tmps[7]? = _ := (hold 7 rfl).trans rfl
      clear hd hold
      go_simp
      exact hK.out _ _ (by rfl) (Below.refl _ _)
    · obtain rfl := Option.some.inj ho
      obtain ⟨y9, e9, h9⟩ := hd 9 59 rfl (by decide +kernel) (by decide)
      have h9 : y9 = _ := h9
      have h9 := h9.symm
      subst h9
      clear hd hold
      go_simp
      exact hK.out _ _ (by rfl) (Below.refl _ _)
    · obtain rfl := Option.some.inj ho
      obtain ⟨y10, e10, h10⟩ := hd 10 60 rfl (by decide +kernel) (by decide)
      have h10 : y10 = _ := h10
      have h10 := h10.symm
      subst h10
      clear hd hold
      go_simp
      exact hK.out _ _ (by rfl) (Below.refl _ _)
    · obtain rfl := Option.some.inj ho
      obtain ⟨y11, e11, h11⟩ := hd 11 61 rfl (by decide +kernel) (by decide)
      have h11 : y11 = _ := h11
      have h11 := h11.symm
      subst h11
      have c7 := (HJ.out W HG.out).2.2
      clear hd hold
      go_simp
      exact hK.out _ _ (by rfl) (Below.refl _ _)
    · obtain rfl := Option.some.inj ho
      have o1 : a.tmps[1]? = _ := (hold 1 rfl).trans rfl
      clear hd hold
      go_simp
      exact hK.out _ _ (by rfl) (Below.refl _ _)
    · obtain rfl := Option.some.inj ho
      obtain ⟨y12, e12, h12⟩ := hd 12 62 rfl (by decide +kernel) (by decide)
      have h12 : y12 = _ := h12
      have h12 := h12.symm
      subst h12
      obtain ⟨y13, e13, h13⟩ := hd 13 63 rfl (by decide +kernel) (by decide)
      have h13 : y13 = _ := h13
      have h13 := h13.symm
      subst h13
      have HC := Lib.hid (pair_any v2 vr (y2) (r) W (HN2.out W HG.out) (HNr.out W HG.out) HO.out.2.2.2.1 HO.out.2.2.2.2.1 HO.out.2.2.2.2.2.1)
      clear hd hold 
      go_simp
      go_at_call 95
      (with_reducible refine HC.out.mono ?_)
      rintro e W1 ⟨y, rfl, hn, hB⟩
      exact hK.out _ _ hn hB
    · obtain rfl := Option.some.inj ho
      obtain ⟨y8, e8, h8⟩ := hd 8 58 rfl (by decide +kernel) (by decide)
      have h8 : NT W W.heap.size y8 (R.pr (x) (y1)) := h8
      obtain ⟨y14, e14, h14⟩ := hd 14 64 rfl (by decide +kernel) (by decide)
      have h14 : NT W W.heap.size y14 (R.pr (y2) (r)) := h14
      have HC := Lib.hid (pair_any y8 y14 (R.pr x y1) (R.pr y2 r) W (h8) (h14) HO.out.2.2.2.2.2.2.1 HO.out.2.2.2.2.2.2.2.1 HO.out.2.2.2.2.2.2.2.2)
      clear hd hold 
      go_simp
      go_at_call 95
      (with_reducible refine HC.out.mono ?_)
      rintro e W1 ⟨y, rfl, hn, hB⟩
      exact hK.out _ _ hn hB
    · exact absurd rfl hz
  · intro a W hg hf hold hput K' hK
    obtain ⟨yz, oz, hvz⟩ := hf 15 65 rfl (by decide) (by decide)
    have hvz : NT W W.heap.size yz (R.pr (R.pr x y1) (R.pr y2 r)) := hvz
    have HB := Lib.hid (And.intro hg hvz)
    clear hg hf hold hvz
    go_simp
    refine hK.out _ _ ?_
    obtain ⟨rr, ha⟩ := hput.out
    clear hput oz
    subst ha
    simp only [putL, Act.put, List.setIfInBounds_toArray, List.set_cons_zero, List.set_cons_succ]
    clear hK K'
    go_wp2_with fail
    go_ret
    exact ⟨_, _, rfl, HB.out.2, HJd.out, HB.out.1⟩

end Go.Proofs.YtjeopabnddekgaaDoor
