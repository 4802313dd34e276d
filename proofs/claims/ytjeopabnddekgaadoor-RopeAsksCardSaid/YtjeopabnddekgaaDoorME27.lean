/- Two trees, one behind the other. Conditions: a text of at most 10^12 bytes. -/
import Derived.Test.YtjeopabnddekgaaDoorME24
import Derived.Test.YtjeopabnddekgaaDoorME25
import Derived.Test.YtjeopabnddekgaaDoorME26
import Derived.Test.YtjeopabnddekgaaDoorProg
import Derived.Shelf.Lays
import Derived.Shelf.LaysM
import Derived.Shelf.Strings.BuilderX
import Derived.KernelRfl
import Derived.Test.YtjeopabnddekgaaDoorME12
namespace Go.Proofs.YtjeopabnddekgaaDoor
open Go Go.RowKit Go.Lib

set_option maxHeartbeats 8000000 in
set_option maxRecDepth 100000 in
theorem join_Cleafleaf (vl vr : Value) (sl : ByteArray) (sr : ByteArray) (w : World) (hl : NT w w.heap.size vl (.leaf sl)) (hr : NT w w.heap.size vr (.leaf sr)) (ol : ((.leaf sl) : R.T).Ok) (or : ((.leaf sr) : R.T).Ok) (hs : ((.leaf sl) : R.T).tx.size + ((.leaf sr) : R.T).tx.size ≤ 1000000000000) (h1 : ((.leaf sl) : R.T).dep ≤ ((.leaf sr) : R.T).dep + 1) (h2 : ((.leaf sr) : R.T).dep ≤ ((.leaf sl) : R.T).dep + 1) :
    Calls Tryd.prog 70 #[vl, vr] w (JoinR (.leaf sl) (.leaf sr) w) := by
  have HJd := Lib.hid (R.lev_C ol or h1 h2)
  have HP := Lib.hid (fun W (hB : Below w.heap.size w W) => pair_any vl vr (.leaf sl) (.leaf sr) W (hl.below hB) (hr.below hB) ol or hs)
  have HDl := Lib.hid (fun W (hB : Below w.heap.size w W) => depth_any _ (.leaf sl) W (hl.below hB))
  have HDr := Lib.hid (fun W (hB : Below w.heap.size w W) => depth_any _ (.leaf sr) W (hr.below hB))
  have hld := ol.low (by omega)
  have hrd := or.low (by omega)
  have q3 : ((((.leaf sl) : R.T).dep : Nat) : Int) ≤ 81 := by omega
  have q4 : ((((.leaf sr) : R.T).dep : Nat) : Int) ≤ 81 := by omega
  obtain ⟨bl, hbl, rfl, hlf⟩ := hl
  have t1 := fun W => ta_leaf_inner W (.pointer (some ⟨bl, 0, none⟩))
  clear hlf
  obtain ⟨br, hbr, rfl, hrf⟩ := hr
  have t2 := fun W => ta_leaf_inner W (.pointer (some ⟨br, 0, none⟩))
  clear hrf
  clear ol or hs h1 h2 hld hrd
  generalize er : ((.leaf sr) : R.T).dep = rd at *
  generalize el : ((.leaf sl) : R.T).dep = ld at *
  clear er el
  go_enter Tryd.func70, Tryd.ntmps70
  go_upto_region 6 with fail
  go_quiet (fail)
  have Hwa := Lib.hid (below_drewN (Below.refl w.heap.size w) nq)
  generalize w.drewN nq = wa at *
  go_upto_region 9 with fail
  go_quiet (fail)
  have Hwb := Lib.hid (below_drewN Hwa.out nq)
  generalize wa.drewN nq = wb at *
  go_wp2_with fail
  refine (HP.out wb Hwb.out).mono ?_
  rintro e w9 ⟨y, rfl, hn, hB⟩
  go_wp2_with fail
  go_ret
  exact ⟨_, y, rfl, hn, HJd.out, Hwb.out.trans (hB.mono Hwb.out.size)⟩
set_option maxHeartbeats 8000000 in
set_option maxRecDepth 100000 in
theorem join_Cleafin (vl vr : Value) (sl : ByteArray) (dr : Nat) (ra rb : R.T) (w : World) (hl : NT w w.heap.size vl (.leaf sl)) (hr : NT w w.heap.size vr (.inner dr ra rb)) (ol : ((.leaf sl) : R.T).Ok) (or : ((.inner dr ra rb) : R.T).Ok) (hs : ((.leaf sl) : R.T).tx.size + ((.inner dr ra rb) : R.T).tx.size ≤ 1000000000000) (h1 : ((.leaf sl) : R.T).dep ≤ ((.inner dr ra rb) : R.T).dep + 1) (h2 : ((.inner dr ra rb) : R.T).dep ≤ ((.leaf sl) : R.T).dep + 1) :
    Calls Tryd.prog 70 #[vl, vr] w (JoinR (.leaf sl) (.inner dr ra rb) w) := by
  have HJd := Lib.hid (R.lev_C ol or h1 h2)
  have HP := Lib.hid (fun W (hB : Below w.heap.size w W) => pair_any vl vr (.leaf sl) (.inner dr ra rb) W (hl.below hB) (hr.below hB) ol or hs)
  have HDl := Lib.hid (fun W (hB : Below w.heap.size w W) => depth_any _ (.leaf sl) W (hl.below hB))
  have HDr := Lib.hid (fun W (hB : Below w.heap.size w W) => depth_any _ (.inner dr ra rb) W (hr.below hB))
  have hld := ol.low (by omega)
  have hrd := or.low (by omega)
  have q3 : ((((.leaf sl) : R.T).dep : Nat) : Int) ≤ 81 := by omega
  have q4 : ((((.inner dr ra rb) : R.T).dep : Nat) : Int) ≤ 81 := by omega
  obtain ⟨bl, hbl, rfl, hlf⟩ := hl
  have t1 := fun W => ta_leaf_inner W (.pointer (some ⟨bl, 0, none⟩))
  clear hlf
  obtain ⟨br, vr1, vr2, hbr, rfl, hrf, -, -⟩ := hr
  have HR := Lib.hid (fun W (hB : Below w.heap.size w W) => (show InnerAt W br _ dr _ _ from (hB.block br hbr).trans hrf).rest)
  have qB : ¬ ((((.leaf sl) : R.T).dep : Nat) : Int) + 1 < (dr : Int) := by have h4 : dr ≤ ((.leaf sl) : R.T).dep + 1 := h2; omega
  have wB : IntKind.i64.wrap ((((.leaf sl) : R.T).dep : Int) + 1) = (((.leaf sl) : R.T).dep : Int) + 1 := wrapI _ (by omega) (by omega)
  have t2 := fun W => ta_inner_inner W (.pointer (some ⟨br, 0, none⟩))
  clear hrf
  clear ol or hs h1 h2 hld hrd
  generalize er : ((.inner dr ra rb) : R.T).dep = rd at *
  generalize el : ((.leaf sl) : R.T).dep = ld at *
  clear er el
  go_enter Tryd.func70, Tryd.ntmps70
  go_upto_region 6 with fail
  go_quiet (fail)
  have Hwa := Lib.hid (below_drewN (Below.refl w.heap.size w) nq)
  generalize w.drewN nq = wa at *
  go_upto_region 9 with fail
  obtain ⟨c5, c6, c7⟩ := HR.out wa Hwa.out
  have KEEP := Lib.hid (fun w' (hB : Below wa.heap.size wa w') => (show w'.cell? ⟨br, 5, none⟩ = some (.int .i64 (dr : Nat)) from (HR.out w' (Hwa.out.trans (hB.mono Hwa.out.size))).1))
  go_region_held3 (fun w' => w'.cell? ⟨br, 5, none⟩ = some (.int .i64 (dr : Nat)))
    (first | exact KEEP.out _ hC2 | exact KEEP.out _ (Below.refl _ _).drew | exact KEEP.out _ (Below.refl _ _))
    (first | (go_at_call 77; (with_reducible refine (HDl.out _ (Hwa.out.drew)).mono ?_); rintro e wk2 ⟨rfl, hB⟩; have hC2 := (Below.refl wa.heap.size wa).drew.trans hB; clear hB))
  rename_i hHeld
  have Hwb := Lib.hid (Hwa.out.trans (hC2.mono Hwa.out.size))
  clear hHeld KEEP c5 c6 c7 hC2
  generalize wk2 = wb at *
  go_wp2_with fail
  refine (HP.out wb Hwb.out).mono ?_
  rintro e w9 ⟨y, rfl, hn, hB⟩
  go_wp2_with fail
  go_ret
  exact ⟨_, y, rfl, hn, HJd.out, Hwb.out.trans (hB.mono Hwb.out.size)⟩
set_option maxHeartbeats 8000000 in
set_option maxRecDepth 100000 in
theorem join_Cinleaf (vl vr : Value) (dl : Nat) (la lb : R.T) (sr : ByteArray) (w : World) (hl : NT w w.heap.size vl (.inner dl la lb)) (hr : NT w w.heap.size vr (.leaf sr)) (ol : ((.inner dl la lb) : R.T).Ok) (or : ((.leaf sr) : R.T).Ok) (hs : ((.inner dl la lb) : R.T).tx.size + ((.leaf sr) : R.T).tx.size ≤ 1000000000000) (h1 : ((.inner dl la lb) : R.T).dep ≤ ((.leaf sr) : R.T).dep + 1) (h2 : ((.leaf sr) : R.T).dep ≤ ((.inner dl la lb) : R.T).dep + 1) :
    Calls Tryd.prog 70 #[vl, vr] w (JoinR (.inner dl la lb) (.leaf sr) w) := by
  have HJd := Lib.hid (R.lev_C ol or h1 h2)
  have HP := Lib.hid (fun W (hB : Below w.heap.size w W) => pair_any vl vr (.inner dl la lb) (.leaf sr) W (hl.below hB) (hr.below hB) ol or hs)
  have HDl := Lib.hid (fun W (hB : Below w.heap.size w W) => depth_any _ (.inner dl la lb) W (hl.below hB))
  have HDr := Lib.hid (fun W (hB : Below w.heap.size w W) => depth_any _ (.leaf sr) W (hr.below hB))
  have hld := ol.low (by omega)
  have hrd := or.low (by omega)
  have q3 : ((((.inner dl la lb) : R.T).dep : Nat) : Int) ≤ 81 := by omega
  have q4 : ((((.leaf sr) : R.T).dep : Nat) : Int) ≤ 81 := by omega
  obtain ⟨bl, vl1, vl2, hbl, rfl, hlf, -, -⟩ := hl
  have HL := Lib.hid (fun W (hB : Below w.heap.size w W) => (show InnerAt W bl _ dl _ _ from (hB.block bl hbl).trans hlf).rest)
  have qA : ¬ ((((.leaf sr) : R.T).dep : Nat) : Int) + 1 < (dl : Int) := by have h4 : dl ≤ ((.leaf sr) : R.T).dep + 1 := h1; omega
  have wA : IntKind.i64.wrap ((((.leaf sr) : R.T).dep : Int) + 1) = (((.leaf sr) : R.T).dep : Int) + 1 := wrapI _ (by omega) (by omega)
  have t1 := fun W => ta_inner_inner W (.pointer (some ⟨bl, 0, none⟩))
  clear hlf
  obtain ⟨br, hbr, rfl, hrf⟩ := hr
  have t2 := fun W => ta_leaf_inner W (.pointer (some ⟨br, 0, none⟩))
  clear hrf
  clear ol or hs h1 h2 hld hrd
  generalize er : ((.leaf sr) : R.T).dep = rd at *
  generalize el : ((.inner dl la lb) : R.T).dep = ld at *
  clear er el
  go_enter Tryd.func70, Tryd.ntmps70
  go_upto_region 6 with fail
  obtain ⟨c5, c6, c7⟩ := HL.out w (Below.refl _ _)
  have KEEP := Lib.hid (fun w' (hB : Below w.heap.size w w') => (show w'.cell? ⟨bl, 5, none⟩ = some (.int .i64 (dl : Nat)) from (HL.out w' (hB)).1))
  go_region_held3 (fun w' => w'.cell? ⟨bl, 5, none⟩ = some (.int .i64 (dl : Nat)))
    (first | exact KEEP.out _ hC1 | exact KEEP.out _ (Below.refl _ _).drew | exact KEEP.out _ (Below.refl _ _))
    (first | (go_at_call 77; (with_reducible refine (HDr.out _ ((Below.refl w.heap.size w).drew)).mono ?_); rintro e wk1 ⟨rfl, hB⟩; have hC1 := (Below.refl w.heap.size w).drew.trans hB; clear hB))
  rename_i hHeld
  have Hwa := Lib.hid (hC1)
  clear hHeld KEEP c5 c6 c7 hC1
  generalize wk1 = wa at *
  go_upto_region 9 with fail
  go_quiet (fail)
  have Hwb := Lib.hid (below_drewN Hwa.out nq)
  generalize wa.drewN nq = wb at *
  go_wp2_with fail
  refine (HP.out wb Hwb.out).mono ?_
  rintro e w9 ⟨y, rfl, hn, hB⟩
  go_wp2_with fail
  go_ret
  exact ⟨_, y, rfl, hn, HJd.out, Hwb.out.trans (hB.mono Hwb.out.size)⟩
set_option maxHeartbeats 8000000 in
set_option maxRecDepth 100000 in
theorem join_Cinin (vl vr : Value) (dl : Nat) (la lb : R.T) (dr : Nat) (ra rb : R.T) (w : World) (hl : NT w w.heap.size vl (.inner dl la lb)) (hr : NT w w.heap.size vr (.inner dr ra rb)) (ol : ((.inner dl la lb) : R.T).Ok) (or : ((.inner dr ra rb) : R.T).Ok) (hs : ((.inner dl la lb) : R.T).tx.size + ((.inner dr ra rb) : R.T).tx.size ≤ 1000000000000) (h1 : ((.inner dl la lb) : R.T).dep ≤ ((.inner dr ra rb) : R.T).dep + 1) (h2 : ((.inner dr ra rb) : R.T).dep ≤ ((.inner dl la lb) : R.T).dep + 1) :
    Calls Tryd.prog 70 #[vl, vr] w (JoinR (.inner dl la lb) (.inner dr ra rb) w) := by
  have HJd := Lib.hid (R.lev_C ol or h1 h2)
  have HP := Lib.hid (fun W (hB : Below w.heap.size w W) => pair_any vl vr (.inner dl la lb) (.inner dr ra rb) W (hl.below hB) (hr.below hB) ol or hs)
  have HDl := Lib.hid (fun W (hB : Below w.heap.size w W) => depth_any _ (.inner dl la lb) W (hl.below hB))
  have HDr := Lib.hid (fun W (hB : Below w.heap.size w W) => depth_any _ (.inner dr ra rb) W (hr.below hB))
  have hld := ol.low (by omega)
  have hrd := or.low (by omega)
  have q3 : ((((.inner dl la lb) : R.T).dep : Nat) : Int) ≤ 81 := by omega
  have q4 : ((((.inner dr ra rb) : R.T).dep : Nat) : Int) ≤ 81 := by omega
  obtain ⟨bl, vl1, vl2, hbl, rfl, hlf, -, -⟩ := hl
  have HL := Lib.hid (fun W (hB : Below w.heap.size w W) => (show InnerAt W bl _ dl _ _ from (hB.block bl hbl).trans hlf).rest)
  have qA : ¬ ((((.inner dr ra rb) : R.T).dep : Nat) : Int) + 1 < (dl : Int) := by have h4 : dl ≤ ((.inner dr ra rb) : R.T).dep + 1 := h1; omega
  have wA : IntKind.i64.wrap ((((.inner dr ra rb) : R.T).dep : Int) + 1) = (((.inner dr ra rb) : R.T).dep : Int) + 1 := wrapI _ (by omega) (by omega)
  have t1 := fun W => ta_inner_inner W (.pointer (some ⟨bl, 0, none⟩))
  clear hlf
  obtain ⟨br, vr1, vr2, hbr, rfl, hrf, -, -⟩ := hr
  have HR := Lib.hid (fun W (hB : Below w.heap.size w W) => (show InnerAt W br _ dr _ _ from (hB.block br hbr).trans hrf).rest)
  have qB : ¬ ((((.inner dl la lb) : R.T).dep : Nat) : Int) + 1 < (dr : Int) := by have h4 : dr ≤ ((.inner dl la lb) : R.T).dep + 1 := h2; omega
  have wB : IntKind.i64.wrap ((((.inner dl la lb) : R.T).dep : Int) + 1) = (((.inner dl la lb) : R.T).dep : Int) + 1 := wrapI _ (by omega) (by omega)
  have t2 := fun W => ta_inner_inner W (.pointer (some ⟨br, 0, none⟩))
  clear hrf
  clear ol or hs h1 h2 hld hrd
  generalize er : ((.inner dr ra rb) : R.T).dep = rd at *
  generalize el : ((.inner dl la lb) : R.T).dep = ld at *
  clear er el
  go_enter Tryd.func70, Tryd.ntmps70
  go_upto_region 6 with fail
  obtain ⟨c5, c6, c7⟩ := HL.out w (Below.refl _ _)
  have KEEP := Lib.hid (fun w' (hB : Below w.heap.size w w') => (show w'.cell? ⟨bl, 5, none⟩ = some (.int .i64 (dl : Nat)) from (HL.out w' (hB)).1))
  go_region_held3 (fun w' => w'.cell? ⟨bl, 5, none⟩ = some (.int .i64 (dl : Nat)))
    (first | exact KEEP.out _ hC1 | exact KEEP.out _ (Below.refl _ _).drew | exact KEEP.out _ (Below.refl _ _))
    (first | (go_at_call 77; (with_reducible refine (HDr.out _ ((Below.refl w.heap.size w).drew)).mono ?_); rintro e wk1 ⟨rfl, hB⟩; have hC1 := (Below.refl w.heap.size w).drew.trans hB; clear hB))
  rename_i hHeld
  have Hwa := Lib.hid (hC1)
  clear hHeld KEEP c5 c6 c7 hC1
  generalize wk1 = wa at *
  go_upto_region 9 with fail
  obtain ⟨c5, c6, c7⟩ := HR.out wa Hwa.out
  have KEEP := Lib.hid (fun w' (hB : Below wa.heap.size wa w') => (show w'.cell? ⟨br, 5, none⟩ = some (.int .i64 (dr : Nat)) from (HR.out w' (Hwa.out.trans (hB.mono Hwa.out.size))).1))
  go_region_held3 (fun w' => w'.cell? ⟨br, 5, none⟩ = some (.int .i64 (dr : Nat)))
    (first | exact KEEP.out _ hC2 | exact KEEP.out _ (Below.refl _ _).drew | exact KEEP.out _ (Below.refl _ _))
    (first | (go_at_call 77; (with_reducible refine (HDl.out _ (Hwa.out.drew)).mono ?_); rintro e wk2 ⟨rfl, hB⟩; have hC2 := (Below.refl wa.heap.size wa).drew.trans hB; clear hB))
  rename_i hHeld
  have Hwb := Lib.hid (Hwa.out.trans (hC2.mono Hwa.out.size))
  clear hHeld KEEP c5 c6 c7 hC2
  generalize wk2 = wb at *
  go_wp2_with fail
  refine (HP.out wb Hwb.out).mono ?_
  rintro e w9 ⟨y, rfl, hn, hB⟩
  go_wp2_with fail
  go_ret
  exact ⟨_, y, rfl, hn, HJd.out, Hwb.out.trans (hB.mono Hwb.out.size)⟩
end Go.Proofs.YtjeopabnddekgaaDoor

namespace Go.Proofs.YtjeopabnddekgaaDoor
open Go Go.RowKit Go.Lib

theorem join_ok : ∀ (n : Nat) (vl vr : Value) (l r : R.T) (w : World), l.dep + r.dep ≤ n → NT w w.heap.size vl l → NT w w.heap.size vr r → l.Ok → r.Ok → l.tx.size + r.tx.size ≤ 1000000000000 →
    Calls Tryd.prog 70 #[vl, vr] w (JoinR l r w)
  | 0, vl, vr, l, r, w, hn, hl, hr, ol, or, hs => by have := ol.pos; omega
  | n + 1, vl, vr, l, r, w, hn, hl, hr, ol, or, hs => by
    by_cases hA : r.dep + 1 < l.dep
    · cases l with
      | none => exact ol.elim
      | leaf s => have := or.pos; have hA : r.dep + 1 < 1 := hA; omega
      | inner d x y =>
        exact join_A vl vr d x y r w hl hr ol or hs hA (fun vy W hB hy => join_ok n vy vr y r W (by have := ol.2.2.1; have hn : d + r.dep ≤ n + 1 := hn; omega) hy (hr.below hB) ol.2.1 or (by have hh : (R.T.inner d x y).tx.size = _ := U.app_size _ _; omega))
    · by_cases hB : l.dep + 1 < r.dep
      · cases r with
        | none => exact or.elim
        | leaf s => have := ol.pos; have hB : l.dep + 1 < 1 := hB; omega
        | inner d x y =>
          have hA' : l.dep ≤ (R.T.inner d x y).dep + 1 := by omega
          have ih : ∀ vx W, Below w.heap.size w W → NT W W.heap.size vx x → Calls Tryd.prog 70 #[vl, vx] W (JoinR l x W) := fun vx W hB hx => join_ok n vl vx l x W (by have := or.2.2.1; have hn : l.dep + d ≤ n + 1 := hn; omega) (hl.below hB) hx ol or.1 (by have hh : (R.T.inner d x y).tx.size = _ := U.app_size _ _; omega)
          cases l with
          | none => exact ol.elim
          | leaf sl => exact join_Bleaf vl vr sl d x y w hl hr ol or hs hB hA' ih
          | inner dl la lb => exact join_Bin vl vr dl la lb d x y w hl hr ol or hs hB hA' ih
      · have a1 : l.dep ≤ r.dep + 1 := by omega
        have a2 : r.dep ≤ l.dep + 1 := by omega
        cases l with
        | none => exact ol.elim
        | leaf sl =>
          cases r with
          | none => exact or.elim
          | leaf sr => exact join_Cleafleaf vl vr sl sr w hl hr ol or hs a1 a2
          | inner dr ra rb => exact join_Cleafin vl vr sl dr ra rb w hl hr ol or hs a1 a2
        | inner dl la lb =>
          cases r with
          | none => exact or.elim
          | leaf sr => exact join_Cinleaf vl vr dl la lb sr w hl hr ol or hs a1 a2
          | inner dr ra rb => exact join_Cinin vl vr dl la lb dr ra rb w hl hr ol or hs a1 a2
/-- whatever trees: the two texts, one behind the other -/
def JoinF (l r : R.T) (w : World) (e : Ending) (w' : World) : Prop := ∃ t v, e = .returned v ∧ NT w' w'.heap.size v t ∧ t.Fit ∧ t.tx = l.tx ++ r.tx ∧ Below w.heap.size w w'
set_option maxHeartbeats 2000000 in
set_option maxRecDepth 100000 in
theorem join_any (vl vr : Value) (l r : R.T) (w : World) (hl : NT w w.heap.size vl l) (hr : NT w w.heap.size vr r) (ol : l.Fit) (or : r.Fit) (hs : l.tx.size + r.tx.size ≤ 1000000000000) :
    Calls Tryd.prog 70 #[vl, vr] w (JoinF l r w) := by
  by_cases l0 : l = .none
  · subst l0
    obtain rfl : vl = .nilIface := hl
    have HX := Lib.hid (And.intro hr or)
    clear hr or ol hs
    go_enter Tryd.func70, Tryd.ntmps70
    go_wp2_with fail
    go_ret
    exact ⟨r, _, rfl, HX.out.1, HX.out.2, (R.empty_app _).symm, Below.refl _ _⟩
  · have ol' := ol.resolve_left l0
    by_cases r0 : r = .none
    · subst r0
      obtain rfl : vr = .nilIface := hr
      obtain ⟨Tl, xl, rfl, -⟩ := hl.meth l0
      have HX := Lib.hid (And.intro hl ol)
      clear hl or ol ol' hs
      go_enter Tryd.func70, Tryd.ntmps70
      go_wp2_with fail
      go_ret
      exact ⟨l, _, rfl, HX.out.1, HX.out.2, (R.app_none _ _ rfl).symm, Below.refl _ _⟩
    · have or' := or.resolve_left r0
      refine (join_ok _ vl vr l r w (Nat.le_refl _) hl hr ol' or' hs).mono ?_
      rintro e w' ⟨t, v, rfl, hn, J, hB⟩
      exact ⟨t, v, rfl, hn, J.ok.fit, J.tx, hB⟩
end Go.Proofs.YtjeopabnddekgaaDoor

namespace Go.Proofs
open Go.Shelf

def Tryd.laysWriteString_ren : Go.Shelf.Ren := ⟨fun | 166 => 73 | 240 => 97 | 276 => 104 | n => n, fun | 3 => 3 | 4 => 4 | 5 => 5 | 9 => 9 | 20 => 20 | 37 => 91 | 70 => 90 | 72 => 93 | 75 => 128 | 80 => 61 | 164 => 159 | n => n, fun n => n⟩
theorem Tryd.laysWriteString : Lays.n166 Tryd.prog Tryd.laysWriteString_ren := {
  mixed := by kernel_rfl,
  f166 := Tryd.func73.trans (congrArg some (by kernel_rfl)),
  f240 := Tryd.func97.trans (congrArg some (by kernel_rfl)),
  f276 := Tryd.func104.trans (congrArg some (by kernel_rfl)),
  t0 := Tryd.underlying0,
  a0 := Tryd.isAgg0,
  z0 := Tryd.sizeOf0,
  v0 := Tryd.zeroValue0,
  t3 := Tryd.underlying3,
  a3 := Tryd.isAgg3,
  z3 := Tryd.sizeOf3,
  v3 := Tryd.zeroValue3,
  t4 := Tryd.underlying4,
  a4 := Tryd.isAgg4,
  z4 := Tryd.sizeOf4,
  v4 := Tryd.zeroValue4,
  t9 := Tryd.underlying9,
  a9 := Tryd.isAgg9,
  z9 := Tryd.sizeOf9,
  v9 := Tryd.zeroValue9,
  t20 := Tryd.underlying20,
  a20 := Tryd.isAgg20,
  z20 := Tryd.sizeOf20,
  v20 := Tryd.zeroValue20,
  t37 := Tryd.underlying91,
  a37 := Tryd.isAgg91,
  z37 := Tryd.sizeOf91,
  v37 := Tryd.zeroValue91,
  t70 := Tryd.underlying90,
  a70 := Tryd.isAgg90,
  z70 := Tryd.sizeOf90,
  v70 := Tryd.zeroValue90,
  t72 := Tryd.underlying93,
  a72 := Tryd.isAgg93,
  z72 := Tryd.sizeOf93,
  v72 := Tryd.zeroValue93,
  t75 := Tryd.underlying128,
  a75 := Tryd.isAgg128,
  z75 := Tryd.sizeOf128,
  v75 := Tryd.zeroValue128,
  t164 := Tryd.underlying159,
  a164 := Tryd.isAgg159,
  z164 := Tryd.sizeOf159,
  v164 := Tryd.zeroValue159 }
theorem Tryd.X_laysWriteString_ren : Builder.Extra Tryd.prog Tryd.laysWriteString_ren := {
  sizeBuilder := by kernel_rfl,
  liesBuilder := by kernel_rfl,
  t5 := Tryd.underlying5,
  a5 := Tryd.isAgg5,
  z5 := Tryd.sizeOf5,
  v5 := Tryd.zeroValue5,
  infoByte := by kernel_rfl,
  cellsByte := by kernel_rfl,
  sizeByte := by kernel_rfl,
  neB5 := by decide }
theorem Tryd.X_laysBString_ren : Builder.Extra Tryd.prog Tryd.laysBString_ren := {
  sizeBuilder := by kernel_rfl,
  liesBuilder := by kernel_rfl,
  t5 := Tryd.underlying5,
  a5 := Tryd.isAgg5,
  z5 := Tryd.sizeOf5,
  v5 := Tryd.zeroValue5,
  infoByte := by kernel_rfl,
  cellsByte := by kernel_rfl,
  sizeByte := by kernel_rfl,
  neB5 := by decide }
end Go.Proofs
