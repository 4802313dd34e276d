/- Two trees under a node: the other ways. Conditions: a text of at most 10^12 bytes. -/
import Derived.Test.YtjeopabnddekgaaDoorME20
import Derived.Test.YtjeopabnddekgaaDoorME21
import Derived.Test.YtjeopabnddekgaaDoorME22
import Derived.Test.YtjeopabnddekgaaDoorME23
namespace Go.Proofs.YtjeopabnddekgaaDoor
open Go Go.RowKit Go.Lib

set_option maxHeartbeats 8000000 in
set_option maxRecDepth 100000 in
theorem level_Cleafleaf (vl vr : Value) (sl : ByteArray) (sr : ByteArray) (w : World) (hl : NT w w.heap.size vl (.leaf sl)) (hr : NT w w.heap.size vr (.leaf sr)) (ol : ((.leaf sl) : R.T).Ok) (or : ((.leaf sr) : R.T).Ok) (hs : ((.leaf sl) : R.T).tx.size + ((.leaf sr) : R.T).tx.size ≤ 1000000000000) (h1 : ((.leaf sl) : R.T).dep ≤ ((.leaf sr) : R.T).dep + 1) (h2 : ((.leaf sr) : R.T).dep ≤ ((.leaf sl) : R.T).dep + 1) :
    Calls Tryd.prog 94 #[vl, vr] w (JoinR (.leaf sl) (.leaf sr) w) := by
  have HJd := Lib.hid (R.lev_C ol or h1 h2)
  have HP := Lib.hid (fun W (hB : Below w.heap.size w W) => pair_any vl vr (.leaf sl) (.leaf sr) W (hl.below hB) (hr.below hB) ol or hs)
  have HDl := Lib.hid (fun W (hB : Below w.heap.size w W) => depth_any _ (.leaf sl) W (hl.below hB))
  have HDr := Lib.hid (fun W (hB : Below w.heap.size w W) => depth_any _ (.leaf sr) W (hr.below hB))
  have hld := ol.low (by omega)
  have hrd := or.low (by omega)
  have q3 : ((((.leaf sl) : R.T).dep : Nat) : Int) ≤ 81 := by omega
  have q4 : ((((.leaf sr) : R.T).dep : Nat) : Int) ≤ 81 := by omega
  obtain ⟨bl, hbl, rfl, hlf⟩ := hl
  have t1 := fun W => ta_leaf_inner W (.pointer (some ⟨bl, 0, none⟩))
  clear hlf
  obtain ⟨br, hbr, rfl, hrf⟩ := hr
  have t2 := fun W => ta_leaf_inner W (.pointer (some ⟨br, 0, none⟩))
  clear hrf
  clear ol or hs h1 h2 hld hrd
  generalize er : ((.leaf sr) : R.T).dep = rd at *
  generalize el : ((.leaf sl) : R.T).dep = ld at *
  clear er el
  go_enter Tryd.func94, Tryd.ntmps94
  go_upto_region 2 with fail
  go_quiet (fail)
  have Hwa := Lib.hid (below_drewN (Below.refl w.heap.size w) nq)
  generalize w.drewN nq = wa at *
  go_upto_region 8 with fail
  go_quiet (fail)
  have Hwb := Lib.hid (below_drewN Hwa.out nq)
  generalize wa.drewN nq = wb at *
  go_wp2_with fail
  refine (HP.out wb Hwb.out).mono ?_
  rintro e w9 ⟨y, rfl, hn, hB⟩
  go_wp2_with fail
  go_ret
  exact ⟨_, y, rfl, hn, HJd.out, Hwb.out.trans (hB.mono Hwb.out.size)⟩
set_option maxHeartbeats 8000000 in
set_option maxRecDepth 100000 in
theorem level_Cleafin (vl vr : Value) (sl : ByteArray) (dr : Nat) (ra rb : R.T) (w : World) (hl : NT w w.heap.size vl (.leaf sl)) (hr : NT w w.heap.size vr (.inner dr ra rb)) (ol : ((.leaf sl) : R.T).Ok) (or : ((.inner dr ra rb) : R.T).Ok) (hs : ((.leaf sl) : R.T).tx.size + ((.inner dr ra rb) : R.T).tx.size ≤ 1000000000000) (h1 : ((.leaf sl) : R.T).dep ≤ ((.inner dr ra rb) : R.T).dep + 1) (h2 : ((.inner dr ra rb) : R.T).dep ≤ ((.leaf sl) : R.T).dep + 1) :
    Calls Tryd.prog 94 #[vl, vr] w (JoinR (.leaf sl) (.inner dr ra rb) w) := by
  have HJd := Lib.hid (R.lev_C ol or h1 h2)
  have HP := Lib.hid (fun W (hB : Below w.heap.size w W) => pair_any vl vr (.leaf sl) (.inner dr ra rb) W (hl.below hB) (hr.below hB) ol or hs)
  have HDl := Lib.hid (fun W (hB : Below w.heap.size w W) => depth_any _ (.leaf sl) W (hl.below hB))
  have HDr := Lib.hid (fun W (hB : Below w.heap.size w W) => depth_any _ (.inner dr ra rb) W (hr.below hB))
  have hld := ol.low (by omega)
  have hrd := or.low (by omega)
  have q3 : ((((.leaf sl) : R.T).dep : Nat) : Int) ≤ 81 := by omega
  have q4 : ((((.inner dr ra rb) : R.T).dep : Nat) : Int) ≤ 81 := by omega
  obtain ⟨bl, hbl, rfl, hlf⟩ := hl
  have t1 := fun W => ta_leaf_inner W (.pointer (some ⟨bl, 0, none⟩))
  clear hlf
  obtain ⟨br, vr1, vr2, hbr, rfl, hrf, -, -⟩ := hr
  have HR := Lib.hid (fun W (hB : Below w.heap.size w W) => (show InnerAt W br _ dr _ _ from (hB.block br hbr).trans hrf).rest)
  have qB : ¬ ((((.leaf sl) : R.T).dep : Nat) : Int) + 1 < (dr : Int) := by have h4 : dr ≤ ((.leaf sl) : R.T).dep + 1 := h2; omega
  have wB : IntKind.i64.wrap ((((.leaf sl) : R.T).dep : Int) + 1) = (((.leaf sl) : R.T).dep : Int) + 1 := wrapI _ (by omega) (by omega)
  have t2 := fun W => ta_inner_inner W (.pointer (some ⟨br, 0, none⟩))
  clear hrf
  clear ol or hs h1 h2 hld hrd
  generalize er : ((.inner dr ra rb) : R.T).dep = rd at *
  generalize el : ((.leaf sl) : R.T).dep = ld at *
  clear er el
  go_enter Tryd.func94, Tryd.ntmps94
  go_upto_region 2 with fail
  go_quiet (fail)
  have Hwa := Lib.hid (below_drewN (Below.refl w.heap.size w) nq)
  generalize w.drewN nq = wa at *
  go_upto_region 8 with fail
  obtain ⟨c5, c6, c7⟩ := HR.out wa Hwa.out
  have KEEP := Lib.hid (fun w' (hB : Below wa.heap.size wa w') => (show w'.cell? ⟨br, 5, none⟩ = some (.int .i64 (dr : Nat)) from (HR.out w' (Hwa.out.trans (hB.mono Hwa.out.size))).1))
  go_region_held3 (fun w' => w'.cell? ⟨br, 5, none⟩ = some (.int .i64 (dr : Nat)))
    (first | exact KEEP.out _ hC2 | exact KEEP.out _ (Below.refl _ _).drew | exact KEEP.out _ (Below.refl _ _))
    (first | (go_at_call 77; (with_reducible refine (HDl.out _ (Hwa.out.drew)).mono ?_); rintro e wk2 ⟨rfl, hB⟩; have hC2 := (Below.refl wa.heap.size wa).drew.trans hB; clear hB))
  rename_i hHeld
  have Hwb := Lib.hid (Hwa.out.trans (hC2.mono Hwa.out.size))
  clear hHeld KEEP c5 c6 c7 hC2
  generalize wk2 = wb at *
  go_wp2_with fail
  refine (HP.out wb Hwb.out).mono ?_
  rintro e w9 ⟨y, rfl, hn, hB⟩
  go_wp2_with fail
  go_ret
  exact ⟨_, y, rfl, hn, HJd.out, Hwb.out.trans (hB.mono Hwb.out.size)⟩
set_option maxHeartbeats 8000000 in
set_option maxRecDepth 100000 in
theorem level_Cinleaf (vl vr : Value) (dl : Nat) (la lb : R.T) (sr : ByteArray) (w : World) (hl : NT w w.heap.size vl (.inner dl la lb)) (hr : NT w w.heap.size vr (.leaf sr)) (ol : ((.inner dl la lb) : R.T).Ok) (or : ((.leaf sr) : R.T).Ok) (hs : ((.inner dl la lb) : R.T).tx.size + ((.leaf sr) : R.T).tx.size ≤ 1000000000000) (h1 : ((.inner dl la lb) : R.T).dep ≤ ((.leaf sr) : R.T).dep + 1) (h2 : ((.leaf sr) : R.T).dep ≤ ((.inner dl la lb) : R.T).dep + 1) :
    Calls Tryd.prog 94 #[vl, vr] w (JoinR (.inner dl la lb) (.leaf sr) w) := by
  have HJd := Lib.hid (R.lev_C ol or h1 h2)
  have HP := Lib.hid (fun W (hB : Below w.heap.size w W) => pair_any vl vr (.inner dl la lb) (.leaf sr) W (hl.below hB) (hr.below hB) ol or hs)
  have HDl := Lib.hid (fun W (hB : Below w.heap.size w W) => depth_any _ (.inner dl la lb) W (hl.below hB))
  have HDr := Lib.hid (fun W (hB : Below w.heap.size w W) => depth_any _ (.leaf sr) W (hr.below hB))
  have hld := ol.low (by omega)
  have hrd := or.low (by omega)
  have q3 : ((((.inner dl la lb) : R.T).dep : Nat) : Int) ≤ 81 := by omega
  have q4 : ((((.leaf sr) : R.T).dep : Nat) : Int) ≤ 81 := by omega
  obtain ⟨bl, vl1, vl2, hbl, rfl, hlf, -, -⟩ := hl
  have HL := Lib.hid (fun W (hB : Below w.heap.size w W) => (show InnerAt W bl _ dl _ _ from (hB.block bl hbl).trans hlf).rest)
  have qA : ¬ ((((.leaf sr) : R.T).dep : Nat) : Int) + 1 < (dl : Int) := by have h4 : dl ≤ ((.leaf sr) : R.T).dep + 1 := h1; omega
  have wA : IntKind.i64.wrap ((((.leaf sr) : R.T).dep : Int) + 1) = (((.leaf sr) : R.T).dep : Int) + 1 := wrapI _ (by omega) (by omega)
  have t1 := fun W => ta_inner_inner W (.pointer (some ⟨bl, 0, none⟩))
  clear hlf
  obtain ⟨br, hbr, rfl, hrf⟩ := hr
  have t2 := fun W => ta_leaf_inner W (.pointer (some ⟨br, 0, none⟩))
  clear hrf
  clear ol or hs h1 h2 hld hrd
  generalize er : ((.leaf sr) : R.T).dep = rd at *
  generalize el : ((.inner dl la lb) : R.T).dep = ld at *
  clear er el
  go_enter Tryd.func94, Tryd.ntmps94
  go_upto_region 2 with fail
  obtain ⟨c5, c6, c7⟩ := HL.out w (Below.refl _ _)
  have KEEP := Lib.hid (fun w' (hB : Below w.heap.size w w') => (show w'.cell? ⟨bl, 5, none⟩ = some (.int .i64 (dl : Nat)) from (HL.out w' (hB)).1))
  go_region_held3 (fun w' => w'.cell? ⟨bl, 5, none⟩ = some (.int .i64 (dl : Nat)))
    (first | exact KEEP.out _ hC1 | exact KEEP.out _ (Below.refl _ _).drew | exact KEEP.out _ (Below.refl _ _))
    (first | (go_at_call 77; (with_reducible refine (HDr.out _ ((Below.refl w.heap.size w).drew)).mono ?_); rintro e wk1 ⟨rfl, hB⟩; have hC1 := (Below.refl w.heap.size w).drew.trans hB; clear hB))
  rename_i hHeld
  have Hwa := Lib.hid (hC1)
  clear hHeld KEEP c5 c6 c7 hC1
  generalize wk1 = wa at *
  go_upto_region 8 with fail
  go_quiet (fail)
  have Hwb := Lib.hid (below_drewN Hwa.out nq)
  generalize wa.drewN nq = wb at *
  go_wp2_with fail
  refine (HP.out wb Hwb.out).mono ?_
  rintro e w9 ⟨y, rfl, hn, hB⟩
  go_wp2_with fail
  go_ret
  exact ⟨_, y, rfl, hn, HJd.out, Hwb.out.trans (hB.mono Hwb.out.size)⟩
set_option maxHeartbeats 8000000 in
set_option maxRecDepth 100000 in
theorem level_Cinin (vl vr : Value) (dl : Nat) (la lb : R.T) (dr : Nat) (ra rb : R.T) (w : World) (hl : NT w w.heap.size vl (.inner dl la lb)) (hr : NT w w.heap.size vr (.inner dr ra rb)) (ol : ((.inner dl la lb) : R.T).Ok) (or : ((.inner dr ra rb) : R.T).Ok) (hs : ((.inner dl la lb) : R.T).tx.size + ((.inner dr ra rb) : R.T).tx.size ≤ 1000000000000) (h1 : ((.inner dl la lb) : R.T).dep ≤ ((.inner dr ra rb) : R.T).dep + 1) (h2 : ((.inner dr ra rb) : R.T).dep ≤ ((.inner dl la lb) : R.T).dep + 1) :
    Calls Tryd.prog 94 #[vl, vr] w (JoinR (.inner dl la lb) (.inner dr ra rb) w) := by
  have HJd := Lib.hid (R.lev_C ol or h1 h2)
  have HP := Lib.hid (fun W (hB : Below w.heap.size w W) => pair_any vl vr (.inner dl la lb) (.inner dr ra rb) W (hl.below hB) (hr.below hB) ol or hs)
  have HDl := Lib.hid (fun W (hB : Below w.heap.size w W) => depth_any _ (.inner dl la lb) W (hl.below hB))
  have HDr := Lib.hid (fun W (hB : Below w.heap.size w W) => depth_any _ (.inner dr ra rb) W (hr.below hB))
  have hld := ol.low (by omega)
  have hrd := or.low (by omega)
  have q3 : ((((.inner dl la lb) : R.T).dep : Nat) : Int) ≤ 81 := by omega
  have q4 : ((((.inner dr ra rb) : R.T).dep : Nat) : Int) ≤ 81 := by omega
  obtain ⟨bl, vl1, vl2, hbl, rfl, hlf, -, -⟩ := hl
  have HL := Lib.hid (fun W (hB : Below w.heap.size w W) => (show InnerAt W bl _ dl _ _ from (hB.block bl hbl).trans hlf).rest)
  have qA : ¬ ((((.inner dr ra rb) : R.T).dep : Nat) : Int) + 1 < (dl : Int) := by have h4 : dl ≤ ((.inner dr ra rb) : R.T).dep + 1 := h1; omega
  have wA : IntKind.i64.wrap ((((.inner dr ra rb) : R.T).dep : Int) + 1) = (((.inner dr ra rb) : R.T).dep : Int) + 1 := wrapI _ (by omega) (by omega)
  have t1 := fun W => ta_inner_inner W (.pointer (some ⟨bl, 0, none⟩))
  clear hlf
  obtain ⟨br, vr1, vr2, hbr, rfl, hrf, -, -⟩ := hr
  have HR := Lib.hid (fun W (hB : Below w.heap.size w W) => (show InnerAt W br _ dr _ _ from (hB.block br hbr).trans hrf).rest)
  have qB : ¬ ((((.inner dl la lb) : R.T).dep : Nat) : Int) + 1 < (dr : Int) := by have h4 : dr ≤ ((.inner dl la lb) : R.T).dep + 1 := h2; omega
  have wB : IntKind.i64.wrap ((((.inner dl la lb) : R.T).dep : Int) + 1) = (((.inner dl la lb) : R.T).dep : Int) + 1 := wrapI _ (by omega) (by omega)
  have t2 := fun W => ta_inner_inner W (.pointer (some ⟨br, 0, none⟩))
  clear hrf
  clear ol or hs h1 h2 hld hrd
  generalize er : ((.inner dr ra rb) : R.T).dep = rd at *
  generalize el : ((.inner dl la lb) : R.T).dep = ld at *
  clear er el
  go_enter Tryd.func94, Tryd.ntmps94
  go_upto_region 2 with fail
  obtain ⟨c5, c6, c7⟩ := HL.out w (Below.refl _ _)
  have KEEP := Lib.hid (fun w' (hB : Below w.heap.size w w') => (show w'.cell? ⟨bl, 5, none⟩ = some (.int .i64 (dl : Nat)) from (HL.out w' (hB)).1))
  go_region_held3 (fun w' => w'.cell? ⟨bl, 5, none⟩ = some (.int .i64 (dl : Nat)))
    (first | exact KEEP.out _ hC1 | exact KEEP.out _ (Below.refl _ _).drew | exact KEEP.out _ (Below.refl _ _))
    (first | (go_at_call 77; (with_reducible refine (HDr.out _ ((Below.refl w.heap.size w).drew)).mono ?_); rintro e wk1 ⟨rfl, hB⟩; have hC1 := (Below.refl w.heap.size w).drew.trans hB; clear hB))
  rename_i hHeld
  have Hwa := Lib.hid (hC1)
  clear hHeld KEEP c5 c6 c7 hC1
  generalize wk1 = wa at *
  go_upto_region 8 with fail
  obtain ⟨c5, c6, c7⟩ := HR.out wa Hwa.out
  have KEEP := Lib.hid (fun w' (hB : Below wa.heap.size wa w') => (show w'.cell? ⟨br, 5, none⟩ = some (.int .i64 (dr : Nat)) from (HR.out w' (Hwa.out.trans (hB.mono Hwa.out.size))).1))
  go_region_held3 (fun w' => w'.cell? ⟨br, 5, none⟩ = some (.int .i64 (dr : Nat)))
    (first | exact KEEP.out _ hC2 | exact KEEP.out _ (Below.refl _ _).drew | exact KEEP.out _ (Below.refl _ _))
    (first | (go_at_call 77; (with_reducible refine (HDl.out _ (Hwa.out.drew)).mono ?_); rintro e wk2 ⟨rfl, hB⟩; have hC2 := (Below.refl wa.heap.size wa).drew.trans hB; clear hB))
  rename_i hHeld
  have Hwb := Lib.hid (Hwa.out.trans (hC2.mono Hwa.out.size))
  clear hHeld KEEP c5 c6 c7 hC2
  generalize wk2 = wb at *
  go_wp2_with fail
  refine (HP.out wb Hwb.out).mono ?_
  rintro e w9 ⟨y, rfl, hn, hB⟩
  go_wp2_with fail
  go_ret
  exact ⟨_, y, rfl, hn, HJd.out, Hwb.out.trans (hB.mono Hwb.out.size)⟩
end Go.Proofs.YtjeopabnddekgaaDoor

namespace Go.Proofs.YtjeopabnddekgaaDoor
open Go Go.RowKit Go.Lib

theorem level_any (vl vr : Value) (l r : R.T) (w : World) (hl : NT w w.heap.size vl l) (hr : NT w w.heap.size vr r) (ol : l.Ok) (or : r.Ok) (hs : l.tx.size + r.tx.size ≤ 1000000000000) (h1 : l.dep ≤ r.dep + 2) (h2 : r.dep ≤ l.dep + 2) :
    Calls Tryd.prog 94 #[vl, vr] w (JoinR l r w) := by
  by_cases hA : r.dep + 1 < l.dep
  · cases l with
    | none => exact ol.elim
    | leaf s => have := or.pos; have hA : r.dep + 1 < 1 := hA; omega
    | inner d x y =>
      cases y with
      | none => exact ol.2.1.elim
      | leaf sy => exact level_A2leaf vl vr d sy x r w hl hr ol or hs hA h1 (by have := ol.1.pos; show 1 ≤ _; omega)
      | inner dy y1 y2 =>
        by_cases h3 : x.dep < dy
        · exact level_A1 vl vr d dy x y1 y2 r w hl hr ol or hs hA h1 h3
        · exact level_A2in vl vr d dy y1 y2 x r w hl hr ol or hs hA h1 (by show dy ≤ _; omega)
  · by_cases hB : l.dep + 1 < r.dep
    · cases r with
      | none => exact or.elim
      | leaf s => have := ol.pos; have hB : l.dep + 1 < 1 := hB; omega
      | inner d x y =>
        have hA' : l.dep ≤ (R.T.inner d x y).dep + 1 := by omega
        cases l with
        | none => exact ol.elim
        | leaf sl =>
          cases x with
          | none => exact or.1.elim
          | leaf sx => exact level_Bleafleaf vl vr d sl sx y w hl hr ol or hs hB h2 (by have := or.2.1.pos; show 1 ≤ _; omega) hA'
          | inner dx x1 x2 =>
            by_cases h3 : y.dep < dx
            · exact level_Bleafone vl vr d sl dx x1 x2 y w hl hr ol or hs hB h2 h3 hA'
            · exact level_Bleafin vl vr d sl dx x1 x2 y w hl hr ol or hs hB h2 (by show dx ≤ _; omega) hA'
        | inner dl la lb =>
          cases x with
          | none => exact or.1.elim
          | leaf sx => exact level_Binleaf vl vr d dl la lb sx y w hl hr ol or hs hB h2 (by have := or.2.1.pos; show 1 ≤ _; omega) hA'
          | inner dx x1 x2 =>
            by_cases h3 : y.dep < dx
            · exact level_Binone vl vr d dl la lb dx x1 x2 y w hl hr ol or hs hB h2 h3 hA'
            · exact level_Binin vl vr d dl la lb dx x1 x2 y w hl hr ol or hs hB h2 (by show dx ≤ _; omega) hA'
    · have a1 : l.dep ≤ r.dep + 1 := by omega
      have a2 : r.dep ≤ l.dep + 1 := by omega
      cases l with
      | none => exact ol.elim
      | leaf sl =>
        cases r with
        | none => exact or.elim
        | leaf sr => exact level_Cleafleaf vl vr sl sr w hl hr ol or hs a1 a2
        | inner dr ra rb => exact level_Cleafin vl vr sl dr ra rb w hl hr ol or hs a1 a2
      | inner dl la lb =>
        cases r with
        | none => exact or.elim
        | leaf sr => exact level_Cinleaf vl vr dl la lb sr w hl hr ol or hs a1 a2
        | inner dr ra rb => exact level_Cinin vl vr dl la lb dr ra rb w hl hr ol or hs a1 a2
end Go.Proofs.YtjeopabnddekgaaDoor
