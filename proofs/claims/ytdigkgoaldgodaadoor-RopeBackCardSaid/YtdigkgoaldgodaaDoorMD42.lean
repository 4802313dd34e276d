/- A place by lines in a rope, as bytes. Conditions: a text of at most 10^9 bytes. -/
import Derived.Test.YtdigkgoaldgodaaDoorMD41
namespace Go.Proofs.YtdigkgoaldgodaaDoor
open Go Go.RowKit Go.Lib

namespace R
def chV (t : T) (c : Int) : Int := max (min c ((cn t.tx).u : Int)) 0
def offV (t : T) (l c : Int) : Int := if (conV t (max l 0)).2.2 = true then min ((cutT t (((cn (t.tx.extract 0 (conV t (max l 0)).1.toNat)).u : Int) + chV t c) : Nat) : Int) (conV t (max l 0)).2.1 else (t.tx.size : Int)
theorem conV_true {t : T} {i : Int} (h : (conV t i).2.2 = true) : (conV t i).1 = ((startV t i).1 : Int) ∧ (startV t i).2 = true := by
  unfold conV at h ⊢
  by_cases h1 : (startV t i).2 = true
  · rw [if_pos h1] at h ⊢
    split <;> exact ⟨rfl, h1⟩
  · rw [if_neg h1] at h; cases h
end R
def IntZ (n : Int) (w : World) (e : Ending) (w' : World) : Prop := e = .returned (.int .i64 n) ∧ Below w.heap.size w w'
set_option maxHeartbeats 8000000 in
set_option maxRecDepth 100000 in
theorem offset_any (l c : Int) (v : Value) (t : R.T) (w : World) (h : RopeAt w v t) (hs : t.tx.size ≤ 1000000000) (hl : I64 l) (hc : I64 c) : Calls Tryd.prog 17 #[v, .agg #[.int .i64 l, .int .i64 c]] w (IntZ (R.offV t l c) w) := by
  have HCo := Lib.hid (fun W (hB : Below w.heap.size w W) => content_any (max l 0) v t W (h.below hB) hs (by omega) (by obtain ⟨h1, h2⟩ := hl; omega))
  have HLn := Lib.hid (fun W (hB : Below w.heap.size w W) => len_any v t W (h.below hB))
  have HUn := Lib.hid (fun W (hB : Below w.heap.size w W) => unitsR_any v t W (h.below hB))
  have HR := Lib.hid h
  have hBb := (Below.refl w.heap.size w).alloc (Nat.le_refl _) (.cells #[.int .i64 l, .int .i64 c] 38)
  have hp0 : (w.alloc (.cells #[.int .i64 l, .int .i64 c] 38)).heap[w.heap.size]? = some (.cells #[.int .i64 l, .int .i64 c] 38 (0, 0)) := heap_alloc_new _ _
  have hz0 : (w.alloc (.cells #[.int .i64 l, .int .i64 c] 38)).heap.size = w.heap.size + 1 := World.size_alloc _ _
  have H0 := Lib.hid (And.intro hBb (And.intro hp0 hz0))
  clear hBb hp0 hz0
  go_enter Tryd.func17, Tryd.ntmps17
  go_upto_region 1 with fail
  generalize w.alloc (.cells #[.int .i64 l, .int .i64 c] 38) = W0 at *
  have x0 : W0.cell? ⟨w.heap.size, 0, none⟩ = some (.int .i64 l) := by rw [Lib.cell_of_heap H0.out.2.1]; rfl
  go_wp2_with fail
  refine (HCo.out W0 H0.out.1).mono ?_
  rintro e w1 ⟨rfl, hB1⟩
  obtain ⟨⟨fr, te, ok⟩, hcv⟩ : ∃ p, R.conV t (max l 0) = p := ⟨_, rfl⟩
  rw [hcv]
  dsimp only
  have hBz := (Below.refl w1.heap.size w1).alloc (Nat.le_refl _) (.cells #[.int .i64 fr, .int .i64 te] 81)
  have hBa : Below W0.heap.size W0 (w1.alloc (.cells #[.int .i64 fr, .int .i64 te] 81)) := hB1.trans (hBz.mono hB1.size)
  have hsp : SpanRow (w1.alloc (.cells #[.int .i64 fr, .int .i64 te] 81)) w1.heap.size fr te := heap_alloc_new _ _
  have hzz : w1.heap.size < (w1.alloc (.cells #[.int .i64 fr, .int .i64 te] 81)).heap.size := by rw [World.size_alloc]; omega
  have hp1 : (w1.alloc (.cells #[.int .i64 fr, .int .i64 te] 81)).heap[w.heap.size]? = _ := (hBa.block w.heap.size (by have := H0.out.2.2; omega)).trans H0.out.2.1
  have H1 := Lib.hid (And.intro (H0.out.1.trans (hBa.mono H0.out.1.size)) (And.intro hsp (And.intro hzz hp1)))
  have HCv := Lib.hid hcv
  clear hB1 hBz hBa hsp hzz hp1 x0 hcv
  go_upto_region 2 with fail
  generalize w1.alloc (.cells #[.int .i64 fr, .int .i64 te] 81) = W1 at *
  generalize w1.heap.size = B at *
  cases ok
  · have hE : R.offV t l c = (t.tx.size : Int) := by unfold R.offV; rw [HCv.out]; exact if_neg (fun h => by cases h)
    have HE := Lib.hid hE
    clear hE
    go_wp2_with fail
    refine (HLn.out W1 H1.out.1).mono ?_
    rintro e w2 ⟨rfl, hB⟩
    have H2 := Lib.hid (H1.out.1.trans (hB.mono H1.out.1.size))
    clear hB
    go_wp2_with fail
    go_ret
    rw [HE.out]
    exact ⟨rfl, H2.out⟩
  · obtain ⟨e1, e2⟩ := R.conV_true (t := t) (i := max l 0) (by rw [HCv.out])
    rw [HCv.out] at e1
    dsimp only at e1
    obtain ⟨b, rv, rfl, hb, hn, ht⟩ := HR.out
    have hal := R.startV_le t ht (max l 0)
    generalize (R.startV t (max l 0)).1 = a at *
    obtain rfl := e1
    have hE : R.offV t l c = min ((R.cutT t (((R.cn (t.tx.extract 0 a)).u : Int) + R.chV t c) : Nat) : Int) te := by
      unfold R.offV; rw [HCv.out]; rw [if_pos rfl]; rfl
    have HE := Lib.hid hE
    have hcn := R.cn_le t.tx
    have hcx := R.cn_le (t.tx.extract 0 a)
    have hxs : (t.tx.extract 0 a).size ≤ t.tx.size := by rw [ByteArray.size_extract]; omega
    have m1 : (0 : Int) ≤ R.chV t c ∧ R.chV t c ≤ 1000000000 := by unfold R.chV; omega
    have m2 : ((R.cn (t.tx.extract 0 a)).u : Int) ≤ 1000000000 := by omega
    have HC := Lib.hid (fun W (hB : Below w.heap.size w W) => (show W.cell? ⟨b, 0, none⟩ = some rv from by rw [Lib.cell_of_heap ((hB.block b (Array.getElem?_eq_some_iff.1 hb).1).trans hb)]; rfl))
    have HBf := Lib.hid (fun W (hB : Below w.heap.size w W) => before_any a rv t W ht (by omega) hal (hn.below hB))
    have HCt := Lib.hid (fun W (hB : Below w.heap.size w W) => cutR_any (((R.cn (t.tx.extract 0 a)).u : Int) + R.chV t c) rv t W ht (by omega) (by unfold I64; omega) (hn.below hB))
    have fc := field_1 (R.cn (t.tx.extract 0 a))
    have HM := Lib.hid (And.intro m1 m2)
    clear hE e2 hcn hcx hxs hal hb hn ht hs hl hc h m1 m2 HCo HLn
    go_upto_region 4 with fail
    have KEEP := Lib.hid (fun w' (hB : Below W1.heap.size W1 w') => (show w'.cell? ⟨w.heap.size, 1, none⟩ = some (.int .i64 c) from by
      have hlt : w.heap.size < W1.heap.size := (Array.getElem?_eq_some_iff.1 H1.out.2.2.2).1
      rw [Lib.cell_of_heap ((hB.block w.heap.size hlt).trans H1.out.2.2.2)]; rfl))
    have z0 := KEEP.out W1 (Below.refl _ _)
    go_region_held3 (fun w' => w'.cell? ⟨w.heap.size, 1, none⟩ = some (.int .i64 c))
      (first | exact KEEP.out _ hC1 | exact KEEP.out _ (Below.refl _ _).drew | exact KEEP.out _ (Below.refl _ _))
      (first | (go_at_call 24; (with_reducible refine (HUn.out _ (H1.out.1.drew)).mono ?_); rintro e wc1 ⟨rfl, hB⟩; have hC1 := (Below.refl W1.heap.size W1).drew.trans hB; clear hB))
    rename_i hHeld
    have H2 := Lib.hid (And.intro (H1.out.1.trans (hC1.mono H1.out.1.size)) (And.intro (H1.out.2.1.below hC1 H1.out.2.2.1) (Nat.lt_of_lt_of_le H1.out.2.2.1 hC1.size)))
    clear hHeld KEEP z0 hC1
    go_upto_region 5 with fail
    have hch : R.chV t c = max (min c ((R.cn t.tx).u : Int)) 0 := rfl
    rw [← hch]
    have HM' := HM.out
    generalize R.chV t c = g at *
    generalize R.cn (t.tx.extract 0 a) = ca at *
    have ww : IntKind.i64.wrap ((ca.u : Int) + g) = (ca.u : Int) + g := wrapI _ (by omega) (by omega)
    have KEEP := Lib.hid (fun w' (hB : Below wc1.heap.size wc1 w') => (show w'.cell? ⟨b, 0, none⟩ = some rv ∧ w'.cell? ⟨B, 0, none⟩ = some (.int .i64 (a : Nat)) ∧ w'.cell? ⟨B, 1, none⟩ = some (.int .i64 te) from by
      have hsp := H2.out.2.1.below hB H2.out.2.2
      exact ⟨HC.out w' (H2.out.1.trans (hB.mono H2.out.1.size)), by rw [Lib.cell_of_heap hsp]; rfl, by rw [Lib.cell_of_heap hsp]; rfl⟩))
    obtain ⟨z0, z1, z2⟩ := KEEP.out wc1 (Below.refl _ _)
    clear HM' hch
    go_region_held3 (fun w' => w'.cell? ⟨b, 0, none⟩ = some rv ∧ w'.cell? ⟨B, 0, none⟩ = some (.int .i64 (a : Nat)) ∧ w'.cell? ⟨B, 1, none⟩ = some (.int .i64 te))
      (first | exact KEEP.out _ hC2 | exact KEEP.out _ hC1 | exact KEEP.out _ (Below.refl _ _).drew | exact KEEP.out _ (Below.refl _ _))
      (first
        | (go_at_call 44; (with_reducible refine (HCt.out _ (H2.out.1.trans (hC1.mono H2.out.1.size))).mono ?_); rintro e wc3 ⟨rfl, hB⟩; have hC2 := hC1.trans (hB.mono hC1.size); clear hB)
        | (go_at_call 45; (with_reducible refine (HBf.out _ (H2.out.1.drew)).mono ?_); rintro e wc2 ⟨rfl, hB⟩; have hC1 := (Below.refl wc1.heap.size wc1).drew.trans hB; clear hB))
    rename_i hHeld
    have HB9 := Lib.hid (H2.out.1.trans (hC2.mono H2.out.1.size))
    clear hHeld KEEP z0 z1 z2 hC1 hC2
    go_wp2_with fail
    go_ret
    rw [HE.out]
    exact ⟨rfl, HB9.out⟩
end Go.Proofs.YtdigkgoaldgodaaDoor
