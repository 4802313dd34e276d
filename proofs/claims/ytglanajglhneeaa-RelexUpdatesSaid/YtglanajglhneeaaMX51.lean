/- RelexUpdates: behind an edit the tokens are those of the text, cut anew; which were taken over is just what the document says. Conditions: none but those of the parts. -/
import Derived.Test.YtglanajglhneeaaMX45
import Derived.Test.YtglanajglhneeaaMX48
import Derived.Test.YtglanajglhneeaaMX14
import Derived.Test.YtglanajglhneeaaMX49
import Derived.Test.YtglanajglhneeaaMX50
namespace Go.Proofs
open Go Go.RowKit Go.Lib
namespace Ytglanajglhneeaa
def TrueRx (w : World) (e : Ending) (w' : World) : Prop := e = .returned (.bool true) ∧ Below w.heap.size w w'
set_option maxHeartbeats 4000000 in
set_option maxRecDepth 100000 in
theorem relexUpdates_any (s : ByteArray) (f0 k0 : Int) (m : ByteArray) (w : World) (hs : s.size ≤ 1000000000000000) (hm : m.size ≤ 1000000000000000) : Calls Try.prog 4 #[.string s, .agg #[.int .i64 f0, .int .i64 k0, .string m]] w (TrueRx w) := by
  have HFi := Lib.hid (fun W => fits_any s m f0 k0 hs hm W)
  have HAll := Lib.hid (fun (h : s.size ≤ 6000) W => refAll_any s (by omega) W)
  have HUp := Lib.hid (fun t oF oT nT (h : s.size ≤ 16000) (ht : t.size ≤ 16000) hE v W hr => update_any s t oF oT nT h ht hE v W hr)
  have HRU := Lib.hid (fun t oF oT nT (h : s.size ≤ 16000) (ht : t.size ≤ 16000) hE W => refUpdate_any s t oF oT nT h ht hE W)
  obtain ⟨i0, hi0, hz0, hz1, hz2⟩ := info_parts infoTok9
  clear hs hm
  go_enter Try.func4, Try.ntmps4
  go_upto_region 1 with fail
  have n0 : (w.alloc (.cells #[.int .i64 f0, .int .i64 k0, .string m] 30)).heap[w.heap.size]? = some (.cells #[.int .i64 f0, .int .i64 k0, .string m] 30 (0, 0)) := heap_alloc_new w _
  have hbw : Below w.heap.size w (w.alloc (.cells #[.int .i64 f0, .int .i64 k0, .string m] 30)) := (Below.refl _ _).alloc (Nat.le_refl _) _
  have HB1 := Lib.hid hbw
  generalize w.alloc _ = W1 at *
  have y0 : W1.cell? ⟨w.heap.size, 0, none⟩ = some (.int .i64 f0) := by rw [Lib.cell_of_heap n0]; rfl
  have y1 : W1.cell? ⟨w.heap.size, 1, none⟩ = some (.int .i64 k0) := by rw [Lib.cell_of_heap n0]; rfl
  have y2 : W1.cell? ⟨w.heap.size, 2, none⟩ = some (.string m) := by rw [Lib.cell_of_heap n0]; rfl
  clear n0 hbw
  go_wp2_with fail
  refine (HFi.out _).mono ?_
  rintro e w2 ⟨hr, hB2⟩
  have HB2 := Lib.hid (HB1.out.trans (hB2.mono HB1.out.size))
  clear y0 y1 y2 hB2
  rcases hr with ⟨oF, oT, rfl, h1, h2, h3, h4⟩ | rfl
  · have hE := D.ed1_put s m oF oT h1 h2
    have hz := D.put_size s m oF oT (by omega)
    generalize ht : s.extract 0 oF ++ m ++ s.extract oT s.size = t at *
    have htz : t.size ≤ 16000 := by omega
    have hE2 := hE
    rw [show oF + m.size = oF + m.size from rfl] at hE2
    generalize hnT : oF + m.size = nT at *
    have HU := Lib.hid (fun v W hr => HUp.out t oF oT nT (by omega) htz hE v W hr)
    have HR := Lib.hid (fun W => HRU.out t oF oT nT (by omega) htz hE W)
    have HA := Lib.hid (fun W => HAll.out h3 W)
    have HOk := Lib.hid (D.toks_fine s (by omega))
    have hl0 : (D.toks s).length ≤ 6000 := Nat.le_trans (D.toks_len s) h3
    clear hE hE2 hz ht hnT HUp HRU HAll
    go_upto_region 2 with fail
    have n0 : ((w2.alloc (.cells #[.int .i64 (oF : Int), .int .i64 (oT : Int)] 32)).alloc (.cells #[.int .i64 (oF : Int), .int .i64 (nT : Int)] 32)).heap[w2.heap.size]? = some (.cells #[.int .i64 (oF : Int), .int .i64 (oT : Int)] 32 (0, 0)) := (heap_alloc_old _ _ (by simp)).trans (heap_alloc_new w2 _)
    have n1 : ((w2.alloc (.cells #[.int .i64 (oF : Int), .int .i64 (oT : Int)] 32)).alloc (.cells #[.int .i64 (oF : Int), .int .i64 (nT : Int)] 32)).heap[w2.heap.size + 1]? = some (.cells #[.int .i64 (oF : Int), .int .i64 (nT : Int)] 32 (0, 0)) := by
      have := heap_alloc_new (w2.alloc (.cells #[.int .i64 (oF : Int), .int .i64 (oT : Int)] 32)) (.cells #[.int .i64 (oF : Int), .int .i64 (nT : Int)] 32)
      rwa [World.size_alloc] at this
    have hbw : Below w.heap.size w ((w2.alloc (.cells #[.int .i64 (oF : Int), .int .i64 (oT : Int)] 32)).alloc (.cells #[.int .i64 (oF : Int), .int .i64 (nT : Int)] 32)) := (HB2.out.alloc HB2.out.size _).alloc (by have := HB2.out.size; simp; omega) _
    generalize (w2.alloc _).alloc _ = W3 at *
    have HC := Lib.hid (fun X (hX : Below W3.heap.size W3 X) => (show X.cell? ⟨w2.heap.size, 0, none⟩ = some (.int .i64 (oF : Int)) ∧ X.cell? ⟨w2.heap.size, 1, none⟩ = some (.int .i64 (oT : Int)) ∧ X.cell? ⟨w2.heap.size + 1, 0, none⟩ = some (.int .i64 (oF : Int)) ∧ X.cell? ⟨w2.heap.size + 1, 1, none⟩ = some (.int .i64 (nT : Int)) from by
      have r0 := (hX.block _ (Array.getElem?_eq_some_iff.1 n0).1).trans n0
      have r1 := (hX.block _ (Array.getElem?_eq_some_iff.1 n1).1).trans n1
      exact ⟨by rw [Lib.cell_of_heap r0]; rfl, by rw [Lib.cell_of_heap r0]; rfl, by rw [Lib.cell_of_heap r1]; rfl, by rw [Lib.cell_of_heap r1]; rfl⟩))
    have HB3 := Lib.hid hbw
    clear n0 n1 hbw
    go_wp2_with fail
    refine (HA.out _).mono ?_
    rintro e w4 ⟨v4, rfl, own4, hB4⟩
    have hr4 := rdT_toks (w := W3) (by omega) own4
    have H4 := Lib.hid (And.intro hr4 (hB4 : Below W3.heap.size W3 w4))
    obtain ⟨z4, c4, rfl, g1, g2⟩ := hr4.shape rfl
    have HNews := Lib.hid (rd_tiCells (hr4.below ((Below.refl w4.heap.size w4).alloc (Nat.le_refl _) (.cells #[] 24))))
    have HLn := Lib.hid (show (tiCells ((D.toks s).map D.Tk.i)).length = (D.toks s).length * 3 by rw [tiCells_len, List.length_map])
    have hal : Below w4.heap.size w4 (w4.alloc (.cells #[] 24)) := (Below.refl _ _).alloc (Nat.le_refl _) _
    have HAl := Lib.hid hal
    clear own4 hr4 hB4 hal
    go_wp2_with (refine wpList_append_copy (w := w4.alloc (.cells #[] 24)) rfl _ _ 35 rfl 24 i0 _ 3 24 Try.underlying35 hi0 hz0 hz1 hz2 ⟨w4.heap.size, 0, none⟩ (by rfl) z4 (D.toks s).length c4 (by rfl) (tiCells ((D.toks s).map D.Tk.i)) HLn.out (by decide) HNews.out (by omega) (by omega) ?_)
    intro v5 w5 hcp hB5
    have hok : ∀ x ∈ (D.toks s).map D.Tk.i, x.Ok := fun x hx => by
      obtain ⟨_, _, _, _, _, _, h, _⟩ := H4.out.1
      exact h x hx
    have hr5 : RdT w5 v5 ((D.toks s).map D.Tk.i) := copy_rd (by rw [List.length_map]; exact hcp) (by rw [List.length_map]; omega) hok
    have hB45 : Below w4.heap.size w4 w5 := HAl.out.trans (hB5.mono (Nat.le_succ _))
    have H5 := Lib.hid (And.intro hr5 (And.intro (H4.out.1.below hB45) (H4.out.2.trans (hB45.mono H4.out.2.size))))
    obtain ⟨z5, c5, rfl, g3, g4⟩ := hr5.shape rfl
    obtain ⟨y0, y1, y2, y3⟩ := HC.out _ H5.out.2.2
    clear hcp hB5 hok hr5 hB45
    go_wp2_with fail
    refine (HU.out _ _ H5.out.1).mono ?_
    rintro e w6 ⟨v6, a, b, c, rfl, hr6, hn6, hB6⟩
    have hB36 := H5.out.2.2.trans (hB6.mono H5.out.2.2.size)
    have H6 := Lib.hid (And.intro hr6 (And.intro hn6 (And.intro (H5.out.1.below hB6) (And.intro (H5.out.2.1.below hB6) hB36))))
    clear y0 y1 y2 y3
    obtain ⟨y0, y1, y2, y3⟩ := HC.out _ hB36
    clear hr6 hn6 hB6 hB36
    go_wp2_with fail
    refine (HR.out _).mono ?_
    rintro e w7 ⟨v7, a', b', c', rfl, hr7, hn7, hB7⟩
    obtain ⟨ea, eb, ec⟩ := D.IsNum.uniq (D.toks_pos s) H6.out.2.1 hn7
    subst ea eb ec
    have hB37 := H6.out.2.2.2.2.trans (hB7.mono H6.out.2.2.2.2.size)
    have H7 := Lib.hid (And.intro (H6.out.2.2.1.below hB7) (And.intro (H6.out.2.2.2.1.below hB7) (HB3.out.trans (hB37.mono HB3.out.size))))
    have HSa := Lib.hid (same_any v6 v7 _ _ true (by simp) w7 (H6.out.1.below hB7) hr7)
    have HSb := Lib.hid (fun W (hW : Below w7.heap.size w7 W) => same_any _ _ _ _ true (by simp) W (H7.out.1.below hW) (H7.out.2.1.below hW))
    clear y0 y1 y2 y3 hr7 hn7 hB7 hB37
    go_wp2_with fail
    refine HSa.out.mono ?_
    rintro e w8 ⟨rfl, hB8⟩
    have HB8 := Lib.hid (H7.out.2.2.trans (Below.mono hB8 H7.out.2.2.size))
    have HSc := Lib.hid (HSb.out w8 hB8)
    clear hB8
    go_wp2_with fail
    refine HSc.out.mono ?_
    rintro e w9 ⟨rfl, hB9⟩
    have HB9 := Lib.hid (HB8.out.trans (Below.mono hB9 HB8.out.size))
    clear hB9
    go_wp2_with fail
    go_ret
    exact ⟨rfl, HB9.out⟩
  · have hbw : Below w.heap.size w ((w2.alloc (.cells #[.int .i64 0, .int .i64 0] 32)).alloc (.cells #[.int .i64 0, .int .i64 0] 32)) := (HB2.out.alloc HB2.out.size _).alloc (by have := HB2.out.size; simp; omega) _
    go_wp2_with fail
    go_ret
    exact ⟨rfl, hbw⟩
theorem relexUpdates_x (s : ByteArray) (x : OpE) (hs : s.size ≤ 1000000000000000) (hx : OpOk x) (w : World) : Calls Try.prog 4 #[.string s, .agg #[.int .i64 x.f, .int .i64 x.k, .string x.s]] w (TrueRx w) := relexUpdates_any s x.f x.k x.s w hs (Nat.le_trans hx.2.2 (by decide))
end Ytglanajglhneeaa
end Go.Proofs
