/- Of relex: Update. Conditions: two texts, equal ahead of and behind an edit. -/
import Derived.Test.YtglanajglhneeaaMX37
import Derived.Test.YtglanajglhneeaaMX38
import Derived.Test.YtglanajglhneeaaMX40
namespace Go.Proofs
open Go Go.RowKit Go.Lib
namespace Ytglanajglhneeaa
theorem results_tmp5 {fn : Func} {p q r s u : Tmp} (h : fn.results = #[.tmp p, .tmp q, .tmp r, .tmp s, .tmp u]) (tmps : Array Value) (P : Program) (w : World) :
    (results fn tmps).run P w = .ok (.tuple #[tmps.getD p undef, tmps.getD q undef, tmps.getD r undef, tmps.getD s undef, tmps.getD u undef]) w := by
  simp [results, h]
def UpdIs (s t : ByteArray) (oF oT nT : Nat) (w : World) (e : Ending) (w' : World) : Prop := ∃ (v : Value) (a b c : Nat), e = .returned (.tuple #[v, .int .i64 (a : Int), .int .i64 (b : Int), .int .i64 (c : Int), .int .i64 0]) ∧ RdT w' v ((D.toks t).map D.Tk.i) ∧ D.IsNum (D.toks s) (D.toks t) oF oT nT a b c ∧ Below w.heap.size w w'
set_option maxHeartbeats 8000000 in
set_option maxRecDepth 100000 in
theorem update_any (s t : ByteArray) (oF oT nT : Nat) (hs : s.size ≤ 16000) (ht : t.size ≤ 16000) (hE : D.Ed1 s t oF oT nT) (v : Value) (w : World) (h : RdT w v ((D.toks s).map D.Tk.i)) : Calls Try.prog 12 #[v, .string t, .agg #[.int .i64 oF, .int .i64 oT], .agg #[.int .i64 oF, .int .i64 nT]] w (UpdIs s t oF oT nT w) := by
  have HE := Lib.hid hE
  have HRd := Lib.hid h
  have HFS := Lib.hid (D.toks_fine s (by omega))
  have hl0 : (D.toks s).length ≤ 16000 := Nat.le_trans (D.toks_len s) hs
  have hlt0 : (D.toks t).length ≤ 16000 := Nat.le_trans (D.toks_len t) ht
  obtain ⟨e1, e2, e3⟩ : oF ≤ 16000 ∧ oT ≤ 16000 ∧ nT ≤ 16000 := by
    have := hE.h1; have := hE.h2; have := hE.h4; omega
  have HFa := Lib.hid (fun W (hW : Below w.heap.size w W) => fault_any v (D.toks s) t oF oT nT W (h.below hW) (D.toks_fine s (by omega)) hE.h1 (by rw [D.bg_len]; exact hE.h2) hE.h3 hE.h4 (by rw [D.bg_len]; exact hE.h5) (by omega))
  have HWi := Lib.hid (fun W (hW : Below w.heap.size w W) => within_any v (D.toks s) oF (by omega) W (h.below hW) (D.toks_fine s (by omega)))
  have HSc := Lib.hid (fun a (ha : D.Wi (D.toks s) oF a) W (hW : Below w.heap.size w W) => rescan_any s t oF oT nT a hs ht hE ha v W (h.below hW))
  obtain ⟨z, cap, rfl, c1, c2⟩ := h.shape rfl
  clear h hE
  go_enter Try.func12, Try.ntmps12
  go_upto_region 1 with fail
  have n0 : ((w.alloc (.cells #[.int .i64 (oF : Int), .int .i64 (oT : Int)] 32)).alloc (.cells #[.int .i64 (oF : Int), .int .i64 (nT : Int)] 32)).heap[w.heap.size]? = some (.cells #[.int .i64 (oF : Int), .int .i64 (oT : Int)] 32 (0, 0)) := (heap_alloc_old _ _ (by simp)).trans (heap_alloc_new w _)
  have n1 : ((w.alloc (.cells #[.int .i64 (oF : Int), .int .i64 (oT : Int)] 32)).alloc (.cells #[.int .i64 (oF : Int), .int .i64 (nT : Int)] 32)).heap[w.heap.size + 1]? = some (.cells #[.int .i64 (oF : Int), .int .i64 (nT : Int)] 32 (0, 0)) := by
    have := heap_alloc_new (w.alloc (.cells #[.int .i64 (oF : Int), .int .i64 (oT : Int)] 32)) (.cells #[.int .i64 (oF : Int), .int .i64 (nT : Int)] 32)
    rwa [World.size_alloc] at this
  have hbw : Below w.heap.size w ((w.alloc (.cells #[.int .i64 (oF : Int), .int .i64 (oT : Int)] 32)).alloc (.cells #[.int .i64 (oF : Int), .int .i64 (nT : Int)] 32)) := ((Below.refl _ _).alloc (Nat.le_refl _) _).alloc (by simp) _
  generalize (w.alloc _).alloc _ = W1 at *
  have HC := Lib.hid (fun X (hX : Below W1.heap.size W1 X) => (show X.cell? ⟨w.heap.size, 0, none⟩ = some (.int .i64 (oF : Int)) ∧ X.cell? ⟨w.heap.size, 1, none⟩ = some (.int .i64 (oT : Int)) ∧ X.cell? ⟨w.heap.size + 1, 0, none⟩ = some (.int .i64 (oF : Int)) ∧ X.cell? ⟨w.heap.size + 1, 1, none⟩ = some (.int .i64 (nT : Int)) from by
    have r0 := (hX.block _ (Array.getElem?_eq_some_iff.1 n0).1).trans n0
    have r1 := (hX.block _ (Array.getElem?_eq_some_iff.1 n1).1).trans n1
    exact ⟨by rw [Lib.cell_of_heap r0]; rfl, by rw [Lib.cell_of_heap r0]; rfl, by rw [Lib.cell_of_heap r1]; rfl, by rw [Lib.cell_of_heap r1]; rfl⟩))
  have HB1 := Lib.hid hbw
  obtain ⟨y0, y1, y2, y3⟩ := HC.out W1 (Below.refl _ _)
  clear n0 n1 hbw
  go_wp2_with fail
  refine (HFa.out _ HB1.out).mono ?_
  rintro e w2 ⟨rfl, hB2⟩
  have H2 := Lib.hid (And.intro (hB2 : Below W1.heap.size W1 w2) (HB1.out.trans (hB2.mono HB1.out.size)))
  clear y0 y1 y2 y3 hB2
  obtain ⟨y0, y1, y2, y3⟩ := HC.out w2 H2.out.1
  go_wp2_with fail
  refine (HWi.out _ H2.out.2).mono ?_
  rintro e w3 ⟨a, hWa, rfl, hB3⟩
  have hB13 := H2.out.1.trans (hB3.mono H2.out.1.size)
  have HS := Lib.hid (HSc.out a hWa w3 (HB1.out.trans (hB13.mono HB1.out.size)))
  have H3 := Lib.hid (And.intro hB13 (And.intro hWa (HB1.out.trans (hB13.mono HB1.out.size))))
  clear y0 y1 y2 y3 hB3 hB13 hWa
  obtain ⟨y0, y1, y2, y3⟩ := HC.out w3 H3.out.1
  go_wp2_with fail
  refine HS.out.mono ?_
  rintro e w4 ⟨v4, b, j, rfl, hN, hrd, hB4⟩
  have hwh := D.IsNum.whole HE.out hN
  have hl4 : ((((D.toks t).drop a).take j)).length = j := by
    rw [List.length_take, List.length_drop]
    have := hwh.2.2.2.1
    omega
  obtain ⟨z4, c4, rfl, d1, d2⟩ := hrd.shape hl4
  have hab := hwh.2.1
  have hbl := hwh.2.2.1
  have hac : a + j ≤ (D.toks t).length := hwh.2.2.2.1
  have hB14 := H3.out.2.2.trans (hB4.mono H3.out.2.2.size)
  have hra : RdT w4 (.slice z a cap) (((D.toks s).map D.Tk.i).take a) := (HRd.out.below hB14).takes a (by omega)
  have hrd0 := HRd.out.below hB14
  have HDr := Lib.hid (fun (zd : Option Addr) (hz : b < (D.toks s).length → ∀ bk o, z = some ⟨bk, o, none⟩ → zd = some ⟨bk, o + b * 3, none⟩) => (hrd0.drops b (by omega) zd hz (cap - b) (by omega) (by omega)))
  have HJo := Lib.hid (fun (vd : Value) (hdr : RdT w4 vd (((D.toks s).map D.Tk.i).drop b)) W (hW : Below w4.heap.size w4 W) => joined_any _ _ _ _ _ _ W (hra.below hW) (hrd.below hW) (hdr.below hW) (by rw [List.length_take, List.length_map]; omega) (by rw [List.length_map, hl4]; omega) (by rw [List.length_drop, List.length_map]; omega))
  have HT := Lib.hid (show ((D.toks s).map D.Tk.i).take a ++ (((D.toks t).drop a).take j).map D.Tk.i ++ ((D.toks s).map D.Tk.i).drop b = (D.toks t).map D.Tk.i from by
    have h := hwh.1
    rw [show a + j - a = j by omega] at h
    conv => rhs; rw [h]
    simp only [List.map_append, List.map_take, List.map_drop])
  have H4 := Lib.hid (And.intro hB14 (And.intro hN (HRd.out.below hB14)))
  have k0 : (0 : Int) ≤ (a : Int) := Int.natCast_nonneg _
  have k1 : (0 : Int) ≤ (b : Int) := Int.natCast_nonneg _
  have k2 : (a : Int) ≤ (cap : Int) := by omega
  have k3 : (b : Int) ≤ ((D.toks s).length : Int) := by omega
  have k4 : (b : Int) ≤ (cap : Int) := by omega
  have k5 : a ≤ cap := by omega
  have k6 : b ≤ cap := by omega
  clear hwh hl4 hra hrd hN hB4 hB14 y0 y1 y2 y3 hrd0
  by_cases q1 : cap = b
  · have HD := Lib.hid (show RdT w4 (.slice z 0 0) (((D.toks s).map D.Tk.i).drop b) by have h := HDr.out z (fun h => by omega); rwa [show (D.toks s).length - b = 0 by omega, show cap - b = 0 by omega] at h)
    subst q1
    go_wp2_with fail
    go_region_held3 (fun _ => True) (trivial) (first
      | (go_at_call 38; (with_reducible refine (HJo.out _ HD.out _ (Below.refl w4.heap.size w4).drew).mono ?_); rintro e w5 ⟨v5, rfl, hrd5, hB5⟩; have H5 := Lib.hid (And.intro hrd5 (H4.out.1.drew.trans (hB5.mono H4.out.1.size))); clear hrd5 hB5))
    go_wp2_with fail
    exact bodyPost_ret (results_tmp5 rfl _ _ _) rfl ⟨v5, a, cap, a + j, by first | rfl | (simp; rw [IntKind.wrap_i64]; omega), by rw [← HT.out]; exact H5.out.1, H4.out.2.1, H5.out.2⟩
  · have HD := Lib.hid (HDr.out (Option.map (fun x => x.add (b * 3)) z) (fun _ bk o e => by
      rw [e]
      show some ((⟨bk, o, none⟩ : Addr).add (b * 3)) = _
      unfold Addr.add; split <;> simp_all))
    go_wp2_with fail
    go_region_held3 (fun _ => True) (trivial) (first
      | (go_at_call 38; (with_reducible refine (HJo.out _ HD.out _ (Below.refl w4.heap.size w4).drew).mono ?_); rintro e w5 ⟨v5, rfl, hrd5, hB5⟩; have H5 := Lib.hid (And.intro hrd5 (H4.out.1.drew.trans (hB5.mono H4.out.1.size))); clear hrd5 hB5))
    go_wp2_with fail
    exact bodyPost_ret (results_tmp5 rfl _ _ _) rfl ⟨v5, a, b, a + j, by first | rfl | (simp; rw [IntKind.wrap_i64]; omega), by rw [← HT.out]; exact H5.out.1, H4.out.2.1, H5.out.2⟩
end Ytglanajglhneeaa
end Go.Proofs
