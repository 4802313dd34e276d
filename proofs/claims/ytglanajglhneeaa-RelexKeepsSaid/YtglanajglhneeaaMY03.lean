/- RelexKeeps: the tokens ahead of the edit's first, and those from the ends on, are the same in both. Conditions: none but those of the parts. -/
import Derived.Test.YtglanajglhneeaaMX45
import Derived.Test.YtglanajglhneeaaMY01
import Derived.Test.YtglanajglhneeaaMX14
import Derived.Test.YtglanajglhneeaaMY02
import Derived.Test.YtglanajglhneeaaMX49
import Derived.Test.YtglanajglhneeaaMX50
namespace Go.Proofs
open Go Go.RowKit Go.Lib
namespace Ytglanajglhneeaa
def TrueRx (w : World) (e : Ending) (w' : World) : Prop := e = .returned (.bool true) ∧ Below w.heap.size w w'
set_option maxHeartbeats 8000000 in
set_option maxRecDepth 100000 in
theorem relexKeeps_any (s : ByteArray) (f0 k0 : Int) (m : ByteArray) (w : World) (hs : s.size ≤ 1000000000000000) (hm : m.size ≤ 1000000000000000) : Calls Try.prog 5 #[.string s, .agg #[.int .i64 f0, .int .i64 k0, .string m]] w (TrueRx w) := by
  have HFi := Lib.hid (fun W => fits_any s m f0 k0 hs hm W)
  have HAll := Lib.hid (fun (h : s.size ≤ 6000) W => all_any s W (by omega))
  have HUp := Lib.hid (fun t oF oT nT (h : s.size ≤ 16000) (ht : t.size ≤ 16000) hE v W hr => update_any s t oF oT nT h ht hE v W hr)
  have HAw := Lib.hid (fun W => awake13_any W)
  clear hs hm
  go_enter Try.func5, Try.ntmps5
  go_upto_region 1 with fail
  have n0 : (w.alloc (.cells #[.int .i64 f0, .int .i64 k0, .string m] 30)).heap[w.heap.size]? = some (.cells #[.int .i64 f0, .int .i64 k0, .string m] 30 (0, 0)) := heap_alloc_new w _
  have hbw : Below w.heap.size w (w.alloc (.cells #[.int .i64 f0, .int .i64 k0, .string m] 30)) := (Below.refl _ _).alloc (Nat.le_refl _) _
  have HB1 := Lib.hid hbw
  generalize w.alloc _ = W1 at *
  have y0 : W1.cell? ⟨w.heap.size, 0, none⟩ = some (.int .i64 f0) := by rw [Lib.cell_of_heap n0]; rfl
  have y1 : W1.cell? ⟨w.heap.size, 1, none⟩ = some (.int .i64 k0) := by rw [Lib.cell_of_heap n0]; rfl
  have y2 : W1.cell? ⟨w.heap.size, 2, none⟩ = some (.string m) := by rw [Lib.cell_of_heap n0]; rfl
  clear n0 hbw
  go_wp2_with fail
  refine (HFi.out _).mono ?_
  rintro e w2 ⟨hr, hB2⟩
  have HB2 := Lib.hid (HB1.out.trans (hB2.mono HB1.out.size))
  clear y0 y1 y2 hB2
  rcases hr with ⟨oF, oT, rfl, h1, h2, h3, h4⟩ | rfl
  · have hE := D.ed1_put s m oF oT h1 h2
    have hz := D.put_size s m oF oT (by omega)
    generalize ht : s.extract 0 oF ++ m ++ s.extract oT s.size = t at *
    have htz : t.size ≤ 16000 := by omega
    have hE2 := hE
    rw [show oF + m.size = oF + m.size from rfl] at hE2
    generalize hnT : oF + m.size = nT at *
    have HU := Lib.hid (fun v W hr => HUp.out t oF oT nT (by omega) htz hE v W hr)
    have HEd := Lib.hid hE
    have HRi := Lib.hid (fun v W (h : RdT W v ((D.toks t).map D.Tk.i)) => right_any t v _ true (by simp) W (by omega) h)
    have hlt0 : (D.toks t).length ≤ 16000 := Nat.le_trans (D.toks_len t) htz
    have HA := Lib.hid (fun W => HAll.out h3 W)
    have HOk := Lib.hid (D.toks_fine s (by omega))
    have hl0 : (D.toks s).length ≤ 6000 := Nat.le_trans (D.toks_len s) h3
    clear hE hE2 hz ht hnT HUp HAll
    go_upto_region 2 with fail
    have n0 : ((w2.alloc (.cells #[.int .i64 (oF : Int), .int .i64 (oT : Int)] 32)).alloc (.cells #[.int .i64 (oF : Int), .int .i64 (nT : Int)] 32)).heap[w2.heap.size]? = some (.cells #[.int .i64 (oF : Int), .int .i64 (oT : Int)] 32 (0, 0)) := (heap_alloc_old _ _ (by simp)).trans (heap_alloc_new w2 _)
    have n1 : ((w2.alloc (.cells #[.int .i64 (oF : Int), .int .i64 (oT : Int)] 32)).alloc (.cells #[.int .i64 (oF : Int), .int .i64 (nT : Int)] 32)).heap[w2.heap.size + 1]? = some (.cells #[.int .i64 (oF : Int), .int .i64 (nT : Int)] 32 (0, 0)) := by
      have := heap_alloc_new (w2.alloc (.cells #[.int .i64 (oF : Int), .int .i64 (oT : Int)] 32)) (.cells #[.int .i64 (oF : Int), .int .i64 (nT : Int)] 32)
      rwa [World.size_alloc] at this
    have hbw : Below w.heap.size w ((w2.alloc (.cells #[.int .i64 (oF : Int), .int .i64 (oT : Int)] 32)).alloc (.cells #[.int .i64 (oF : Int), .int .i64 (nT : Int)] 32)) := (HB2.out.alloc HB2.out.size _).alloc (by have := HB2.out.size; simp; omega) _
    generalize (w2.alloc _).alloc _ = W3 at *
    have HC := Lib.hid (fun X (hX : Below W3.heap.size W3 X) => (show X.cell? ⟨w2.heap.size, 0, none⟩ = some (.int .i64 (oF : Int)) ∧ X.cell? ⟨w2.heap.size, 1, none⟩ = some (.int .i64 (oT : Int)) ∧ X.cell? ⟨w2.heap.size + 1, 0, none⟩ = some (.int .i64 (oF : Int)) ∧ X.cell? ⟨w2.heap.size + 1, 1, none⟩ = some (.int .i64 (nT : Int)) from by
      have r0 := (hX.block _ (Array.getElem?_eq_some_iff.1 n0).1).trans n0
      have r1 := (hX.block _ (Array.getElem?_eq_some_iff.1 n1).1).trans n1
      exact ⟨by rw [Lib.cell_of_heap r0]; rfl, by rw [Lib.cell_of_heap r0]; rfl, by rw [Lib.cell_of_heap r1]; rfl, by rw [Lib.cell_of_heap r1]; rfl⟩))
    have HB3 := Lib.hid hbw
    clear n0 n1 hbw
    go_wp2_with fail
    refine (HA.out _).mono ?_
    rintro e w4 ⟨v4, rfl, own4, _, hB4⟩
    have hr4 := rdT_toks (w := W3) (by omega) own4
    have H4 := Lib.hid (And.intro hr4 (hB4 : Below W3.heap.size W3 w4))
    obtain ⟨z4, c4, rfl, g1, g2⟩ := hr4.shape rfl
    obtain ⟨y0, y1, y2, y3⟩ := HC.out _ H4.out.2
    clear own4 hr4 hB4
    go_wp2_with fail
    refine (HU.out _ _ H4.out.1).mono ?_
    rintro e w6 ⟨v6, a, b, c, rfl, hr6, hn6, hB6⟩
    have hwh := hn6.whole HEd.out
    have hr46 := H4.out.1.below hB6
    have HB6 := Lib.hid (HB3.out.trans ((H4.out.2.trans (hB6.mono H4.out.2.size)).mono HB3.out.size))
    obtain ⟨z6, c6, rfl, g3, g4⟩ := hr6.shape rfl
    have e1 : a ≤ b := hwh.2.1
    have e2 : b ≤ (D.toks s).length := hwh.2.2.1
    have e3 : c ≤ (D.toks t).length := hwh.2.2.2.1
    have e4 : a ≤ c := hn6.2.1
    have HT1 := Lib.hid (show ((D.toks s).map D.Tk.i).take a = ((D.toks t).map D.Tk.i).take a by rw [← List.map_take, ← List.map_take, hwh.2.2.2.2.1])
    have HT2 := Lib.hid (show ((D.toks s).map D.Tk.i).drop b = ((D.toks t).map D.Tk.i).drop c by rw [← List.map_drop, ← List.map_drop, hwh.2.2.2.2.2])
    have ht1 : RdT w6 (.slice z4 a c4) (((D.toks s).map D.Tk.i).take a) := hr46.takes a (by omega)
    have ht2 : RdT w6 (.slice z6 a c6) (((D.toks t).map D.Tk.i).take a) := hr6.takes a (by omega)
    have HS1 := Lib.hid (fun W (hW : Below w6.heap.size w6 W) => same_any _ _ _ _ true (by simp [HT1.out]) W (ht1.below hW) (ht2.below hW))
    have HS2 := Lib.hid (fun (va vb : Value) (ha : RdT w6 va (((D.toks s).map D.Tk.i).drop b)) (hb : RdT w6 vb (((D.toks t).map D.Tk.i).drop c)) W (hW : Below w6.heap.size w6 W) => same_any va vb _ _ true (by simp [HT2.out]) W (ha.below hW) (hb.below hW))
    have HRt := Lib.hid (fun W (hW : Below w6.heap.size w6 W) => HRi.out _ W (hr6.below hW))
    have HDa := Lib.hid (fun (zd : Option Addr) (hz : b < (D.toks s).length → ∀ bk o, z4 = some ⟨bk, o, none⟩ → zd = some ⟨bk, o + b * 3, none⟩) => (hr46.drops b (by omega) zd hz (c4 - b) (by omega) (by omega)))
    have HDb := Lib.hid (fun (zd : Option Addr) (hz : c < (D.toks t).length → ∀ bk o, z6 = some ⟨bk, o, none⟩ → zd = some ⟨bk, o + c * 3, none⟩) => (hr6.drops c (by omega) zd hz (c6 - c) (by omega) (by omega)))
    have k0 : (0 : Int) ≤ (a : Int) := Int.natCast_nonneg _
    have k1 : (0 : Int) ≤ (b : Int) := Int.natCast_nonneg _
    have k2 : (0 : Int) ≤ (c : Int) := Int.natCast_nonneg _
    have m1 : ¬ (a : Int) < 0 := by omega
    have m2 : ¬ (b : Int) < (a : Int) := by omega
    have m3 : ¬ ((D.toks s).length : Int) < (b : Int) := by omega
    have m4 : ¬ (c : Int) < (a : Int) := by omega
    have m5 : ¬ ((D.toks t).length : Int) < (c : Int) := by omega
    have k3 : (a : Int) ≤ (c4 : Int) := by omega
    have k4 : (a : Int) ≤ (c6 : Int) := by omega
    have k5 : (b : Int) ≤ ((D.toks s).length : Int) := by omega
    have k6 : (c : Int) ≤ ((D.toks t).length : Int) := by omega
    have k7 : a ≤ c4 := by omega
    have k8 : a ≤ c6 := by omega
    have k9 : b ≤ c4 := by omega
    have k10 : c ≤ c6 := by omega
    clear hwh hr6 hn6 hB6 hr46 ht1 ht2 y0 y1 y2 y3
    by_cases q1 : c4 = b
    · by_cases q2 : c6 = c
      · have HD1 := Lib.hid (show RdT w6 (.slice z4 0 0) (((D.toks s).map D.Tk.i).drop b) by have h := HDa.out z4 (fun h => by omega); rwa [show (D.toks s).length - b = 0 by omega, show c4 - b = 0 by omega] at h)
        have HD2 := Lib.hid (show RdT w6 (.slice z6 0 0) (((D.toks t).map D.Tk.i).drop c) by have h := HDb.out z6 (fun h => by omega); rwa [show (D.toks t).length - c = 0 by omega, show c6 - c = 0 by omega] at h)
        subst q1
        subst q2
        go_wp2_with fail
        go_region_held3 (fun _ => True) (trivial) (first
          | (go_at_call 15; (with_reducible refine (HAw.out _).mono ?_); rintro e w9 ⟨rfl, hB9⟩; have H9 := Lib.hid (H8.out.trans (hB9.mono H8.out.size)); clear hB9)
          | (go_at_call 14; (with_reducible refine (HS2.out _ _ HD1.out HD2.out _ H7.out.2).mono ?_); rintro e w8 ⟨rfl, hB8⟩; have H8 := Lib.hid (H7.out.1.trans (Below.mono hB8 H7.out.1.size)); clear hB8)
          | (go_at_call 14; (with_reducible refine (HS1.out _ H6b.out.2).mono ?_); rintro e w7 ⟨rfl, hB7⟩; have H7 := Lib.hid (And.intro (H6b.out.1.trans (Below.mono hB7 H6b.out.1.size)) (H6b.out.2.trans (Below.mono hB7 H6b.out.2.size))); clear hB7)
          | (go_at_call 17; (with_reducible refine (HRt.out _ (Below.refl w6.heap.size w6).drew).mono ?_); rintro e w6b ⟨rfl, hB6b⟩; have H6b := Lib.hid (And.intro (HB6.out.drew.trans (hB6b.mono HB6.out.size)) ((Below.refl w6.heap.size w6).drew.trans (hB6b : Below w6.heap.size w6.drew w6b))); clear hB6b))
        go_wp2_with fail
        go_ret
        exact ⟨rfl, H9.out⟩
      · have HD1 := Lib.hid (show RdT w6 (.slice z4 0 0) (((D.toks s).map D.Tk.i).drop b) by have h := HDa.out z4 (fun h => by omega); rwa [show (D.toks s).length - b = 0 by omega, show c4 - b = 0 by omega] at h)
        have HD2 := Lib.hid (HDb.out (Option.map (fun x => x.add (c * 3)) z6) (fun _ bk o e => by
          rw [e]
          show some ((⟨bk, o, none⟩ : Addr).add (c * 3)) = _
          unfold Addr.add; split <;> simp_all))
        subst q1
        go_wp2_with fail
        go_region_held3 (fun _ => True) (trivial) (first
          | (go_at_call 15; (with_reducible refine (HAw.out _).mono ?_); rintro e w9 ⟨rfl, hB9⟩; have H9 := Lib.hid (H8.out.trans (hB9.mono H8.out.size)); clear hB9)
          | (go_at_call 14; (with_reducible refine (HS2.out _ _ HD1.out HD2.out _ H7.out.2).mono ?_); rintro e w8 ⟨rfl, hB8⟩; have H8 := Lib.hid (H7.out.1.trans (Below.mono hB8 H7.out.1.size)); clear hB8)
          | (go_at_call 14; (with_reducible refine (HS1.out _ H6b.out.2).mono ?_); rintro e w7 ⟨rfl, hB7⟩; have H7 := Lib.hid (And.intro (H6b.out.1.trans (Below.mono hB7 H6b.out.1.size)) (H6b.out.2.trans (Below.mono hB7 H6b.out.2.size))); clear hB7)
          | (go_at_call 17; (with_reducible refine (HRt.out _ (Below.refl w6.heap.size w6).drew).mono ?_); rintro e w6b ⟨rfl, hB6b⟩; have H6b := Lib.hid (And.intro (HB6.out.drew.trans (hB6b.mono HB6.out.size)) ((Below.refl w6.heap.size w6).drew.trans (hB6b : Below w6.heap.size w6.drew w6b))); clear hB6b))
        go_wp2_with fail
        go_ret
        exact ⟨rfl, H9.out⟩
    · by_cases q2 : c6 = c
      · have HD1 := Lib.hid (HDa.out (Option.map (fun x => x.add (b * 3)) z4) (fun _ bk o e => by
          rw [e]
          show some ((⟨bk, o, none⟩ : Addr).add (b * 3)) = _
          unfold Addr.add; split <;> simp_all))
        have HD2 := Lib.hid (show RdT w6 (.slice z6 0 0) (((D.toks t).map D.Tk.i).drop c) by have h := HDb.out z6 (fun h => by omega); rwa [show (D.toks t).length - c = 0 by omega, show c6 - c = 0 by omega] at h)
        subst q2
        go_wp2_with fail
        go_region_held3 (fun _ => True) (trivial) (first
          | (go_at_call 15; (with_reducible refine (HAw.out _).mono ?_); rintro e w9 ⟨rfl, hB9⟩; have H9 := Lib.hid (H8.out.trans (hB9.mono H8.out.size)); clear hB9)
          | (go_at_call 14; (with_reducible refine (HS2.out _ _ HD1.out HD2.out _ H7.out.2).mono ?_); rintro e w8 ⟨rfl, hB8⟩; have H8 := Lib.hid (H7.out.1.trans (Below.mono hB8 H7.out.1.size)); clear hB8)
          | (go_at_call 14; (with_reducible refine (HS1.out _ H6b.out.2).mono ?_); rintro e w7 ⟨rfl, hB7⟩; have H7 := Lib.hid (And.intro (H6b.out.1.trans (Below.mono hB7 H6b.out.1.size)) (H6b.out.2.trans (Below.mono hB7 H6b.out.2.size))); clear hB7)
          | (go_at_call 17; (with_reducible refine (HRt.out _ (Below.refl w6.heap.size w6).drew).mono ?_); rintro e w6b ⟨rfl, hB6b⟩; have H6b := Lib.hid (And.intro (HB6.out.drew.trans (hB6b.mono HB6.out.size)) ((Below.refl w6.heap.size w6).drew.trans (hB6b : Below w6.heap.size w6.drew w6b))); clear hB6b))
        go_wp2_with fail
        go_ret
        exact ⟨rfl, H9.out⟩
      · have HD1 := Lib.hid (HDa.out (Option.map (fun x => x.add (b * 3)) z4) (fun _ bk o e => by
          rw [e]
          show some ((⟨bk, o, none⟩ : Addr).add (b * 3)) = _
          unfold Addr.add; split <;> simp_all))
        have HD2 := Lib.hid (HDb.out (Option.map (fun x => x.add (c * 3)) z6) (fun _ bk o e => by
          rw [e]
          show some ((⟨bk, o, none⟩ : Addr).add (c * 3)) = _
          unfold Addr.add; split <;> simp_all))
        go_wp2_with fail
        go_region_held3 (fun _ => True) (trivial) (first
          | (go_at_call 15; (with_reducible refine (HAw.out _).mono ?_); rintro e w9 ⟨rfl, hB9⟩; have H9 := Lib.hid (H8.out.trans (hB9.mono H8.out.size)); clear hB9)
          | (go_at_call 14; (with_reducible refine (HS2.out _ _ HD1.out HD2.out _ H7.out.2).mono ?_); rintro e w8 ⟨rfl, hB8⟩; have H8 := Lib.hid (H7.out.1.trans (Below.mono hB8 H7.out.1.size)); clear hB8)
          | (go_at_call 14; (with_reducible refine (HS1.out _ H6b.out.2).mono ?_); rintro e w7 ⟨rfl, hB7⟩; have H7 := Lib.hid (And.intro (H6b.out.1.trans (Below.mono hB7 H6b.out.1.size)) (H6b.out.2.trans (Below.mono hB7 H6b.out.2.size))); clear hB7)
          | (go_at_call 17; (with_reducible refine (HRt.out _ (Below.refl w6.heap.size w6).drew).mono ?_); rintro e w6b ⟨rfl, hB6b⟩; have H6b := Lib.hid (And.intro (HB6.out.drew.trans (hB6b.mono HB6.out.size)) ((Below.refl w6.heap.size w6).drew.trans (hB6b : Below w6.heap.size w6.drew w6b))); clear hB6b))
        go_wp2_with fail
        go_ret
        exact ⟨rfl, H9.out⟩
  · have hbw : Below w.heap.size w ((w2.alloc (.cells #[.int .i64 0, .int .i64 0] 32)).alloc (.cells #[.int .i64 0, .int .i64 0] 32)) := (HB2.out.alloc HB2.out.size _).alloc (by have := HB2.out.size; simp; omega) _
    have HBw := Lib.hid hbw
    clear hbw
    go_wp2_with fail
    refine (HAw.out _).mono ?_
    rintro e w3 ⟨rfl, hB3⟩
    have HB3 := Lib.hid (HBw.out.trans (hB3.mono HBw.out.size))
    clear hB3
    go_wp2_with fail
    go_ret
    exact ⟨rfl, HB3.out⟩
theorem relexKeeps_x (s : ByteArray) (x : OpE) (hs : s.size ≤ 1000000000000000) (hx : OpOk x) (w : World) : Calls Try.prog 5 #[.string s, .agg #[.int .i64 x.f, .int .i64 x.k, .string x.s]] w (TrueRx w) := relexKeeps_any s x.f x.k x.s w hs (Nat.le_trans hx.2.2 (by decide))
end Ytglanajglhneeaa
end Go.Proofs
