/- Update, the document's. Conditions: two texts, equal ahead of and behind an edit. -/
import Derived.Test.YtglanajglhneeaaMX47
import Derived.Test.YtglanajglhneeaaMX33
namespace Go.Proofs
open Go Go.RowKit Go.Lib
namespace Ytglanajglhneeaa
theorem results_tmp4 {fn : Func} {p q r s : Tmp} (h : fn.results = #[.tmp p, .tmp q, .tmp r, .tmp s]) (tmps : Array Value) (P : Program) (w : World) :
    (results fn tmps).run P w = .ok (.tuple #[tmps.getD p undef, tmps.getD q undef, tmps.getD r undef, tmps.getD s undef]) w := by
  simp [results, h]
def RefUpdIs (s t : ByteArray) (oF oT nT : Nat) (w : World) (e : Ending) (w' : World) : Prop := ∃ (v : Value) (a b c : Nat), e = .returned (.tuple #[v, .int .i64 (a : Int), .int .i64 (b : Int), .int .i64 (c : Int)]) ∧ RdT w' v ((D.toks t).map D.Tk.i) ∧ D.IsNum (D.toks s) (D.toks t) oF oT nT a b c ∧ Below w.heap.size w w'
set_option maxHeartbeats 4000000 in
set_option maxRecDepth 100000 in
theorem refUpdate_any (s t : ByteArray) (oF oT nT : Nat) (hs : s.size ≤ 16000) (ht : t.size ≤ 16000) (hE : D.Ed1 s t oF oT nT) (w : World) : Calls Try.prog 13 #[.string s, .string t, .agg #[.int .i64 oF, .int .i64 oT], .agg #[.int .i64 oF, .int .i64 nT]] w (RefUpdIs s t oF oT nT w) := by
  have HAs := Lib.hid (fun W => refAll_any s (by omega) W)
  have HAt := Lib.hid (fun W => refAll_any t (by omega) W)
  have HN := Lib.hid (fun va vb W (ha : RdT W va ((D.toks s).map D.Tk.i)) (hb : RdT W vb ((D.toks t).map D.Tk.i)) => refNumbers_any s t oF oT nT hs ht hE va vb W ha hb)
  go_enter Try.func13, Try.ntmps13
  go_upto_region 1 with fail
  have n0 : ((w.alloc (.cells #[.int .i64 (oF : Int), .int .i64 (oT : Int)] 32)).alloc (.cells #[.int .i64 (oF : Int), .int .i64 (nT : Int)] 32)).heap[w.heap.size]? = some (.cells #[.int .i64 (oF : Int), .int .i64 (oT : Int)] 32 (0, 0)) := (heap_alloc_old _ _ (by simp)).trans (heap_alloc_new w _)
  have n1 : ((w.alloc (.cells #[.int .i64 (oF : Int), .int .i64 (oT : Int)] 32)).alloc (.cells #[.int .i64 (oF : Int), .int .i64 (nT : Int)] 32)).heap[w.heap.size + 1]? = some (.cells #[.int .i64 (oF : Int), .int .i64 (nT : Int)] 32 (0, 0)) := by
    have := heap_alloc_new (w.alloc (.cells #[.int .i64 (oF : Int), .int .i64 (oT : Int)] 32)) (.cells #[.int .i64 (oF : Int), .int .i64 (nT : Int)] 32)
    rwa [World.size_alloc] at this
  have hbw : Below w.heap.size w ((w.alloc (.cells #[.int .i64 (oF : Int), .int .i64 (oT : Int)] 32)).alloc (.cells #[.int .i64 (oF : Int), .int .i64 (nT : Int)] 32)) := ((Below.refl _ _).alloc (Nat.le_refl _) _).alloc (by simp) _
  generalize (w.alloc _).alloc _ = W1 at *
  have HC := Lib.hid (fun X (hX : Below W1.heap.size W1 X) => (show X.cell? ⟨w.heap.size, 0, none⟩ = some (.int .i64 (oF : Int)) ∧ X.cell? ⟨w.heap.size, 1, none⟩ = some (.int .i64 (oT : Int)) ∧ X.cell? ⟨w.heap.size + 1, 0, none⟩ = some (.int .i64 (oF : Int)) ∧ X.cell? ⟨w.heap.size + 1, 1, none⟩ = some (.int .i64 (nT : Int)) from by
    have r0 := (hX.block _ (Array.getElem?_eq_some_iff.1 n0).1).trans n0
    have r1 := (hX.block _ (Array.getElem?_eq_some_iff.1 n1).1).trans n1
    exact ⟨by rw [Lib.cell_of_heap r0]; rfl, by rw [Lib.cell_of_heap r0]; rfl, by rw [Lib.cell_of_heap r1]; rfl, by rw [Lib.cell_of_heap r1]; rfl⟩))
  have HB1 := Lib.hid hbw
  clear n0 n1 hbw
  go_wp2_with fail
  refine (HAs.out _).mono ?_
  rintro e w2 ⟨va, rfl, own2, hB2⟩
  have H2 := Lib.hid (And.intro (rdT_toks (by omega) own2) (hB2 : Below W1.heap.size W1 w2))
  clear own2 hB2
  go_wp2_with fail
  refine (HAt.out _).mono ?_
  rintro e w3 ⟨vb, rfl, own3, hB3⟩
  have hB13 := H2.out.2.trans (hB3.mono H2.out.2.size)
  have hrb := rdT_toks (by omega) own3
  have hra := H2.out.1.below hB3
  have HNN := Lib.hid (HN.out va vb w3 hra hrb)
  have H3 := Lib.hid (And.intro hrb hB13)
  obtain ⟨y0, y1, y2, y3⟩ := HC.out _ hB13
  obtain ⟨zb, cb, rfl, d1, d2⟩ := hrb.shape rfl
  obtain ⟨za, ca, rfl, c1, c2⟩ := hra.shape rfl
  clear own3 hB3 hB13 hra hrb
  go_wp2_with fail
  refine HNN.out.mono ?_
  rintro e w4 ⟨a, b, c, rfl, hn, hB4⟩
  have H4 := Lib.hid (And.intro (H3.out.1.below hB4) (And.intro hn (HB1.out.trans ((H3.out.2.trans (hB4.mono H3.out.2.size)).mono HB1.out.size))))
  clear hn hB4 y0 y1 y2 y3
  go_wp2_with fail
  exact bodyPost_ret (results_tmp4 rfl _ _ _) rfl ⟨_, a, b, c, rfl, H4.out.1, H4.out.2.1, H4.out.2.2⟩
end Ytglanajglhneeaa
end Go.Proofs
