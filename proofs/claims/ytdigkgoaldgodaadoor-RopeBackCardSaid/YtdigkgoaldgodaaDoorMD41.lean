/- The span of a line's content in a rope. Conditions: a text of at most 10^9 bytes. -/
import Derived.Test.YtdigkgoaldgodaaDoorMD40
namespace Go.Proofs.YtdigkgoaldgodaaDoor
open Go Go.RowKit Go.Lib

namespace R
/-- a line's content: where it begins, where it ends, whether there is one -/
def conV (t : T) (i : Int) : Int × Int × Bool :=
  if (startV t i).2 = true then
    (if (startV t (i + 1)).2 = true then
      (((startV t i).1 : Int), (if ((startV t i).1 : Int) < ((startV t (i + 1)).1 : Int) - 1 ∧ (cn (t.tx.extract 0 ((startV t (i + 1)).1 - 1))).e = true then ((startV t (i + 1)).1 : Int) - 1 - 1 else ((startV t (i + 1)).1 : Int) - 1), true)
    else (((startV t i).1 : Int), (t.tx.size : Int), true))
  else (0, 0, false)
theorem lnF_le (s : ByteArray) (n : Int) : lnF s n ≤ s.size := by
  unfold lnF
  split
  · next h => exact L.fr_le (by omega)
  · omega
theorem startV_le (t : T) (ht : t.Fit) (i : Int) : (startV t i).1 ≤ t.tx.size := by
  unfold startV
  split
  · exact Nat.zero_le _
  · obtain ⟨u, s, x, efd, F⟩ := fd_spec (stP i) t ByteArray.empty ht (U.valid_none _ rfl)
    rw [empty_app] at efd
    have efd : fd (stP i) t Cn.none = (cn u, s) := efd
    have hsz : t.tx.size = u.size + s.size + x.size := by rw [F.tx, U.app_size, U.app_size]
    rw [efd]
    have h1 : lnF (cn u, s).2 (stN i (cn u, s)) ≤ s.size := lnF_le _ _
    have hb : (cn u).b = u.size := rfl
    show (cn u).b + lnF (cn u, s).2 (stN i (cn u, s)) ≤ _
    omega
theorem startV_true {t : T} {i : Int} (h : (startV t i).2 = true) : 0 ≤ i ∧ i ≤ ((cn t.tx).k : Int) := by
  unfold startV at h
  split at h
  · cases h
  · omega
end R
def SpanRow (w : World) (b : Nat) (x y : Int) : Prop := w.heap[b]? = some (.cells #[.int .i64 x, .int .i64 y] 81 (0, 0))
theorem SpanRow.below {w w' : World} {b : Nat} {x y : Int} {N : Nat} (h : SpanRow w b x y) (hB : Below N w w') (hb : b < N) : SpanRow w' b x y := (hB.block b hb).trans h
theorem info_span : (Tryd.prog.info? 81).map (·.size) = some 2 := by kernel_rfl
theorem one_span (x y : Int) : (#[Value.int .i64 x, Value.int .i64 y].all (·.oneCell')) = true := by simp [Value.oneCell']
theorem SpanRow.set {w : World} {b : Nat} {x y : Int} (h : SpanRow w b x y) (x' y' : Int) : SpanRow (w.setRow b #[.int .i64 x', .int .i64 y']) b x' y' := by
  unfold SpanRow at *
  simp [World.setRow, Array.getElem?_modify, h]
theorem span_ret2 {fn : Func} {p q : Tmp} (h : fn.results = #[.cell p 81, .tmp q]) {Q : Ending → World → Prop} (a : Act) (w : World) (g : Nat) (x y : Int) (z : Value) (hp : a.tmps.getD p undef = .pointer (some ⟨g, 0, none⟩)) (hq : a.tmps.getD q undef = z) (hd : a.defers = []) (hg : SpanRow w g x y) (hQ : Q (.returned (.tuple #[.agg #[.int .i64 x, .int .i64 y], z])) w) : bodyPost Tryd.prog fn Q .ret a w := by
  have hp' : a.tmps[p]?.getD undef = .pointer (some ⟨g, 0, none⟩) := by simpa using hp
  have hq' : a.tmps[q]?.getD undef = z := by simpa using hq
  refine bodyPost_ret (v := .tuple #[.agg #[.int .i64 x, .int .i64 y], z]) ?_ hd hQ
  simp [results, h, hp', hq', asAddr, run_loadVar_row w g _ _ _ (0, 0) _ hg Tryd.underlying81 rfl info_span]
def ConR (r : Int × Int × Bool) (w : World) (e : Ending) (w' : World) : Prop := e = .returned (.tuple #[.agg #[.int .i64 r.1, .int .i64 r.2.1], .bool r.2.2]) ∧ Below w.heap.size w w'
theorem field_4 (c : R.Cn) (W : World) : (Instr.field 75 (.agg #[Value.int .i64 (((c).b : Nat) : Int), Value.int .i64 (((c).u : Nat) : Int), Value.int .i64 (((c).k : Nat) : Int), Value.bool (c).f, Value.bool (c).e]) 4).run Tryd.prog W = .ok (.bool c.e) W := by kernel_rfl
set_option maxHeartbeats 8000000 in
set_option maxRecDepth 100000 in
theorem content_any (i : Int) (v : Value) (t : R.T) (w : World) (h : RopeAt w v t) (hs : t.tx.size ≤ 1000000000) (hi : 0 ≤ i) (hi2 : i ≤ 9223372036854775807) : Calls Tryd.prog 43 #[v, .int .i64 i] w (ConR (R.conV t i) w) := by
  have HS1 := Lib.hid (fun W (hB : Below w.heap.size w W) => start_any i v t W (h.below hB) hs (by unfold I64; omega))
  have HLn := Lib.hid (fun W (hB : Below w.heap.size w W) => len_any v t W (h.below hB))
  have HR := Lib.hid h
  have hBb := (Below.refl w.heap.size w).alloc (Nat.le_refl _) (.cells #[.int .i64 0, .int .i64 0] 81)
  have hr0 : SpanRow (w.alloc (.cells #[.int .i64 0, .int .i64 0] 81)) w.heap.size 0 0 := heap_alloc_new _ _
  have hz0 : (w.alloc (.cells #[.int .i64 0, .int .i64 0] 81)).heap.size = w.heap.size + 1 := World.size_alloc _ _
  have H0 := Lib.hid (And.intro hBb (And.intro hr0 hz0))
  clear hBb hr0 hz0
  go_enter Tryd.func43, Tryd.ntmps43
  go_upto_region 1 with fail
  generalize w.alloc (.cells #[.int .i64 0, .int .i64 0] 81) = W0 at *
  go_wp2_with fail
  refine (HS1.out W0 H0.out.1).mono ?_
  rintro e w1 ⟨rfl, hB1⟩
  have hB1w := H0.out.1.trans (hB1.mono H0.out.1.size)
  have hr1 := SpanRow.below (N := W0.heap.size) H0.out.2.1 hB1 (by have := H0.out.2.2; omega)
  have H1 := Lib.hid (And.intro hB1w (And.intro hr1 (show w.heap.size < w1.heap.size by have := H0.out.2.2; have := hB1.size; omega)))
  clear hB1 hB1w hr1
  rcases hok : (R.startV t i).2 with _ | _
  · have hE : R.conV t i = (0, 0, false) := by unfold R.conV; rw [if_neg (by rw [hok]; decide)]
    have HE := Lib.hid hE
    clear hE hok
    have hr := H1.out.2.1
    have HB := Lib.hid (below_setRow H1.out.1 (Nat.le_refl w.heap.size))
    go_wp2_with (refine wpList_store_row rfl 81 _ _ rfl w.heap.size #[.int .i64 0, .int .i64 0] (by rfl) (by rfl) 81 _ hr info_span rfl (one_span _ _) ?_)
    exact span_ret2 (by rfl) _ _ w.heap.size 0 0 (.bool false) (by rfl) (by rfl) rfl (hr.set _ _) (by rw [HE.out]; exact ⟨rfl, HB.out _⟩)
  · obtain ⟨g1, g2⟩ := R.startV_true hok
    have hcn := R.cn_le t.tx
    have n1 : i ≤ 1000000000 := by omega
    have hl1 : (R.startV t i).1 ≤ t.tx.size := R.startV_le t (by obtain ⟨b, rv, _, _, _, ht⟩ := HR.out; exact ht) i
    have hl2 : (R.startV t (i + 1)).1 ≤ t.tx.size := R.startV_le t (by obtain ⟨b, rv, _, _, _, ht⟩ := HR.out; exact ht) (i + 1)
    have hE : R.conV t i = if (R.startV t (i + 1)).2 = true then (((R.startV t i).1 : Int), (if ((R.startV t i).1 : Int) < ((R.startV t (i + 1)).1 : Int) - 1 ∧ (R.cn (t.tx.extract 0 ((R.startV t (i + 1)).1 - 1))).e = true then ((R.startV t (i + 1)).1 : Int) - 1 - 1 else ((R.startV t (i + 1)).1 : Int) - 1), true) else (((R.startV t i).1 : Int), (t.tx.size : Int), true) := by unfold R.conV; rw [if_pos hok]
    have HS2 := Lib.hid (start_any (i + 1) v t w1 (HR.out.below H1.out.1) hs (by unfold I64; omega))
    obtain ⟨⟨a, ok1⟩, ha⟩ : ∃ p, R.startV t i = p := ⟨_, rfl⟩
    obtain ⟨⟨c, ok2⟩, hc⟩ : ∃ p, R.startV t (i + 1) = p := ⟨_, rfl⟩
    rw [ha, hc] at hE
    rw [hc] at HS2 hl2
    rw [ha] at hl1 ⊢
    dsimp only at hE hl1 hl2 ⊢
    have HE := Lib.hid hE
    have HZ := Lib.hid (And.intro hl1 (And.intro hl2 hs))
    have n2 : (a : Int) ≤ 1000000000 := by omega
    have n3 : (c : Int) ≤ 1000000000 := by omega
    have n4 : (t.tx.size : Int) ≤ 1000000000 := by omega
    clear hE ha hc hok g1 g2 hcn hl1 hl2 hs hi2
    go_wp2_with fail
    refine HS2.out.mono ?_
    rintro e w2 ⟨rfl, hB2⟩
    have H2 := Lib.hid (And.intro (H1.out.1.trans (hB2.mono H1.out.1.size)) (And.intro (H1.out.2.1.below hB2 H1.out.2.2) (Nat.lt_of_lt_of_le H1.out.2.2 hB2.size)))
    clear hB2 HS2
    dsimp only
    cases ok2
    · have hE := HE.out
      rw [if_neg (by decide)] at hE
      have HE' := Lib.hid hE
      clear hE HE
      go_wp2_with fail
      refine (HLn.out w2 H2.out.1).mono ?_
      rintro e w3 ⟨rfl, hB3⟩
      have hr := H2.out.2.1.below hB3 H2.out.2.2
      have HB := Lib.hid (below_setRow (H2.out.1.trans (hB3.mono H2.out.1.size)) (Nat.le_refl w.heap.size))
      clear hB3
      go_wp2_with (refine wpList_store_row rfl 81 _ _ rfl w.heap.size #[.int .i64 (a : Nat), .int .i64 ((R.cn t.tx).b : Nat)] (by rfl) (by rfl) 81 _ hr info_span rfl (one_span _ _) ?_)
      exact span_ret2 (by rfl) _ _ w.heap.size (a : Nat) ((R.cn t.tx).b : Nat) (.bool true) (by rfl) (by rfl) rfl (hr.set _ _) (by rw [HE'.out]; exact ⟨rfl, HB.out _⟩)
    · have hE := HE.out
      rw [if_pos rfl] at hE
      have HE' := Lib.hid hE
      clear hE HE
      by_cases hgt : (a : Int) < (c : Int) - 1
      · obtain ⟨m, rfl⟩ : ∃ m, c = m + 1 := ⟨c - 1, by omega⟩
        have hgt' : (a : Int) < (m : Int) := by omega
        obtain ⟨b, rv, rfl, hb, hn, ht⟩ := HR.out
        have HBf := Lib.hid (before_any m rv t w2 ht (by have := HZ.out.2.2; omega) (by have := HZ.out.2.1; omega) (hn.below H2.out.1))
        have c0 : w2.cell? ⟨b, 0, none⟩ = some rv := by rw [Lib.cell_of_heap ((H2.out.1.block b (Array.getElem?_eq_some_iff.1 hb).1).trans hb)]; rfl
        have fc := field_4 (R.cn (t.tx.extract 0 m))
        rw [Nat.add_sub_cancel] at HE'
        clear hb hn ht hgt
        go_wp2_with fail
        refine HBf.out.mono ?_
        rintro e w3 ⟨rfl, hB3⟩
        have hr := H2.out.2.1.below hB3 H2.out.2.2
        have HB := Lib.hid (below_setRow (H2.out.1.trans (hB3.mono H2.out.1.size)) (Nat.le_refl w.heap.size))
        clear hB3 c0
        rcases he : (R.cn (t.tx.extract 0 m)).e with _ | _
        · rw [he] at fc
          have hE' : R.conV t i = ((a : Int), (m : Int), true) := by
            rw [HE'.out, if_neg (by rw [he]; exact fun h => by cases h.2)]
            simp
          have HE2 := Lib.hid hE'
          clear he hE'
          go_wp2_with (refine wpList_store_row rfl 81 _ _ rfl w.heap.size #[.int .i64 (a : Nat), .int .i64 (m : Nat)] (by rfl) (by rfl) 81 _ hr info_span rfl (one_span _ _) ?_)
          exact span_ret2 (by rfl) _ _ w.heap.size (a : Nat) (m : Nat) (.bool true) (by rfl) (by rfl) rfl (hr.set _ _) (by rw [HE2.out]; exact ⟨rfl, HB.out _⟩)
        · rw [he] at fc
          have hE' : R.conV t i = ((a : Int), (m : Int) - 1, true) := by
            rw [HE'.out, if_pos ⟨by omega, he⟩]
            simp
          have HE2 := Lib.hid hE'
          clear he hE'
          go_wp2_with (refine wpList_store_row rfl 81 _ _ rfl w.heap.size #[.int .i64 (a : Nat), .int .i64 ((m : Int) - 1)] (by rfl) (by rfl) 81 _ hr info_span rfl (one_span _ _) ?_)
          exact span_ret2 (by rfl) _ _ w.heap.size (a : Nat) ((m : Int) - 1) (.bool true) (by rfl) (by rfl) rfl (hr.set _ _) (by rw [HE2.out]; exact ⟨rfl, HB.out _⟩)
      · have hE' : R.conV t i = ((a : Int), (c : Int) - 1, true) := by rw [HE'.out, if_neg (fun h => hgt h.1)]
        have HE2 := Lib.hid hE'
        have hr := H2.out.2.1
        have HB := Lib.hid (below_setRow H2.out.1 (Nat.le_refl w.heap.size))
        clear hE'
        go_wp2_with (refine wpList_store_row rfl 81 _ _ rfl w.heap.size #[.int .i64 (a : Nat), .int .i64 ((c : Int) - 1)] (by rfl) (by rfl) 81 _ hr info_span rfl (one_span _ _) ?_)
        exact span_ret2 (by rfl) _ _ w.heap.size (a : Nat) ((c : Int) - 1) (.bool true) (by rfl) (by rfl) rfl (hr.set _ _) (by rw [HE2.out]; exact ⟨rfl, HB.out _⟩)
end Go.Proofs.YtdigkgoaldgodaaDoor
