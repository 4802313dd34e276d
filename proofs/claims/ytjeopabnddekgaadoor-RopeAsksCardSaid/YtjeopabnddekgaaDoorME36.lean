/- The span of a line's content in a rope. Conditions: a text of at most 10^9 bytes. -/
import Derived.Test.YtjeopabnddekgaaDoorME35
namespace Go.Proofs.YtjeopabnddekgaaDoor
open Go Go.RowKit Go.Lib

namespace R
/-- a line's content: where it begins, where it ends, whether there is one -/
def conV (t : T) (i : Int) : Int × Int × Bool :=
  if (startV t i).2 = true then
    (if (startV t (i + 1)).2 = true then
      (((startV t i).1 : Int), (if ((startV t i).1 : Int) < ((startV t (i + 1)).1 : Int) - 1 ∧ (cn (t.tx.extract 0 ((startV t (i + 1)).1 - 1))).e = true then ((startV t (i + 1)).1 : Int) - 1 - 1 else ((startV t (i + 1)).1 : Int) - 1), true)
    else (((startV t i).1 : Int), (t.tx.size : Int), true))
  else (0, 0, false)
theorem lnF_le (s : ByteArray) (n : Int) : lnF s n ≤ s.size := by
  unfold lnF
  split
  · next h => exact L.fr_le (by omega)
  · omega
theorem startV_le (t : T) (ht : t.Fit) (i : Int) : (startV t i).1 ≤ t.tx.size := by
  unfold startV
  split
  · exact Nat.zero_le _
  · obtain ⟨u, s, x, efd, F⟩ := fd_spec (stP i) t ByteArray.empty ht (U.valid_none _ rfl)
    rw [empty_app] at efd
    have efd : fd (stP i) t Cn.none = (cn u, s) := efd
    have hsz : t.tx.size = u.size + s.size + x.size := by rw [F.tx, U.app_size, U.app_size]
    rw [efd]
    have h1 : lnF (cn u, s).2 (stN i (cn u, s)) ≤ s.size := lnF_le _ _
    have hb : (cn u).b = u.size := rfl
    show (cn u).b + lnF (cn u, s).2 (stN i (cn u, s)) ≤ _
    omega
theorem startV_true {t : T} {i : Int} (h : (startV t i).2 = true) : 0 ≤ i ∧ i ≤ ((cn t.tx).k : Int) := by
  unfold startV at h
  split at h
  · cases h
  · omega
end R
def SpanRow (w : World) (b : Nat) (x y : Int) : Prop := w.heap[b]? = some (.cells #[.int .i64 x, .int .i64 y] 74 (0, 0))
theorem SpanRow.below {w w' : World} {b : Nat} {x y : Int} {N : Nat} (h : SpanRow w b x y) (hB : Below N w w') (hb : b < N) : SpanRow w' b x y := (hB.block b hb).trans h
theorem info_span : (Tryd.prog.info? 74).map (·.size) = some 2 := by kernel_rfl
theorem one_span (x y : Int) : (#[Value.int .i64 x, Value.int .i64 y].all (·.oneCell')) = true := by simp [Value.oneCell']
theorem SpanRow.set {w : World} {b : Nat} {x y : Int} (h : SpanRow w b x y) (x' y' : Int) : SpanRow (w.setRow b #[.int .i64 x', .int .i64 y']) b x' y' := by
  unfold SpanRow at *
  simp [World.setRow, Array.getElem?_modify, h]
theorem span_ret2 {fn : Func} {p q : Tmp} (h : fn.results = #[.cell p 74, .tmp q]) {Q : Ending → World → Prop} (a : Act) (w : World) (g : Nat) (x y : Int) (z : Value) (hp : a.tmps.getD p undef = .pointer (some ⟨g, 0, none⟩)) (hq : a.tmps.getD q undef = z) (hd : a.defers = []) (hg : SpanRow w g x y) (hQ : Q (.returned (.tuple #[.agg #[.int .i64 x, .int .i64 y], z])) w) : bodyPost Tryd.prog fn Q .ret a w := by
  have hp' : a.tmps[p]?.getD undef = .pointer (some ⟨g, 0, none⟩) := by simpa using hp
  have hq' : a.tmps[q]?.getD undef = z := by simpa using hq
  refine bodyPost_ret (v := .tuple #[.agg #[.int .i64 x, .int .i64 y], z]) ?_ hd hQ
  simp [results, h, hp', hq', asAddr, run_loadVar_row w g _ _ _ (0, 0) _ hg Tryd.underlying74 rfl info_span]
def ConR (r : Int × Int × Bool) (w : World) (e : Ending) (w' : World) : Prop := e = .returned (.tuple #[.agg #[.int .i64 r.1, .int .i64 r.2.1], .bool r.2.2]) ∧ Below w.heap.size w w'
theorem field_4 (c : R.Cn) (W : World) : (Instr.field 96 (.agg #[Value.int .i64 (((c).b : Nat) : Int), Value.int .i64 (((c).u : Nat) : Int), Value.int .i64 (((c).k : Nat) : Int), Value.bool (c).f, Value.bool (c).e]) 4).run Tryd.prog W = .ok (.bool c.e) W := by kernel_rfl
set_option maxHeartbeats 8000000 in
set_option maxRecDepth 100000 in
theorem content_any (i : Int) (v : Value) (t : R.T) (w : World) (h : RopeAt w v t) (hs : t.tx.size ≤ 1000000000) (hi : 0 ≤ i) (hi2 : i ≤ 9223372036854775807) : Calls Tryd.prog 54 #[v, .int .i64 i] w (ConR (R.conV t i) w) := by
  have HS1 := Lib.hid (fun W (hB : Below w.heap.size w W) => start_any i v t W (h.below hB) hs (by unfold I64; omega))
  have HLn := Lib.hid (fun W (hB : Below w.heap.size w W) => len_any v t W (h.below hB))
  have HR := Lib.hid h
  have hBb := (Below.refl w.heap.size w).alloc (Nat.le_refl _) (.cells #[.int .i64 0, .int .i64 0] 74)
  have hr0 : SpanRow (w.alloc (.cells #[.int .i64 0, .int .i64 0] 74)) w.heap.size 0 0 := heap_alloc_new _ _
  have hz0 : (w.alloc (.cells #[.int .i64 0, .int .i64 0] 74)).heap.size = w.heap.size + 1 := World.size_alloc _ _
  have H0 := Lib.hid (And.intro hBb (And.intro hr0 hz0))
  clear hBb hr0 hz0
  go_enter Tryd.func54, Tryd.ntmps54
  go_upto_region 1 with fail
  generalize w.alloc (.cells #[.int .i64 0, .int .i64 0] 74) = W0 at *
  go_wp2_with fail
  refine (HS1.out W0 H0.out.1).mono ?_
  rintro e w1 ⟨rfl, hB1⟩
  have hB1w := H0.out.1.trans (hB1.mono H0.out.1.size)
  have hr1 := SpanRow.below (N := W0.heap.size) H0.out.2.1 hB1 (by have := H0.out.2.2; omega)
  have H1 := Lib.hid (And.intro hB1w (And.intro hr1 (show w.heap.size < w1.heap.size by have := H0.out.2.2; have := hB1.size; omega)))
  clear hB1 hB1w hr1
  rcases hok : (R.startV t i).2 with _ | _
  · have hE : R.conV t i = (0, 0, false) := by unfold R.conV; rw [if_neg (by rw [hok]; decide)]
    have HE := Lib.hid hE
    clear hE hok
    have hr := H1.out.2.1
    have HB := Lib.hid (below_setRow H1.out.1 (Nat.le_refl w.heap.size))
    go_wp2_with (refine wpList_store_row rfl 74 _ _ rfl w.heap.size #[.int .i64 0, .int .i64 0] (by rfl) (by rfl) 74 _ hr info_span rfl (one_span _ _) ?_)
    exact span_ret2 (by rfl) _ _ w.heap.size 0 0 (.bool false) (by rfl) (by rfl) rfl (hr.set _ _) (by rw [HE.out]; exact ⟨rfl, HB.out _⟩)
  · obtain ⟨g1, g2⟩ := R.startV_true hok
    have hcn := R.cn_le t.tx
    have n1 : i ≤ 1000000000 := by omega
    have hl1 : (R.startV t i).1 ≤ t.tx.size := R.startV_le t (by obtain ⟨b, rv, _, _, _, ht⟩ := HR.out; exact ht) i
    have hl2 : (R.startV t (i + 1)).1 ≤ t.tx.size := R.startV_le t (by obtain ⟨b, rv, _, _, _, ht⟩ := HR.out; exact ht) (i + 1)
    have hE : R.conV t i = if (R.startV t (i + 1)).2 = true then (((R.startV t i).1 : Int), (if ((R.startV t i).1 : Int) < ((R.startV t (i + 1)).1 : Int) - 1 ∧ (R.cn (t.tx.extract 0 ((R.startV t (i + 1)).1 - 1))).e = true then ((R.startV t (i + 1)).1 : Int) - 1 - 1 else ((R.startV t (i + 1)).1 : Int) - 1), true) else (((R.startV t i).1 : Int), (t.tx.size : Int), true) := by unfold R.conV; rw [if_pos hok]
    have HS2 := Lib.hid (start_any (i + 1) v t w1 (HR.out.below H1.out.1) hs (by unfold I64; omega))
    obtain ⟨⟨a, ok1⟩, ha⟩ : ∃ p, R.startV t i = p := ⟨_, rfl⟩
    obtain ⟨⟨c, ok2⟩, hc⟩ : ∃ p, R.startV t (i + 1) = p := ⟨_, rfl⟩
    rw [ha, hc] at hE
    rw [hc] at HS2 hl2
    rw [ha] at hl1 ⊢
    dsimp only at hE hl1 hl2 ⊢
    have HE := Lib.hid hE
    have HZ := Lib.hid (And.intro hl1 (And.intro hl2 hs))
    have n2 : (a : Int) ≤ 1000000000 := by omega
    have n3 : (c : Int) ≤ 1000000000 := by omega
    have n4 : (t.tx.size : Int) ≤ 1000000000 := by omega
    clear hE ha hc hok g1 g2 hcn hl1 hl2 hs hi2
    go_wp2_with fail
    refine HS2.out.mono ?_
    rintro e w2 ⟨rfl, hB2⟩
    have H2 := Lib.hid (And.intro (H1.out.1.trans (hB2.mono H1.out.1.size)) (And.intro (H1.out.2.1.below hB2 H1.out.2.2) (Nat.lt_of_lt_of_le H1.out.2.2 hB2.size)))
    clear hB2 HS2
    dsimp only
    cases ok2
    · have hE := HE.out
      rw [if_neg (by decide)] at hE
      have HE' := Lib.hid hE
      clear hE HE
      go_wp2_with fail
      refine (HLn.out w2 H2.out.1).mono ?_
      rintro e w3 ⟨rfl, hB3⟩
      have hr := H2.out.2.1.below hB3 H2.out.2.2
      have HB := Lib.hid (below_setRow (H2.out.1.trans (hB3.mono H2.out.1.size)) (Nat.le_refl w.heap.size))
      clear hB3
      go_wp2_with (refine wpList_store_row rfl 74 _ _ rfl w.heap.size #[.int .i64 (a : Nat), .int .i64 ((R.cn t.tx).b : Nat)] (by rfl) (by rfl) 74 _ hr info_span rfl (one_span _ _) ?_)
      exact span_ret2 (by rfl) _ _ w.heap.size (a : Nat) ((R.cn t.tx).b : Nat) (.bool true) (by rfl) (by rfl) rfl (hr.set _ _) (by rw [HE'.out]; exact ⟨rfl, HB.out _⟩)
    · have hE := HE.out
      rw [if_pos rfl] at hE
      have HE' := Lib.hid hE
      clear hE HE
      by_cases hgt : (a : Int) < (c : Int) - 1
      · obtain ⟨m, rfl⟩ : ∃ m, c = m + 1 := ⟨c - 1, by omega⟩
        have hgt' : (a : Int) < (m : Int) := by omega
        obtain ⟨b, rv, rfl, hb, hn, ht⟩ := HR.out
        have HBf := Lib.hid (before_any m rv t w2 ht (by have := HZ.out.2.2; omega) (by have := HZ.out.2.1; omega) (hn.below H2.out.1))
        have c0 : w2.cell? ⟨b, 0, none⟩ = some rv := by rw [Lib.cell_of_heap ((H2.out.1.block b (Array.getElem?_eq_some_iff.1 hb).1).trans hb)]; rfl
        have fc := field_4 (R.cn (t.tx.extract 0 m))
        rw [Nat.add_sub_cancel] at HE'
        clear hb hn ht hgt
        go_wp2_with fail
        refine HBf.out.mono ?_
        rintro e w3 ⟨rfl, hB3⟩
        have hr := H2.out.2.1.below hB3 H2.out.2.2
        have HB := Lib.hid (below_setRow (H2.out.1.trans (hB3.mono H2.out.1.size)) (Nat.le_refl w.heap.size))
        clear hB3 c0
        rcases he : (R.cn (t.tx.extract 0 m)).e with _ | _
        · rw [he] at fc
          have hE' : R.conV t i = ((a : Int), (m : Int), true) := by
            rw [HE'.out, if_neg (by rw [he]; exact fun h => by cases h.2)]
            simp
          have HE2 := Lib.hid hE'
          clear he hE'
          go_wp2_with (refine wpList_store_row rfl 74 _ _ rfl w.heap.size #[.int .i64 (a : Nat), .int .i64 (m : Nat)] (by rfl) (by rfl) 74 _ hr info_span rfl (one_span _ _) ?_)
          exact span_ret2 (by rfl) _ _ w.heap.size (a : Nat) (m : Nat) (.bool true) (by rfl) (by rfl) rfl (hr.set _ _) (by rw [HE2.out]; exact ⟨rfl, HB.out _⟩)
        · rw [he] at fc
          have hE' : R.conV t i = ((a : Int), (m : Int) - 1, true) := by
            rw [HE'.out, if_pos ⟨by omega, he⟩]
            simp
          have HE2 := Lib.hid hE'
          clear he hE'
          go_wp2_with (refine wpList_store_row rfl 74 _ _ rfl w.heap.size #[.int .i64 (a : Nat), .int .i64 ((m : Int) - 1)] (by rfl) (by rfl) 74 _ hr info_span rfl (one_span _ _) ?_)
          exact span_ret2 (by rfl) _ _ w.heap.size (a : Nat) ((m : Int) - 1) (.bool true) (by rfl) (by rfl) rfl (hr.set _ _) (by rw [HE2.out]; exact ⟨rfl, HB.out _⟩)
      · have hE' : R.conV t i = ((a : Int), (c : Int) - 1, true) := by rw [HE'.out, if_neg (fun h => hgt h.1)]
        have HE2 := Lib.hid hE'
        have hr := H2.out.2.1
        have HB := Lib.hid (below_setRow H2.out.1 (Nat.le_refl w.heap.size))
        clear hE'
        go_wp2_with (refine wpList_store_row rfl 74 _ _ rfl w.heap.size #[.int .i64 (a : Nat), .int .i64 ((c : Int) - 1)] (by rfl) (by rfl) 74 _ hr info_span rfl (one_span _ _) ?_)
        exact span_ret2 (by rfl) _ _ w.heap.size (a : Nat) ((c : Int) - 1) (.bool true) (by rfl) (by rfl) rfl (hr.set _ _) (by rw [HE2.out]; exact ⟨rfl, HB.out _⟩)
end Go.Proofs.YtjeopabnddekgaaDoor

namespace Go.Proofs.YtjeopabnddekgaaDoor
open Go Go.RowKit Go.Lib

namespace R
def chV (t : T) (c : Int) : Int := max (min c ((cn t.tx).u : Int)) 0
def offV (t : T) (l c : Int) : Int := if (conV t (max l 0)).2.2 = true then min ((cutT t (((cn (t.tx.extract 0 (conV t (max l 0)).1.toNat)).u : Int) + chV t c) : Nat) : Int) (conV t (max l 0)).2.1 else (t.tx.size : Int)
theorem conV_true {t : T} {i : Int} (h : (conV t i).2.2 = true) : (conV t i).1 = ((startV t i).1 : Int) ∧ (startV t i).2 = true := by
  unfold conV at h ⊢
  by_cases h1 : (startV t i).2 = true
  · rw [if_pos h1] at h ⊢
    split <;> exact ⟨rfl, h1⟩
  · rw [if_neg h1] at h; cases h
end R
def IntZ (n : Int) (w : World) (e : Ending) (w' : World) : Prop := e = .returned (.int .i64 n) ∧ Below w.heap.size w w'
set_option maxHeartbeats 8000000 in
set_option maxRecDepth 100000 in
theorem offset_any (l c : Int) (v : Value) (t : R.T) (w : World) (h : RopeAt w v t) (hs : t.tx.size ≤ 1000000000) (hl : I64 l) (hc : I64 c) : Calls Tryd.prog 20 #[v, .agg #[.int .i64 l, .int .i64 c]] w (IntZ (R.offV t l c) w) := by
  have HCo := Lib.hid (fun W (hB : Below w.heap.size w W) => content_any (max l 0) v t W (h.below hB) hs (by omega) (by obtain ⟨h1, h2⟩ := hl; omega))
  have HLn := Lib.hid (fun W (hB : Below w.heap.size w W) => len_any v t W (h.below hB))
  have HUn := Lib.hid (fun W (hB : Below w.heap.size w W) => unitsR_any v t W (h.below hB))
  have HR := Lib.hid h
  have hBb := (Below.refl w.heap.size w).alloc (Nat.le_refl _) (.cells #[.int .i64 l, .int .i64 c] 38)
  have hp0 : (w.alloc (.cells #[.int .i64 l, .int .i64 c] 38)).heap[w.heap.size]? = some (.cells #[.int .i64 l, .int .i64 c] 38 (0, 0)) := heap_alloc_new _ _
  have hz0 : (w.alloc (.cells #[.int .i64 l, .int .i64 c] 38)).heap.size = w.heap.size + 1 := World.size_alloc _ _
  have H0 := Lib.hid (And.intro hBb (And.intro hp0 hz0))
  clear hBb hp0 hz0
  go_enter Tryd.func20, Tryd.ntmps20
  go_upto_region 1 with fail
  generalize w.alloc (.cells #[.int .i64 l, .int .i64 c] 38) = W0 at *
  have x0 : W0.cell? ⟨w.heap.size, 0, none⟩ = some (.int .i64 l) := by rw [Lib.cell_of_heap H0.out.2.1]; rfl
  go_wp2_with fail
  refine (HCo.out W0 H0.out.1).mono ?_
  rintro e w1 ⟨rfl, hB1⟩
  obtain ⟨⟨fr, te, ok⟩, hcv⟩ : ∃ p, R.conV t (max l 0) = p := ⟨_, rfl⟩
  rw [hcv]
  dsimp only
  have hBz := (Below.refl w1.heap.size w1).alloc (Nat.le_refl _) (.cells #[.int .i64 fr, .int .i64 te] 74)
  have hBa : Below W0.heap.size W0 (w1.alloc (.cells #[.int .i64 fr, .int .i64 te] 74)) := hB1.trans (hBz.mono hB1.size)
  have hsp : SpanRow (w1.alloc (.cells #[.int .i64 fr, .int .i64 te] 74)) w1.heap.size fr te := heap_alloc_new _ _
  have hzz : w1.heap.size < (w1.alloc (.cells #[.int .i64 fr, .int .i64 te] 74)).heap.size := by rw [World.size_alloc]; omega
  have hp1 : (w1.alloc (.cells #[.int .i64 fr, .int .i64 te] 74)).heap[w.heap.size]? = _ := (hBa.block w.heap.size (by have := H0.out.2.2; omega)).trans H0.out.2.1
  have H1 := Lib.hid (And.intro (H0.out.1.trans (hBa.mono H0.out.1.size)) (And.intro hsp (And.intro hzz hp1)))
  have HCv := Lib.hid hcv
  clear hB1 hBz hBa hsp hzz hp1 x0 hcv
  go_upto_region 2 with fail
  generalize w1.alloc (.cells #[.int .i64 fr, .int .i64 te] 74) = W1 at *
  generalize w1.heap.size = B at *
  cases ok
  · have hE : R.offV t l c = (t.tx.size : Int) := by unfold R.offV; rw [HCv.out]; exact if_neg (fun h => by cases h)
    have HE := Lib.hid hE
    clear hE
    go_wp2_with fail
    refine (HLn.out W1 H1.out.1).mono ?_
    rintro e w2 ⟨rfl, hB⟩
    have H2 := Lib.hid (H1.out.1.trans (hB.mono H1.out.1.size))
    clear hB
    go_wp2_with fail
    go_ret
    rw [HE.out]
    exact ⟨rfl, H2.out⟩
  · obtain ⟨e1, e2⟩ := R.conV_true (t := t) (i := max l 0) (by rw [HCv.out])
    rw [HCv.out] at e1
    dsimp only at e1
    obtain ⟨b, rv, rfl, hb, hn, ht⟩ := HR.out
    have hal := R.startV_le t ht (max l 0)
    generalize (R.startV t (max l 0)).1 = a at *
    obtain rfl := e1
    have hE : R.offV t l c = min ((R.cutT t (((R.cn (t.tx.extract 0 a)).u : Int) + R.chV t c) : Nat) : Int) te := by
      unfold R.offV; rw [HCv.out]; rw [if_pos rfl]; rfl
    have HE := Lib.hid hE
    have hcn := R.cn_le t.tx
    have hcx := R.cn_le (t.tx.extract 0 a)
    have hxs : (t.tx.extract 0 a).size ≤ t.tx.size := by rw [ByteArray.size_extract]; omega
    have m1 : (0 : Int) ≤ R.chV t c ∧ R.chV t c ≤ 1000000000 := by unfold R.chV; omega
    have m2 : ((R.cn (t.tx.extract 0 a)).u : Int) ≤ 1000000000 := by omega
    have HC := Lib.hid (fun W (hB : Below w.heap.size w W) => (show W.cell? ⟨b, 0, none⟩ = some rv from by rw [Lib.cell_of_heap ((hB.block b (Array.getElem?_eq_some_iff.1 hb).1).trans hb)]; rfl))
    have HBf := Lib.hid (fun W (hB : Below w.heap.size w W) => before_any a rv t W ht (by omega) hal (hn.below hB))
    have HCt := Lib.hid (fun W (hB : Below w.heap.size w W) => cutR_any (((R.cn (t.tx.extract 0 a)).u : Int) + R.chV t c) rv t W ht (by omega) (by unfold I64; omega) (hn.below hB))
    have fc := field_1 (R.cn (t.tx.extract 0 a))
    have HM := Lib.hid (And.intro m1 m2)
    clear hE e2 hcn hcx hxs hal hb hn ht hs hl hc h m1 m2 HCo HLn
    go_upto_region 4 with fail
    have KEEP := Lib.hid (fun w' (hB : Below W1.heap.size W1 w') => (show w'.cell? ⟨w.heap.size, 1, none⟩ = some (.int .i64 c) from by
      have hlt : w.heap.size < W1.heap.size := (Array.getElem?_eq_some_iff.1 H1.out.2.2.2).1
      rw [Lib.cell_of_heap ((hB.block w.heap.size hlt).trans H1.out.2.2.2)]; rfl))
    have z0 := KEEP.out W1 (Below.refl _ _)
    go_region_held3 (fun w' => w'.cell? ⟨w.heap.size, 1, none⟩ = some (.int .i64 c))
      (first | exact KEEP.out _ hC1 | exact KEEP.out _ (Below.refl _ _).drew | exact KEEP.out _ (Below.refl _ _))
      (first | (go_at_call 42; (with_reducible refine (HUn.out _ (H1.out.1.drew)).mono ?_); rintro e wc1 ⟨rfl, hB⟩; have hC1 := (Below.refl W1.heap.size W1).drew.trans hB; clear hB))
    rename_i hHeld
    have H2 := Lib.hid (And.intro (H1.out.1.trans (hC1.mono H1.out.1.size)) (And.intro (H1.out.2.1.below hC1 H1.out.2.2.1) (Nat.lt_of_lt_of_le H1.out.2.2.1 hC1.size)))
    clear hHeld KEEP z0 hC1
    go_upto_region 5 with fail
    have hch : R.chV t c = max (min c ((R.cn t.tx).u : Int)) 0 := rfl
    rw [← hch]
    have HM' := HM.out
    generalize R.chV t c = g at *
    generalize R.cn (t.tx.extract 0 a) = ca at *
    have ww : IntKind.i64.wrap ((ca.u : Int) + g) = (ca.u : Int) + g := wrapI _ (by omega) (by omega)
    have KEEP := Lib.hid (fun w' (hB : Below wc1.heap.size wc1 w') => (show w'.cell? ⟨b, 0, none⟩ = some rv ∧ w'.cell? ⟨B, 0, none⟩ = some (.int .i64 (a : Nat)) ∧ w'.cell? ⟨B, 1, none⟩ = some (.int .i64 te) from by
      have hsp := H2.out.2.1.below hB H2.out.2.2
      exact ⟨HC.out w' (H2.out.1.trans (hB.mono H2.out.1.size)), by rw [Lib.cell_of_heap hsp]; rfl, by rw [Lib.cell_of_heap hsp]; rfl⟩))
    obtain ⟨z0, z1, z2⟩ := KEEP.out wc1 (Below.refl _ _)
    clear HM' hch
    go_region_held3 (fun w' => w'.cell? ⟨b, 0, none⟩ = some rv ∧ w'.cell? ⟨B, 0, none⟩ = some (.int .i64 (a : Nat)) ∧ w'.cell? ⟨B, 1, none⟩ = some (.int .i64 te))
      (first | exact KEEP.out _ hC2 | exact KEEP.out _ hC1 | exact KEEP.out _ (Below.refl _ _).drew | exact KEEP.out _ (Below.refl _ _))
      (first
        | (go_at_call 55; (with_reducible refine (HCt.out _ (H2.out.1.trans (hC1.mono H2.out.1.size))).mono ?_); rintro e wc3 ⟨rfl, hB⟩; have hC2 := hC1.trans (hB.mono hC1.size); clear hB)
        | (go_at_call 56; (with_reducible refine (HBf.out _ (H2.out.1.drew)).mono ?_); rintro e wc2 ⟨rfl, hB⟩; have hC1 := (Below.refl wc1.heap.size wc1).drew.trans hB; clear hB))
    rename_i hHeld
    have HB9 := Lib.hid (H2.out.1.trans (hC2.mono H2.out.1.size))
    clear hHeld KEEP z0 z1 z2 hC1 hC2
    go_wp2_with fail
    go_ret
    rw [HE.out]
    exact ⟨rfl, HB9.out⟩
end Go.Proofs.YtjeopabnddekgaaDoor
