/- The statement on reading any text, walked: whatever the text, it answers true. Conditions: such as Go can hold; the library's tables as its text lays them. -/
import Derived.Test.YtbdpghmpdghnbaaDoorMJ50
namespace Go.Proofs.YtbdpghmpdghnbaaDoor
open Go Go.RowKit Go.Lib
def SaysTrue (w : World) (e : Ending) (w' : World) : Prop := e = .returned (.bool true) ∧ Below w.heap.size w w'
set_option maxRecDepth 100000 in
set_option maxHeartbeats 2000000 in
theorem parseLong_any (s : ByteArray) (w : World) (hs : s.size ≤ 9223372036854775807) (h : 262144 < s.size) : Calls Tryd.prog 4 #[.string s] w (ParseIs ((0, ⟨#[]⟩, .nil, .nil), 0, 3) w) := by
  have HB := Lib.hid (bx_box w)
  have HW := Lib.hid (bx_below w)
  unfold Bx at HB HW
  have l1 : (262144 : Int) < (s.size : Int) := by omega
  generalize hW0 : w.alloc (.cells #[.int .u8 0, .string ⟨#[]⟩, .slice none 0 0, .slice none 0 0] 25) = W0 at *
  obtain ⟨d0, d1, d2, d3⟩ := HB.out.box
  have f0 := HB.out.free 0
  have f1 := HB.out.free 1
  have f2 := HB.out.free 2
  have f3 := HB.out.free 3
  clear h
  go_enter Tryd.func4, Tryd.ntmps4
  go_wp2_with fail
  obtain ⟨e1, e2, e3⟩ := HB.out.all (.int .u8 0) (.string ⟨#[]⟩) (.slice none 0 0) (.slice none 0 0)
  have hB := HW.out.trans (below_set (o := 3) (below_set (o := 2) (below_set (o := 1) (below_set (o := 0) (Below.refl w.heap.size W0) (Nat.le_refl _) (.int .u8 0)) (Nat.le_refl _) (.string ⟨#[]⟩)) (Nat.le_refl _) (.slice none 0 0)) (Nat.le_refl _) (.slice none 0 0))
  generalize (((W0.setCell ⟨w.heap.size, 0, none⟩ (.int .u8 0)).setCell ⟨w.heap.size, 1, none⟩ (.string ⟨#[]⟩)).setCell ⟨w.heap.size, 2, none⟩ (.slice none 0 0)).setCell ⟨w.heap.size, 3, none⟩ (.slice none 0 0) = W' at *
  obtain ⟨x0, x1, x2, x3⟩ := e1.box
  refine bodyPost_ret (v := .tuple #[.agg #[.int .u8 0, .string ⟨#[]⟩, .slice none 0 0, .slice none 0 0], .int .i64 0, .int .i64 3]) (by simp [results, Tryd.results4, go_sem, x0, x1, x2, x3]) rfl ?_
  exact died_is (s := s) (p := 0) (e := 3) (Below.refl _ _) hB
theorem parseEver_any (s : ByteArray) (w : World) (hs : s.size ≤ 9223372036854775807) (hT : Tabs w) : Calls Tryd.prog 4 #[.string s] w (ParseIs (prsAll s) w) := by
  by_cases h : 262144 < s.size
  · have := parseLong_any s w hs h
    unfold prsAll
    rw [if_pos h]
    exact this
  · exact Parse_any s w (by omega) hT
theorem refParseEver_any (s : ByteArray) (w : World) (hs : s.size ≤ 9223372036854775807) : Calls Tryd.prog 5 #[.string s] w (ParseIs (prsAll s) w) := by
  by_cases h : 262144 < s.size
  · have := refParse_long s w hs h
    unfold prsAll
    rw [if_pos h]
    exact this
  · exact refParse_any s w (by omega)
set_option maxRecDepth 100000 in
set_option maxHeartbeats 4000000 in
theorem readsLaw_any (s : ByteArray) (w : World) (_hs : s.size ≤ 9223372036854775807) (hT : Tabs w) :
    Calls Tryd.prog 3 #[.string s] w (SaysTrue w) := by
  by_cases hm : 20000 < s.size ∧ s.size ≤ 262144
  · have e1 : decide ((20000 : Int) < (s.size : Int)) = true := decide_eq_true (by omega)
    have e2 : decide ((s.size : Int) ≤ 262144) = true := decide_eq_true (by omega)
    clear hm
    go_enter Tryd.func3, Tryd.ntmps3
    go_wp2_with fail
    go_ret
    exact ⟨rfl, Below.refl _ _⟩
  · have hp := parseEver_any s w _hs hT
    have hr := fun W => refParseEver_any s W _hs
    obtain ⟨b1, hb1⟩ : ∃ b, decide ((20000 : Int) < (s.size : Int)) = b := ⟨_, rfl⟩
    have hb2 : b1 = true → decide ((s.size : Int) ≤ 262144) = false := fun h => by
      rw [← hb1] at h
      have := of_decide_eq_true h
      exact decide_eq_false (by omega)
    clear hm
    generalize prsAll s = r at *
    obtain ⟨⟨k, x, l, f⟩, q, e⟩ := r
    have HS := Lib.hid (fun (va ua vb ub : Value) (A A' : Nat → Prop) (W : World) h1 h2 h3 h4 => same_any (l.size + f.size + 1) k x va ua l f k x vb ub l f A A' W (Nat.lt_succ_self _) h1 h2 h3 h4)
    simp only [V.veq_self] at HS
    have key : ∀ b2 : Bool, (b1 = true → decide ((s.size : Int) ≤ 262144) = false) → b1 = b2 → Calls Tryd.prog 3 #[.string s] w (SaysTrue w) := by
      intro b2 h2 h3
      cases b2
      · subst h3
        clear h2 hb2
        go_enter Tryd.func3, Tryd.ntmps3
        go_wp2_with fail
        refine hp.mono ?_
        rintro en w1 ⟨v, u, rfl, hl, hf, hfit, hB⟩
        simp only at hl hf hfit
        obtain ⟨p3, c3, rfl, -⟩ := hl.len
        obtain ⟨p4, c4, rfl, -⟩ := hf.len
        go_upto_region 4 with fail
        have B1 : Blk4 (w1.alloc (.cells #[.int .u8 k, .string x, .slice p3 l.len c3, .slice p4 f.len c4] 25)) w1.heap.size 25 (.int .u8 k) (.string x) (.slice p3 l.len c3) (.slice p4 f.len c4) := heap_alloc_new w1 _
        have hB1 := (Below.refl w1.heap.size w1).alloc (Nat.le_refl _) (.cells #[.int .u8 k, .string x, .slice p3 l.len c3, .slice p4 f.len c4] 25)
        have hl1 := hl.below hB1
        have hf1 := hf.below hB1
        have hBw := hB.trans (hB1.mono hB.size)
        generalize w1.alloc (.cells #[.int .u8 k, .string x, .slice p3 l.len c3, .slice p4 f.len c4] 25) = W1 at *
        generalize w1.heap.size = n1 at *
        have H1 := Lib.hid (And.intro hl1 (And.intro hf1 hBw))
        clear hl hf hl1 hf1 hB hB1 hBw hfit
        go_wp2_with fail
        refine (hr _).mono ?_
        rintro en w2 ⟨v', u', rfl, hl, hf, hfit, hB⟩
        simp only at hl hf hfit
        obtain ⟨p5, c5, rfl, -⟩ := hl.len
        obtain ⟨p6, c6, rfl, -⟩ := hf.len
        go_upto_region 5 with fail
        have B2 : Blk4 (w2.alloc (.cells #[.int .u8 k, .string x, .slice p5 l.len c5, .slice p6 f.len c6] 25)) w2.heap.size 25 (.int .u8 k) (.string x) (.slice p5 l.len c5) (.slice p6 f.len c6) := heap_alloc_new w2 _
        have hB2 := (Below.refl w2.heap.size w2).alloc (Nat.le_refl _) (.cells #[.int .u8 k, .string x, .slice p5 l.len c5, .slice p6 f.len c6] 25)
        have hl2 := hl.below hB2
        have hf2 := hf.below hB2
        have hBt := hB.trans (hB2.mono hB.size)
        generalize w2.alloc (.cells #[.int .u8 k, .string x, .slice p5 l.len c5, .slice p6 f.len c6] 25) = W2 at *
        generalize w2.heap.size = n2 at *
        have B12 := B1.same (hBt.block _ B1.lt)
        obtain ⟨a0, a1, a2, a3⟩ := B12.box
        obtain ⟨d0, d1, d2, d3⟩ := B2.box
        have hsame := HS.out _ _ _ _ _ _ W2 (H1.out.1.below hBt) (H1.out.2.1.below hBt) hl2 hf2
        have HBF := Lib.hid (H1.out.2.2.trans (hBt.mono H1.out.2.2.size))
        clear hl hf hl2 hf2 hB hB2 hBt hfit B1 B12 B2 H1
        go_wp2_with fail
        refine hsame.mono ?_
        rintro en w3 ⟨rfl, hB3⟩
        go_wp2_with fail
        go_ret
        exact ⟨rfl, HBF.out.trans (hB3.mono HBF.out.size)⟩
      · have h4 := h2 h3
        subst h3
        clear h2 hb2
        go_enter Tryd.func3, Tryd.ntmps3
        go_wp2_with fail
        refine hp.mono ?_
        rintro en w1 ⟨v, u, rfl, hl, hf, hfit, hB⟩
        simp only at hl hf hfit
        obtain ⟨p3, c3, rfl, -⟩ := hl.len
        obtain ⟨p4, c4, rfl, -⟩ := hf.len
        go_upto_region 4 with fail
        have B1 : Blk4 (w1.alloc (.cells #[.int .u8 k, .string x, .slice p3 l.len c3, .slice p4 f.len c4] 25)) w1.heap.size 25 (.int .u8 k) (.string x) (.slice p3 l.len c3) (.slice p4 f.len c4) := heap_alloc_new w1 _
        have hB1 := (Below.refl w1.heap.size w1).alloc (Nat.le_refl _) (.cells #[.int .u8 k, .string x, .slice p3 l.len c3, .slice p4 f.len c4] 25)
        have hl1 := hl.below hB1
        have hf1 := hf.below hB1
        have hBw := hB.trans (hB1.mono hB.size)
        generalize w1.alloc (.cells #[.int .u8 k, .string x, .slice p3 l.len c3, .slice p4 f.len c4] 25) = W1 at *
        generalize w1.heap.size = n1 at *
        have H1 := Lib.hid (And.intro hl1 (And.intro hf1 hBw))
        clear hl hf hl1 hf1 hB hB1 hBw hfit
        go_wp2_with fail
        refine (hr _).mono ?_
        rintro en w2 ⟨v', u', rfl, hl, hf, hfit, hB⟩
        simp only at hl hf hfit
        obtain ⟨p5, c5, rfl, -⟩ := hl.len
        obtain ⟨p6, c6, rfl, -⟩ := hf.len
        go_upto_region 5 with fail
        have B2 : Blk4 (w2.alloc (.cells #[.int .u8 k, .string x, .slice p5 l.len c5, .slice p6 f.len c6] 25)) w2.heap.size 25 (.int .u8 k) (.string x) (.slice p5 l.len c5) (.slice p6 f.len c6) := heap_alloc_new w2 _
        have hB2 := (Below.refl w2.heap.size w2).alloc (Nat.le_refl _) (.cells #[.int .u8 k, .string x, .slice p5 l.len c5, .slice p6 f.len c6] 25)
        have hl2 := hl.below hB2
        have hf2 := hf.below hB2
        have hBt := hB.trans (hB2.mono hB.size)
        generalize w2.alloc (.cells #[.int .u8 k, .string x, .slice p5 l.len c5, .slice p6 f.len c6] 25) = W2 at *
        generalize w2.heap.size = n2 at *
        have B12 := B1.same (hBt.block _ B1.lt)
        obtain ⟨a0, a1, a2, a3⟩ := B12.box
        obtain ⟨d0, d1, d2, d3⟩ := B2.box
        have hsame := HS.out _ _ _ _ _ _ W2 (H1.out.1.below hBt) (H1.out.2.1.below hBt) hl2 hf2
        have HBF := Lib.hid (H1.out.2.2.trans (hBt.mono H1.out.2.2.size))
        clear hl hf hl2 hf2 hB hB2 hBt hfit B1 B12 B2 H1
        go_wp2_with fail
        refine hsame.mono ?_
        rintro en w3 ⟨rfl, hB3⟩
        go_wp2_with fail
        go_ret
        exact ⟨rfl, HBF.out.trans (hB3.mono HBF.out.size)⟩
    exact key b1 hb2 rfl
end Go.Proofs.YtbdpghmpdghnbaaDoor
