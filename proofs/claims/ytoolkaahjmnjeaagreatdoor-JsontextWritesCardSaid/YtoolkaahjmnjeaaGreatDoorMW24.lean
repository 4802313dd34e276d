/- The program's writer: a list, an object. Conditions: what is written is at most 10^11 bytes. -/
import Derived.Test.YtoolkaahjmnjeaaGreatDoorMW23
namespace Go.Proofs.YtoolkaahjmnjeaaGreatDoor
open Go Go.RowKit Go.Shelf Go.Lib

theorem Blk4.more {W : World} {b : Nat} {t : TypeId} {k x v u : Value} (h : Blk4 W b t k x v u) (o : Obj) : Blk4 (W.alloc o) b t k x v u := h.same (Below.heap_alloc W o b h.lt)
theorem Blk4.draw {W : World} {b : Nat} {t : TypeId} {k x v u : Value} (h : Blk4 W b t k x v u) : Blk4 W.drew b t k x v u := h
theorem Blk4.keep {W W' : World} {b n : Nat} {k x v u r : Value} (h : Blk4 W b 25 k x v u) (hk : KeepX n r W W') : Blk4 W' b 25 k x v u := h.same (hk _ _ _ _ h (.inl (by decide)))
theorem Blk4.cells {W : World} {b : Nat} {t : TypeId} {k x v u : Value} (h : Blk4 W b t k x v u) : W.cell? ⟨b, 0, none⟩ = some k ∧ W.cell? ⟨b, 1, none⟩ = some x ∧ W.cell? ⟨b, 2, none⟩ = some v ∧ W.cell? ⟨b, 3, none⟩ = some u := h.box
/-- one byte behind a row -/
theorem ap_first {B g cap : Nat} {b : Value} {lb q : List UInt8} {W0 X w1 : World} {c : UInt8} (hq : q = lb ++ [c]) (ho : W0.ownsRow B 5 1 b lb.length (U.cellsOf lb)) (hX : Below W0.heap.size W0 X) (hLB : B ≤ W0.heap.size)
    (h1 : w1.ownsRow B 5 1 (.slice (some ⟨g, 0, none⟩) (lb.length + 1) cap) (lb.length + 1) (U.cellsOf lb ++ [.int .u8 c.toNat])) (hg : X.grownBy w1 b.ownBlock) :
    w1.ownsRow B 5 1 (.slice (some ⟨g, 0, none⟩) (lb.length + 1) cap) q.length (U.cellsOf q) ∧ Below B W0 w1 ∧ KeepX lb.length b W0 w1 := by
  have hoX := own8_below ho hX
  refine ⟨?_, (hX.mono hLB).grown hg (Nat.le_trans hLB hX.size) (fun k hk => (ho.lt k hk).1), (keepX_below _ _ hX).same (keepX_grows hoX (.inl hg))⟩
  rw [hq, snoc_len, ← U.cellsOf_append]
  exact h1
theorem ap_lit {B g cap j n : Nat} {b : Value} {lb : List UInt8} {W0 X w1 : World} {cs : Array Value} (ho : W0.ownsRow B 5 1 b lb.length (U.cellsOf lb)) (hg : X.grownBy w1 b.ownBlock) (hj : W0.heap.size ≤ j) (hlit : X.heap[j]? = some (.cells cs 5 (0, 0)))
    (hat : b.ownBlock = some g ∨ g = X.heap.size) : w1.heap[j]? = some (.cells cs 5 (0, 0)) ∧ (Value.slice (some ⟨g, 0, none⟩) n cap).ownBlock ≠ some j := by
  have hlt : j < X.heap.size := (Array.getElem?_eq_some_iff.1 hlit).1
  have hne := own_ne ho hj
  refine ⟨(hg.block j hlt (fun e => hne e.symm)).trans hlit, fun e => ?_⟩
  have e2 : g = j := by simpa [Value.ownBlock] using e
  subst e2
  rcases hat with h | h
  · exact hne h
  · omega
theorem it_next {B n m : Nat} {b v1 : Value} {xs : List Value} {W0 w1 Y w2 : World} (h1 : w1.ownsRow B 5 1 v1 m xs ∧ Below B W0 w1 ∧ KeepX n b W0 w1) (hY : Below w1.heap.size w1 Y) (hLB : B ≤ w1.heap.size) (hB : Below B Y w2) (hK : KeepX m v1 Y w2) (hm : 1 ≤ n → 2 ≤ m) : Below B W0 w2 ∧ KeepX n b W0 w2 :=
  ⟨h1.2.1.trans ((hY.mono hLB).trans hB), h1.2.2.onto ((keepX_below _ _ hY).same hK) h1.1 hm⟩

set_option maxHeartbeats 8000000 in
set_option maxRecDepth 100000 in
theorem appendList_any (N : Nat) (ih : WrOk N) (x : ByteArray) (va ua : Value) (l f : V.T) (A : Nat → Prop) (B : Nat) (b : Value) (lb : List UInt8) (w : World) (hs : l.size ≤ N) (hk : Kd l) (hlen : lb.length + 10 + wgt l ≤ 100000000000)
    (hl : HS w A 0 va l) (hf : HS w A 1 ua f) (hA : ∀ c, A c → c < B) (hown : w.ownsRow B 5 1 b lb.length (U.cellsOf lb)) (hBw : B ≤ w.heap.size) :
    Calls Tryz.prog 144 #[b, .agg #[.int .u8 5, .string x, va, ua]] w (WrK B lb.length b (aT l 0 true (lb ++ [91]) ++ [93]) w) := by
  obtain ⟨i0, hi, hz0, hz1, hz2⟩ := info_parts infoByte
  obtain ⟨p1, c1, rfl, -⟩ := hl.len
  obtain ⟨p2, c2, rfl, -⟩ := hf.len
  obtain ⟨q1, hq1⟩ : ∃ q1, q1 = lb ++ [91] := ⟨_, rfl⟩
  rw [← hq1]
  obtain ⟨q2, hq2⟩ : ∃ q2, q2 = aT l 0 true q1 := ⟨_, rfl⟩
  rw [← hq2]
  have hbk : Blk4 (w.alloc (.cells #[.int .u8 5, .string x, .slice p1 l.len c1, .slice p2 f.len c2] 25)) w.heap.size 25 (.int .u8 5) (.string x) (.slice p1 l.len c1) (.slice p2 f.len c2) := heap_alloc_new _ _
  have hB0 := Lib.hid ((Below.refl B w).alloc hBw (.cells #[.int .u8 5, .string x, .slice p1 l.len c1, .slice p2 f.len c2] 25))
  have hK0 := Lib.hid (keepX_below lb.length b ((Below.refl w.heap.size w).alloc (Nat.le_refl _) (.cells #[.int .u8 5, .string x, .slice p1 l.len c1, .slice p2 f.len c2] 25)))
  have ho0 := Lib.hid (hown.alloc (.cells #[.int .u8 5, .string x, .slice p1 l.len c1, .slice p2 f.len c2] 25))
  have hz := Lib.hid (show w.heap.size + 1 = (w.alloc (.cells #[.int .u8 5, .string x, .slice p1 l.len c1, .slice p2 f.len c2] 25)).heap.size by simp)
  obtain ⟨z0, z1, z2, z3⟩ := hbk.box
  have F0 := Lib.hid hbk
  have hQ1 := Lib.hid (show q1.length = lb.length + 1 by rw [hq1, snoc_len])
  have hQ2 := Lib.hid (show q1.length ≤ q2.length ∧ q2.length ≤ q1.length + wgt l by rw [hq2]; exact ⟨aT_ge _ _ _ _, aT_len _ _ _ _⟩)
  have HI := fun (W : World) (v : Value) (ho : W.ownsRow B 5 1 v q1.length (U.cellsOf q1)) (hB : Below B w W) => itemsV_any N ih (.slice p1 l.len c1) l A B v q1 W hs hk (by have := hQ1.out; omega) (hl.lowB hA hB) hA ho (Nat.le_trans hBw hB.size)
  rw [← hq2] at HI
  have HIT := Lib.hid HI
  have HQE := Lib.hid hq1
  have HL := Lib.hid hlen
  clear hbk hown hs hk hlen hl hf hA hq1 hq2 HI
  have hLB := Lib.hid (show B ≤ (w.alloc (.cells #[.int .u8 5, .string x, .slice p1 l.len c1, .slice p2 f.len c2] 25)).heap.size by have := hz.out; omega)
  go_enter Tryz.func144, Tryz.ntmps144
  go_wp2_with fail
  generalize w.alloc (.cells #[.int .u8 5, .string x, .slice p1 l.len c1, .slice p2 f.len c2] 25) = W0 at *
  go_region_held3 (fun w' => w'.cell? ⟨w.heap.size, 0, none⟩ = some (.int .u8 5) ∧ w'.cell? ⟨w.heap.size, 1, none⟩ = some (.string x) ∧ w'.cell? ⟨w.heap.size, 2, none⟩ = some (.slice p1 l.len c1) ∧ w'.cell? ⟨w.heap.size, 3, none⟩ = some (.slice p2 f.len c2))
    (first | with_reducible exact F3.out.cells | with_reducible exact F2.out.cells | with_reducible exact (F2.out.more _).cells | with_reducible exact F1.out.cells | with_reducible exact (F1.out.more _).cells | with_reducible exact F0.out.draw.cells | with_reducible exact (F0.out.more _).draw.cells | with_reducible exact ((F0.out.more _).more _).draw.cells)
    (first
      | (go_at_call 172; (with_reducible refine (HIT.out _ _ (by first | with_reducible exact G1.out.1 | with_reducible exact G1.out.1.alloc _) (hB0.out.trans (by first | with_reducible exact G1.out.2.1 | with_reducible exact G1.out.2.1.alloc (Nat.le_trans hLB.out G1.out.2.1.size) _))).mono ?_); rintro e w2 ⟨v2, rfl, hown2, hB2, hK2⟩
         have F2 := Lib.hid ((by first | with_reducible exact F1.out | with_reducible exact (F1.out.more _) : Blk4 _ w.heap.size 25 (.int .u8 5) (.string x) (.slice p1 l.len c1) (.slice p2 f.len c2)).keep hK2)
         have G2 := Lib.hid (And.intro hown2 (it_next G1.out (by first | with_reducible exact Below.refl _ _ | with_reducible exact (Below.refl _ _).alloc (Nat.le_refl _) _) (Nat.le_trans hLB.out G1.out.2.1.size) hB2 hK2 (fun h => by have := hQ1.out; omega)))
         first
           | (have LIT2 := Lib.hid ((hK2 _ _ _ _ LIT1.out.1 (.inr ⟨by have := hQ1.out; omega, rfl, LIT1.out.2⟩)).trans LIT1.out.1))
           | (have LIT2 := Lib.hid ((hK2 _ _ _ _ (heap_alloc_new w1 (.cells #[.int .u8 93] 5)) (.inr ⟨by have := hQ1.out; omega, rfl, own_ne G1.out.1 (Nat.le_refl _)⟩)).trans (heap_alloc_new w1 (.cells #[.int .u8 93] 5))))
           | skip
         clear hB2 hK2 hown2)
      | (refine step_append_lies _ (by rfl) _ _ _ (by rfl) B 5 i0 _ 1 1 Tryz.underlying81 hi hz0 hz1 hz2 rfl (by decide) b lb.length (U.cellsOf lb) (by rfl) (own8_below ho0.out ((Below.refl W0.heap.size W0).alloc (Nat.le_refl _) (.cells #[.int .u8 91] 5)).drew) ⟨W0.heap.size, 0, none⟩ 1 1 [.int .u8 91] (by rfl) (by rfl) (lit_news (heap_alloc_new W0 (.cells #[.int .u8 91] 5))) (by simp [Value.oneCell']) (by decide) (by have := HL.out; unfold maxLen; omega) (by have := HL.out; omega) (Nat.le_trans hLB.out (show W0.heap.size ≤ _ from (((Below.refl W0.heap.size W0).alloc (Nat.le_refl _) (.cells #[.int .u8 91] 5)).drew).size)) _ rfl ?_; intro g1 cap1 w1 hown1 hgrow1 hat1 hlt1
         have G1 := Lib.hid (ap_first (c := 91) HQE.out ho0.out (((Below.refl W0.heap.size W0).alloc (Nat.le_refl _) (.cells #[.int .u8 91] 5)).drew) hLB.out hown1 hgrow1)
         have F1 := Lib.hid (F0.out.keep (ap_first (c := 91) HQE.out ho0.out (((Below.refl W0.heap.size W0).alloc (Nat.le_refl _) (.cells #[.int .u8 91] 5)).drew) hLB.out hown1 hgrow1).2.2)
         clear hown1 hgrow1 hat1 hlt1)
      | (refine step_append_lies _ (by rfl) _ _ _ (by rfl) B 5 i0 _ 1 1 Tryz.underlying81 hi hz0 hz1 hz2 rfl (by decide) b lb.length (U.cellsOf lb) (by rfl) (own8_below ho0.out (((Below.refl W0.heap.size W0).alloc (Nat.le_refl _) (.cells #[.int .u8 91] 5)).alloc (by simp) (.cells #[.int .u8 93] 5)).drew) ⟨W0.heap.size, 0, none⟩ 1 1 [.int .u8 91] (by rfl) (by rfl) (lit_news ((two_new W0 (.cells #[.int .u8 91] 5) (.cells #[.int .u8 93] 5)).1)) (by simp [Value.oneCell']) (by decide) (by have := HL.out; unfold maxLen; omega) (by have := HL.out; omega) (Nat.le_trans hLB.out (show W0.heap.size ≤ _ from ((((Below.refl W0.heap.size W0).alloc (Nat.le_refl _) (.cells #[.int .u8 91] 5)).alloc (by simp) (.cells #[.int .u8 93] 5)).drew).size)) _ rfl ?_; intro g1 cap1 w1 hown1 hgrow1 hat1 hlt1
         have G1 := Lib.hid (ap_first (c := 91) HQE.out ho0.out ((((Below.refl W0.heap.size W0).alloc (Nat.le_refl _) (.cells #[.int .u8 91] 5)).alloc (by simp) (.cells #[.int .u8 93] 5)).drew) hLB.out hown1 hgrow1)
         have F1 := Lib.hid (F0.out.keep (ap_first (c := 91) HQE.out ho0.out ((((Below.refl W0.heap.size W0).alloc (Nat.le_refl _) (.cells #[.int .u8 91] 5)).alloc (by simp) (.cells #[.int .u8 93] 5)).drew) hLB.out hown1 hgrow1).2.2)
         have LIT1 := Lib.hid (ap_lit (n := lb.length + 1) (cap := cap1) ho0.out hgrow1 (Nat.le_succ W0.heap.size) ((two_new W0 (.cells #[.int .u8 91] 5) (.cells #[.int .u8 93] 5)).2) hat1)
         clear hown1 hgrow1 hat1 hlt1)
      | (refine step_append_lies _ (by rfl) _ _ _ (by rfl) B 5 i0 _ 1 1 Tryz.underlying81 hi hz0 hz1 hz2 rfl (by decide) b lb.length (U.cellsOf lb) (by rfl) (own8_below ho0.out (((Below.refl W0.heap.size W0).alloc (Nat.le_refl _) (.cells #[.int .u8 93] 5)).alloc (by simp) (.cells #[.int .u8 91] 5)).drew) ⟨W0.heap.size + 1, 0, none⟩ 1 1 [.int .u8 91] (by rfl) (by rfl) (lit_news ((two_new W0 (.cells #[.int .u8 93] 5) (.cells #[.int .u8 91] 5)).2)) (by simp [Value.oneCell']) (by decide) (by have := HL.out; unfold maxLen; omega) (by have := HL.out; omega) (Nat.le_trans hLB.out (show W0.heap.size ≤ _ from ((((Below.refl W0.heap.size W0).alloc (Nat.le_refl _) (.cells #[.int .u8 93] 5)).alloc (by simp) (.cells #[.int .u8 91] 5)).drew).size)) _ rfl ?_; intro g1 cap1 w1 hown1 hgrow1 hat1 hlt1
         have G1 := Lib.hid (ap_first (c := 91) HQE.out ho0.out ((((Below.refl W0.heap.size W0).alloc (Nat.le_refl _) (.cells #[.int .u8 93] 5)).alloc (by simp) (.cells #[.int .u8 91] 5)).drew) hLB.out hown1 hgrow1)
         have F1 := Lib.hid (F0.out.keep (ap_first (c := 91) HQE.out ho0.out ((((Below.refl W0.heap.size W0).alloc (Nat.le_refl _) (.cells #[.int .u8 93] 5)).alloc (by simp) (.cells #[.int .u8 91] 5)).drew) hLB.out hown1 hgrow1).2.2)
         have LIT1 := Lib.hid (ap_lit (n := lb.length + 1) (cap := cap1) ho0.out hgrow1 (Nat.le_refl W0.heap.size) ((two_new W0 (.cells #[.int .u8 93] 5) (.cells #[.int .u8 91] 5)).1) hat1)
         clear hown1 hgrow1 hat1 hlt1)
      | (refine step_append_lies _ (by rfl) _ _ _ (by rfl) B 5 i0 _ 1 1 Tryz.underlying81 hi hz0 hz1 hz2 rfl (by decide) v2 q2.length (U.cellsOf q2) (by rfl) (own8_below G2.out.1 ((Below.refl w2.heap.size w2).alloc (Nat.le_refl _) (.cells #[.int .u8 93] 5))) ⟨w2.heap.size, 0, none⟩ 1 1 [.int .u8 93] (by rfl) (by rfl) (lit_news (heap_alloc_new w2 (.cells #[.int .u8 93] 5))) (by simp [Value.oneCell']) (by decide) (by have := HL.out; have := hQ1.out; have := hQ2.out; unfold maxLen; omega) (by have := HL.out; have := hQ1.out; have := hQ2.out; omega) (Nat.le_trans hLB.out (Nat.le_trans G2.out.2.1.size (show w2.heap.size ≤ _ from ((Below.refl w2.heap.size w2).alloc (Nat.le_refl _) (.cells #[.int .u8 93] 5)).size))) _ rfl ?_; intro g3 cap3 w3 hown3 hgrow3 hat3 hlt3
         have G3 := ap_first (q := q2 ++ [93]) (c := 93) rfl G2.out.1 ((Below.refl w2.heap.size w2).alloc (Nat.le_refl _) (.cells #[.int .u8 93] 5)) (Nat.le_trans hLB.out G2.out.2.1.size) hown3 hgrow3
         have F3 := Lib.hid (F2.out.keep G3.2.2)
         have HF := Lib.hid (show WrK B lb.length b (q2 ++ [93]) w (.returned (.slice (some ⟨g3, 0, none⟩) (q2.length + 1) cap3)) w3 from ⟨_, rfl, G3.1, hB0.out.trans (G2.out.2.1.trans G3.2.1), (hK0.out.same G2.out.2.2).onto G3.2.2 G2.out.1 (fun h => by have := hQ1.out; have := hQ2.out; omega)⟩)
         clear hown3 hgrow3 hat3 hlt3 G3)
      | (refine step_append_lies _ (by rfl) _ _ _ (by rfl) B 5 i0 _ 1 1 Tryz.underlying81 hi hz0 hz1 hz2 rfl (by decide) v2 q2.length (U.cellsOf q2) (by rfl) (own8_below G2.out.1 (Below.refl w2.heap.size w2)) ⟨w1.heap.size, 0, none⟩ 1 1 [.int .u8 93] (by rfl) (by rfl) (lit_news LIT2.out) (by simp [Value.oneCell']) (by decide) (by have := HL.out; have := hQ1.out; have := hQ2.out; unfold maxLen; omega) (by have := HL.out; have := hQ1.out; have := hQ2.out; omega) (Nat.le_trans hLB.out (Nat.le_trans G2.out.2.1.size (show w2.heap.size ≤ _ from (Below.refl w2.heap.size w2).size))) _ rfl ?_; intro g3 cap3 w3 hown3 hgrow3 hat3 hlt3
         have G3 := ap_first (q := q2 ++ [93]) (c := 93) rfl G2.out.1 (Below.refl w2.heap.size w2) (Nat.le_trans hLB.out G2.out.2.1.size) hown3 hgrow3
         have F3 := Lib.hid (F2.out.keep G3.2.2)
         have HF := Lib.hid (show WrK B lb.length b (q2 ++ [93]) w (.returned (.slice (some ⟨g3, 0, none⟩) (q2.length + 1) cap3)) w3 from ⟨_, rfl, G3.1, hB0.out.trans (G2.out.2.1.trans G3.2.1), (hK0.out.same G2.out.2.2).onto G3.2.2 G2.out.1 (fun h => by have := hQ1.out; have := hQ2.out; omega)⟩)
         clear hown3 hgrow3 hat3 hlt3 G3)
      | (refine step_append_lies _ (by rfl) _ _ _ (by rfl) B 5 i0 _ 1 1 Tryz.underlying81 hi hz0 hz1 hz2 rfl (by decide) v2 q2.length (U.cellsOf q2) (by rfl) (own8_below G2.out.1 (Below.refl w2.heap.size w2)) ⟨W0.heap.size + 1, 0, none⟩ 1 1 [.int .u8 93] (by rfl) (by rfl) (lit_news LIT2.out) (by simp [Value.oneCell']) (by decide) (by have := HL.out; have := hQ1.out; have := hQ2.out; unfold maxLen; omega) (by have := HL.out; have := hQ1.out; have := hQ2.out; omega) (Nat.le_trans hLB.out (Nat.le_trans G2.out.2.1.size (show w2.heap.size ≤ _ from (Below.refl w2.heap.size w2).size))) _ rfl ?_; intro g3 cap3 w3 hown3 hgrow3 hat3 hlt3
         have G3 := ap_first (q := q2 ++ [93]) (c := 93) rfl G2.out.1 (Below.refl w2.heap.size w2) (Nat.le_trans hLB.out G2.out.2.1.size) hown3 hgrow3
         have F3 := Lib.hid (F2.out.keep G3.2.2)
         have HF := Lib.hid (show WrK B lb.length b (q2 ++ [93]) w (.returned (.slice (some ⟨g3, 0, none⟩) (q2.length + 1) cap3)) w3 from ⟨_, rfl, G3.1, hB0.out.trans (G2.out.2.1.trans G3.2.1), (hK0.out.same G2.out.2.2).onto G3.2.2 G2.out.1 (fun h => by have := hQ1.out; have := hQ2.out; omega)⟩)
         clear hown3 hgrow3 hat3 hlt3 G3)
      | (refine step_append_lies _ (by rfl) _ _ _ (by rfl) B 5 i0 _ 1 1 Tryz.underlying81 hi hz0 hz1 hz2 rfl (by decide) v2 q2.length (U.cellsOf q2) (by rfl) (own8_below G2.out.1 (Below.refl w2.heap.size w2)) ⟨W0.heap.size, 0, none⟩ 1 1 [.int .u8 93] (by rfl) (by rfl) (lit_news LIT2.out) (by simp [Value.oneCell']) (by decide) (by have := HL.out; have := hQ1.out; have := hQ2.out; unfold maxLen; omega) (by have := HL.out; have := hQ1.out; have := hQ2.out; omega) (Nat.le_trans hLB.out (Nat.le_trans G2.out.2.1.size (show w2.heap.size ≤ _ from (Below.refl w2.heap.size w2).size))) _ rfl ?_; intro g3 cap3 w3 hown3 hgrow3 hat3 hlt3
         have G3 := ap_first (q := q2 ++ [93]) (c := 93) rfl G2.out.1 (Below.refl w2.heap.size w2) (Nat.le_trans hLB.out G2.out.2.1.size) hown3 hgrow3
         have F3 := Lib.hid (F2.out.keep G3.2.2)
         have HF := Lib.hid (show WrK B lb.length b (q2 ++ [93]) w (.returned (.slice (some ⟨g3, 0, none⟩) (q2.length + 1) cap3)) w3 from ⟨_, rfl, G3.1, hB0.out.trans (G2.out.2.1.trans G3.2.1), (hK0.out.same G2.out.2.2).onto G3.2.2 G2.out.1 (fun h => by have := hQ1.out; have := hQ2.out; omega)⟩)
         clear hown3 hgrow3 hat3 hlt3 G3))
  all_goals
    go_wp2_with fail
    go_ret
    exact HF.out

set_option maxHeartbeats 8000000 in
set_option maxRecDepth 100000 in
theorem appendObject_any (N : Nat) (ih : WrOk N) (x : ByteArray) (va ua : Value) (l f : V.T) (A : Nat → Prop) (B : Nat) (b : Value) (lb : List UInt8) (w : World) (hs : f.size ≤ N) (hk : Kd f) (hlen : lb.length + 10 + wgt f ≤ 100000000000)
    (hl : HS w A 0 va l) (hf : HS w A 1 ua f) (hA : ∀ c, A c → c < B) (hown : w.ownsRow B 5 1 b lb.length (U.cellsOf lb)) (hBw : B ≤ w.heap.size) :
    Calls Tryz.prog 146 #[b, .agg #[.int .u8 6, .string x, va, ua]] w (WrK B lb.length b (aT f 1 true (lb ++ [123]) ++ [125]) w) := by
  obtain ⟨i0, hi, hz0, hz1, hz2⟩ := info_parts infoByte
  obtain ⟨p1, c1, rfl, -⟩ := hl.len
  obtain ⟨p2, c2, rfl, -⟩ := hf.len
  obtain ⟨q1, hq1⟩ : ∃ q1, q1 = lb ++ [123] := ⟨_, rfl⟩
  rw [← hq1]
  obtain ⟨q2, hq2⟩ : ∃ q2, q2 = aT f 1 true q1 := ⟨_, rfl⟩
  rw [← hq2]
  have hbk : Blk4 (w.alloc (.cells #[.int .u8 6, .string x, .slice p1 l.len c1, .slice p2 f.len c2] 25)) w.heap.size 25 (.int .u8 6) (.string x) (.slice p1 l.len c1) (.slice p2 f.len c2) := heap_alloc_new _ _
  have hB0 := Lib.hid ((Below.refl B w).alloc hBw (.cells #[.int .u8 6, .string x, .slice p1 l.len c1, .slice p2 f.len c2] 25))
  have hK0 := Lib.hid (keepX_below lb.length b ((Below.refl w.heap.size w).alloc (Nat.le_refl _) (.cells #[.int .u8 6, .string x, .slice p1 l.len c1, .slice p2 f.len c2] 25)))
  have ho0 := Lib.hid (hown.alloc (.cells #[.int .u8 6, .string x, .slice p1 l.len c1, .slice p2 f.len c2] 25))
  have hz := Lib.hid (show w.heap.size + 1 = (w.alloc (.cells #[.int .u8 6, .string x, .slice p1 l.len c1, .slice p2 f.len c2] 25)).heap.size by simp)
  obtain ⟨z0, z1, z2, z3⟩ := hbk.box
  have F0 := Lib.hid hbk
  have hQ1 := Lib.hid (show q1.length = lb.length + 1 by rw [hq1, snoc_len])
  have hQ2 := Lib.hid (show q1.length ≤ q2.length ∧ q2.length ≤ q1.length + wgt f by rw [hq2]; exact ⟨aT_ge _ _ _ _, aT_len _ _ _ _⟩)
  have HI := fun (W : World) (v : Value) (ho : W.ownsRow B 5 1 v q1.length (U.cellsOf q1)) (hB : Below B w W) => itemsF_any N ih (.slice p2 f.len c2) f A B v q1 W hs hk (by have := hQ1.out; omega) (hf.lowB hA hB) hA ho (Nat.le_trans hBw hB.size) (by have := hQ1.out; omega)
  rw [← hq2] at HI
  have HIT := Lib.hid HI
  have HQE := Lib.hid hq1
  have HL := Lib.hid hlen
  clear hbk hown hs hk hlen hl hf hA hq1 hq2 HI
  have hLB := Lib.hid (show B ≤ (w.alloc (.cells #[.int .u8 6, .string x, .slice p1 l.len c1, .slice p2 f.len c2] 25)).heap.size by have := hz.out; omega)
  go_enter Tryz.func146, Tryz.ntmps146
  go_wp2_with fail
  generalize w.alloc (.cells #[.int .u8 6, .string x, .slice p1 l.len c1, .slice p2 f.len c2] 25) = W0 at *
  go_region_held3 (fun w' => w'.cell? ⟨w.heap.size, 0, none⟩ = some (.int .u8 6) ∧ w'.cell? ⟨w.heap.size, 1, none⟩ = some (.string x) ∧ w'.cell? ⟨w.heap.size, 2, none⟩ = some (.slice p1 l.len c1) ∧ w'.cell? ⟨w.heap.size, 3, none⟩ = some (.slice p2 f.len c2))
    (first | with_reducible exact F3.out.cells | with_reducible exact F2.out.cells | with_reducible exact (F2.out.more _).cells | with_reducible exact F1.out.cells | with_reducible exact (F1.out.more _).cells | with_reducible exact F0.out.draw.cells | with_reducible exact (F0.out.more _).draw.cells | with_reducible exact ((F0.out.more _).more _).draw.cells)
    (first
      | (go_at_call 173; (with_reducible refine (HIT.out _ _ (by first | with_reducible exact G1.out.1 | with_reducible exact G1.out.1.alloc _) (hB0.out.trans (by first | with_reducible exact G1.out.2.1 | with_reducible exact G1.out.2.1.alloc (Nat.le_trans hLB.out G1.out.2.1.size) _))).mono ?_); rintro e w2 ⟨v2, rfl, hown2, hB2, hK2⟩
         have F2 := Lib.hid ((by first | with_reducible exact F1.out | with_reducible exact (F1.out.more _) : Blk4 _ w.heap.size 25 (.int .u8 6) (.string x) (.slice p1 l.len c1) (.slice p2 f.len c2)).keep hK2)
         have G2 := Lib.hid (And.intro hown2 (it_next G1.out (by first | with_reducible exact Below.refl _ _ | with_reducible exact (Below.refl _ _).alloc (Nat.le_refl _) _) (Nat.le_trans hLB.out G1.out.2.1.size) hB2 hK2 (fun h => by have := hQ1.out; omega)))
         first
           | (have LIT2 := Lib.hid ((hK2 _ _ _ _ LIT1.out.1 (.inr ⟨by have := hQ1.out; omega, rfl, LIT1.out.2⟩)).trans LIT1.out.1))
           | (have LIT2 := Lib.hid ((hK2 _ _ _ _ (heap_alloc_new w1 (.cells #[.int .u8 125] 5)) (.inr ⟨by have := hQ1.out; omega, rfl, own_ne G1.out.1 (Nat.le_refl _)⟩)).trans (heap_alloc_new w1 (.cells #[.int .u8 125] 5))))
           | skip
         clear hB2 hK2 hown2)
      | (refine step_append_lies _ (by rfl) _ _ _ (by rfl) B 5 i0 _ 1 1 Tryz.underlying81 hi hz0 hz1 hz2 rfl (by decide) b lb.length (U.cellsOf lb) (by rfl) (own8_below ho0.out ((Below.refl W0.heap.size W0).alloc (Nat.le_refl _) (.cells #[.int .u8 123] 5)).drew) ⟨W0.heap.size, 0, none⟩ 1 1 [.int .u8 123] (by rfl) (by rfl) (lit_news (heap_alloc_new W0 (.cells #[.int .u8 123] 5))) (by simp [Value.oneCell']) (by decide) (by have := HL.out; unfold maxLen; omega) (by have := HL.out; omega) (Nat.le_trans hLB.out (show W0.heap.size ≤ _ from (((Below.refl W0.heap.size W0).alloc (Nat.le_refl _) (.cells #[.int .u8 123] 5)).drew).size)) _ rfl ?_; intro g1 cap1 w1 hown1 hgrow1 hat1 hlt1
         have G1 := Lib.hid (ap_first (c := 123) HQE.out ho0.out (((Below.refl W0.heap.size W0).alloc (Nat.le_refl _) (.cells #[.int .u8 123] 5)).drew) hLB.out hown1 hgrow1)
         have F1 := Lib.hid (F0.out.keep (ap_first (c := 123) HQE.out ho0.out (((Below.refl W0.heap.size W0).alloc (Nat.le_refl _) (.cells #[.int .u8 123] 5)).drew) hLB.out hown1 hgrow1).2.2)
         clear hown1 hgrow1 hat1 hlt1)
      | (refine step_append_lies _ (by rfl) _ _ _ (by rfl) B 5 i0 _ 1 1 Tryz.underlying81 hi hz0 hz1 hz2 rfl (by decide) b lb.length (U.cellsOf lb) (by rfl) (own8_below ho0.out (((Below.refl W0.heap.size W0).alloc (Nat.le_refl _) (.cells #[.int .u8 123] 5)).alloc (by simp) (.cells #[.int .u8 125] 5)).drew) ⟨W0.heap.size, 0, none⟩ 1 1 [.int .u8 123] (by rfl) (by rfl) (lit_news ((two_new W0 (.cells #[.int .u8 123] 5) (.cells #[.int .u8 125] 5)).1)) (by simp [Value.oneCell']) (by decide) (by have := HL.out; unfold maxLen; omega) (by have := HL.out; omega) (Nat.le_trans hLB.out (show W0.heap.size ≤ _ from ((((Below.refl W0.heap.size W0).alloc (Nat.le_refl _) (.cells #[.int .u8 123] 5)).alloc (by simp) (.cells #[.int .u8 125] 5)).drew).size)) _ rfl ?_; intro g1 cap1 w1 hown1 hgrow1 hat1 hlt1
         have G1 := Lib.hid (ap_first (c := 123) HQE.out ho0.out ((((Below.refl W0.heap.size W0).alloc (Nat.le_refl _) (.cells #[.int .u8 123] 5)).alloc (by simp) (.cells #[.int .u8 125] 5)).drew) hLB.out hown1 hgrow1)
         have F1 := Lib.hid (F0.out.keep (ap_first (c := 123) HQE.out ho0.out ((((Below.refl W0.heap.size W0).alloc (Nat.le_refl _) (.cells #[.int .u8 123] 5)).alloc (by simp) (.cells #[.int .u8 125] 5)).drew) hLB.out hown1 hgrow1).2.2)
         have LIT1 := Lib.hid (ap_lit (n := lb.length + 1) (cap := cap1) ho0.out hgrow1 (Nat.le_succ W0.heap.size) ((two_new W0 (.cells #[.int .u8 123] 5) (.cells #[.int .u8 125] 5)).2) hat1)
         clear hown1 hgrow1 hat1 hlt1)
      | (refine step_append_lies _ (by rfl) _ _ _ (by rfl) B 5 i0 _ 1 1 Tryz.underlying81 hi hz0 hz1 hz2 rfl (by decide) b lb.length (U.cellsOf lb) (by rfl) (own8_below ho0.out (((Below.refl W0.heap.size W0).alloc (Nat.le_refl _) (.cells #[.int .u8 125] 5)).alloc (by simp) (.cells #[.int .u8 123] 5)).drew) ⟨W0.heap.size + 1, 0, none⟩ 1 1 [.int .u8 123] (by rfl) (by rfl) (lit_news ((two_new W0 (.cells #[.int .u8 125] 5) (.cells #[.int .u8 123] 5)).2)) (by simp [Value.oneCell']) (by decide) (by have := HL.out; unfold maxLen; omega) (by have := HL.out; omega) (Nat.le_trans hLB.out (show W0.heap.size ≤ _ from ((((Below.refl W0.heap.size W0).alloc (Nat.le_refl _) (.cells #[.int .u8 125] 5)).alloc (by simp) (.cells #[.int .u8 123] 5)).drew).size)) _ rfl ?_; intro g1 cap1 w1 hown1 hgrow1 hat1 hlt1
         have G1 := Lib.hid (ap_first (c := 123) HQE.out ho0.out ((((Below.refl W0.heap.size W0).alloc (Nat.le_refl _) (.cells #[.int .u8 125] 5)).alloc (by simp) (.cells #[.int .u8 123] 5)).drew) hLB.out hown1 hgrow1)
         have F1 := Lib.hid (F0.out.keep (ap_first (c := 123) HQE.out ho0.out ((((Below.refl W0.heap.size W0).alloc (Nat.le_refl _) (.cells #[.int .u8 125] 5)).alloc (by simp) (.cells #[.int .u8 123] 5)).drew) hLB.out hown1 hgrow1).2.2)
         have LIT1 := Lib.hid (ap_lit (n := lb.length + 1) (cap := cap1) ho0.out hgrow1 (Nat.le_refl W0.heap.size) ((two_new W0 (.cells #[.int .u8 125] 5) (.cells #[.int .u8 123] 5)).1) hat1)
         clear hown1 hgrow1 hat1 hlt1)
      | (refine step_append_lies _ (by rfl) _ _ _ (by rfl) B 5 i0 _ 1 1 Tryz.underlying81 hi hz0 hz1 hz2 rfl (by decide) v2 q2.length (U.cellsOf q2) (by rfl) (own8_below G2.out.1 ((Below.refl w2.heap.size w2).alloc (Nat.le_refl _) (.cells #[.int .u8 125] 5))) ⟨w2.heap.size, 0, none⟩ 1 1 [.int .u8 125] (by rfl) (by rfl) (lit_news (heap_alloc_new w2 (.cells #[.int .u8 125] 5))) (by simp [Value.oneCell']) (by decide) (by have := HL.out; have := hQ1.out; have := hQ2.out; unfold maxLen; omega) (by have := HL.out; have := hQ1.out; have := hQ2.out; omega) (Nat.le_trans hLB.out (Nat.le_trans G2.out.2.1.size (show w2.heap.size ≤ _ from ((Below.refl w2.heap.size w2).alloc (Nat.le_refl _) (.cells #[.int .u8 125] 5)).size))) _ rfl ?_; intro g3 cap3 w3 hown3 hgrow3 hat3 hlt3
         have G3 := ap_first (q := q2 ++ [125]) (c := 125) rfl G2.out.1 ((Below.refl w2.heap.size w2).alloc (Nat.le_refl _) (.cells #[.int .u8 125] 5)) (Nat.le_trans hLB.out G2.out.2.1.size) hown3 hgrow3
         have F3 := Lib.hid (F2.out.keep G3.2.2)
         have HF := Lib.hid (show WrK B lb.length b (q2 ++ [125]) w (.returned (.slice (some ⟨g3, 0, none⟩) (q2.length + 1) cap3)) w3 from ⟨_, rfl, G3.1, hB0.out.trans (G2.out.2.1.trans G3.2.1), (hK0.out.same G2.out.2.2).onto G3.2.2 G2.out.1 (fun h => by have := hQ1.out; have := hQ2.out; omega)⟩)
         clear hown3 hgrow3 hat3 hlt3 G3)
      | (refine step_append_lies _ (by rfl) _ _ _ (by rfl) B 5 i0 _ 1 1 Tryz.underlying81 hi hz0 hz1 hz2 rfl (by decide) v2 q2.length (U.cellsOf q2) (by rfl) (own8_below G2.out.1 (Below.refl w2.heap.size w2)) ⟨w1.heap.size, 0, none⟩ 1 1 [.int .u8 125] (by rfl) (by rfl) (lit_news LIT2.out) (by simp [Value.oneCell']) (by decide) (by have := HL.out; have := hQ1.out; have := hQ2.out; unfold maxLen; omega) (by have := HL.out; have := hQ1.out; have := hQ2.out; omega) (Nat.le_trans hLB.out (Nat.le_trans G2.out.2.1.size (show w2.heap.size ≤ _ from (Below.refl w2.heap.size w2).size))) _ rfl ?_; intro g3 cap3 w3 hown3 hgrow3 hat3 hlt3
         have G3 := ap_first (q := q2 ++ [125]) (c := 125) rfl G2.out.1 (Below.refl w2.heap.size w2) (Nat.le_trans hLB.out G2.out.2.1.size) hown3 hgrow3
         have F3 := Lib.hid (F2.out.keep G3.2.2)
         have HF := Lib.hid (show WrK B lb.length b (q2 ++ [125]) w (.returned (.slice (some ⟨g3, 0, none⟩) (q2.length + 1) cap3)) w3 from ⟨_, rfl, G3.1, hB0.out.trans (G2.out.2.1.trans G3.2.1), (hK0.out.same G2.out.2.2).onto G3.2.2 G2.out.1 (fun h => by have := hQ1.out; have := hQ2.out; omega)⟩)
         clear hown3 hgrow3 hat3 hlt3 G3)
      | (refine step_append_lies _ (by rfl) _ _ _ (by rfl) B 5 i0 _ 1 1 Tryz.underlying81 hi hz0 hz1 hz2 rfl (by decide) v2 q2.length (U.cellsOf q2) (by rfl) (own8_below G2.out.1 (Below.refl w2.heap.size w2)) ⟨W0.heap.size + 1, 0, none⟩ 1 1 [.int .u8 125] (by rfl) (by rfl) (lit_news LIT2.out) (by simp [Value.oneCell']) (by decide) (by have := HL.out; have := hQ1.out; have := hQ2.out; unfold maxLen; omega) (by have := HL.out; have := hQ1.out; have := hQ2.out; omega) (Nat.le_trans hLB.out (Nat.le_trans G2.out.2.1.size (show w2.heap.size ≤ _ from (Below.refl w2.heap.size w2).size))) _ rfl ?_; intro g3 cap3 w3 hown3 hgrow3 hat3 hlt3
         have G3 := ap_first (q := q2 ++ [125]) (c := 125) rfl G2.out.1 (Below.refl w2.heap.size w2) (Nat.le_trans hLB.out G2.out.2.1.size) hown3 hgrow3
         have F3 := Lib.hid (F2.out.keep G3.2.2)
         have HF := Lib.hid (show WrK B lb.length b (q2 ++ [125]) w (.returned (.slice (some ⟨g3, 0, none⟩) (q2.length + 1) cap3)) w3 from ⟨_, rfl, G3.1, hB0.out.trans (G2.out.2.1.trans G3.2.1), (hK0.out.same G2.out.2.2).onto G3.2.2 G2.out.1 (fun h => by have := hQ1.out; have := hQ2.out; omega)⟩)
         clear hown3 hgrow3 hat3 hlt3 G3)
      | (refine step_append_lies _ (by rfl) _ _ _ (by rfl) B 5 i0 _ 1 1 Tryz.underlying81 hi hz0 hz1 hz2 rfl (by decide) v2 q2.length (U.cellsOf q2) (by rfl) (own8_below G2.out.1 (Below.refl w2.heap.size w2)) ⟨W0.heap.size, 0, none⟩ 1 1 [.int .u8 125] (by rfl) (by rfl) (lit_news LIT2.out) (by simp [Value.oneCell']) (by decide) (by have := HL.out; have := hQ1.out; have := hQ2.out; unfold maxLen; omega) (by have := HL.out; have := hQ1.out; have := hQ2.out; omega) (Nat.le_trans hLB.out (Nat.le_trans G2.out.2.1.size (show w2.heap.size ≤ _ from (Below.refl w2.heap.size w2).size))) _ rfl ?_; intro g3 cap3 w3 hown3 hgrow3 hat3 hlt3
         have G3 := ap_first (q := q2 ++ [125]) (c := 125) rfl G2.out.1 (Below.refl w2.heap.size w2) (Nat.le_trans hLB.out G2.out.2.1.size) hown3 hgrow3
         have F3 := Lib.hid (F2.out.keep G3.2.2)
         have HF := Lib.hid (show WrK B lb.length b (q2 ++ [125]) w (.returned (.slice (some ⟨g3, 0, none⟩) (q2.length + 1) cap3)) w3 from ⟨_, rfl, G3.1, hB0.out.trans (G2.out.2.1.trans G3.2.1), (hK0.out.same G2.out.2.2).onto G3.2.2 G2.out.1 (fun h => by have := hQ1.out; have := hQ2.out; omega)⟩)
         clear hown3 hgrow3 hat3 hlt3 G3))
  all_goals
    go_wp2_with fail
    go_ret
    exact HF.out
end Go.Proofs.YtoolkaahjmnjeaaGreatDoor
