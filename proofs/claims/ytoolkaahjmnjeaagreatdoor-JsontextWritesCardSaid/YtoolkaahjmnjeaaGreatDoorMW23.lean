/- The program's writer: a field. Conditions: what is written is at most 10^11 bytes. -/
import Derived.Test.YtoolkaahjmnjeaaGreatDoorMW22
namespace Go.Proofs.YtoolkaahjmnjeaaGreatDoor
open Go Go.RowKit Go.Shelf Go.Lib

/-- a field's box -/
def Bx5 (W : World) (g : Nat) (nm : ByteArray) (k : Nat) (x : ByteArray) (v u : Value) : Prop := W.heap[g]? = some (.cells #[.string nm, .int .u8 k, .string x, v, u] 80 (0, 0))
theorem Bx5.cells {W : World} {g : Nat} {nm : ByteArray} {k : Nat} {x : ByteArray} {v u : Value} (h : Bx5 W g nm k x v u) : W.cell? ⟨g, 0, none⟩ = some (.string nm) ∧ W.cell? ⟨g, 1, none⟩ = some (.int .u8 k) ∧ W.cell? ⟨g, 2, none⟩ = some (.string x) ∧ W.cell? ⟨g, 3, none⟩ = some v ∧ W.cell? ⟨g, 4, none⟩ = some u :=
  ⟨(cell_of_row W g 0 _ _ (0, 0) h).trans rfl, (cell_of_row W g 1 _ _ (0, 0) h).trans rfl, (cell_of_row W g 2 _ _ (0, 0) h).trans rfl, (cell_of_row W g 3 _ _ (0, 0) h).trans rfl, (cell_of_row W g 4 _ _ (0, 0) h).trans rfl⟩
theorem Bx5.lt {W : World} {g : Nat} {nm : ByteArray} {k : Nat} {x : ByteArray} {v u : Value} (h : Bx5 W g nm k x v u) : g < W.heap.size := (Array.getElem?_eq_some_iff.1 h).1
theorem Bx5.alloc {W : World} {g : Nat} {nm : ByteArray} {k : Nat} {x : ByteArray} {v u : Value} (h : Bx5 W g nm k x v u) (o : Obj) : Bx5 (W.alloc o) g nm k x v u := (Below.heap_alloc W o g h.lt).trans h
theorem Bx5.drew {W : World} {g : Nat} {nm : ByteArray} {k : Nat} {x : ByteArray} {v u : Value} (h : Bx5 W g nm k x v u) : Bx5 W.drew g nm k x v u := h
theorem Bx5.keep {W W' : World} {g n : Nat} {nm : ByteArray} {k : Nat} {x : ByteArray} {v u b : Value} (h : Bx5 W g nm k x v u) (hk : KeepX n b W W') : Bx5 W' g nm k x v u := (hk _ _ _ _ h (.inl (by decide))).trans h
/-- one byte alone, where it lies -/
theorem lit_news {W : World} {g : Nat} {c : Int} (h : W.heap[g]? = some (.cells #[.int .u8 c] 5 (0, 0))) : ∀ (j : Nat) (u : Value), [Value.int .u8 c][j]? = some u → W.cell? ((⟨g, 0, none⟩ : Addr).add j) = some u :=
  World.news_of_block (cs := #[.int .u8 c]) (t := 5) (fr := (0, 0)) h
theorem snoc_len (a : List UInt8) (c : UInt8) : (a ++ [c]).length = a.length + 1 := by simp
theorem own_ne {W : World} {B n k : Nat} {v : Value} {xs : List Value} (h : W.ownsRow B 5 1 v n xs) (hk : W.heap.size ≤ k) : v.ownBlock ≠ some k := fun e => by
  have := (h.lt k e).2
  omega

set_option maxHeartbeats 4000000 in
set_option maxRecDepth 100000 in
theorem appendField_any (N : Nat) (ih : WrOk N) (nm : ByteArray) (k : Nat) (x : ByteArray) (va ua : Value) (l f : V.T) (A : Nat → Prop) (B : Nat) (b : Value) (lb : List UInt8) (w : World) (hs : l.size + f.size < N) (hk : k ≤ 6) (hk3 : k = 3 → 0 < x.size) (hkl : Kd l) (hkf : Kd f)
    (hlen : lb.length + 6 * nm.size + 6 * x.size + 18 + wgt l + wgt f ≤ 100000000000)
    (hl : HS w A 0 va l) (hf : HS w A 1 ua f) (hA : ∀ c, A c → c < B) (hown : w.ownsRow B 5 1 b lb.length (U.cellsOf lb)) (hBw : B ≤ w.heap.size) (h1 : 1 ≤ lb.length) :
    Calls Tryz.prog 174 #[b, .agg #[.string nm, .int .u8 k, .string x, va, ua]] w (WrK B lb.length b (aV k x l f (lb ++ qL nm ++ [58])) w) := by
  obtain ⟨i0, hi, hz0, hz1, hz2⟩ := info_parts infoByte
  obtain ⟨p1, c1, rfl, -⟩ := hl.len
  obtain ⟨p2, c2, rfl, -⟩ := hf.len
  have hbk : Bx5 (w.alloc (.cells #[.string nm, .int .u8 k, .string x, .slice p1 l.len c1, .slice p2 f.len c2] 80)) w.heap.size nm k x (.slice p1 l.len c1) (.slice p2 f.len c2) := heap_alloc_new _ _
  have hB0 := Lib.hid ((Below.refl B w).alloc hBw (.cells #[.string nm, .int .u8 k, .string x, .slice p1 l.len c1, .slice p2 f.len c2] 80))
  have hK0 := Lib.hid (keepX_below lb.length b ((Below.refl w.heap.size w).alloc (Nat.le_refl _) (.cells #[.string nm, .int .u8 k, .string x, .slice p1 l.len c1, .slice p2 f.len c2] 80)))
  have ho0 := Lib.hid (hown.alloc (.cells #[.string nm, .int .u8 k, .string x, .slice p1 l.len c1, .slice p2 f.len c2] 80))
  have hz := Lib.hid (show w.heap.size + 1 = (w.alloc (.cells #[.string nm, .int .u8 k, .string x, .slice p1 l.len c1, .slice p2 f.len c2] 80)).heap.size by simp)
  have hne := Lib.hid (own_ne hown (Nat.le_succ w.heap.size))
  obtain ⟨q0, q1, q2, q3, q4⟩ := hbk.cells
  have F0 := Lib.hid hbk
  have HH := Lib.hid (And.intro hs (And.intro hk (And.intro hlen (And.intro hl (And.intro hf (And.intro hA (And.intro h1 hk3)))))))
  have HKD := Lib.hid (And.intro hkl hkf)
  have hql := Lib.hid (qL_len nm)
  clear hkl hkf
  clear hbk hown hs hk hlen hl hf hA h1 hk3
  obtain ⟨q, hq⟩ : ∃ q, q = lb ++ qL nm := ⟨_, rfl⟩
  rw [← hq]
  have HQ0 := fun W (hB : Below (w.alloc (.cells #[.string nm, .int .u8 k, .string x, .slice p1 l.len c1, .slice p2 f.len c2] 80)).heap.size (w.alloc (.cells #[.string nm, .int .u8 k, .string x, .slice p1 l.len c1, .slice p2 f.len c2] 80)) W) => quotedK_any B b lb nm W (by have := HH.out.2.2.1; omega) (by have := HH.out.2.2.1; omega) (own8_below ho0.out hB) (by have := hB.size; have := hz.out; omega)
  simp only [← hq] at HQ0
  have HQ := Lib.hid HQ0
  have HLN := Lib.hid (show q.length + 1 ≤ 100000000000 ∧ 2 ≤ q.length from ⟨by have := HH.out.2.2.1; have := hql.out; rw [hq, List.length_append]; omega, by have := HH.out.2.2.2.2.2.2.1; rw [hq]; unfold qL; simp only [List.length_append, List.length_singleton]; omega⟩)
  have HQL := Lib.hid (show q.length = lb.length + (qL nm).length by rw [hq, List.length_append])
  clear hq HQ0
  go_enter Tryz.func174, Tryz.ntmps174
  go_wp2_with fail
  generalize w.alloc (.cells #[.string nm, .int .u8 k, .string x, .slice p1 l.len c1, .slice p2 f.len c2] 80) = W0 at *
  have hLB := Lib.hid (show B ≤ W0.heap.size by have := hz.out; omega)
  have IH := Lib.hid (fun (W : World) (v : Value) (ho : W.ownsRow B 5 1 v (q ++ [58]).length (U.cellsOf (q ++ [58]))) (hB : Below B W0 W) => ih k x _ _ l f A B v (q ++ [58]) W HH.out.1 HH.out.2.1 HH.out.2.2.2.2.2.2.2 HKD.out.1 HKD.out.2 (by have := HH.out.2.2.1; have := hql.out; have := HQL.out; rw [snoc_len]; omega)
    (HH.out.2.2.2.1.lowB HH.out.2.2.2.2.2.1 (hB0.out.trans hB)) (HH.out.2.2.2.2.1.lowB HH.out.2.2.2.2.2.1 (hB0.out.trans hB)) HH.out.2.2.2.2.2.1 ho (Nat.le_trans hLB.out hB.size))
  go_region_held3 (fun w' => w'.cell? ⟨w.heap.size, 0, none⟩ = some (.string nm) ∧ w'.cell? ⟨w.heap.size, 1, none⟩ = some (.int .u8 k) ∧ w'.cell? ⟨w.heap.size, 2, none⟩ = some (.string x) ∧ w'.cell? ⟨w.heap.size, 3, none⟩ = some (.slice p1 l.len c1) ∧ w'.cell? ⟨w.heap.size, 4, none⟩ = some (.slice p2 f.len c2))
    (first | with_reducible exact F3.out.cells | with_reducible exact F2.out.cells | with_reducible exact F1.out.cells | with_reducible exact (F1.out.alloc _).cells | with_reducible exact F0.out.drew.cells | with_reducible exact (F0.out.alloc _).drew.cells)
    (first
      | (go_at_call 171; (with_reducible refine (HQ.out _ (by first | with_reducible exact (Below.refl _ _).drew | with_reducible exact ((Below.refl _ _).alloc (Nat.le_refl _) _).drew)).mono ?_); rintro e w1 ⟨v1, rfl, hown1, hB1, hK1⟩
         have F1 := Lib.hid ((by first | with_reducible exact F0.out.drew | with_reducible exact (F0.out.alloc _).drew : Bx5 _ w.heap.size nm k x (.slice p1 l.len c1) (.slice p2 f.len c2)).keep hK1)
         have G1 := Lib.hid (show Below B W0 w1 by first | exact (Below.refl B W0).drew.trans hB1 | exact (((Below.refl B W0).alloc hLB.out _).drew).trans hB1)
         have K1 := Lib.hid (show KeepX lb.length b W0 w1 by first | exact hK1 | exact (keepX_below _ _ ((Below.refl W0.heap.size W0).alloc (Nat.le_refl _) _).drew).same hK1)
         try (have LIT := Lib.hid ((hK1 W0.heap.size _ _ _ (heap_alloc_new W0 (.cells #[.int .u8 58] 5)) (.inr ⟨HH.out.2.2.2.2.2.2.1, rfl, by have := hne.out; have hq := hz.out; intro e; exact this (by rw [e, ← hq])⟩)).trans (heap_alloc_new W0 (.cells #[.int .u8 58] 5))))
         clear hB1 hK1)
      | (go_at_call 46; (with_reducible refine (IH.out _ _ G2.out.1 G2.out.2.1).mono ?_); rintro e w3 ⟨v3, rfl, hown3, hB3, hK3⟩
         have F3 := Lib.hid (F2.out.keep hK3)
         have HF := Lib.hid (show WrK B lb.length b (aV k x l f (q ++ [58])) w (.returned v3) w3 from ⟨v3, rfl, hown3, hB0.out.trans (G2.out.2.1.trans hB3), (hK0.out.same G2.out.2.2).onto hK3 G2.out.1 (fun _ => by have := HLN.out.2; rw [snoc_len]; omega)⟩))
      | (refine step_append_lies _ (by rfl) _ _ _ (by rfl) B 5 i0 _ 1 1 Tryz.underlying81 hi hz0 hz1 hz2 rfl (by decide) v1 (q).length (U.cellsOf (q)) (by rfl) (hown1.alloc _) ⟨w1.heap.size, 0, none⟩ 1 1 [.int .u8 58] (by rfl) (by rfl) (lit_news (heap_alloc_new w1 _)) (by simp [Value.oneCell']) (by decide) (by have := HLN.out; unfold maxLen; omega) (by have := HLN.out; omega) (by have := hLB.out; have := G1.out.size; simp; omega) (w1.heap.size + 1) (by simp) ?_; intro g2 cap2 w2 hown2 hgrow2 hat2 hlt2
         have F2 := Lib.hid ((F1.out.alloc _).keep (keepX_grows (n := 0) (hown1.alloc _) (.inl hgrow2)))
         have G2 := Lib.hid (show w2.ownsRow B 5 1 (.slice (some ⟨g2, 0, none⟩) ((q).length + 1) cap2) (q ++ [58]).length (U.cellsOf (q ++ [58])) ∧ Below B W0 w2 ∧ KeepX lb.length b W0 w2 from
           ⟨by rw [snoc_len, ← U.cellsOf_append]; exact hown2, grows_below G1.out (Nat.le_trans hLB.out G1.out.size) (.inr ⟨_, .inl hgrow2⟩) (fun k hk => (hown1.lt k hk).1), K1.out.onto (keepX_grows (n := (q).length) hown1 (.inr ⟨_, .inl hgrow2⟩)) hown1 (fun _ => HLN.out.2)⟩)
         clear hown2 hgrow2 hat2 hlt2)
      | (refine step_append_lies _ (by rfl) _ _ _ (by rfl) B 5 i0 _ 1 1 Tryz.underlying81 hi hz0 hz1 hz2 rfl (by decide) v1 (q).length (U.cellsOf (q)) (by rfl) hown1 ⟨W0.heap.size, 0, none⟩ 1 1 [.int .u8 58] (by rfl) (by rfl) (lit_news LIT.out) (by simp [Value.oneCell']) (by decide) (by have := HLN.out; unfold maxLen; omega) (by have := HLN.out; omega) (Nat.le_trans hLB.out G1.out.size) w1.heap.size (by rfl) ?_; intro g2 cap2 w2 hown2 hgrow2 hat2 hlt2
         have F2 := Lib.hid (F1.out.keep (keepX_grows (n := 0) hown1 (.inl hgrow2)))
         have G2 := Lib.hid (show w2.ownsRow B 5 1 (.slice (some ⟨g2, 0, none⟩) ((q).length + 1) cap2) (q ++ [58]).length (U.cellsOf (q ++ [58])) ∧ Below B W0 w2 ∧ KeepX lb.length b W0 w2 from
           ⟨by rw [snoc_len, ← U.cellsOf_append]; exact hown2, grows_below G1.out (Nat.le_trans hLB.out G1.out.size) (.inl hgrow2) (fun k hk => (hown1.lt k hk).1), K1.out.onto (keepX_grows (n := (q).length) hown1 (.inl hgrow2)) hown1 (fun _ => HLN.out.2)⟩)
         clear hown2 hgrow2 hat2 hlt2))
  all_goals
    go_wp2_with fail
    go_ret
    exact HF.out
end Go.Proofs.YtoolkaahjmnjeaaGreatDoor

namespace Go.Proofs.YtoolkaahjmnjeaaGreatDoor
open Go Go.RowKit Go.Shelf Go.Lib

set_option maxHeartbeats 6000000 in
set_option maxRecDepth 100000 in
theorem itemsF_any (N : Nat) (ih : WrOk N) (v : Value) (t : V.T) (A : Nat → Prop) (B : Nat) (b : Value) (lb : List UInt8) (w : World) (ht : t.size ≤ N) (hk : Kd t) (hlen : lb.length + wgt t ≤ 100000000000) (hv : HS w A 1 v t) (hA : ∀ c, A c → c < B)
    (hown : w.ownsRow B 5 1 b lb.length (U.cellsOf lb)) (hBw : B ≤ w.heap.size) (hl1 : 1 ≤ lb.length) :
    Calls Tryz.prog 173 #[b, v, .func (.func 174) #[] #[]] w (WrK B lb.length b (aT t 1 true lb) w) := by
  obtain ⟨i0, hi0, hz0, hz1, hz2⟩ := info_parts infoByte
  have ew : ∀ args w, (callFunc 174 args).run Tryz.prog w = .ok (.enter 174 args) w := enters_of Tryz.func174 (by kernel_rfl) rfl
  obtain ⟨p, c, rfl, b0, b1, b2⟩ := hv.len
  generalize hn : t.len = n at *
  have HN := Lib.hid hn
  have HA := Lib.hid (And.intro hv hA)
  have HH := Lib.hid (And.intro ht hk)
  have HL1 := Lib.hid hl1
  have H0 := Lib.hid (show WtAt t 1 b lb B 0 b lb w w from ⟨by rw [V.T.drop_zero]; rfl, by rw [V.T.drop_zero]; exact hlen, hown, Below.refl _ _, KeepX.refl _ _ _, fun _ => ⟨rfl, rfl⟩, fun h => absurd h (Nat.lt_irrefl _), fun h => h⟩)
  clear hn hv hA ht hk hown hlen hl1
  go_enter Tryz.func173, Tryz.ntmps173
  go_wp2_with fail
  go_loopw [0, 11] (fun u q wr => ∃ (i : Nat) (b' : Value) (lb' : List UInt8), b' = u ∧ q = .int .i64 i ∧ i ≤ n ∧ Hid (WtAt t 1 b lb B i b' lb' w wr)) (fun _ q _ => n - (RowKit.intOf q).toNat)
  case atStart => exact ⟨0, _, lb, rfl, rfl, Nat.zero_le _, H0⟩
  case round =>
    obtain ⟨i, b', lb', rfl, rfl, hi, HI⟩ := hrel
    by_cases hlt : i < n
    · obtain ⟨nm1, k1, x1, l1, f1, tl1, hd1⟩ := V.T.drop_some (t := t) (i := i) (by rw [HN.out]; exact hlt)
      obtain ⟨g1, o1, v1, u1, rfl, E1⟩ := (HA.out.1.lowB HA.out.2 HI.out.below).elem (by rw [HN.out]; exact hlt) hd1
      obtain ⟨p1, c5, rfl, -⟩ := E1.hl.len
      obtain ⟨p2, c6, rfl, -⟩ := E1.hf.len
      have e0 := E1.name rfl
      have e1 := E1.kind
      have e2 := E1.text
      have e3 := E1.list
      have e4 := E1.fields
      simp only [Nat.reduceAdd] at e0 e1 e2 e3 e4
      rw [show o1 + i * 5 + 1 + 1 = o1 + i * 5 + 2 by omega] at e2
      rw [show o1 + i * 5 + 1 + 2 = o1 + i * 5 + 3 by omega] at e3
      rw [show o1 + i * 5 + 1 + 3 = o1 + i * 5 + 4 by omega] at e4
      have hsz := V.T.drop_size hd1
      have hkd := HH.out.2.drop hd1
      have hcl := HI.out.len
      have hown' := HI.out.own
      rw [hd1] at hcl
      unfold wgt at hcl
      have HC := Lib.hid (And.intro hd1 hcl)
      have hbk : Bx5 (wr.alloc (.cells #[.string nm1, .int .u8 k1, .string x1, .slice p1 l1.len c5, .slice p2 f1.len c6] 80)) wr.heap.size nm1 k1 x1 (.slice p1 l1.len c5) (.slice p2 f1.len c6) := heap_alloc_new _ _
      have HBK := Lib.hid hbk
      have hBr := Nat.le_trans hBw HI.out.below.size
      have hA1 := Lib.hid ((Below.refl B wr).alloc hBr (.cells #[.string nm1, .int .u8 k1, .string x1, .slice p1 l1.len c5, .slice p2 f1.len c6] 80))
      have hA2 := Lib.hid (keepX_below lb'.length b' ((Below.refl wr.heap.size wr).alloc (Nat.le_refl _) (.cells #[.string nm1, .int .u8 k1, .string x1, .slice p1 l1.len c5, .slice p2 f1.len c6] 80)))
      have HE := Lib.hid E1
      have HS := Lib.hid (And.intro hsz hkd)
      clear hcl hd1 hbk E1 hsz hkd
      by_cases h0 : i = 0
      · have ti : decide (0 < i) = false := decide_eq_false (by omega)
        have H00 := Lib.hid h0
        clear h0
        go_wp2_with fail
        refine (appendField_any N ih nm1 k1 x1 _ _ l1 f1 A B _ lb' _ (by have := HS.out.1; have := HH.out.1; omega) HS.out.2.1.1 HS.out.2.1.2 HS.out.2.2.1 HS.out.2.2.2.1 (by have := HC.out.2; omega) (HE.out.hl.lowB HA.out.2 hA1.out) (HE.out.hf.lowB HA.out.2 hA1.out) HA.out.2 (hown'.alloc _) (by simp; omega) (HI.out.atl HL1.out)).mono ?_
        rintro e w1 ⟨v', rfl, hown1, hB1, hK1⟩
        have HN2 := Lib.hid (HI.out.step HC.out.1 HS.out.2.1.2 (l2 := lb' ++ qL nm1 ++ [58]) (by rw [H00.out, decide_eq_true rfl]; simp [ahead]) hown1 (hA1.out.trans hB1) (hA2.out.same hK1))
        clear hown1 hB1 hK1 hown'
        go_wp2_with fail
        go_roundw
        case rel => exact ⟨i + 1, v', _, rfl, by push_cast; rfl, hlt, HN2⟩
        case measure => show n - (((i : Int) + 1).toNat) < n - ((i : Int).toNat); omega
      · have ti : decide (0 < i) = true := decide_eq_true (by omega)
        have H00 := Lib.hid h0
        clear h0
        go_wp2_with (at_builtin; refine wpList_append_own _ rfl _ _ 81 rfl B 5 i0 (.int .u8 0) 1 1 Tryz.underlying81 hi0 hz0 hz1 hz2 rfl (by decide) _ lb'.length (U.cellsOf lb') rfl ((hown'.alloc _).alloc _) ⟨wr.heap.size + 1, 0, none⟩ 1 1 [.int .u8 44] rfl rfl ?c1 ?c2 ?c3 ?c4 ?c5 ?_)
        case c1 =>
          have es : (wr.alloc (.cells #[.string nm1, .int .u8 k1, .string x1, .slice p1 l1.len c5, .slice p2 f1.len c6] 80)).heap.size = wr.heap.size + 1 := by simp
          rw [← es]
          exact cells1
        case c2 => intro u hu; simp at hu; rcases hu with rfl; rfl
        case c3 => have := HC.out.2; unfold maxLen; omega
        case c4 => have := HC.out.2; omega
        case c5 => simp; omega
        intro v1 w1 hown2 hgrow2 _
        have hown2' : w1.ownsRow B 5 1 v1 (lb' ++ [44]).length (U.cellsOf (lb' ++ [44])) := by
          rw [List.length_append, ← U.cellsOf_append]
          exact hown2
        have hb2 := Lib.hid (grows_below hA1.out (by simp; omega) (.inr ⟨_, .inl hgrow2⟩) (fun k hk => (hown'.lt k hk).1))
        have hg2 := keepX_grows (n := lb'.length) (hown'.alloc (.cells #[.string nm1, .int .u8 k1, .string x1, .slice p1 l1.len c5, .slice p2 f1.len c6] 80)) (.inr ⟨_, .inl hgrow2⟩)
        have hk2 := Lib.hid (hA2.out.same hg2)
        have hbx := HBK.out.keep hg2
        obtain ⟨q0, q1, q2, q3, q4⟩ := hbx.cells
        have HBX := Lib.hid hbx
        clear hbx hg2
        clear hown2 hgrow2 hown'
        go_wp2_with fail
        refine (appendField_any N ih nm1 k1 x1 _ _ l1 f1 A B v1 (lb' ++ [44]) _ (by have := HS.out.1; have := HH.out.1; omega) HS.out.2.1.1 HS.out.2.1.2 HS.out.2.2.1 HS.out.2.2.2.1 (by have := HC.out.2; simp only [List.length_append, List.length_singleton]; omega) (HE.out.hl.lowB HA.out.2 hb2.out) (HE.out.hf.lowB HA.out.2 hb2.out) HA.out.2 hown2' (Nat.le_trans hBr hb2.out.size) (by simp)).mono ?_
        rintro e w2 ⟨v', rfl, hown1, hB1, hK1⟩
        have HN2 := Lib.hid (HI.out.step HC.out.1 HS.out.2.1.2 (l2 := lb' ++ [44] ++ qL nm1 ++ [58]) (by rw [decide_eq_false H00.out]; simp [ahead]) hown1 (hb2.out.trans hB1) (hk2.out.onto hK1 hown2' (fun h => by simp; omega)))
        clear hown1 hB1 hK1 hown2'
        go_wp2_with fail
        go_roundw
        case rel => exact ⟨i + 1, v', _, rfl, by push_cast; rfl, hlt, HN2⟩
        case measure => show n - (((i : Int) + 1).toNat) < n - ((i : Int).toNat); omega
    · obtain rfl : i = n := by omega
      have hfin : lb' = aT t 1 true lb := by
        have := HI.out.eq
        rw [← HN.out, V.T.drop_len] at this
        exact this
      have HF := Lib.hid (show WrK B lb.length b (aT t 1 true lb) w (.returned b') wr from ⟨b', rfl, by rw [← hfin]; exact HI.out.own, HI.out.below, HI.out.keep⟩)
      clear hfin
      go_wp2_with fail
      go_ret
      exact HF.out
end Go.Proofs.YtoolkaahjmnjeaaGreatDoor
