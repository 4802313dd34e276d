/- The program's Get: the first field of that name, in memory of its own, and that it is there; else nothing. Conditions: strings of at most 2^47 bytes, rows of at most 2 * 10^12 elements. -/
import Derived.Test.YtepjomdjkoaofaaDoorMM12
namespace Go.Proofs.YtepjomdjkoaofaaDoor
open Go Go.RowKit Go.Lib

/-- what Get hands back, in memory of its own, such as may be written -/
def GotF (o : Option (Nat × ByteArray × V.T × V.T)) (w : World) (en : Ending) (w' : World) : Prop :=
  ∃ v u, en = .returned (.tuple #[.agg #[.int .u8 (V.res o).1, .string (V.res o).2.1, v, u], .bool (V.res o).2.2.2.2]) ∧ HS w' (Fre w.heap.size w') 0 v (V.res o).2.2.1 ∧ HS w' (Fre w.heap.size w') 1 u (V.res o).2.2.2.1 ∧ SlFree w.heap.size w' v ∧ SlFree w.heap.size w' u ∧ Below w.heap.size w w'
theorem gotF_none (w w' : World) (hB : Below w.heap.size w w') : GotF none w (.returned (.tuple #[.agg #[.int .u8 0, .string ⟨#[]⟩, .slice none 0 0, .slice none 0 0], .bool false])) w' :=
  ⟨_, _, rfl, HS.nil _ _ _, HS.nil _ _ _, SlFree.nil _ _, SlFree.nil _ _, hB⟩

set_option maxRecDepth 100000 in
set_option maxHeartbeats 1000000 in
theorem get_any (ka : Nat) (xa nm : ByteArray) (va ua : Value) (la fa : V.T) (A : Nat → Prop) (w : World) (hva : HS w A 0 va la) (hua : HS w A 1 ua fa) :
    Calls Tryd.prog 71 #[.agg #[.int .u8 ka, .string xa, va, ua], .string nm] w (GotF (V.got ka fa nm) w) := by
  obtain ⟨pa, ca, rfl, ba0, ba1, ba2⟩ := hva.len
  obtain ⟨qa, da, rfl, ba5, ba3, ba4⟩ := hua.len
  generalize fa1 : fa.len = ma at *
  have HF := Lib.hid fa1
  have HA := Lib.hid hua
  clear fa1 hva hua
  have hx := two_new w (.cells #[.int .u8 ka, .string xa, .slice pa la.len ca, .slice qa ma da] 25) (.cells #[.int .u8 0, .string ⟨#[]⟩, .slice none 0 0, .slice none 0 0] 25)
  have hw := two_below w (.cells #[.int .u8 ka, .string xa, .slice pa la.len ca, .slice qa ma da] 25) (.cells #[.int .u8 0, .string ⟨#[]⟩, .slice none 0 0, .slice none 0 0] 25)
  have hz := two_size w (.cells #[.int .u8 ka, .string xa, .slice pa la.len ca, .slice qa ma da] 25) (.cells #[.int .u8 0, .string ⟨#[]⟩, .slice none 0 0, .slice none 0 0] 25)
  by_cases hk : ka = 6
  · subst hk
    have HG0 : Hid (V.got 6 fa nm = fa.find nm) := Lib.hid (by rw [V.got, if_pos rfl])
    go_enter Tryd.func71, Tryd.ntmps71
    go_wp2_with fail
    generalize (w.alloc (.cells #[.int .u8 ((6 : Nat) : Int), .string xa, .slice pa la.len ca, .slice qa ma da] 25)).alloc (.cells #[.int .u8 0, .string ⟨#[]⟩, .slice none 0 0, .slice none 0 0] 25) = W0 at *
    have b1 : Blk4 W0 w.heap.size 25 _ _ _ _ := hx.1
    have b2 : Blk4 W0 (w.heap.size + 1) 25 _ _ _ _ := hx.2
    have HS0 := Lib.hid (And.intro b2 hw)
    clear hx b1 b2 hw hz
    go_loopw [15] (fun p wr => ∃ i : Nat, p = .int .i64 i ∧ i ≤ ma ∧ Hid (Blk4 wr (w.heap.size + 1) 25 (.int .u8 0) (.string ⟨#[]⟩) (.slice none 0 0) (.slice none 0 0) ∧ Below w.heap.size w wr) ∧ Hid ((fa.drop i).find nm = fa.find nm)) (fun p _ => ma - (RowKit.intOf p).toNat)
    case atStart => exact ⟨0, rfl, Nat.zero_le _, HS0, Lib.hid (by rw [V.T.drop_zero])⟩
    case round =>
      obtain ⟨i, rfl, hi, HQ, HR⟩ := hrel
      by_cases hlt : i < ma
      · obtain ⟨nm1, k1, x1, l1, f1, tl1, hd1⟩ := V.T.drop_some (t := fa) (i := i) (by rw [HF.out]; exact hlt)
        obtain ⟨b1, o1, v1, u1, rfl, E1⟩ := (HA.out.below HQ.out.2).elem (by rw [HF.out]; exact hlt) hd1
        obtain ⟨p1, c5, rfl, -⟩ := E1.hl.len
        obtain ⟨p2, c6, rfl, -⟩ := E1.hf.len
        have e0 := E1.name rfl
        have e1 := E1.kind
        have e2 := E1.text
        have e3 := E1.list
        have e4 := E1.fields
        simp only [Nat.reduceAdd] at e0 e1 e2 e3 e4
        have n2 : o1 + i * 5 + 1 + 1 = o1 + i * 5 + 2 := by omega
        have n3 : o1 + i * 5 + 1 + 2 = o1 + i * 5 + 3 := by omega
        have n4 : o1 + i * 5 + 1 + 3 = o1 + i * 5 + 4 := by omega
        rw [n2] at e2
        rw [n3] at e3
        rw [n4] at e4
        clear n2 n3 n4
        have HL := Lib.hid hlt
        have D1 := Lib.hid hd1
        clear hd1
        by_cases hnm : nm1 = nm
        · have t5 : (nm1.toList == nm.toList) = true := by rw [hnm]; simp
          have HG : Hid (V.got 6 fa nm = some (k1, x1, l1, f1)) := Lib.hid (by rw [HG0.out, ← HR.out, ← hnm]; exact V.T.find_here D1.out)
          have hc := fun W (hB : Below wr.heap.size wr W) => clone_any (l1.size + f1.size + 1) k1 x1 _ _ l1 f1 A W (Nat.lt_succ_self _) E1.small.text (E1.hl.below hB) (E1.hf.below hB)
          have HB := Lib.hid ((Below.refl wr.heap.size wr).alloc (Nat.le_refl _) (.cells #[.string nm1, .int .u8 k1, .string x1, .slice p1 l1.len c5, .slice p2 f1.len c6] 50))
          clear hnm HR
          go_wp2_with fail
          refine (hc _ HB.out).mono ?_
          rintro e w1 ⟨v2, u2, rfl, hl1, hf1, hs1, hs2, hB1⟩
          obtain ⟨p3, c7, rfl, -⟩ := hl1.len
          obtain ⟨p4, c8, rfl, -⟩ := hf1.len
          have b2 := HQ.out.1.same ((hB1.block _ (Nat.lt_of_lt_of_le HQ.out.1.lt HB.out.size)).trans (HB.out.block _ HQ.out.1.lt))
          obtain ⟨d0, d1, d2, d3⟩ := b2.box
          have y0 := b2.free 0
          have y1 := b2.free 1
          have y2 := b2.free 2
          have y3 := b2.free 3
          have H1 := Lib.hid (And.intro b2 (And.intro hl1 (And.intro hf1 hB1)))
          have H2 := Lib.hid (And.intro hs1 hs2)
          clear b2 hl1 hf1 hB1 hc hs1 hs2
          go_wp2_with fail
          obtain ⟨g1, g2, g3⟩ := H1.out.1.all (.int .u8 k1) (.string x1) (.slice p3 l1.len c7) (.slice p4 f1.len c8)
          have g4 := set4_else w1 (w.heap.size + 1) (.int .u8 k1) (.string x1) (.slice p3 l1.len c7) (.slice p4 f1.len c8)
          generalize (((w1.setCell ⟨w.heap.size + 1, 0, none⟩ (.int .u8 k1)).setCell ⟨w.heap.size + 1, 1, none⟩ (.string x1)).setCell ⟨w.heap.size + 1, 2, none⟩ (.slice p3 l1.len c7)).setCell ⟨w.heap.size + 1, 3, none⟩ (.slice p4 f1.len c8) = W' at *
          obtain ⟨x0, x1, x2, x3⟩ := g1.box
          have hle := HB.out.size
          have hle2 := HQ.out.2.size
          have hlt2 := HQ.out.1.lt
          have hq2 := HQ.out.2
          refine bodyPost_ret (v := .tuple #[.agg #[.int .u8 k1, .string _, .slice p3 l1.len c7, .slice p4 f1.len c8], .bool true]) (by simp [results, Tryd.results71, go_sem, x0, x1, x2, x3]; rfl) rfl ?_
          rw [HG.out]
          refine ⟨_, _, rfl, ?_, ?_, ?_, ?_, ?_⟩
          · exact H1.out.2.1.fre (fun b hb => by omega) (fun b hb _ => g4 b (by omega))
          · exact H1.out.2.2.1.fre (fun b hb => by omega) (fun b hb _ => g4 b (by omega))
          · exact H2.out.1.imp (by omega) (Nat.le_of_eq g2) (fun b hb _ => g4 b (by omega))
          · exact H2.out.2.imp (by omega) (Nat.le_of_eq g2) (fun b hb _ => g4 b (by omega))
          · exact ((hq2.trans (HB.out.mono hq2.size)).trans (H1.out.2.2.2.mono (Nat.le_trans hq2.size hle))).trans (g3 _ (Nat.le_succ _))
        · have t5 : (nm1.toList == nm.toList) = false := by rw [bytes_beq]; simp [hnm]
          have HS2 := Lib.hid ((V.T.find_on D1.out hnm).trans HR.out)
          have HB := Lib.hid ((Below.refl wr.heap.size wr).alloc (Nat.le_refl _) (.cells #[.string nm1, .int .u8 k1, .string x1, .slice p1 l1.len c5, .slice p2 f1.len c6] 50))
          clear hnm HR
          go_wp2_with fail
          go_roundw
          case rel => exact ⟨i + 1, by go_num, HL.out, Lib.hid ⟨HQ.out.1.same (HB.out.block _ HQ.out.1.lt), HQ.out.2.trans (HB.out.mono HQ.out.2.size)⟩, HS2⟩
          case measure => have := HL.out; simp [RowKit.intOf]; omega
      · obtain rfl : i = ma := by omega
        have HG : Hid (V.got 6 fa nm = none) := Lib.hid (by
          have h := HR.out
          rw [← HF.out, V.T.drop_len] at h
          rw [HG0.out]
          exact h.symm)
        clear HR
        obtain ⟨d0, d1, d2, d3⟩ := HQ.out.1.box
        have f0 := HQ.out.1.free 0
        have f1 := HQ.out.1.free 1
        have f2 := HQ.out.1.free 2
        have f3 := HQ.out.1.free 3
        go_wp2_with fail
        have b2 : Blk4 wr (w.heap.size + 1) 25 _ _ _ _ := HQ.out.1
        obtain ⟨g1, g2, g3⟩ := b2.all (.int .u8 0) (.string ⟨#[]⟩) (.slice none 0 0) (.slice none 0 0)
        generalize (((wr.setCell ⟨w.heap.size + 1, 0, none⟩ (.int .u8 0)).setCell ⟨w.heap.size + 1, 1, none⟩ (.string ⟨#[]⟩)).setCell ⟨w.heap.size + 1, 2, none⟩ (.slice none 0 0)).setCell ⟨w.heap.size + 1, 3, none⟩ (.slice none 0 0) = W' at *
        obtain ⟨x0, x1, x2, x3⟩ := g1.box
        refine bodyPost_ret (v := .tuple #[.agg #[.int .u8 0, .string ⟨#[]⟩, .slice none 0 0, .slice none 0 0], .bool false]) (by simp [results, Tryd.results71, go_sem, x0, x1, x2, x3]) rfl ?_
        rw [HG.out]
        exact gotF_none _ _ (HQ.out.2.trans (g3 _ (Nat.le_succ _)))
  · have t6 : ((ka : Int) != 6) = true := by simp; omega
    have HG : Hid (V.got ka fa nm = none) := Lib.hid (by rw [V.got, if_neg hk])
    clear hk
    go_enter Tryd.func71, Tryd.ntmps71
    go_wp2_with fail
    have b2 : Blk4 _ (w.heap.size + 1) 25 _ _ _ _ := hx.2
    obtain ⟨x0, x1, x2, x3⟩ := b2.box
    generalize (w.alloc (.cells #[.int .u8 ka, .string xa, .slice pa la.len ca, .slice qa ma da] 25)).alloc (.cells #[.int .u8 0, .string ⟨#[]⟩, .slice none 0 0, .slice none 0 0] 25) = W' at *
    refine bodyPost_ret (v := .tuple #[.agg #[.int .u8 0, .string ⟨#[]⟩, .slice none 0 0, .slice none 0 0], .bool false]) (by simp [results, Tryd.results71, go_sem, x0, x1, x2, x3]) rfl ?_
    rw [HG.out]
    exact gotF_none _ _ hw
end Go.Proofs.YtepjomdjkoaofaaDoor
