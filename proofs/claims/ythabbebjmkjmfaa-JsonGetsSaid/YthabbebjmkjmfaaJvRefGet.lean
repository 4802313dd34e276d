/- The document's own Get: the first field of that name, and that it is there; else nothing. Conditions: such as Go can hold. -/
import Derived.Test.YthabbebjmkjmfaaJvSame
import Derived.Test.YthabbebjmkjmfaaJvRow
namespace Go.Proofs.Ythabbebjmkjmfaa
open Go Go.RowKit Go.Lib

/-- what Get hands back, in old memory or its own -/
def GotIs (o : Option (Nat × ByteArray × V.T × V.T)) (A : Nat → Prop) (w : World) (en : Ending) (w' : World) : Prop :=
  ∃ v u, en = .returned (.tuple #[.agg #[.int .u8 (V.res o).1, .string (V.res o).2.1, v, u], .bool (V.res o).2.2.2.2]) ∧ HS w' A 0 v (V.res o).2.2.1 ∧ HS w' A 1 u (V.res o).2.2.2.1 ∧ Below w.heap.size w w'
theorem gotIs_none (A : Nat → Prop) (w w' : World) (hB : Below w.heap.size w w') : GotIs none A w (.returned (.tuple #[.agg #[.int .u8 0, .string ⟨#[]⟩, .slice none 0 0, .slice none 0 0], .bool false])) w' :=
  ⟨_, _, rfl, HS.nil _ _ _, HS.nil _ _ _, hB⟩

set_option maxRecDepth 100000 in
set_option maxHeartbeats 1000000 in
theorem refGet_any (ka : Nat) (xa nm : ByteArray) (va ua : Value) (la fa : V.T) (A : Nat → Prop) (w : World) (hva : HS w A 0 va la) (hua : HS w A 1 ua fa) :
    Calls Try.prog 6 #[.agg #[.int .u8 ka, .string xa, va, ua], .string nm] w (GotIs (V.got ka fa nm) A w) := by
  obtain ⟨pa, ca, rfl, ba0, ba1, ba2⟩ := hva.len
  obtain ⟨qa, da, rfl, ba5, ba3, ba4⟩ := hua.len
  generalize fa1 : fa.len = ma at *
  have HF := Lib.hid fa1
  have HA := Lib.hid (hua.mono (A' := fun b => A b ∧ b < w.heap.size) fun b a hlt => ⟨a, hlt⟩)
  clear fa1 hva hua
  go_enter Try.func6, Try.ntmps6
  go_wp2_with fail
  have hx := two_new w (.cells #[.int .u8 ka, .string xa, .slice pa la.len ca, .slice qa ma da] 25) (.cells #[.int .u8 0, .string ⟨#[]⟩, .slice none 0 0, .slice none 0 0] 25)
  have hw := two_below w (.cells #[.int .u8 ka, .string xa, .slice pa la.len ca, .slice qa ma da] 25) (.cells #[.int .u8 0, .string ⟨#[]⟩, .slice none 0 0, .slice none 0 0] 25)
  have hz := two_size w (.cells #[.int .u8 ka, .string xa, .slice pa la.len ca, .slice qa ma da] 25) (.cells #[.int .u8 0, .string ⟨#[]⟩, .slice none 0 0, .slice none 0 0] 25)
  generalize (w.alloc (.cells #[.int .u8 ka, .string xa, .slice pa la.len ca, .slice qa ma da] 25)).alloc (.cells #[.int .u8 0, .string ⟨#[]⟩, .slice none 0 0, .slice none 0 0] 25) = W0 at *
  have b1 : Blk4 W0 w.heap.size 25 _ _ _ _ := hx.1
  have b2 : Blk4 W0 (w.heap.size + 1) 25 _ _ _ _ := hx.2
  obtain ⟨c0, c1, c2, c3⟩ := b1.box
  obtain ⟨d0, d1, d2, d3⟩ := b2.box
  have f0 := b2.free 0
  have f1 := b2.free 1
  have f2 := b2.free 2
  have f3 := b2.free 3
  have HW := Lib.hid hw
  have HZ := Lib.hid hz
  have B2 := Lib.hid b2
  clear hx hw b1 b2 hz
  go_loopw [6] (fun p wr => ∃ i : Nat, p = .int .i64 i ∧ i ≤ ma ∧ wr = W0 ∧ Hid ((fa.drop i).find nm = fa.find nm)) (fun p _ => ma - (RowKit.intOf p).toNat)
  case atStart => exact ⟨0, rfl, Nat.zero_le _, rfl, Lib.hid (by rw [V.T.drop_zero])⟩
  case round =>
    obtain ⟨i, rfl, hi, rfl, HR⟩ := hrel
    by_cases hlt : i < ma
    · by_cases hk : ka = 6
      · subst hk
        obtain ⟨nm1, k1, x1, l1, f1, tl1, hd1⟩ := V.T.drop_some (t := fa) (i := i) (by rw [HF.out]; exact hlt)
        obtain ⟨b1, o1, v1, u1, rfl, E1⟩ := (HA.out.below HW.out).elem (by rw [HF.out]; exact hlt) hd1
        obtain ⟨p1, c5, rfl, -⟩ := E1.hl.len
        obtain ⟨p2, c6, rfl, -⟩ := E1.hf.len
        have e0 := E1.name rfl
        have e1 := E1.kind
        have e2 := E1.text
        have e3 := E1.list
        have e4 := E1.fields
        simp only [Nat.reduceAdd] at e0 e1 e2 e3 e4
        have HL := Lib.hid hlt
        have D1 := Lib.hid hd1
        clear hd1
        by_cases hnm : nm1 = nm
        · have t5 : (nm1.toList == nm.toList) = true := by rw [hnm]; simp
          have HG : Hid (V.got 6 fa nm = some (k1, x1, l1, f1)) := Lib.hid (by rw [V.got, if_pos rfl, ← HR.out, ← hnm]; exact V.T.find_here D1.out)
          clear hnm HR
          go_wp2_with fail
          obtain ⟨g1, g2, g3⟩ := B2.out.all (.int .u8 k1) (.string x1) (.slice p1 l1.len c5) (.slice p2 f1.len c6)
          have g4 := set4_else wr (w.heap.size + 1) (.int .u8 k1) (.string x1) (.slice p1 l1.len c5) (.slice p2 f1.len c6)
          generalize (((wr.setCell ⟨w.heap.size + 1, 0, none⟩ (.int .u8 k1)).setCell ⟨w.heap.size + 1, 1, none⟩ (.string x1)).setCell ⟨w.heap.size + 1, 2, none⟩ (.slice p1 l1.len c5)).setCell ⟨w.heap.size + 1, 3, none⟩ (.slice p2 f1.len c6) = W' at *
          obtain ⟨x0, x1, x2, x3⟩ := g1.box
          refine bodyPost_ret (v := .tuple #[.agg #[.int .u8 k1, .string _, .slice p1 l1.len c5, .slice p2 f1.len c6], .bool true]) (by simp [results, Try.results6, go_sem, x0, x1, x2, x3]; rfl) rfl ?_
          have hb : Below w.heap.size wr W' := g3 _ (Nat.le_succ _)
          rw [HG.out]
          exact ⟨_, _, rfl, E1.hl.imp (fun b a _ => a.1) (fun b a _ => hb.block b a.2), E1.hf.imp (fun b a _ => a.1) (fun b a _ => hb.block b a.2), HW.out.trans hb⟩
        · have t5 : (nm1.toList == nm.toList) = false := by rw [bytes_beq]; simp [hnm]
          have HS2 := Lib.hid ((V.T.find_on D1.out hnm).trans HR.out)
          clear hnm HR
          go_wp2_with fail
          go_round
          case rel => exact ⟨i + 1, by go_num, HL.out, trivial, HS2⟩
          case measure => have := HL.out; simp [RowKit.intOf]; omega
      · have t6 : ((ka : Int) == 6) = false := by simp; omega
        have HG : Hid (V.got ka fa nm = none) := Lib.hid (by rw [V.got, if_neg hk])
        clear hk HR
        go_wp2_with fail
        obtain ⟨g1, g2, g3⟩ := B2.out.all (.int .u8 0) (.string ⟨#[]⟩) (.slice none 0 0) (.slice none 0 0)
        generalize (((wr.setCell ⟨w.heap.size + 1, 0, none⟩ (.int .u8 0)).setCell ⟨w.heap.size + 1, 1, none⟩ (.string ⟨#[]⟩)).setCell ⟨w.heap.size + 1, 2, none⟩ (.slice none 0 0)).setCell ⟨w.heap.size + 1, 3, none⟩ (.slice none 0 0) = W' at *
        obtain ⟨x0, x1, x2, x3⟩ := g1.box
        refine bodyPost_ret (v := .tuple #[.agg #[.int .u8 0, .string ⟨#[]⟩, .slice none 0 0, .slice none 0 0], .bool false]) (by simp [results, Try.results6, go_sem, x0, x1, x2, x3]) rfl ?_
        rw [HG.out]
        exact gotIs_none _ _ _ (HW.out.trans (g3 _ (Nat.le_succ _)))
    · obtain rfl : i = ma := by omega
      have HG : Hid (V.got ka fa nm = none) := Lib.hid (by
        unfold V.got
        split
        · have h := HR.out
          rw [← HF.out, V.T.drop_len] at h
          exact h.symm
        · rfl)
      clear HR
      go_wp2_with fail
      obtain ⟨g1, g2, g3⟩ := B2.out.all (.int .u8 0) (.string ⟨#[]⟩) (.slice none 0 0) (.slice none 0 0)
      generalize (((wr.setCell ⟨w.heap.size + 1, 0, none⟩ (.int .u8 0)).setCell ⟨w.heap.size + 1, 1, none⟩ (.string ⟨#[]⟩)).setCell ⟨w.heap.size + 1, 2, none⟩ (.slice none 0 0)).setCell ⟨w.heap.size + 1, 3, none⟩ (.slice none 0 0) = W' at *
      obtain ⟨x0, x1, x2, x3⟩ := g1.box
      refine bodyPost_ret (v := .tuple #[.agg #[.int .u8 0, .string ⟨#[]⟩, .slice none 0 0, .slice none 0 0], .bool false]) (by simp [results, Try.results6, go_sem, x0, x1, x2, x3]) rfl ?_
      rw [HG.out]
      exact gotIs_none _ _ _ (HW.out.trans (g3 _ (Nat.le_succ _)))
end Go.Proofs.Ythabbebjmkjmfaa
