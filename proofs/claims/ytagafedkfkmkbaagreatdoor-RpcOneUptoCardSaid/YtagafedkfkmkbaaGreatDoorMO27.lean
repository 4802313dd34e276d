/- The program's clone, whole: a value in memory of its own, the same. Conditions: strings of at most 2^47 bytes, rows of at most 2 * 10^12 elements. -/
import Derived.Test.YtagafedkfkmkbaaGreatDoorMO26
import Derived.Test.YtagafedkfkmkbaaGreatDoorMO20
import Derived.Test.YtagafedkfkmkbaaGreatDoorMO25
import Derived.Deep.WholeRow
import Derived.Laws.CopyOwn
import Derived.Test.YtagafedkfkmkbaaGreatDoorMO03
namespace Go.Proofs.YtagafedkfkmkbaaGreatDoor
open Go Go.RowKit Go.Lib

set_option maxRecDepth 100000 in
set_option maxHeartbeats 1000000 in
theorem cloneFields_any (n : Nat) (ih : CloneOk n) (v : Value) (t : V.T) (A : Nat → Prop) (w : World) (ht : t.size ≤ n) (hv : HS w A 1 v t) :
    Calls Tryz.prog 187 #[v, .func (.func 188) #[] #[]] w (OwnS 1 t w) := by
  rcases hv.shape with ⟨rfl, hn⟩ | ⟨a, c, rfl, hc, hc2, hl⟩
  · obtain rfl := V.T.len_nil hn
    have qT := Lib.run_eql_slice_nil (P := Tryz.prog) w _ _ none 0 0 0 0 Tryz.underlying23
    go_enter Tryz.func187, Tryz.ntmps187
    go_wp2_with fail
    go_ret
    exact ⟨_, rfl, HS.nil _ _ _, SlFree.nil _ _, Below.refl _ _⟩
  · generalize ea : t.len = na at *
    have HE := Lib.hid ea
    have HT := Lib.hid ht
    have HR0 := Lib.hid hv
    clear ea ht hv
    have qT := fun w => Lib.run_eql_slice_nil (P := Tryz.prog) w _ _ (some a) na c 0 0 Tryz.underlying23
    obtain ⟨i0, hi0, hz0, hz1, hz2⟩ := info_parts infoField
    obtain ⟨M, hM⟩ : ∃ M, M = madeCells (Value.agg #[.string ⟨#[]⟩, .int .u8 0, .string ⟨#[]⟩, .slice none 0 0, .slice none 0 0]).cells (((na : Nat) : Int).toNat * i0.size) := ⟨_, rfl⟩
    have hMs : M.size = na * 5 := by
      rw [hM, size_madeCells, hz1, Int.toNat_natCast]
    have hmk : ∀ W : World, (Instr.makeSlice 23 (.int .i64 (na : Int)) (.int .i64 (na : Int))).run Tryz.prog W = .ok (.slice (some ⟨W.heap.size, 0, none⟩) na na) (W.alloc (.cells M 109)) := fun W => by
      have h := run_make (P := Tryz.prog) W 23 109 i0 _ Tryz.underlying23 hi0 hz0 .i64 .i64 (na : Int) (na : Int) (by omega) (by omega) (by rw [hz2]; omega) (by omega)
      rw [← hM] at h
      simpa using h
    clear hM
    go_enter Tryz.func187, Tryz.ntmps187
    go_wp2_with fail
    have hrow : Row (w.alloc (.cells M 109)) w.heap.size 109 M := heap_alloc_new _ _
    have hc0 : CaSt w 109 1 w.heap.size t 0 M (w.alloc (.cells M 109)) :=
      ⟨(Below.refl _ _).alloc (Nat.le_refl _) _, hrow, by rw [hMs, HE.out], Nat.le_refl _, by rw [Nat.zero_mul, List.take_zero]; exact RP.nil _ _ _ _⟩
    generalize w.alloc (.cells M 109) = W0 at *
    have HC := Lib.hid hc0
    clear hrow hc0 hMs hmk
    go_loopw [15] (fun p wr => ∃ i : Nat, p = .int .i64 i ∧ i ≤ na ∧ Hid (∃ cur, CaSt w 109 1 w.heap.size t i cur wr)) (fun p _ => na - (RowKit.intOf p).toNat)
    case atStart => exact ⟨0, rfl, Nat.zero_le _, Lib.hid ⟨_, HC.out⟩⟩
    case round =>
      obtain ⟨i, rfl, hi, HR⟩ := hrel
      obtain ⟨cur, hR⟩ := HR.out
      by_cases hlt : i < na
      · have HQ := Lib.hid hR
        clear HR hR
        obtain ⟨nm1, k1, x1, l1, f1, tl1, hd1⟩ := V.T.drop_some (t := t) (i := i) (by rw [HE.out]; exact hlt)
        obtain ⟨b, o, v1, u1, hbo, E1⟩ := (HR0.out.below HQ.out.below).elem (by rw [HE.out]; exact hlt) hd1
        cases hbo
        obtain ⟨p1, c5, rfl, -⟩ := E1.hl.len
        obtain ⟨p2, c6, rfl, -⟩ := E1.hf.len
        have e0 := E1.name rfl
        have e1 := E1.kind
        have e2 := E1.text
        have e3 := E1.list
        have e4 := E1.fields
        simp only [Nat.reduceAdd] at e0 e1 e2 e3 e4
        have n2 : o + i * 5 + 1 + 1 = o + i * 5 + 2 := by omega
        have n3 : o + i * 5 + 1 + 2 = o + i * 5 + 3 := by omega
        have n4 : o + i * 5 + 1 + 3 = o + i * 5 + 4 := by omega
        rw [n2] at e2
        rw [n3] at e3
        rw [n4] at e4
        clear n2 n3 n4
        have HL := Lib.hid hlt
        have D1 := Lib.hid hd1
        clear hd1
        have IH := fun W (hB : Below wr.heap.size wr W) => cloneField_any n ih nm1 k1 x1 (.slice p1 l1.len c5) (.slice p2 f1.len c6) l1 f1 A W (by have := V.T.drop_size D1.out; have := HT.out; omega) E1.small (E1.hl.below hB) (E1.hf.below hB)
        have hrow := HQ.out.row
        have hgl := hrow.lt
        have hcs : i * 5 + 5 ≤ cur.size := by rw [HQ.out.size, HE.out]; have := HL.out; omega
        go_wp2_with fail
        go_at_call 188
        (with_reducible refine (IH _ ((Below.refl _ _).alloc (Nat.le_refl _) _)).mono ?_)
        rintro e w1 ⟨v2, u2, rfl, hl1, hf1, hB1⟩
        obtain ⟨p3, c7, rfl, -⟩ := hl1.len
        obtain ⟨p4, c8, rfl, -⟩ := hf1.len
        have hB2 := (((Below.refl wr.heap.size wr).alloc (Nat.le_refl _) (.cells #[.string nm1, .int .u8 k1, .string x1, .slice p1 l1.len c5, .slice p2 f1.len c6] 109)).trans (hB1.mono (by simp)))
        have hr1 := hrow.same (hB2.block _ hgl)
        have q0 := hr1.cell (j := i * 5) (by omega)
        have q1 := hr1.cell (j := i * 5 + 1) (by omega)
        have q2 := hr1.cell (j := i * 5 + 2) (by omega)
        have q3 := hr1.cell (j := i * 5 + 3) (by omega)
        have q4 := hr1.cell (j := i * 5 + 4) (by omega)
        have z0 := hr1.free (i * 5)
        have z1 := hr1.free (i * 5 + 1)
        have z2 := hr1.free (i * 5 + 2)
        have z3 := hr1.free (i * 5 + 3)
        have z4 := hr1.free (i * 5 + 4)
        have H1 := Lib.hid (And.intro hl1 hf1)
        have HB2 := Lib.hid hB2
        have HX := Lib.hid (World.size_alloc wr (.cells #[.string nm1, .int .u8 k1, .string x1, .slice p1 l1.len c5, .slice p2 f1.len c6] 109))
        clear hl1 hf1 hB1 hB2 hr1
        go_wp2_with fail
        go_roundw
        case rel => exact ⟨i + 1, by go_num, HL.out, Lib.hid ⟨_, HQ.out.step1 (by rw [HE.out]; exact HL.out) D1.out E1.small HB2.out (H1.out.1.mono fun b hb _ => hb.imp (by have := HX.out; have := hb.1; omega) rfl) (H1.out.2.mono fun b hb _ => hb.imp (by have := HX.out; have := hb.1; omega) rfl)⟩⟩
        case measure => have := HL.out; simp [RowKit.intOf]; omega
      · obtain rfl : i = na := by omega
        clear HR
        have hw := CaSt.whole (by rw [HE.out]; exact hR) (by rw [HE.out]; exact hl)
        rw [HE.out] at hw
        have HF := Lib.hid (And.intro hw (And.intro (show SlFree w.heap.size wr (.slice (some ⟨w.heap.size, 0, none⟩) i i) from fun b hb => by cases hb; exact ⟨Nat.le_refl _, hR.row.lt, hR.row.free⟩) hR.below))
        clear hw hR
        go_wp2_with fail
        go_ret
        exact ⟨_, rfl, HF.out.1, HF.out.2.1, HF.out.2.2⟩


theorem set1_else (w : World) (b o : Nat) (y : Value) (j : Nat) (hj : j ≠ b) : (w.setCell ⟨b, o, none⟩ y).heap[j]? = w.heap[j]? := Below.heap_setCell _ _ _ j hj

set_option maxRecDepth 100000 in
set_option maxHeartbeats 1000000 in
theorem clone_step (n : Nat) (ih : CloneOk n) : CloneOk (n + 1) := by
  intro ka xa va ua la fa A w hn hx hva hua
  obtain ⟨pa, ca, rfl, ba0, ba1, ba2⟩ := hva.len
  obtain ⟨qa, da, rfl, ba5, ba3, ba4⟩ := hua.len
  have hL := fun W hW => cloneList_any n ih (.slice pa la.len ca) la A W (by omega) (hva.below hW)
  have hF := fun W hW => cloneFields_any n ih (.slice qa fa.len da) fa A W (by omega) (hua.below hW)
  generalize ea : la.len = na at *
  generalize fa1 : fa.len = ma at *
  have HE := Lib.hid ea
  have HF := Lib.hid fa1
  clear ea fa1 hva hua hn ih
  go_enter Tryz.func130, Tryz.ntmps130
  go_wp2_with fail
  have hx2 := two_new w (.cells #[.int .u8 ka, .string xa, .slice pa na ca, .slice qa ma da] 25) (.cells #[.int .u8 0, .string ⟨#[]⟩, .slice none 0 0, .slice none 0 0] 25)
  have hw := two_below w (.cells #[.int .u8 ka, .string xa, .slice pa na ca, .slice qa ma da] 25) (.cells #[.int .u8 0, .string ⟨#[]⟩, .slice none 0 0, .slice none 0 0] 25)
  have hz := two_size w (.cells #[.int .u8 ka, .string xa, .slice pa na ca, .slice qa ma da] 25) (.cells #[.int .u8 0, .string ⟨#[]⟩, .slice none 0 0, .slice none 0 0] 25)
  generalize (w.alloc (.cells #[.int .u8 ka, .string xa, .slice pa na ca, .slice qa ma da] 25)).alloc (.cells #[.int .u8 0, .string ⟨#[]⟩, .slice none 0 0, .slice none 0 0] 25) = W0 at *
  have r1 : Blk4 W0 w.heap.size 25 _ _ _ _ := hx2.1
  have r2 : Blk4 W0 (w.heap.size + 1) 25 _ _ _ _ := hx2.2
  refine (strClone_any xa _ hx).mono ?_
  rintro e w1 ⟨rfl, hB1⟩
  have r1 := r1.same (hB1.block _ r1.lt)
  have r2 := r2.same (hB1.block _ r2.lt)
  have HW1 := Lib.hid (hw.trans (hB1.mono hw.size))
  have hz1 : w.heap.size + 2 ≤ w1.heap.size := by have := hB1.size; omega
  clear hx2 hw hz hB1
  obtain ⟨c0, c1, c2, c3⟩ := r1.box
  have f1 := r1.free 1
  have HR1 := Lib.hid (And.intro r1 r2)
  clear r1 r2
  go_wp2_with fail
  have r1 := HR1.out.1.set1 (.string xa)
  have r2 := HR1.out.2.else (o := 1) (y := .string xa) (show w.heap.size + 1 ≠ w.heap.size by omega)
  have hw2 : Below w.heap.size w (w1.setCell ⟨w.heap.size, 1, none⟩ (.string xa)) := HW1.out.setCell (Nat.le_refl _) _
  have hz2 : w.heap.size + 2 ≤ (w1.setCell ⟨w.heap.size, 1, none⟩ (.string xa)).heap.size := by simp; exact hz1
  generalize w1.setCell ⟨w.heap.size, 1, none⟩ (.string xa) = w2 at *
  clear c0 c1 c2 c3 f1 HW1 HR1 hz1
  refine (hL _ hw2).mono ?_
  rintro e w3 ⟨v3, rfl, hl3, hs3, hB3⟩
  obtain ⟨p3, c3', rfl, -⟩ := hl3.len
  have r1 := r1.same (hB3.block _ r1.lt)
  have r2 := r2.same (hB3.block _ r2.lt)
  have HW3 := Lib.hid (hw2.trans (hB3.mono hw2.size))
  have hz3 : w.heap.size + 2 ≤ w3.heap.size := by have := hB3.size; omega
  have HL3 := Lib.hid (hl3.fre (w' := w3) (lo' := w.heap.size + 2) (fun b hb => Nat.le_trans hz2 hb) (fun _ _ _ => rfl))
  have HS3 := Lib.hid (hs3.imp (B' := w.heap.size + 2) hz2 (Nat.le_refl _) (fun _ _ _ => rfl))
  clear hw2 hz2 hB3 hl3 hL hs3
  obtain ⟨c0, c1, c2, c3⟩ := r1.box
  have f2 := r1.free 2
  have HR1 := Lib.hid (And.intro r1 r2)
  clear r1 r2
  go_wp2_with fail
  have r1 := HR1.out.1.set2 (.slice p3 la.len c3')
  have r2 := HR1.out.2.else (o := 2) (y := .slice p3 la.len c3') (show w.heap.size + 1 ≠ w.heap.size by omega)
  have hw4 : Below w.heap.size w (w3.setCell ⟨w.heap.size, 2, none⟩ (.slice p3 la.len c3')) := HW3.out.setCell (Nat.le_refl _) _
  have hz4 : w.heap.size + 2 ≤ (w3.setCell ⟨w.heap.size, 2, none⟩ (.slice p3 la.len c3')).heap.size := by simp; exact hz3
  have hl4 := HL3.out.fre (w' := w3.setCell ⟨w.heap.size, 2, none⟩ (.slice p3 la.len c3')) (fun _ a => a) (fun b hb _ => set1_else w3 _ 2 _ b (by omega))
  have hs4 := HS3.out.imp (w' := w3.setCell ⟨w.heap.size, 2, none⟩ (.slice p3 la.len c3')) (Nat.le_refl _) (by simp) (fun b hb _ => set1_else w3 _ 2 _ b (by omega))
  generalize w3.setCell ⟨w.heap.size, 2, none⟩ (.slice p3 la.len c3') = w4 at *
  clear c0 c1 c2 c3 f2 HW3 HR1 hz3 HL3
  refine (hF _ hw4).mono ?_
  rintro e w5 ⟨v5, rfl, hl5, hs5, hB5⟩
  obtain ⟨p5, c5, rfl, -⟩ := hl5.len
  have r1 := r1.same (hB5.block _ r1.lt)
  have r2 := r2.same (hB5.block _ r2.lt)
  have HW5 := Lib.hid (hw4.trans (hB5.mono hw4.size))
  have hz5 : w.heap.size + 2 ≤ w5.heap.size := by have := hB5.size; omega
  have HL5 := Lib.hid (And.intro (hl4.fre (fun _ a => a) (fun b _ hb => hB5.block b hb)) (hl5.fre (w' := w5) (lo' := w.heap.size + 2) (fun b hb => Nat.le_trans hz4 hb) (fun _ _ _ => rfl)))
  have HS5 := Lib.hid (And.intro (hs4.imp (Nat.le_refl _) hB5.size (fun b _ hb => hB5.block b hb)) (hs5.imp (B' := w.heap.size + 2) hz4 (Nat.le_refl _) (fun _ _ _ => rfl)))
  clear hw4 hz4 hB5 hl4 hl5 hF hs4 hs5 HS3
  obtain ⟨c0, c1, c2, c3⟩ := r1.box
  have f3 := r1.free 3
  obtain ⟨d0, d1, d2, d3⟩ := r2.box
  have g0 := r2.free 0
  have g1 := r2.free 1
  have g2 := r2.free 2
  have g3 := r2.free 3
  have HR1 := Lib.hid (And.intro r1 r2)
  clear r1 r2
  go_wp2_with fail
  have r2 := HR1.out.2.else (o := 3) (y := .slice p5 fa.len c5) (show w.heap.size + 1 ≠ w.heap.size by omega)
  obtain ⟨h1, h2, h3⟩ := r2.all (.int .u8 ka) (.string xa) (.slice p3 la.len c3') (.slice p5 fa.len c5)
  have h4 := fun j (hj : j ≠ w.heap.size + 1) (hj2 : j ≠ w.heap.size) => (set4_else (w5.setCell ⟨w.heap.size, 3, none⟩ (.slice p5 fa.len c5)) (w.heap.size + 1) (.int .u8 ka) (.string xa) (.slice p3 la.len c3') (.slice p5 fa.len c5) j hj).trans (set1_else w5 w.heap.size 3 (.slice p5 fa.len c5) j hj2)
  have h5 := (HW5.out.setCell (p := ⟨w.heap.size, 3, none⟩) (Nat.le_refl _) (.slice p5 fa.len c5)).trans (h3 w.heap.size (Nat.le_succ _))
  have h6 : w5.heap.size ≤ ((((((w5.setCell ⟨w.heap.size, 3, none⟩ (.slice p5 fa.len c5)).setCell ⟨w.heap.size + 1, 0, none⟩ (.int .u8 ka)).setCell ⟨w.heap.size + 1, 1, none⟩ (.string xa)).setCell ⟨w.heap.size + 1, 2, none⟩ (.slice p3 la.len c3')).setCell ⟨w.heap.size + 1, 3, none⟩ (.slice p5 fa.len c5))).heap.size := by simp
  generalize ((((w5.setCell ⟨w.heap.size, 3, none⟩ (.slice p5 fa.len c5)).setCell ⟨w.heap.size + 1, 0, none⟩ (.int .u8 ka)).setCell ⟨w.heap.size + 1, 1, none⟩ (.string xa)).setCell ⟨w.heap.size + 1, 2, none⟩ (.slice p3 la.len c3')).setCell ⟨w.heap.size + 1, 3, none⟩ (.slice p5 fa.len c5) = W' at *
  obtain ⟨x0, x1, x2, x3⟩ := h1.box
  refine bodyPost_ret (v := .agg #[.int .u8 ka, .string xa, .slice p3 la.len c3', .slice p5 fa.len c5]) (by simp [results, Tryz.results130, go_sem, x0, x1, x2, x3]) rfl ⟨_, _, rfl, ?_, ?_, ?_, ?_, h5⟩
  · exact HL5.out.1.fre (fun b hb => by omega) (fun b hb _ => h4 b (by omega) (by omega))
  · exact HL5.out.2.fre (fun b hb => by omega) (fun b hb _ => h4 b (by omega) (by omega))
  · exact HS5.out.1.imp (by omega) h6 (fun b hb _ => h4 b (by omega) (by omega))
  · exact HS5.out.2.imp (by omega) h6 (fun b hb _ => h4 b (by omega) (by omega))
theorem clone_any (n : Nat) : CloneOk n := by
  induction n with
  | zero => intro _ _ _ _ _ _ _ _ h; omega
  | succ n ih => exact clone_step n ih
end Go.Proofs.YtagafedkfkmkbaaGreatDoor

namespace Go.Proofs.YtagafedkfkmkbaaGreatDoor
open Go Go.RowKit Go.Lib

/-- what Get hands back, in memory of its own, such as may be written -/
def GotF (o : Option (Nat × ByteArray × V.T × V.T)) (w : World) (en : Ending) (w' : World) : Prop :=
  ∃ v u, en = .returned (.tuple #[.agg #[.int .u8 (V.res o).1, .string (V.res o).2.1, v, u], .bool (V.res o).2.2.2.2]) ∧ HS w' (Fre w.heap.size w') 0 v (V.res o).2.2.1 ∧ HS w' (Fre w.heap.size w') 1 u (V.res o).2.2.2.1 ∧ SlFree w.heap.size w' v ∧ SlFree w.heap.size w' u ∧ Below w.heap.size w w'
theorem gotF_none (w w' : World) (hB : Below w.heap.size w w') : GotF none w (.returned (.tuple #[.agg #[.int .u8 0, .string ⟨#[]⟩, .slice none 0 0, .slice none 0 0], .bool false])) w' :=
  ⟨_, _, rfl, HS.nil _ _ _, HS.nil _ _ _, SlFree.nil _ _, SlFree.nil _ _, hB⟩

set_option maxRecDepth 100000 in
set_option maxHeartbeats 1000000 in
theorem get_any (ka : Nat) (xa nm : ByteArray) (va ua : Value) (la fa : V.T) (A : Nat → Prop) (w : World) (hva : HS w A 0 va la) (hua : HS w A 1 ua fa) :
    Calls Tryz.prog 59 #[.agg #[.int .u8 ka, .string xa, va, ua], .string nm] w (GotF (V.got ka fa nm) w) := by
  obtain ⟨pa, ca, rfl, ba0, ba1, ba2⟩ := hva.len
  obtain ⟨qa, da, rfl, ba5, ba3, ba4⟩ := hua.len
  generalize fa1 : fa.len = ma at *
  have HF := Lib.hid fa1
  have HA := Lib.hid hua
  clear fa1 hva hua
  have hx := two_new w (.cells #[.int .u8 ka, .string xa, .slice pa la.len ca, .slice qa ma da] 25) (.cells #[.int .u8 0, .string ⟨#[]⟩, .slice none 0 0, .slice none 0 0] 25)
  have hw := two_below w (.cells #[.int .u8 ka, .string xa, .slice pa la.len ca, .slice qa ma da] 25) (.cells #[.int .u8 0, .string ⟨#[]⟩, .slice none 0 0, .slice none 0 0] 25)
  have hz := two_size w (.cells #[.int .u8 ka, .string xa, .slice pa la.len ca, .slice qa ma da] 25) (.cells #[.int .u8 0, .string ⟨#[]⟩, .slice none 0 0, .slice none 0 0] 25)
  by_cases hk : ka = 6
  · subst hk
    have HG0 : Hid (V.got 6 fa nm = fa.find nm) := Lib.hid (by rw [V.got, if_pos rfl])
    go_enter Tryz.func59, Tryz.ntmps59
    go_wp2_with fail
    generalize (w.alloc (.cells #[.int .u8 ((6 : Nat) : Int), .string xa, .slice pa la.len ca, .slice qa ma da] 25)).alloc (.cells #[.int .u8 0, .string ⟨#[]⟩, .slice none 0 0, .slice none 0 0] 25) = W0 at *
    have b1 : Blk4 W0 w.heap.size 25 _ _ _ _ := hx.1
    have b2 : Blk4 W0 (w.heap.size + 1) 25 _ _ _ _ := hx.2
    have HS0 := Lib.hid (And.intro b2 hw)
    clear hx b1 b2 hw hz
    go_loopw [15] (fun p wr => ∃ i : Nat, p = .int .i64 i ∧ i ≤ ma ∧ Hid (Blk4 wr (w.heap.size + 1) 25 (.int .u8 0) (.string ⟨#[]⟩) (.slice none 0 0) (.slice none 0 0) ∧ Below w.heap.size w wr) ∧ Hid ((fa.drop i).find nm = fa.find nm)) (fun p _ => ma - (RowKit.intOf p).toNat)
    case atStart => exact ⟨0, rfl, Nat.zero_le _, HS0, Lib.hid (by rw [V.T.drop_zero])⟩
    case round =>
      obtain ⟨i, rfl, hi, HQ, HR⟩ := hrel
      by_cases hlt : i < ma
      · obtain ⟨nm1, k1, x1, l1, f1, tl1, hd1⟩ := V.T.drop_some (t := fa) (i := i) (by rw [HF.out]; exact hlt)
        obtain ⟨b1, o1, v1, u1, rfl, E1⟩ := (HA.out.below HQ.out.2).elem (by rw [HF.out]; exact hlt) hd1
        obtain ⟨p1, c5, rfl, -⟩ := E1.hl.len
        obtain ⟨p2, c6, rfl, -⟩ := E1.hf.len
        have e0 := E1.name rfl
        have e1 := E1.kind
        have e2 := E1.text
        have e3 := E1.list
        have e4 := E1.fields
        simp only [Nat.reduceAdd] at e0 e1 e2 e3 e4
        have n2 : o1 + i * 5 + 1 + 1 = o1 + i * 5 + 2 := by omega
        have n3 : o1 + i * 5 + 1 + 2 = o1 + i * 5 + 3 := by omega
        have n4 : o1 + i * 5 + 1 + 3 = o1 + i * 5 + 4 := by omega
        rw [n2] at e2
        rw [n3] at e3
        rw [n4] at e4
        clear n2 n3 n4
        have HL := Lib.hid hlt
        have D1 := Lib.hid hd1
        clear hd1
        by_cases hnm : nm1 = nm
        · have t5 : (nm1.toList == nm.toList) = true := by rw [hnm]; simp
          have HG : Hid (V.got 6 fa nm = some (k1, x1, l1, f1)) := Lib.hid (by rw [HG0.out, ← HR.out, ← hnm]; exact V.T.find_here D1.out)
          have hc := fun W (hB : Below wr.heap.size wr W) => clone_any (l1.size + f1.size + 1) k1 x1 _ _ l1 f1 A W (Nat.lt_succ_self _) E1.small.text (E1.hl.below hB) (E1.hf.below hB)
          have HB := Lib.hid ((Below.refl wr.heap.size wr).alloc (Nat.le_refl _) (.cells #[.string nm1, .int .u8 k1, .string x1, .slice p1 l1.len c5, .slice p2 f1.len c6] 109))
          clear hnm HR
          go_wp2_with fail
          refine (hc _ HB.out).mono ?_
          rintro e w1 ⟨v2, u2, rfl, hl1, hf1, hs1, hs2, hB1⟩
          obtain ⟨p3, c7, rfl, -⟩ := hl1.len
          obtain ⟨p4, c8, rfl, -⟩ := hf1.len
          have b2 := HQ.out.1.same ((hB1.block _ (Nat.lt_of_lt_of_le HQ.out.1.lt HB.out.size)).trans (HB.out.block _ HQ.out.1.lt))
          obtain ⟨d0, d1, d2, d3⟩ := b2.box
          have y0 := b2.free 0
          have y1 := b2.free 1
          have y2 := b2.free 2
          have y3 := b2.free 3
          have H1 := Lib.hid (And.intro b2 (And.intro hl1 (And.intro hf1 hB1)))
          have H2 := Lib.hid (And.intro hs1 hs2)
          clear b2 hl1 hf1 hB1 hc hs1 hs2
          go_wp2_with fail
          obtain ⟨g1, g2, g3⟩ := H1.out.1.all (.int .u8 k1) (.string x1) (.slice p3 l1.len c7) (.slice p4 f1.len c8)
          have g4 := set4_else w1 (w.heap.size + 1) (.int .u8 k1) (.string x1) (.slice p3 l1.len c7) (.slice p4 f1.len c8)
          generalize (((w1.setCell ⟨w.heap.size + 1, 0, none⟩ (.int .u8 k1)).setCell ⟨w.heap.size + 1, 1, none⟩ (.string x1)).setCell ⟨w.heap.size + 1, 2, none⟩ (.slice p3 l1.len c7)).setCell ⟨w.heap.size + 1, 3, none⟩ (.slice p4 f1.len c8) = W' at *
          obtain ⟨x0, x1, x2, x3⟩ := g1.box
          have hle := HB.out.size
          have hle2 := HQ.out.2.size
          have hlt2 := HQ.out.1.lt
          have hq2 := HQ.out.2
          refine bodyPost_ret (v := .tuple #[.agg #[.int .u8 k1, .string _, .slice p3 l1.len c7, .slice p4 f1.len c8], .bool true]) (by simp [results, Tryz.results59, go_sem, x0, x1, x2, x3]; rfl) rfl ?_
          rw [HG.out]
          refine ⟨_, _, rfl, ?_, ?_, ?_, ?_, ?_⟩
          · exact H1.out.2.1.fre (fun b hb => by omega) (fun b hb _ => g4 b (by omega))
          · exact H1.out.2.2.1.fre (fun b hb => by omega) (fun b hb _ => g4 b (by omega))
          · exact H2.out.1.imp (by omega) (Nat.le_of_eq g2) (fun b hb _ => g4 b (by omega))
          · exact H2.out.2.imp (by omega) (Nat.le_of_eq g2) (fun b hb _ => g4 b (by omega))
          · exact ((hq2.trans (HB.out.mono hq2.size)).trans (H1.out.2.2.2.mono (Nat.le_trans hq2.size hle))).trans (g3 _ (Nat.le_succ _))
        · have t5 : (nm1.toList == nm.toList) = false := by rw [bytes_beq]; simp [hnm]
          have HS2 := Lib.hid ((V.T.find_on D1.out hnm).trans HR.out)
          have HB := Lib.hid ((Below.refl wr.heap.size wr).alloc (Nat.le_refl _) (.cells #[.string nm1, .int .u8 k1, .string x1, .slice p1 l1.len c5, .slice p2 f1.len c6] 109))
          clear hnm HR
          go_wp2_with fail
          go_roundw
          case rel => exact ⟨i + 1, by go_num, HL.out, Lib.hid ⟨HQ.out.1.same (HB.out.block _ HQ.out.1.lt), HQ.out.2.trans (HB.out.mono HQ.out.2.size)⟩, HS2⟩
          case measure => have := HL.out; simp [RowKit.intOf]; omega
      · obtain rfl : i = ma := by omega
        have HG : Hid (V.got 6 fa nm = none) := Lib.hid (by
          have h := HR.out
          rw [← HF.out, V.T.drop_len] at h
          rw [HG0.out]
          exact h.symm)
        clear HR
        obtain ⟨d0, d1, d2, d3⟩ := HQ.out.1.box
        have f0 := HQ.out.1.free 0
        have f1 := HQ.out.1.free 1
        have f2 := HQ.out.1.free 2
        have f3 := HQ.out.1.free 3
        go_wp2_with fail
        have b2 : Blk4 wr (w.heap.size + 1) 25 _ _ _ _ := HQ.out.1
        obtain ⟨g1, g2, g3⟩ := b2.all (.int .u8 0) (.string ⟨#[]⟩) (.slice none 0 0) (.slice none 0 0)
        generalize (((wr.setCell ⟨w.heap.size + 1, 0, none⟩ (.int .u8 0)).setCell ⟨w.heap.size + 1, 1, none⟩ (.string ⟨#[]⟩)).setCell ⟨w.heap.size + 1, 2, none⟩ (.slice none 0 0)).setCell ⟨w.heap.size + 1, 3, none⟩ (.slice none 0 0) = W' at *
        obtain ⟨x0, x1, x2, x3⟩ := g1.box
        refine bodyPost_ret (v := .tuple #[.agg #[.int .u8 0, .string ⟨#[]⟩, .slice none 0 0, .slice none 0 0], .bool false]) (by simp [results, Tryz.results59, go_sem, x0, x1, x2, x3]) rfl ?_
        rw [HG.out]
        exact gotF_none _ _ (HQ.out.2.trans (g3 _ (Nat.le_succ _)))
  · have t6 : ((ka : Int) != 6) = true := by simp; omega
    have HG : Hid (V.got ka fa nm = none) := Lib.hid (by rw [V.got, if_neg hk])
    clear hk
    go_enter Tryz.func59, Tryz.ntmps59
    go_wp2_with fail
    have b2 : Blk4 _ (w.heap.size + 1) 25 _ _ _ _ := hx.2
    obtain ⟨x0, x1, x2, x3⟩ := b2.box
    generalize (w.alloc (.cells #[.int .u8 ka, .string xa, .slice pa la.len ca, .slice qa ma da] 25)).alloc (.cells #[.int .u8 0, .string ⟨#[]⟩, .slice none 0 0, .slice none 0 0] 25) = W' at *
    refine bodyPost_ret (v := .tuple #[.agg #[.int .u8 0, .string ⟨#[]⟩, .slice none 0 0, .slice none 0 0], .bool false]) (by simp [results, Tryz.results59, go_sem, x0, x1, x2, x3]) rfl ?_
    rw [HG.out]
    exact gotF_none _ _ hw
end Go.Proofs.YtagafedkfkmkbaaGreatDoor

namespace Go.Proofs.YtagafedkfkmkbaaGreatDoor
open Go Go.RowKit Go.Lib

/-- what is got of a field: kind, text, list, fields, is it there? -/
abbrev R5 := Nat × ByteArray × V.T × V.T × Bool
def midV (k : Nat) (x : ByteArray) (l f : V.T) : Bool := ((intV k x).2 || (decide (k = 4) && decide (x.size ≤ 256))) && mayV k x l f 0
structure Six where
  j : R5
  m : R5
  p : R5
  i : R5
  r : R5
  o : R5
def nmJ : ByteArray := ⟨#[106, 115, 111, 110, 114, 112, 99]⟩
def nmM : ByteArray := ⟨#[109, 101, 116, 104, 111, 100]⟩
def nmP : ByteArray := ⟨#[112, 97, 114, 97, 109, 115]⟩
def nmI : ByteArray := ⟨#[105, 100]⟩
def nmR : ByteArray := ⟨#[114, 101, 115, 117, 108, 116]⟩
def nmE : ByteArray := ⟨#[101, 114, 114, 111, 114]⟩
def sixOf (k : Nat) (f : V.T) : Six := ⟨V.res (V.got k f nmJ), V.res (V.got k f nmM), V.res (V.got k f nmP), V.res (V.got k f nmI), V.res (V.got k f nmR), V.res (V.got k f nmE)⟩
def Six.kind (s : Six) : Nat := if s.m.2.2.2.2 = true then (if s.i.2.2.2.2 = true then 1 else 2) else 3
def verB (j : R5) : Bool := decide (j.1 = 4) && decide (j.2.1 = ⟨#[50, 46, 48]⟩)
def methB (m : R5) : Bool := decide (m.1 = 4)
def parB (p : R5) : Bool := decide (p.1 ∈ [5, 6, 0])
def idB (i : R5) : Bool := midV i.1 i.2.1 i.2.2.1 i.2.2.2.1
def idNB (i : R5) : Bool := i.2.2.2.2 && ((decide (i.1 = 0) && mayV i.1 i.2.1 i.2.2.1 i.2.2.2.1 0) || idB i)
def outB (r o : R5) : Bool := r.2.2.2.2 != o.2.2.2.2
def fauB (o : R5) : Bool := !o.2.2.2.2 || decide (o.1 = 6)
def Six.holds (s : Six) : Bool :=
  if s.kind = 1 then verB s.j && methB s.m && parB s.p && idB s.i
  else if s.kind = 2 then verB s.j && methB s.m && parB s.p
  else verB s.j && idNB s.i && outB s.r s.o && fauB s.o
/-- a field as it was found -/
structure Fd where
  k : Nat
  x : ByteArray
  p : Option Addr
  n : Nat
  c : Nat
  q : Option Addr
  m : Nat
  e : Nat
  b : Bool
  l : V.T
  f : V.T
def Fd.r (d : Fd) : R5 := (d.k, d.x, d.l, d.f, d.b)
structure Fd.Ok (A : Nat → Prop) (w : World) (d : Fd) : Prop where
  l : HS w A 0 (.slice d.p d.n d.c) d.l
  f : HS w A 1 (.slice d.q d.m d.e) d.f
theorem Fd.Ok.imp {A A' : Nat → Prop} {w w' : World} {d : Fd} (h : d.Ok A w) (hA : ∀ b, A b → b < w.heap.size → A' b) (hk : ∀ b, A b → b < w.heap.size → w'.heap[b]? = w.heap[b]?) : d.Ok A' w' := ⟨h.l.imp hA hk, h.f.imp hA hk⟩
theorem Fd.Ok.below {A : Nat → Prop} {w w' : World} {d : Fd} (h : d.Ok A w) (hB : Below w.heap.size w w') : d.Ok A w' := ⟨h.l.below hB, h.f.below hB⟩
theorem Fd.Ok.set {A : Nat → Prop} {w : World} {d : Fd} (h : d.Ok A w) {g : Nat} (hg : ¬ A g) (c : Array Value) : d.Ok A (w.setRow g c) := h.imp (fun _ a _ => a) (fun b hb _ => setRow_other w g b c (fun e => hg (e ▸ hb)))
structure Ms where
  j : Fd
  m : Fd
  p : Fd
  i : Fd
  r : Fd
  o : Fd
def Ms.six (M : Ms) : Six := ⟨M.j.r, M.m.r, M.p.r, M.i.r, M.r.r, M.o.r⟩
structure Ms.Ok (A : Nat → Prop) (w : World) (M : Ms) : Prop where
  j : M.j.Ok A w
  m : M.m.Ok A w
  p : M.p.Ok A w
  i : M.i.Ok A w
  r : M.r.Ok A w
  o : M.o.Ok A w
theorem Ms.Ok.imp {A A' : Nat → Prop} {w w' : World} {M : Ms} (h : M.Ok A w) (hA : ∀ b, A b → b < w.heap.size → A' b) (hk : ∀ b, A b → b < w.heap.size → w'.heap[b]? = w.heap[b]?) : M.Ok A' w' := ⟨h.j.imp hA hk, h.m.imp hA hk, h.p.imp hA hk, h.i.imp hA hk, h.r.imp hA hk, h.o.imp hA hk⟩
theorem Ms.Ok.below {A : Nat → Prop} {w w' : World} {M : Ms} (h : M.Ok A w) (hB : Below w.heap.size w w') : M.Ok A w' := h.imp (fun _ a _ => a) fun b _ hb => hB.block b hb
theorem Ms.Ok.set {A : Nat → Prop} {w : World} {M : Ms} (h : M.Ok A w) {g : Nat} (hg : ¬ A g) (c : Array Value) : M.Ok A (w.setRow g c) := ⟨h.j.set hg c, h.m.set hg c, h.p.set hg c, h.i.set hg c, h.r.set hg c, h.o.set hg c⟩
end Go.Proofs.YtagafedkfkmkbaaGreatDoor

namespace Go.Proofs.YtagafedkfkmkbaaGreatDoor
open Go Go.RowKit Go.Lib

/-- a field: its name, its value as it lies, the value's trees -/
structure Fe where
  nm : ByteArray
  k : Nat
  x : ByteArray
  v : Value
  u : Value
  l : V.T
  f : V.T
def Fe.cells (e : Fe) : List Value := [.string e.nm, .int .u8 e.k, .string e.x, e.v, e.u]
def cellsOf : List Fe → List Value
  | [] => []
  | e :: r => .string e.nm :: .int .u8 e.k :: .string e.x :: e.v :: e.u :: cellsOf r
def treeOf : List Fe → V.T
  | [] => .nil
  | e :: r => .cons e.nm e.k e.x e.l e.f (treeOf r)
def Fe.Ok (w : World) (A : Nat → Prop) (e : Fe) : Prop := HS w A 0 e.v e.l ∧ HS w A 1 e.u e.f ∧ Fit e.nm e.k e.x
theorem cellsOf_append (a b : List Fe) : cellsOf (a ++ b) = cellsOf a ++ cellsOf b := by
  induction a with
  | nil => rfl
  | cons e r ih => simp [cellsOf, ih]
theorem cellsOf_len (a : List Fe) : (cellsOf a).length = a.length * 5 := by
  induction a with
  | nil => rfl
  | cons e r ih => simp [cellsOf, ih]; omega
theorem treeOf_len (a : List Fe) : (treeOf a).len = a.length := by
  induction a with
  | nil => rfl
  | cons e r ih => show (treeOf r).len + 1 = _; rw [ih]; rfl
theorem Fe.Ok.below {w w' : World} {A : Nat → Prop} {e : Fe} (h : e.Ok w A) (hB : Below w.heap.size w w') : e.Ok w' A := ⟨h.1.below hB, h.2.1.below hB, h.2.2⟩
theorem Fe.Ok.mono {w : World} {A A' : Nat → Prop} {e : Fe} (h : e.Ok w A) (hA : ∀ b, A b → b < w.heap.size → A' b) : e.Ok w A' := ⟨h.1.mono hA, h.2.1.mono hA, h.2.2⟩
theorem Fe.Ok.imp {w w' : World} {A A' : Nat → Prop} {e : Fe} (h : e.Ok w A) (hA : ∀ b, A b → b < w.heap.size → A' b) (hk : ∀ b, A b → b < w.heap.size → w'.heap[b]? = w.heap[b]?) : e.Ok w' A' := ⟨h.1.imp hA hk, h.2.1.imp hA hk, h.2.2⟩
theorem one_slice {p : Option Addr} {n c : Nat} : (Value.slice p n c).oneCell' = true := rfl
theorem cellsOf_one {w : World} {A : Nat → Prop} : ∀ (es : List Fe), (∀ e ∈ es, e.Ok w A) → ∀ u ∈ cellsOf es, u.oneCell' = true
  | [], _, _, h => by cases h
  | e :: r, ho, u, h => by
    obtain ⟨h1, h2, _⟩ := ho e (List.mem_cons_self ..)
    obtain ⟨p, c, e1, _⟩ := h1.len
    obtain ⟨q, d, e2, _⟩ := h2.len
    simp only [cellsOf, List.mem_cons] at h
    rcases h with rfl | rfl | rfl | h | h | h
    · rfl
    · rfl
    · rfl
    · rw [h, e1]; rfl
    · rw [h, e2]; rfl
    · exact cellsOf_one r (fun e he => ho e (List.mem_cons_of_mem _ he)) u h
/-- the cells stand in block b from cell o on -/
theorem row_of {w : World} {A : Nat → Prop} {b : Nat} (hA : A b) : ∀ (es : List Fe) (o : Nat), (∀ e ∈ es, e.Ok w A) → (∀ j u, (cellsOf es)[j]? = some u → w.cell? ⟨b, o + j, none⟩ = some u) → HR w A 1 b o (treeOf es)
  | [], _, _, _ => trivial
  | e :: r, o, ho, h => by
    obtain ⟨h1, h2, h3⟩ := ho e (List.mem_cons_self ..)
    refine ⟨hA, (fun e => by cases e), fun _ => h 0 _ rfl, h 1 _ rfl, h 2 _ rfl, ⟨_, h 3 _ rfl, h1⟩, ⟨_, h 4 _ rfl, h2⟩, h3, ?_⟩
    exact row_of hA r (o + 5) (fun e he => ho e (List.mem_cons_of_mem _ he)) (fun j u hu => by
      have := h (j + 5) u hu
      rw [show o + (j + 5) = o + 5 + j by omega] at this
      exact this)
/-- a slice of fields as it lies -/
def Lies (w : World) (v : Value) (es : List Fe) : Prop := ∃ b c, v = .slice (some ⟨b, 0, none⟩) es.length c ∧ es.length ≤ c ∧ c ≤ maxLen ∧ b < w.heap.size ∧ ∀ j u, (cellsOf es)[j]? = some u → w.cell? ⟨b, j, none⟩ = some u
theorem Lies.below {w w' : World} {v : Value} {es : List Fe} (h : Lies w v es) (hB : Below w.heap.size w w') : Lies w' v es := by
  obtain ⟨b, c, h1, h2, h3, h4, h5⟩ := h
  exact ⟨b, c, h1, h2, h3, Nat.lt_of_lt_of_le h4 hB.size, fun j u hu => (World.cell?_of_block (w := w) (w' := w') (a := ⟨b, j, none⟩) (hB.block b h4)).trans (h5 j u hu)⟩
theorem Lies.hs {w : World} {A : Nat → Prop} {v : Value} {es : List Fe} (h : Lies w v es) (ho : ∀ e ∈ es, e.Ok w A) (hA : ∀ b, v.ownBlock = some b → A b) (hn : es.length ≤ 2000000000000) : HS w A 1 v (treeOf es) := by
  obtain ⟨b, c, rfl, h2, h3, h4, h5⟩ := h
  refine .inr (.inr ⟨b, 0, c, ?_, ?_, ⟨h3, ?_⟩, row_of (hA b rfl) es 0 ho (fun j u hu => by rw [Nat.zero_add]; exact h5 j u hu)⟩)
  · rw [treeOf_len]
  · rw [treeOf_len]; exact h2
  · rw [treeOf_len]; exact hn
theorem Lies.news {w : World} {es : List Fe} {b n c : Nat} (h : Lies w (.slice (some ⟨b, 0, none⟩) n c) es) : ∀ j u, (cellsOf es)[j]? = some u → w.cell? ((⟨b, 0, none⟩ : Addr).add j) = some u := by
  obtain ⟨b', c', e, _, _, _, h5⟩ := h
  cases e
  intro j u hu
  have hadd : (⟨b, 0, none⟩ : Addr).add j = ⟨b, j, none⟩ := by unfold Addr.add; split <;> simp_all
  rw [hadd]
  exact h5 j u hu
/-- a block just made -/
theorem lies_new {w : World} {cs : Array Value} {es : List Fe} {t : TypeId} {n : Nat} (h : cs.toList = cellsOf es) (hn : n = es.length) (hm : n ≤ maxLen) : Lies (w.alloc (.cells cs t)) (.slice (some ⟨w.heap.size, 0, none⟩) n n) es := by
  subst hn
  refine ⟨_, _, rfl, Nat.le_refl _, hm, by simp, fun j u hu => ?_⟩
  rw [cell_of_row _ _ j cs t (0, 0) (heap_alloc_new _ _)]
  rw [← h] at hu
  simpa using hu
theorem owns_new {w : World} {cs : Array Value} {es : List Fe} {t : TypeId} {n : Nat} (h : cs.toList = cellsOf es) (hn : n = es.length) (hm : n ≤ maxLen) (base : Nat) (hb : base ≤ w.heap.size) : (w.alloc (.cells cs t)).ownsRow base t 5 (.slice (some ⟨w.heap.size, 0, none⟩) n n) n (cellsOf es) := by
  subst hn
  have hz : cs.size = es.length * 5 := by rw [← Array.length_toList, h, cellsOf_len]
  refine ⟨cellsOf_len _, .inr ⟨_, _, cs, rfl, hb, heap_alloc_new _ _, Nat.le_refl _, hm, hz, ?_⟩⟩
  rw [← h, ← hz, ← Array.length_toList, List.take_length]
theorem lies_owned {w : World} {base : Nat} {t : TypeId} {g n c : Nat} {es : List Fe} (hn : n = es.length) (h : w.ownsRow base t 5 (.slice (some ⟨g, 0, none⟩) n c) n (cellsOf es)) : Lies w (.slice (some ⟨g, 0, none⟩) n c) es := by
  subst hn
  rcases h.2 with ⟨e, _⟩ | ⟨g', c', cur, e, hb, hg, h1, h2, h3, h4⟩
  · cases e
  · cases e
    refine ⟨_, _, rfl, h1, h2, (Array.getElem?_eq_some_iff.1 hg).1, fun j u hu => ?_⟩
    rw [cell_of_row _ _ j cur t (0, 0) hg]
    rw [← h4] at hu
    have hj := (List.getElem?_eq_some_iff.1 hu).1
    rw [List.getElem?_take_of_lt (by rw [List.length_take] at hj; omega)] at hu
    simpa using hu
end Go.Proofs.YtagafedkfkmkbaaGreatDoor
