/- The document's own Twin: a value in memory of its own, the same. Conditions: a value of at most 10^6 values. -/
import Derived.Test.YtoolkaahjmnjeaaGreatDoorMW05
import Derived.Test.YtoolkaahjmnjeaaGreatDoorMW04
import Derived.Test.YtoolkaahjmnjeaaGreatDoorMW12
import Derived.Deep.AppendLies
import Derived.Deep.RegionLaw
import Derived.Deep.DeepCutAuto
import Derived.Deep.CutBlock
namespace Go.Proofs.YtoolkaahjmnjeaaGreatDoor
open Go Go.RowKit Go.Lib

/-- what the region of a field reads: the value's box, the new one's, the element -/
def TwS (s b o : Nat) (p v : Value) (nm : ByteArray) (k : Nat) (x : ByteArray) (v1 u1 : Value) (W : World) : Prop :=
  W.cell? ⟨s, 3, none⟩ = some p ∧ W.cell? ⟨s + 1 + 1, 3, none⟩ = some v ∧ W.cell? ⟨b, o, none⟩ = some (.string nm) ∧ W.cell? ⟨b, o + 1, none⟩ = some (.int .u8 k) ∧ W.cell? ⟨b, o + 1 + 1, none⟩ = some (.string x) ∧ W.cell? ⟨b, o + 1 + 2, none⟩ = some v1 ∧ W.cell? ⟨b, o + 1 + 3, none⟩ = some u1
theorem TwS.below {s b o : Nat} {p v : Value} {nm : ByteArray} {k : Nat} {x : ByteArray} {v1 u1 : Value} {W W' : World} (h : TwS s b o p v nm k x v1 u1 W) (hB : Below W.heap.size W W') : TwS s b o p v nm k x v1 u1 W' :=
  ⟨bcellv hB h.1, bcellv hB h.2.1, bcellv hB h.2.2.1, bcellv hB h.2.2.2.1, bcellv hB h.2.2.2.2.1, bcellv hB h.2.2.2.2.2.1, bcellv hB h.2.2.2.2.2.2⟩
theorem TwS.alloc {s b o : Nat} {p v : Value} {nm : ByteArray} {k : Nat} {x : ByteArray} {v1 u1 : Value} {W : World} (h : TwS s b o p v nm k x v1 u1 W) (O : Obj) : TwS s b o p v nm k x v1 u1 (W.alloc O) := h.below ((Below.refl _ _).alloc (Nat.le_refl _) O)
theorem TwS.below2 {s b o B : Nat} {p v : Value} {nm : ByteArray} {k : Nat} {x : ByteArray} {v1 u1 : Value} {W W' : World} (h : TwS s b o p v nm k x v1 u1 W.drew) (hB : Below B W W') (hb : b < s) (hs : s + 3 ≤ B) : TwS s b o p v nm k x v1 u1 W' :=
  ⟨(hB.cell (p := ⟨s, 3, none⟩) (show s < B by omega)).trans h.1, (hB.cell (p := ⟨s + 1 + 1, 3, none⟩) (show s + 1 + 1 < B by omega)).trans h.2.1, (hB.cell (p := ⟨b, o, none⟩) (show b < B by omega)).trans h.2.2.1, (hB.cell (p := ⟨b, o + 1, none⟩) (show b < B by omega)).trans h.2.2.2.1, (hB.cell (p := ⟨b, o + 1 + 1, none⟩) (show b < B by omega)).trans h.2.2.2.2.1, (hB.cell (p := ⟨b, o + 1 + 2, none⟩) (show b < B by omega)).trans h.2.2.2.2.2.1, (hB.cell (p := ⟨b, o + 1 + 3, none⟩) (show b < B by omega)).trans h.2.2.2.2.2.2⟩
theorem tw_after {wr w1 w2 : World} {s base : Nat} {e : TypeId} {size n : Nat} {v : Value} {xs : List Value} {O : Obj} (hown : wr.ownsRow base e size v n xs) (hs : s ≤ base) (hsz : s ≤ wr.heap.size) (hB : Below wr.heap.size wr w1) (hg : (w1.alloc O).grownBy w2 v.ownBlock) : Below s wr w2 :=
  ((hB.mono hsz).alloc (Nat.le_trans hsz hB.size) O).grown hg (by have := hB.size; simp; omega) (fun k hk => Nat.le_trans hs (hown.lt k hk).1)
/-- what a round of Twin keeps: its three boxes (the value's, the result's, its own), the row so far -/
structure TwSt (w : World) (tv : TypeId) (p0 p1 p2 p3 k x a b : Value) (e : TypeId) (d : Nat) (v : Value) (t : V.T) (B i : Nat) (xs : List Value) (W : World) : Prop where
  below : Below w.heap.size w W
  param : Blk4 W w.heap.size tv p0 p1 p2 p3
  res : Blk4 W (w.heap.size + 1) tv (.int .u8 0) (.string ⟨#[]⟩) (.slice none 0 0) (.slice none 0 0)
  out : Blk4 W (w.heap.size + 1 + 1) tv k x a b
  base : w.heap.size + 3 ≤ B
  size : B ≤ W.heap.size
  own : W.ownsRow B e (4 + d) v i xs
  row : RP W (Aside B v) d t i xs

theorem tw_frame {wr w1 w2 : World} {s B o : Nat} {e : TypeId} {size n : Nat} {v y : Value} {xs : List Value} {O : Obj} (hown : wr.ownsRow B e size v n xs) (hsz : B ≤ wr.heap.size) (hB : Below wr.heap.size wr w1) (hg : (w1.alloc O).grownBy w2 v.ownBlock) (b : Nat) (hb : b < B) (hne : b ≠ s) :
    (w2.setCell ⟨s, o, none⟩ y).heap[b]? = wr.heap[b]? :=
  (Below.heap_setCell _ _ _ b hne).trans ((tw_after hown (Nat.le_refl _) hsz hB hg).block b hb)
theorem TwSt.step {w wr w1 w2 : World} {tv : TypeId} {p0 p1 p2 p3 k x a b a' b' y : Value} {e : TypeId} {d : Nat} {v : Value} {t : V.T} {B i o : Nat} {xs news : List Value} {g n cap : Nat} {O : Obj}
    (h : TwSt w tv p0 p1 p2 p3 k x a b e d v t B i xs wr) (hB : Below wr.heap.size wr w1) (hg : (w1.alloc O).grownBy w2 v.ownBlock)
    (ho : w2.ownsRow B e (4 + d) (.slice (some ⟨g, 0, none⟩) n cap) (i + 1) (xs ++ news)) (hr : RP w2 (Aside B (.slice (some ⟨g, 0, none⟩) n cap)) d t (i + 1) (xs ++ news))
    (hout : Blk4 w2 (w.heap.size + 1 + 1) tv k x a b → Blk4 (w2.setCell ⟨w.heap.size + 1 + 1, o, none⟩ y) (w.heap.size + 1 + 1) tv k x a' b') :
    TwSt w tv p0 p1 p2 p3 k x a' b' e d (.slice (some ⟨g, 0, none⟩) n cap) t B (i + 1) (xs ++ news) (w2.setCell ⟨w.heap.size + 1 + 1, o, none⟩ y) := by
  have hbase := h.base
  have hsize := h.size
  have hw2 := tw_after h.own (Nat.le_refl _) h.size hB hg
  have fr := fun b hb hne => tw_frame (s := w.heap.size + 1 + 1) (o := o) (y := y) h.own h.size hB hg b hb hne
  refine ⟨⟨?_, ?_, ?_, ?_, ?_⟩, h.param.same (fr _ (by omega) (by omega)), h.res.same (fr _ (by omega) (by omega)), hout (h.out.same (hw2.block _ (by omega))), h.base, ?_, ?_, ?_⟩
  · exact hw2.os.trans h.below.os
  · exact hw2.tape.trans h.below.tape
  · exact hw2.output.trans h.below.output
  · have := hw2.size; have := h.below.size; simp; omega
  · intro j hj; exact (fr j (by omega) (by omega)).trans (h.below.block j hj)
  · have := hw2.size; simp; omega
  · exact ownsRow_setCell_below ho (show w.heap.size + 1 + 1 < B by omega) _
  · exact hr.imp (fun _ a _ => a) (fun j hj _ => Below.heap_setCell _ _ _ j (show j ≠ w.heap.size + 1 + 1 by have := hj.1; omega))
/-- the row's next element, behind the call and the append -/
theorem TwSt.row0 {w wr w1 w2 : World} {tv : TypeId} {p0 p1 p2 p3 k x a b : Value} {e : TypeId} {v : Value} {t : V.T} {B i : Nat} {xs : List Value} {g n cap : Nat} {O : Obj} {nm : ByteArray} {kk : Nat} {xx : ByteArray} {l f tl : V.T} {v2 u2 : Value}
    (h : TwSt w tv p0 p1 p2 p3 k x a b e 0 v t B i xs wr) (hd : t.drop i = .cons nm kk xx l f tl) (hnm : nm = ⟨#[]⟩) (hkk : Fit nm kk xx) (hB : Below wr.heap.size wr w1)
    (hl : HS w1 (fun b => wr.heap.size ≤ b) 0 v2 l) (hf : HS w1 (fun b => wr.heap.size ≤ b) 1 u2 f) (hg : (w1.alloc O).grownBy w2 v.ownBlock) (hat : v.ownBlock = some g ∨ g = w1.heap.size + 1) :
    RP w2 (Aside B (.slice (some ⟨g, 0, none⟩) n cap)) 0 t (i + 1) (xs ++ [.int .u8 kk, .string xx, v2, u2]) := by
  have hB2 := hB.alloc hB.size O
  have r1 : RP (w1.alloc O) (Aside B v) 0 t i xs := h.row.imp (fun _ a _ => a) (fun b _ hb => hB2.block b hb)
  have l1 := ((hl.aside h.own h.size).alloc O).appended (n := n) (cap := cap) hg (by simpa using hat)
  have f1 := ((hf.aside h.own h.size).alloc O).appended (n := n) (cap := cap) hg (by simpa using hat)
  exact (r1.appended hg (by simpa using hat)).snoc0 hd hnm l1 f1 hkk
theorem TwSt.row1 {w wr w1 w2 : World} {tv : TypeId} {p0 p1 p2 p3 k x a b : Value} {e : TypeId} {v : Value} {t : V.T} {B i : Nat} {xs : List Value} {g n cap : Nat} {O : Obj} {nm : ByteArray} {kk : Nat} {xx : ByteArray} {l f tl : V.T} {v2 u2 : Value}
    (h : TwSt w tv p0 p1 p2 p3 k x a b e 1 v t B i xs wr) (hd : t.drop i = .cons nm kk xx l f tl) (hkk : Fit nm kk xx) (hB : Below wr.heap.size wr w1)
    (hl : HS w1 (fun b => wr.heap.size ≤ b) 0 v2 l) (hf : HS w1 (fun b => wr.heap.size ≤ b) 1 u2 f) (hg : (w1.alloc O).grownBy w2 v.ownBlock) (hat : v.ownBlock = some g ∨ g = w1.heap.size + 1) :
    RP w2 (Aside B (.slice (some ⟨g, 0, none⟩) n cap)) 1 t (i + 1) (xs ++ [.string nm, .int .u8 kk, .string xx, v2, u2]) := by
  have hB2 := hB.alloc hB.size O
  have r1 : RP (w1.alloc O) (Aside B v) 1 t i xs := h.row.imp (fun _ a _ => a) (fun b _ hb => hB2.block b hb)
  have l1 := ((hl.aside h.own h.size).alloc O).appended (n := n) (cap := cap) hg (by simpa using hat)
  have f1 := ((hf.aside h.own h.size).alloc O).appended (n := n) (cap := cap) hg (by simpa using hat)
  exact (r1.appended hg (by simpa using hat)).snoc1 hd l1 f1 hkk

set_option maxRecDepth 100000 in
set_option maxHeartbeats 2000000 in
theorem twin_any (n : Nat) : ∀ (ka : Nat) (xa : ByteArray) (va ua : Value) (la fa : V.T) (A : Nat → Prop) (w : World),
    la.size + fa.size < n → la.size + fa.size ≤ 1000000 → HS w A 0 va la → HS w A 1 ua fa →
    Calls Tryz.prog 9 #[.agg #[.int .u8 ka, .string xa, va, ua]] w (Own4 ka xa la fa w) := by
  induction n with
  | zero => intro _ _ _ _ _ _ _ _ h; omega
  | succ n ih =>
    intro ka xa va ua la fa A w hn hm hva hua
    obtain ⟨pa, ca, rfl, ba0, ba1, ba2⟩ := hva.len
    obtain ⟨qa, da, rfl, ba5, ba3, ba4⟩ := hua.len
    generalize ea : la.len = na at *
    generalize fa1 : fa.len = ma at *
    have HE := Lib.hid ea
    have HF := Lib.hid fa1
    have HN := Lib.hid (And.intro hn hm)
    have HA := Lib.hid (And.intro hva hua)
    clear ea fa1 hn hm hva hua
    go_enter Tryz.func9, Tryz.ntmps9
    go_wp2_with fail
    have hT : TwSt w 25 (.int .u8 ka) (.string xa) (.slice pa na ca) (.slice qa ma da) (.int .u8 ka) (.string xa) (.slice none 0 0) (.slice none 0 0) 25 0 (.slice none 0 0) la (w.heap.size + 3) 0 [] (((w.alloc (.cells #[.int .u8 ka, .string xa, .slice pa na ca, .slice qa ma da] 25)).alloc (.cells #[.int .u8 0, .string ⟨#[]⟩, .slice none 0 0, .slice none 0 0] 25)).alloc (.cells #[.int .u8 ka, .string xa, .slice none 0 0, .slice none 0 0] 25)) := by
      have h2 := two_new w (.cells #[.int .u8 ka, .string xa, .slice pa na ca, .slice qa ma da] 25) (.cells #[.int .u8 0, .string ⟨#[]⟩, .slice none 0 0, .slice none 0 0] 25)
      have hs := two_size w (.cells #[.int .u8 ka, .string xa, .slice pa na ca, .slice qa ma da] 25) (.cells #[.int .u8 0, .string ⟨#[]⟩, .slice none 0 0, .slice none 0 0] 25)
      have hb := two_below w (.cells #[.int .u8 ka, .string xa, .slice pa na ca, .slice qa ma da] 25) (.cells #[.int .u8 0, .string ⟨#[]⟩, .slice none 0 0, .slice none 0 0] 25)
      generalize (w.alloc (.cells #[.int .u8 ka, .string xa, .slice pa na ca, .slice qa ma da] 25)).alloc (.cells #[.int .u8 0, .string ⟨#[]⟩, .slice none 0 0, .slice none 0 0] 25) = W at *
      have h3 := heap_alloc_new W (.cells #[.int .u8 ka, .string xa, .slice none 0 0, .slice none 0 0] 25)
      rw [hs] at h3
      exact ⟨hb.alloc (by omega) _, (Below.heap_alloc _ _ _ (by omega)).trans h2.1, (Below.heap_alloc _ _ _ (by omega)).trans h2.2, h3, Nat.le_refl _, by simp [hs], World.ownsRow_nil _ _ _ _, RP.nil _ _ _ _⟩
    generalize ((w.alloc (.cells #[.int .u8 ka, .string xa, .slice pa na ca, .slice qa ma da] 25)).alloc (.cells #[.int .u8 0, .string ⟨#[]⟩, .slice none 0 0, .slice none 0 0] 25)).alloc (.cells #[.int .u8 ka, .string xa, .slice none 0 0, .slice none 0 0] 25) = W0 at *
    have HT := Lib.hid hT
    clear hT
    obtain ⟨i0, hi0, hz0, hz1, hz2⟩ := info_parts infoValue
    go_loopw [4] (fun p wr => ∃ i : Nat, p = .int .i64 i ∧ i ≤ na ∧ Hid (∃ v xs, TwSt w 25 (.int .u8 ka) (.string xa) (.slice pa na ca) (.slice qa ma da) (.int .u8 ka) (.string xa) v (.slice none 0 0) 25 0 v la (w.heap.size + 3) i xs wr)) (fun p _ => na - (RowKit.intOf p).toNat)
    case atStart => exact ⟨0, rfl, Nat.zero_le _, Lib.hid ⟨_, _, HT.out⟩⟩
    case round =>
      obtain ⟨i, rfl, hi, HR⟩ := hrel
      obtain ⟨v, xs, hR⟩ := HR.out
      obtain ⟨c0, c1, c2, c3⟩ := hR.param.box
      obtain ⟨d0, d1, d2, d3⟩ := hR.out.box
      have f2 := hR.out.free 2
      have hsz := hR.size
      have HR2 := Lib.hid hR
      clear HR hR c0 c1 d0 d1
      by_cases hlt : i < na
      · obtain ⟨nm1, k1, x1, l1, f1, tl1, hd1⟩ := V.T.drop_some (t := la) (i := i) (by rw [HE.out]; exact hlt)
        obtain ⟨b1, o1, v1, u1, rfl, E1⟩ := (HA.out.1.below HR2.out.below).elem (by rw [HE.out]; exact hlt) hd1
        have e1 := E1.kind
        have e2 := E1.text
        have e3 := E1.list
        have e4 := E1.fields
        simp only [Nat.add_zero] at e1 e2 e3 e4
        have HL := Lib.hid hlt
        have D1 := Lib.hid hd1
        clear hd1
        have lb1 : b1 < w.heap.size := by
          obtain ⟨b, o, c, e, _, _, hh⟩ := HA.out.1.at (by rw [HE.out]; exact HL.out)
          cases e
          have := HR.drop i la 0 b1 o1 hh
          rw [D1.out] at this
          exact World.block_lt_of_cell? w _ this.2.2.2.1
        have IH := fun W (hB : Below wr.heap.size wr W) => ih k1 x1 v1 u1 l1 f1 A W (by have := V.T.drop_size D1.out; have := HN.out; omega) (by have := V.T.drop_size D1.out; have := HN.out; omega) (E1.hl.below hB) (E1.hf.below hB)
        have hn2 : (i + 1) * 72 ≤ 140737488355328 := by have := V.T.len_size la; have := HN.out; have := HE.out; have := HL.out; omega
        have hn1 : i + 1 ≤ maxLen := by unfold maxLen; omega
        have hown := HR2.out.own
        have hK0 := Lib.hid ((Below.refl (w.heap.size + 1) wr).drew)
        have LB := Lib.hid lb1
        clear lb1 c3 d3
        go_upto_block 1 with fail
        go_cut [] (fun wx => Hid (∃ v xs, TwSt w 25 (.int .u8 ka) (.string xa) (.slice (some ⟨b1, o1, none⟩) na ca) (.slice qa ma da) (.int .u8 ka) (.string xa) v (.slice none 0 0) 25 0 v la (w.heap.size + 3) (i + 1) xs wx))
        case first =>
          go_wp2_with fail
          go_region_law (first
              | (refine step_append_lies _ (by rfl) _ _ _ (by rfl) (w.heap.size + 3) 25 i0 _ 4 72 Tryz.underlying22 hi0 hz0 hz1 hz2 rfl (by omega) v i xs (by rfl) (hown1.alloc _) ⟨w1.heap.size, 0, none⟩ 1 1 [.int .u8 k1, .string x1, .slice p3 l1.len c3, .slice p4 f1.len c4] (by rfl) (by rfl) (World.news_of_block (cs := #[.int .u8 k1, .string x1, .slice p3 l1.len c3, .slice p4 f1.len c4]) (t := 25) (fr := (0, 0)) (heap_alloc_new w1 _)) (by simp [Value.oneCell']) (by omega) hn1 hn2 (by simp; omega) (w1.heap.size + 1) (by simp) ?_; intro gg cap w2 hown2 hgrow hat hlt2; have hK2 := Lib.hid (tw_after hown (Nat.le_refl _) hsz hB2.out hgrow); have d6 := (hK2.out.cell (p := ⟨w.heap.size + 1 + 1, 2, none⟩) (Nat.lt_succ_self _)).trans d2; have f6 := (hK2.out.frozen (p := ⟨w.heap.size + 1 + 1, 2, none⟩) (Nat.lt_succ_self _)).trans f2; have HG := Lib.hid (And.intro hown2 (And.intro hgrow hat)); clear hown2 hgrow hat)
              | (go_simp; go_at_call 9; (with_reducible refine (IH _ (Below.refl _ _).drew).mono ?_); rintro e w1 ⟨v2, u2, rfl, hl1, hf1, hB1⟩; obtain ⟨p3, c3, rfl, -⟩ := hl1.len; obtain ⟨p4, c4, rfl, -⟩ := hf1.len; have hB2 := Lib.hid ((Below.refl wr.heap.size wr).drew.trans hB1); have d5 := (hB2.out.cell (p := ⟨w.heap.size + 1 + 1, 2, none⟩) (show w.heap.size + 1 + 1 < wr.heap.size by omega)).trans d2; have hz5 := Nat.lt_of_lt_of_le (show w.heap.size + 1 + 1 < wr.heap.size by omega) hB2.out.size; have hown1 := ownsRow_below hown hB2.out; have H1 := Lib.hid (And.intro hl1 hf1); clear hl1 hf1 hB1))
          all_goals
            go_wp2_with fail
            go_simp
            go_meet
            exact Lib.hid ⟨_, _, HR2.out.step hB2.out HG.out.2.1 HG.out.1 (HR2.out.row0 D1.out (E1.nil rfl) E1.small hB2.out H1.out.1 H1.out.2 HG.out.2.1 HG.out.2.2) (fun hh => hh.set2 _)⟩
        case rest =>
        have HC := hcut
        clear hcut e1 e2 e3 e4 d2 f2 hown hsz
        go_wp2_with fail
        go_roundw
        case rel => exact ⟨i + 1, by go_num, HL.out, HC⟩
        case measure => have := HL.out; simp [RowKit.intOf]; omega
      · obtain rfl : i = na := by omega
        have hR := HR2.out
        clear c2 c3 d2 d3 f2 hsz
        obtain ⟨c0, c1, c2, c3⟩ := hR.param.box
        have hS1 : HS wr (fun b => w.heap.size + 3 ≤ b ∧ b < wr.heap.size) 0 v la := by
          have hr := hR.row
          have ho := hR.own
          rw [← HE.out] at hr ho
          exact (RP.slice hr ho (Nat.le_refl _) (by have := V.T.len_size la; have := HN.out; omega)).mono (fun b hb hlt => ⟨hb, hlt⟩)
        obtain ⟨pv, cv, rfl, -⟩ := hS1.len
        have hT2 : TwSt w 25 (.int .u8 ka) (.string xa) (.slice pa i ca) (.slice qa ma da) (.int .u8 ka) (.string xa) (.slice pv la.len cv) (.slice none 0 0) 80 1 (.slice none 0 0) fa wr.heap.size 0 [] wr :=
          ⟨hR.below, hR.param, hR.res, hR.out, hR.size, Nat.le_refl _, World.ownsRow_nil _ _ _ _, RP.nil _ _ _ _⟩
        have hT3 := Lib.hid (And.intro hT2 hS1)
        clear hT2 hS1 hR c0 c1
        go_wp2_with fail
        obtain ⟨wo, rfl⟩ : ∃ wo : World, wo = wr := ⟨_, rfl⟩
        clear c2 c3
        go_loopw [5] (fun p wr => ∃ j : Nat, p = .int .i64 j ∧ j ≤ ma ∧ Hid (∃ u xs, TwSt w 25 (.int .u8 ka) (.string xa) (.slice pa i ca) (.slice qa ma da) (.int .u8 ka) (.string xa) (.slice pv la.len cv) u 80 1 u fa wo.heap.size j xs wr ∧ HS wr (fun b => w.heap.size + 3 ≤ b ∧ b < wo.heap.size) 0 (.slice pv la.len cv) la)) (fun p _ => ma - (RowKit.intOf p).toNat)
        case atStart => exact ⟨0, rfl, Nat.zero_le _, Lib.hid ⟨_, _, hT3.out⟩⟩
        case round =>
          obtain ⟨j, rfl, hj, HR⟩ := hrel
          obtain ⟨v, xs, hR, hS⟩ := HR.out
          obtain ⟨c0, c1, c2, c3⟩ := hR.param.box
          obtain ⟨d0, d1, d2, d3⟩ := hR.out.box
          obtain ⟨r0, r1, r2, r3⟩ := hR.res.box
          have f0 := hR.res.free 0
          have f1 := hR.res.free 1
          have f2 := hR.res.free 2
          have f3 := hR.res.free 3
          have f4 := hR.out.free 3
          have hsz := hR.size
          have hb3 := hR.base
          have HR2 := Lib.hid (And.intro hR hS)
          clear HR hR hS
          by_cases hlt : j < ma
          · clear c2 d0 d1 d2 r0 r1 r2 r3 f0 f1 f2 f3 c0 c1
            obtain ⟨nm1, k1, x1, l1, f1, tl1, hd1⟩ := V.T.drop_some (t := fa) (i := j) (by rw [HF.out]; exact hlt)
            obtain ⟨b1, o1, v1, u1, rfl, E1⟩ := (HA.out.2.below HR2.out.1.below).elem (by rw [HF.out]; exact hlt) hd1
            have e0 := E1.name rfl
            have e1 := E1.kind
            have e2 := E1.text
            have e3 := E1.list
            have e4 := E1.fields
            simp only [Nat.reduceAdd] at e0 e1 e2 e3 e4
            have HL := Lib.hid hlt
            have D1 := Lib.hid hd1
            clear hd1
            have lb1 : b1 < w.heap.size := by
              obtain ⟨b, o, c, e, _, _, hh⟩ := HA.out.2.at (by rw [HF.out]; exact HL.out)
              cases e
              have := HR.drop j fa 1 b1 o1 hh
              rw [D1.out] at this
              exact World.block_lt_of_cell? w _ this.2.2.2.1
            have IH := fun W (hB : Below wr.heap.size wr W) => ih k1 x1 v1 u1 l1 f1 A W (by have := V.T.drop_size D1.out; have := HN.out; omega) (by have := V.T.drop_size D1.out; have := HN.out; omega) (E1.hl.below hB) (E1.hf.below hB)
            have hn2 : (j + 1) * 88 ≤ 140737488355328 := by have := V.T.len_size fa; have := HN.out; have := HF.out; have := HL.out; omega
            have hn1 : j + 1 ≤ maxLen := by unfold maxLen; omega
            have hown := HR2.out.1.own
            obtain ⟨i1, hi1, hy0, hy1, hy2⟩ := info_parts infoField
            go_upto_block 3 with fail
            go_cut [] (fun wx => Hid (∃ u xs, TwSt w 25 (.int .u8 ka) (.string xa) (.slice pa i ca) (.slice (some ⟨b1, o1, none⟩) ma da) (.int .u8 ka) (.string xa) (.slice pv la.len cv) u 80 1 u fa wo.heap.size (j + 1) xs wx ∧ HS wx (fun b => w.heap.size + 3 ≤ b ∧ b < wo.heap.size) 0 (.slice pv la.len cv) la))
            case first =>
              go_wp2_with fail
              have HS0 := Lib.hid (show TwS w.heap.size b1 (o1 + j * 5) (.slice (some ⟨b1, o1, none⟩) ma da) v nm1 k1 x1 v1 u1 wr.drew from ⟨c3, d3, e0, e1, e2, e3, e4⟩)
              refine wp_region_last (S := TwS w.heap.size b1 (o1 + j * 5) (.slice (some ⟨b1, o1, none⟩) ma da) v nm1 k1 x1 v1 u1) (z := 19) (by kernel_rfl) ?_
              refine wpAnyZ_take (v := ?_) 0 rfl (by kernel_rfl) (by kernel_rfl) (by kernel_rfl) (fun _ _ _ h => h) (by kernel_rfl) (by kernel_rfl) (by decide) HS0.out (by rfl) (fun W hSW => ?_) ?_
              rotate_left
              · obtain ⟨s1, s2, s3, s4, s5, s6, s7⟩ := hSW
                go_simp
                try with_reducible rfl
              try simp only [Act.put, List.setIfInBounds_toArray, List.set_cons_zero, List.set_cons_succ]
              refine wpAnyZ_take (v := ?_) 1 rfl (by kernel_rfl) (by kernel_rfl) (by kernel_rfl) (fun _ _ _ h => h) (by kernel_rfl) (by kernel_rfl) (by decide) HS0.out (by rfl) (fun W hSW => ?_) ?_
              rotate_left
              · obtain ⟨s1, s2, s3, s4, s5, s6, s7⟩ := hSW
                go_simp
                try with_reducible rfl
              try simp only [Act.put, List.setIfInBounds_toArray, List.set_cons_zero, List.set_cons_succ]
              refine wpAnyZ_take (v := ?_) 2 rfl (by kernel_rfl) (by kernel_rfl) (by kernel_rfl) (fun _ _ _ h => h) (by kernel_rfl) (by kernel_rfl) (by decide) HS0.out (by rfl) (fun W hSW => ?_) ?_
              rotate_left
              · obtain ⟨s1, s2, s3, s4, s5, s6, s7⟩ := hSW
                go_simp
                try with_reducible rfl
              try simp only [Act.put, List.setIfInBounds_toArray, List.set_cons_zero, List.set_cons_succ]
              refine wpAnyZ_take (v := ?_) 3 rfl (by kernel_rfl) (by kernel_rfl) (by kernel_rfl) (fun _ _ _ h => h) (by kernel_rfl) (by kernel_rfl) (by decide) HS0.out (by rfl) (fun W hSW => ?_) ?_
              rotate_left
              · obtain ⟨s1, s2, s3, s4, s5, s6, s7⟩ := hSW
                go_simp
                try with_reducible rfl
              try simp only [Act.put, List.setIfInBounds_toArray, List.set_cons_zero, List.set_cons_succ]
              refine wpAnyZ_take (v := ?_) 4 rfl (by kernel_rfl) (by kernel_rfl) (by kernel_rfl) (fun _ _ _ h => h) (by kernel_rfl) (by kernel_rfl) (by decide) HS0.out (by rfl) (fun W hSW => ?_) ?_
              rotate_left
              · obtain ⟨s1, s2, s3, s4, s5, s6, s7⟩ := hSW
                go_simp
                try with_reducible rfl
              try simp only [Act.put, List.setIfInBounds_toArray, List.set_cons_zero, List.set_cons_succ]
              refine wpAnyZ_take (v := ?_) 5 rfl (by kernel_rfl) (by kernel_rfl) (by kernel_rfl) (fun _ _ _ h => h) (by kernel_rfl) (by kernel_rfl) (by decide) HS0.out (by rfl) (fun W hSW => ?_) ?_
              rotate_left
              · obtain ⟨s1, s2, s3, s4, s5, s6, s7⟩ := hSW
                go_simp
                try with_reducible rfl
              try simp only [Act.put, List.setIfInBounds_toArray, List.set_cons_zero, List.set_cons_succ]
              refine wpAnyZ_take (v := ?_) 6 rfl (by kernel_rfl) (by kernel_rfl) (by kernel_rfl) (fun _ _ _ h => h) (by kernel_rfl) (by kernel_rfl) (by decide) HS0.out (by rfl) (fun W hSW => ?_) ?_
              rotate_left
              · obtain ⟨s1, s2, s3, s4, s5, s6, s7⟩ := hSW
                go_simp
                try with_reducible rfl
              try simp only [Act.put, List.setIfInBounds_toArray, List.set_cons_zero, List.set_cons_succ]
              refine wpAnyZ_take (v := ?_) 7 rfl (by kernel_rfl) (by kernel_rfl) (by kernel_rfl) (fun _ _ _ h => h) (by kernel_rfl) (by kernel_rfl) (by decide) HS0.out (by rfl) (fun W hSW => ?_) ?_
              rotate_left
              · obtain ⟨s1, s2, s3, s4, s5, s6, s7⟩ := hSW
                go_simp
                try with_reducible rfl
              try simp only [Act.put, List.setIfInBounds_toArray, List.set_cons_zero, List.set_cons_succ]
              refine wpAnyZ_take (v := ?_) 8 rfl (by kernel_rfl) (by kernel_rfl) (by kernel_rfl) (fun _ _ _ h => h) (by kernel_rfl) (by kernel_rfl) (by decide) HS0.out (by rfl) (fun W hSW => ?_) ?_
              rotate_left
              · obtain ⟨s1, s2, s3, s4, s5, s6, s7⟩ := hSW
                go_simp
                try with_reducible rfl
              try simp only [Act.put, List.setIfInBounds_toArray, List.set_cons_zero, List.set_cons_succ]
              refine wpAnyZ_take (v := ?_) 9 rfl (by kernel_rfl) (by kernel_rfl) (by kernel_rfl) (fun _ _ _ h => h) (by kernel_rfl) (by kernel_rfl) (by decide) HS0.out (by rfl) (fun W hSW => ?_) ?_
              rotate_left
              · obtain ⟨s1, s2, s3, s4, s5, s6, s7⟩ := hSW
                go_simp
                try with_reducible rfl
              try simp only [Act.put, List.setIfInBounds_toArray, List.set_cons_zero, List.set_cons_succ]
              refine wpAnyZ_take (v := ?_) 10 rfl (by kernel_rfl) (by kernel_rfl) (by kernel_rfl) (fun _ _ _ h => h) (by kernel_rfl) (by kernel_rfl) (by decide) HS0.out (by rfl) (fun W hSW => ?_) ?_
              rotate_left
              · obtain ⟨s1, s2, s3, s4, s5, s6, s7⟩ := hSW
                go_simp
                try with_reducible rfl
              try simp only [Act.put, List.setIfInBounds_toArray, List.set_cons_zero, List.set_cons_succ]
              refine wpAnyZ_take (v := ?_) 11 rfl (by kernel_rfl) (by kernel_rfl) (by kernel_rfl) (fun _ _ _ h => h) (by kernel_rfl) (by kernel_rfl) (by decide) HS0.out (by rfl) (fun W hSW => ?_) ?_
              rotate_left
              · obtain ⟨s1, s2, s3, s4, s5, s6, s7⟩ := hSW
                go_simp
                try with_reducible rfl
              try simp only [Act.put, List.setIfInBounds_toArray, List.set_cons_zero, List.set_cons_succ]
              refine wpAnyZ_take (v := ?_) 12 rfl (by kernel_rfl) (by kernel_rfl) (by kernel_rfl) (fun _ _ _ h => h) (by kernel_rfl) (by kernel_rfl) (by decide) HS0.out (by rfl) (fun W hSW => ?_) ?_
              rotate_left
              · obtain ⟨s1, s2, s3, s4, s5, s6, s7⟩ := hSW
                go_simp
                try with_reducible rfl
              try simp only [Act.put, List.setIfInBounds_toArray, List.set_cons_zero, List.set_cons_succ]
              refine wpAnyZ_take (v := ?_) 13 rfl (by kernel_rfl) (by kernel_rfl) (by kernel_rfl) (fun _ _ _ h => h) (by kernel_rfl) (by kernel_rfl) (by decide) HS0.out (by rfl) (fun W hSW => ?_) ?_
              rotate_left
              · obtain ⟨s1, s2, s3, s4, s5, s6, s7⟩ := hSW
                go_simp
                try with_reducible rfl
              try simp only [Act.put, List.setIfInBounds_toArray, List.set_cons_zero, List.set_cons_succ]
              refine wpAnyZ_op 14 (by kernel_rfl) rfl (fun K hK => ?_)
              go_simp
              go_at_call 9
              (with_reducible refine (IH _ (Below.refl _ _).drew).mono ?_)
              rintro e w1 ⟨v2, u2, rfl, hl1, hf1, hB1⟩
              obtain ⟨p3, c5, rfl, -⟩ := hl1.len
              obtain ⟨p4, c4, rfl, -⟩ := hf1.len
              have hB2 := Lib.hid ((Below.refl wr.heap.size wr).drew.trans hB1)
              have hz6 := Nat.le_trans hsz hB2.out.size
              have hown1 := ownsRow_below hown hB2.out
              have H1 := Lib.hid (And.intro hl1 hf1)
              have HS1 := Lib.hid (HS0.out.below hB1)
              clear hl1 hf1 hB1
              refine hK.out _ _ HS1.out ?_
              try simp only [Act.put, List.setIfInBounds_toArray, List.set_cons_zero, List.set_cons_succ]
              clear hK K
              refine wpAnyZ_take (v := ?_) 15 rfl (by kernel_rfl) (by kernel_rfl) (by kernel_rfl) (fun _ _ _ h => h) (by kernel_rfl) (by kernel_rfl) (by decide) HS1.out (by rfl) (fun W hSW => ?_) ?_
              rotate_left
              · obtain ⟨s1, s2, s3, s4, s5, s6, s7⟩ := hSW
                go_simp
                try with_reducible rfl
              try simp only [Act.put, List.setIfInBounds_toArray, List.set_cons_zero, List.set_cons_succ]
              refine wpAnyZ_op 16 (by kernel_rfl) rfl (fun K hK => ?_)
              go_simp
              have HS2 := Lib.hid (HS1.out.alloc (.cells #[.string nm1, .int .u8 k1, .string x1, .slice p3 l1.len c5, .slice p4 f1.len c4] 80))
              refine hK.out _ _ HS2.out ?_
              try simp only [Act.put, List.setIfInBounds_toArray, List.set_cons_zero, List.set_cons_succ]
              clear hK K
              refine wpAnyZ_op 17 (by kernel_rfl) rfl (fun K hK => ?_)
              refine step_append_lies _ (by rfl) _ _ _ (by rfl) wo.heap.size 80 i1 _ 5 88 Tryz.underlying23 hi1 hy0 hy1 hy2 rfl (by omega) v j xs (by rfl) (hown1.alloc _) ⟨w1.heap.size, 0, none⟩ 1 1 [.string nm1, .int .u8 k1, .string x1, .slice p3 l1.len c5, .slice p4 f1.len c4] (by rfl) (by rfl) (World.news_of_block (cs := #[.string nm1, .int .u8 k1, .string x1, .slice p3 l1.len c5, .slice p4 f1.len c4]) (t := 80) (fr := (0, 0)) (heap_alloc_new w1 _)) (by simp [Value.oneCell']) (by omega) hn1 hn2 (by simp; omega) (w1.heap.size + 1) (by simp) ?_
              intro gg cap w2 hown2 hgrow hat hlt2
              have hK2 := Lib.hid (tw_after hown (Nat.le_refl _) hsz hB2.out hgrow)
              have d6 := (hK2.out.cell (p := ⟨w.heap.size + 1 + 1, 3, none⟩) (show w.heap.size + 1 + 1 < wo.heap.size by omega)).trans d3
              have f6 := (hK2.out.frozen (p := ⟨w.heap.size + 1 + 1, 3, none⟩) (show w.heap.size + 1 + 1 < wo.heap.size by omega)).trans f4
              have HG := Lib.hid (And.intro hown2 (And.intro hgrow hat))
              have HS3 := Lib.hid (show TwS w.heap.size b1 (o1 + j * 5) (.slice (some ⟨b1, o1, none⟩) ma da) v nm1 k1 x1 v1 u1 w2 from HS0.out.below2 (hK2.out) lb1 hb3)
              clear hown2 hgrow hat
              refine hK.out _ _ HS3.out ?_
              try simp only [Act.put, List.setIfInBounds_toArray, List.set_cons_zero, List.set_cons_succ]
              clear hK K
              refine wpAnyZ_take (v := ?_) 18 rfl (by kernel_rfl) (by kernel_rfl) (by kernel_rfl) (fun _ _ _ h => h) (by kernel_rfl) (by kernel_rfl) (by decide) HS3.out (by rfl) (fun W hSW => ?_) ?_
              rotate_left
              · obtain ⟨s1, s2, s3, s4, s5, s6, s7⟩ := hSW
                go_simp
                try with_reducible rfl
              try simp only [Act.put, List.setIfInBounds_toArray, List.set_cons_zero, List.set_cons_succ]
              refine wpAnyZ_end (by kernel_rfl) rfl (by kernel_rfl) (fun K hK => ?_)
              go_simp
              refine hK.out _ _ ?_
              clear hK K
              go_wp2_with fail
              go_simp
              go_meet
              exact Lib.hid ⟨_, _, HR2.out.1.step hB2.out HG.out.2.1 HG.out.1 (HR2.out.1.row1 D1.out E1.small hB2.out H1.out.1 H1.out.2 HG.out.2.1 HG.out.2.2) (fun hh => hh.set3 _), HR2.out.2.imp (fun _ a _ => a) (fun b hb _ => tw_frame hown hsz hB2.out HG.out.2.1 b hb.2 (by have := hb.1; omega))⟩
            case rest =>
            have HC := hcut
            clear hcut e0 e1 e2 e3 e4 d3 hown hsz
            go_wp2_with fail
            go_roundw
            case rel => exact ⟨j + 1, by go_num, HL.out, HC⟩
            case measure => have := HL.out; simp [RowKit.intOf]; omega
          · obtain rfl : j = ma := by omega
            have hr := HR2.out.1.row
            have ho := HR2.out.1.own
            rw [← HF.out] at hr ho
            have hS2 := RP.slice hr ho (Nat.le_refl _) (by have := V.T.len_size fa; have := HN.out; omega)
            obtain ⟨pu, cu, rfl, -⟩ := hS2.len
            have HS2 := Lib.hid hS2
            clear hr ho hS2
            go_wp2_with fail
            obtain ⟨g1, g2, g3⟩ := HR2.out.1.res.all (.int .u8 ka) (.string xa) (.slice pv la.len cv) (.slice pu fa.len cu)
            have g4 := set4_else wr (w.heap.size + 1) (.int .u8 ka) (.string xa) (.slice pv la.len cv) (.slice pu fa.len cu)
            generalize (((wr.setCell ⟨w.heap.size + 1, 0, none⟩ (.int .u8 ka)).setCell ⟨w.heap.size + 1, 1, none⟩ (.string xa)).setCell ⟨w.heap.size + 1, 2, none⟩ (.slice pv la.len cv)).setCell ⟨w.heap.size + 1, 3, none⟩ (.slice pu fa.len cu) = W' at *
            obtain ⟨x0, x1, x2, x3⟩ := g1.box
            refine bodyPost_ret (v := .agg #[.int .u8 ka, .string xa, .slice pv la.len cv, .slice pu fa.len cu]) (by simp [results, Tryz.results9, go_sem, x0, x1, x2, x3]) rfl ⟨_, _, rfl, ?_, ?_, ?_⟩
            · exact HR2.out.2.imp (fun b hb _ => by have := hb.1; omega) (fun b hb _ => g4 b (by have := hb.1; omega))
            · exact HS2.out.imp (fun b hb _ => by omega) (fun b hb _ => g4 b (by omega))
            · exact HR2.out.1.below.trans (g3 _ (Nat.le_succ _))
end Go.Proofs.YtoolkaahjmnjeaaGreatDoor
