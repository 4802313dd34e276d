/- Changes done one behind the other, walked. Conditions: at most 64 changes; the library's tables. -/
import Derived.Test.YtjeopabnddekgaaDoorME45
import Derived.Test.YtjeopabnddekgaaDoorME17
namespace Go.Proofs.YtjeopabnddekgaaDoor
open Go Go.RowKit Go.Shelf Go.Lib

attribute [local go_sem] Oper.semAt_some
theorem four_newE (w : World) (a b c d : Obj) : ((((w.alloc a).alloc b).alloc c).alloc d).heap[w.heap.size]? = some a ∧ ((((w.alloc a).alloc b).alloc c).alloc d).heap[w.heap.size + 1]? = some b ∧ ((((w.alloc a).alloc b).alloc c).alloc d).heap[w.heap.size + 1 + 1]? = some c ∧ ((((w.alloc a).alloc b).alloc c).alloc d).heap[w.heap.size + 1 + 1 + 1]? = some d ∧ ((((w.alloc a).alloc b).alloc c).alloc d).heap.size = w.heap.size + 1 + 1 + 1 + 1 := by
  have h : ((((w.alloc a).alloc b).alloc c).alloc d).heap = (((w.heap.push a).push b).push c).push d := rfl
  rw [h]
  refine ⟨?_, ?_, ?_, ?_, by simp⟩ <;> simp only [Array.getElem?_push, Array.size_push] <;> (repeat (first | rw [if_pos rfl] | rw [if_pos trivial] | rw [if_neg (by omega)]))
theorem three_newE (w : World) (a b c : Obj) : (((w.alloc a).alloc b).alloc c).heap[w.heap.size]? = some a ∧ (((w.alloc a).alloc b).alloc c).heap[w.heap.size + 1]? = some b ∧ (((w.alloc a).alloc b).alloc c).heap[w.heap.size + 1 + 1]? = some c := by
  have h : (((w.alloc a).alloc b).alloc c).heap = ((w.heap.push a).push b).push c := rfl
  rw [h]
  refine ⟨?_, ?_, ?_⟩ <;> simp only [Array.getElem?_push, Array.size_push] <;> (repeat (first | rw [if_pos rfl] | rw [if_pos trivial] | rw [if_neg (by omega)]))
theorem keeps_belowE {W W' : World} (h : Below W.heap.size W W') : KeepsOthers W W' := ⟨h.size, fun k o hk _ => (h.block k (Array.getElem?_eq_some_iff.1 hk).1).trans hk⟩
def doE (x : ByteArray) (l : List ChE) : Int := if 64 < l.length then 4 else (Ed.runD x l).E
/-- what Do answers -/
def DoR (x : ByteArray) (l : List ChE) (w : World) (en : Ending) (w' : World) : Prop := Below w.heap.size w w' ∧ ((doE x l = 0 ∧ ∃ v t u, en = .returned (.tuple #[v, u, .int .i64 0]) ∧ RopeAt w' v t ∧ t.tx = (Ed.runD x l).y ∧ w'.ownsRow w.heap.size 63 3 u l.length (edCells (Ed.runD x l).es)) ∨ (¬ doE x l = 0 ∧ en = .returned (.tuple #[.pointer none, .slice none 0 0, .int .i64 (doE x l)])))
/-- a round's state -/
def DoZ (w : World) (B9 b : Nat) (z : Option Addr) (cap : Nat) (L : List ChE) (t : R.T) (i : Nat) (a' : Act) (W : World) : Prop := ∃ c B10, L[i]? = some c ∧ DoI w B9 (B9 + 1) (B9 + 1 + 1) z cap L t.tx i W ∧ B9 + 1 + 1 < B10 ∧ EditRow W B10 (Ed.ofX (Ed.runD t.tx (L.take i)).y c).1.f (Ed.ofX (Ed.runD t.tx (L.take i)).y c).1.k (Ed.ofX (Ed.runD t.tx (L.take i)).y c).1.s ∧ a' = { tmps := #[.pointer (some ⟨b, 0, none⟩), .slice z L.length cap, undef, undef, .pointer (some ⟨w.heap.size, 0, none⟩), .pointer (some ⟨w.heap.size + 1, 0, none⟩), .pointer (some ⟨w.heap.size + 1 + 1, 0, none⟩), .pointer (some ⟨w.heap.size + 1 + 1 + 1, 0, none⟩), .func (.func 62) #[] #[.pointer (some ⟨w.heap.size + 1 + 1 + 1, 0, none⟩)], .pointer (some ⟨B9, 0, none⟩), .pointer (some ⟨B10, 0, none⟩), .int .i64 (Ed.ofX (Ed.runD t.tx (L.take i)).y c).2, .pointer (some ⟨b, 0, none⟩), .bool false, .slice z L.length cap, .int .i64 L.length, .bool (decide (64 < (L.length : Int))), .pointer (some ⟨b, 0, none⟩), .func (.func 62) #[] #[.pointer (some ⟨w.heap.size + 1 + 1 + 1, 0, none⟩)], .slice z L.length cap, .int .i64 L.length, .slice (some ⟨w.heap.size + 1 + 1 + 1 + 1, 0, none⟩) 0 L.length, .slice z L.length cap, .func (.func 62) #[] #[.pointer (some ⟨w.heap.size + 1 + 1 + 1, 0, none⟩)], .func (.func 87) #[] #[.pointer (some ⟨B9 + 1, 0, none⟩), .pointer (some ⟨B9 + 1 + 1, 0, none⟩)], .agg #[.int .i64 (Ed.ofX (Ed.runD t.tx (L.take i)).y c).1.f, .int .i64 (Ed.ofX (Ed.runD t.tx (L.take i)).y c).1.k, .string (Ed.ofX (Ed.runD t.tx (L.take i)).y c).1.s], .int .i64 (Ed.ofX (Ed.runD t.tx (L.take i)).y c).2, undef, undef, undef, undef, undef, undef, undef, undef, undef, undef, undef, undef, undef, undef, undef, undef, undef, undef, undef, undef, undef, undef], defers := [] }
set_option maxHeartbeats 8000000 in
set_option maxRecDepth 100000 in
theorem doMany_any (v : Value) (t : R.T) (z : Option Addr) (cap : Nat) (L : List ChE) (w : World) (h : RopeAt w v t) (hs : t.tx.size ≤ 16384) (hL : L.length ≤ 64) (hz : ∀ (j : Nat) (c : ChE), L[j]? = some c → ChAt w z j c) (hc : ∀ c ∈ L, Ed.Ch6 c) (hT : Tabs w) :
    Calls Tryd.prog 28 #[v, .slice z L.length cap] w (DoR t.tx L w) := by
  obtain ⟨i0, hi0, hz0, hz1, hz2⟩ := info_partsE infoEd
  obtain ⟨b, rv, rfl, hb, hn, ht⟩ := h
  refine (callsIn_wide (n := 5)).1 ?_
  refine callsIn_of_wp_marks Tryd.func28 rfl trivial ?_ rfl
  simp only [Tryd.ntmps28, List.size_toArray, List.length_cons, List.length_nil, Nat.reduceAdd, Nat.reduceSub, Array.replicate_succ, Array.replicate_zero, List.push_toArray, List.append_toArray, List.nil_append, List.cons_append]
  have hl64 : (L.length : Int) ≤ 64 := by omega
  have HR := Lib.hid (show RopeAt w (.pointer (some ⟨b, 0, none⟩)) t from ⟨b, rv, rfl, hb, hn, ht⟩)
  have HZ := Lib.hid (And.intro hz (And.intro hc (And.intro hs (And.intro hL hT))))
  clear hb hn ht hz hc hs hT
  have hB4 := below_al (below_al (below_al (below_al (Below.refl w.heap.size w) (.cells #[.pointer none] 24)) (.cells #[.slice none 0 0] 55)) (.cells #[.int .i64 0] 25)) (.cells #[.pointer (some ⟨b, 0, none⟩)] 24)
  have hn4 := four_newE w (.cells #[.pointer none] 24) (.cells #[.slice none 0 0] 55) (.cells #[.int .i64 0] 25) (.cells #[.pointer (some ⟨b, 0, none⟩)] 24)
  have H4 := Lib.hid (And.intro hB4 hn4)
  clear hB4 hn4
  gi_wp2_with (gi_at_make; refine wpListIn_make_own _ rfl _ _ 55 rfl (w.heap.size + 1 + 1 + 1 + 1) 63 i0 _ 3 Tryd.underlying55 hi0 hz0 hz1 .i64 .i64 _ L.length rfl rfl rfl (by rw [hz2]; omega) (by unfold maxLen; omega) (by simp only [World.size_alloc]; omega) ?_; intro w5 own5 grow5)
  generalize (((w.alloc (.cells #[.pointer none] 24)).alloc (.cells #[.slice none 0 0] 55)).alloc (.cells #[.int .i64 0] 25)).alloc (.cells #[.pointer (some ⟨b, 0, none⟩)] 24) = W4 at *
  refine ⟨trivial, (callsIn_wide.2 (eachE_any z L.length cap (w.heap.size + 1 + 1 + 1) _)).mono ?_⟩
  rintro e w' ⟨rfl, rfl⟩
  rw [H4.out.2.2.2.2.2] at own5
  have hB5 : Below W4.heap.size W4 w5 := (Below.refl W4.heap.size W4).grown grow5 (Nat.le_refl _) (fun k hk => by cases hk)
  have hn3 := three_newE w5 (.cells #[.slice (some ⟨w.heap.size + 1 + 1 + 1 + 1, 0, none⟩) 0 L.length] 55) (.cells #[.slice z L.length cap] 53) (.cells #[.func (.func 62) #[] #[.pointer (some ⟨w.heap.size + 1 + 1 + 1, 0, none⟩)]] 110)
  have hB3 := below_al (below_al (below_al (Below.refl w5.heap.size w5) (.cells #[.slice (some ⟨w.heap.size + 1 + 1 + 1 + 1, 0, none⟩) 0 L.length] 55)) (.cells #[.slice z L.length cap] 53)) (.cells #[.func (.func 62) #[] #[.pointer (some ⟨w.heap.size + 1 + 1 + 1, 0, none⟩)]] 110)
  have hB53 := hB5.trans (hB3.mono hB5.size)
  have hz5 : w.heap.size + 1 + 1 + 1 + 1 ≤ w5.heap.size := by have := H4.out.2.2.2.2.2; have := hB5.size; omega
  have hD0 : DoI w w5.heap.size (w5.heap.size + 1) (w5.heap.size + 1 + 1) z cap L t.tx 0 (((w5.alloc (.cells #[.slice (some ⟨w.heap.size + 1 + 1 + 1 + 1, 0, none⟩) 0 L.length] 55)).alloc (.cells #[.slice z L.length cap] 53)).alloc (.cells #[.func (.func 62) #[] #[.pointer (some ⟨w.heap.size + 1 + 1 + 1, 0, none⟩)]] 110)) := by
    have hbel := H4.out.1.trans (hB53.mono H4.out.1.size)
    have hk : ∀ k o, k < W4.heap.size → W4.heap[k]? = some o → (((w5.alloc (.cells #[.slice (some ⟨w.heap.size + 1 + 1 + 1 + 1, 0, none⟩) 0 L.length] 55)).alloc (.cells #[.slice z L.length cap] 53)).alloc (.cells #[.func (.func 62) #[] #[.pointer (some ⟨w.heap.size + 1 + 1 + 1, 0, none⟩)]] 110)).heap[k]? = some o := fun k o hk h => (hB53.block k hk).trans h
    have hs4 := H4.out.2.2.2.2.2
    refine ⟨hbel, Nat.zero_le _, rfl, HZ.out.2.2.1, ⟨_, t, hk _ _ (by omega) H4.out.2.2.2.2.1, HR.out.below hbel, rfl⟩, ⟨_, hn3.1, owns_ck own5 (CK.below hB3)⟩, hk _ _ (by omega) H4.out.2.1, hk _ _ (by omega) H4.out.2.2.1, hk _ _ (by omega) H4.out.2.2.2.1, hn3.2.1, hn3.2.2⟩
  have HD0 := Lib.hid hD0
  have HS5 := Lib.hid hz5
  clear hD0 own5 hB5 hn3 hB3 hB53 hz5 grow5
  gi_wp2
  generalize ((w5.alloc (.cells #[.slice (some ⟨w.heap.size + 1 + 1 + 1 + 1, 0, none⟩) 0 L.length] 55)).alloc (.cells #[.slice z L.length cap] 53)).alloc (.cells #[.func (.func 62) #[] #[.pointer (some ⟨w.heap.size + 1 + 1 + 1, 0, none⟩)]] 110) = W0 at *
  generalize w5.heap.size = B9 at *
  have hwW : w.heap.size ≤ W0.heap.size := HD0.out.bel.size
  refine wpIn_range_st rfl (by decide) (gf := 87) (lb := #[.pointer (some ⟨B9 + 1, 0, none⟩), .pointer (some ⟨B9 + 1 + 1, 0, none⟩)]) rfl trivial (enters_of Tryd.func87 (by kernel_rfl) rfl) rfl L.length
    (fun W => W.cell? ⟨B9 + 1, 0, none⟩ = some (.slice z L.length cap) ∧ W.cell? ⟨B9 + 1 + 1, 0, none⟩ = some (.func (.func 62) #[] #[.pointer (some ⟨w.heap.size + 1 + 1 + 1, 0, none⟩)]) ∧ ∀ (j : Nat) (c : ChE), L[j]? = some c → ChAt W z j c)
    (fun i W R => ∀ c : ChE, L[i]? = some c → Calls Tryd.prog 62 #[.agg #[.bool c.r, .int .i64 c.a, .int .i64 c.b, .int .i64 c.c, .int .i64 c.d, .string c.s], .pointer (some ⟨w.heap.size + 1 + 1 + 1, 0, none⟩)] W fun e W1 => ∃ d er, e = .returned (.tuple #[d, er]) ∧ R d er W1)
    (fun l J Jx W hHd hA hY h0 => eachE1_in (5 - 1) l (B9 + 1) (B9 + 1 + 1) (w.heap.size + 1 + 1 + 1) cap (by decide) z L (by omega) J Jx (fun i W h => hHd i W h) hA (fun i c W hj hJ => hY i W (List.getElem?_eq_some_iff.1 hj).1 hJ c hj) W h0)
    (fun i W R R' hRR h c hj => (h c hj).mono (fun e W1 ⟨d, er, he, hr⟩ => ⟨d, er, he, hRR d er W1 hr⟩))
    (DoI w B9 (B9 + 1) (B9 + 1 + 1) z cap L t.tx) (DoX w (Ed.runD t.tx L).E) (doI_own w _ _ _ _ _ _ _ _ hwW) (doX_own w _ _ hwW) (fun i W h => ⟨h.b1.cell, h.b2.cell, fun j c hj => (HZ.out.1 j c hj).below h.bel⟩) HD0.out
    (fun i d er W => DoI w B9 (B9 + 1) (B9 + 1 + 1) z cap L t.tx i W ∧ ∃ c, L[i]? = some c ∧ d = .agg #[.int .i64 (Ed.ofX (Ed.runD t.tx (L.take i)).y c).1.f, .int .i64 (Ed.ofX (Ed.runD t.tx (L.take i)).y c).1.k, .string (Ed.ofX (Ed.runD t.tx (L.take i)).y c).1.s] ∧ er = .int .i64 (Ed.ofX (Ed.runD t.tx (L.take i)).y c).2)
    (fun i W hi hI c hj => by
      obtain ⟨v, t', h1, h2, h3⟩ := hI.now
      refine (do1_any c _ v t' W h1 h2 (by rw [h3]; have := hI.sz; omega) (HZ.out.2.1 c (List.mem_of_getElem? hj))).mono ?_
      rintro e W1 ⟨rfl, hB⟩
      rw [h3]
      exact ⟨_, _, rfl, ⟨hI.on hB, c, hj, rfl, rfl⟩, hB⟩)
    (DoZ w B9 b z cap L t) (fun i a' _ X Y row hs hg hr => by
      obtain ⟨c, B10, h1, h2, h3, h4, h5⟩ := hs
      have hck := CK.own hg (fun r e => (hr r e).2)
      exact ⟨c, B10, h1, h2.ck hck (below_own (Nat.le_refl _) hwW h2.bel hg hr), h3, hck.2 _ _ _ _ h4, h5⟩)
    ?assign ?body ?done ?stop
  case assign =>
    rintro l i d er W K hi hW ⟨hD, c, hj, rfl, rfl⟩ hK
    have HX := Lib.hid (show DoZ w B9 b z cap L t i { tmps := #[.pointer (some ⟨b, 0, none⟩), .slice z L.length cap, undef, undef, .pointer (some ⟨w.heap.size, 0, none⟩), .pointer (some ⟨w.heap.size + 1, 0, none⟩), .pointer (some ⟨w.heap.size + 1 + 1, 0, none⟩), .pointer (some ⟨w.heap.size + 1 + 1 + 1, 0, none⟩), .func (.func 62) #[] #[.pointer (some ⟨w.heap.size + 1 + 1 + 1, 0, none⟩)], .pointer (some ⟨B9, 0, none⟩), .pointer (some ⟨W.heap.size, 0, none⟩), .int .i64 (Ed.ofX (Ed.runD t.tx (L.take i)).y c).2, .pointer (some ⟨b, 0, none⟩), .bool false, .slice z L.length cap, .int .i64 L.length, .bool (decide (64 < (L.length : Int))), .pointer (some ⟨b, 0, none⟩), .func (.func 62) #[] #[.pointer (some ⟨w.heap.size + 1 + 1 + 1, 0, none⟩)], .slice z L.length cap, .int .i64 L.length, .slice (some ⟨w.heap.size + 1 + 1 + 1 + 1, 0, none⟩) 0 L.length, .slice z L.length cap, .func (.func 62) #[] #[.pointer (some ⟨w.heap.size + 1 + 1 + 1, 0, none⟩)], .func (.func 87) #[] #[.pointer (some ⟨B9 + 1, 0, none⟩), .pointer (some ⟨B9 + 1 + 1, 0, none⟩)], .agg #[.int .i64 (Ed.ofX (Ed.runD t.tx (L.take i)).y c).1.f, .int .i64 (Ed.ofX (Ed.runD t.tx (L.take i)).y c).1.k, .string (Ed.ofX (Ed.runD t.tx (L.take i)).y c).1.s], .int .i64 (Ed.ofX (Ed.runD t.tx (L.take i)).y c).2, undef, undef, undef, undef, undef, undef, undef, undef, undef, undef, undef, undef, undef, undef, undef, undef, undef, undef, undef, undef, undef, undef], defers := [] } (W.alloc (.cells #[.int .i64 (Ed.ofX (Ed.runD t.tx (L.take i)).y c).1.f, .int .i64 (Ed.ofX (Ed.runD t.tx (L.take i)).y c).1.k, .string (Ed.ofX (Ed.runD t.tx (L.take i)).y c).1.s] 63)) from
      ⟨c, W.heap.size, hj, hD.on ((Below.refl W.heap.size W).alloc (Nat.le_refl _) _), hD.b2.lt, heap_alloc_new _ _, rfl⟩)
    have HK := Lib.hid hK
    clear hD hK hj
    unfold DoZ at HX
    gi_wp2
    exact HK.out _ _ ((KeepsOthers.alloc _ _).from _) HX.out
  case body =>
    rintro l i a' W hi hW ⟨c, B10, hj, hD, hB10, hE, rfl⟩
    obtain ⟨v0, t', n1, n2, n3⟩ := hD.now
    obtain ⟨sv, d1, d2⟩ := hD.dn
    have hcm := HZ.out.2.1 c (List.mem_of_getElem? hj)
    have hTw := tabs_below HZ.out.2.2.2.2 hD.bel
    have hsz := hD.sz
    have hin := ofX_in (y := (Ed.runD t.tx (L.take i)).y) (c := c)
    obtain ⟨v0b, rfl⟩ : ∃ v0b, v0 = .pointer (some ⟨v0b, 0, none⟩) := by obtain ⟨b', rv', e, _⟩ := n2; exact ⟨b', e⟩
    have cC := n1.cell
    have y0 : W.cell? ⟨B10, 0, none⟩ = some (.int .i64 (Ed.ofX (Ed.runD t.tx (L.take i)).y c).1.f) := by rw [Lib.cell_of_heap hE]; rfl
    have y1 : W.cell? ⟨B10, 1, none⟩ = some (.int .i64 (Ed.ofX (Ed.runD t.tx (L.take i)).y c).1.k) := by rw [Lib.cell_of_heap hE]; rfl
    have y2 : W.cell? ⟨B10, 2, none⟩ = some (.string (Ed.ofX (Ed.runD t.tx (L.take i)).y c).1.s) := by rw [Lib.cell_of_heap hE]; rfl
    have HD := Lib.hid hD
    have HE := Lib.hid hE
    have HJ := Lib.hid hj
    have HB10 := Lib.hid hB10
    by_cases hr2 : (Ed.ofX (Ed.runD t.tx (L.take i)).y c).2 = 0
    · obtain ⟨⟨f1, f2⟩, ⟨k1, k2⟩, hs3⟩ := hin hr2
      have hsp := splice_any (.pointer (some ⟨v0b, 0, none⟩)) t' (Ed.ofX (Ed.runD t.tx (L.take i)).y c).1.f (Ed.ofX (Ed.runD t.tx (L.take i)).y c).1.k (Ed.ofX (Ed.runD t.tx (L.take i)).y c).1.s W n2 (by rw [n3]; omega) (by rw [hs3]; have := hcm.2.2.2.2; omega) ⟨by omega, by omega⟩ ⟨by omega, by omega⟩ hTw
      rw [n3] at hsp
      have HSp := Lib.hid hsp
      obtain ⟨Y, hY⟩ : ∃ Y, spT (Ed.runD t.tx (L.take i)).y (Ed.ofX (Ed.runD t.tx (L.take i)).y c).1.f (Ed.ofX (Ed.runD t.tx (L.take i)).y c).1.k (Ed.ofX (Ed.runD t.tx (L.take i)).y c).1.s = Y := ⟨_, rfl⟩
      obtain ⟨E2, hE2⟩ : ∃ E2, spE (Ed.runD t.tx (L.take i)).y (Ed.ofX (Ed.runD t.tx (L.take i)).y c).1.f (Ed.ofX (Ed.runD t.tx (L.take i)).y c).1.k (Ed.ofX (Ed.runD t.tx (L.take i)).y c).1.s = E2 := ⟨_, rfl⟩
      have hok := HD.out.ok
      have hst : Ed.stepD (Ed.runD t.tx (L.take i)) c = if E2 = 0 then ⟨0, Y, (Ed.runD t.tx (L.take i)).es ++ [(Ed.ofX (Ed.runD t.tx (L.take i)).y c).1]⟩ else ⟨E2, (Ed.runD t.tx (L.take i)).y, (Ed.runD t.tx (L.take i)).es⟩ := by
        unfold Ed.stepD; rw [if_pos hok, if_pos hr2, hE2, hY]
      have hYz : E2 = 0 → Y.size ≤ 16384 := fun h0 => by rw [← hY]; exact (sp_size (hE2.trans h0)).2.2.2.2.1
      have HSt := Lib.hid (And.intro hst hYz)
      rw [hE2, hY] at HSp
      rw [hr2]
      obtain ⟨e, he⟩ : ∃ e, (Ed.ofX (Ed.runD t.tx (L.take i)).y c).1 = e := ⟨_, rfl⟩
      rw [he] at y0 y1 y2 HSp HE HSt ⊢
      clear hin hsp hst hYz hok f1 f2 k1 k2 hs3 hsz hTw hcm hY hE2 hr2 he n2 n3 hD hE hj hB10 n1 d1 d2
      gi_wp2
      refine ⟨trivial, (CallsIn.inRound l (callsIn_wide.2 HSp.out)).mono ?_⟩
      rintro en w1 ⟨v', rfl, hB, hr'⟩
      have HD1 := Lib.hid (HD.out.on hB)
      have HE1 := Lib.hid (EditRow.below HE.out hB)
      have HKp := Lib.hid (keeps_belowE hB)
      clear cC y0 y1 y2 hB HSp
      obtain ⟨v0, t0, n1, -, -⟩ := HD1.out.now
      obtain ⟨sv, d1, d2⟩ := HD1.out.dn
      have cC := n1.cell
      have fC := n1.frozen
      rcases hr' with ⟨hE0, t2, hR2, hx2⟩ | ⟨hE0, rfl⟩
      · subst hE0
        obtain ⟨hst, hYz⟩ := HSt.out
        rw [if_pos rfl] at hst
        obtain ⟨vb, rfl⟩ : ∃ vb, v' = .pointer (some ⟨vb, 0, none⟩) := by obtain ⟨b', rv', e, _⟩ := hR2; exact ⟨b', e⟩
        have hsh : ∃ p9 c9, sv = .slice p9 i c9 := by
          rcases d2.2 with ⟨e, h0⟩ | ⟨g, cap', cur, e, _⟩
          · exact ⟨none, 0, by rw [e, h0]⟩
          · exact ⟨_, _, e⟩
        obtain ⟨p9, c9, rfl⟩ := hsh
        have HFin := Lib.hid (fun W4 u4 hg hown => doI_next (W4 := W4) (u4 := u4) HD1.out HJ.out hst (hYz rfl) hR2 hx2 (by have := HS5.out; omega) (by omega) (by omega) (cs := #[.int .i64 e.f, .int .i64 e.k, .string e.s]) d1 d2 hg hown)
        have hB9C : B9 ≠ w.heap.size + 1 + 1 + 1 := by have := HS5.out; omega
        have hB10C : B10 ≠ w.heap.size + 1 + 1 + 1 := by have := HS5.out; have := HB10.out; omega
        have e9 := (Boxed.other d1 hB9C (.pointer (some ⟨vb, 0, none⟩)))
        have e10 : EditRow (w1.setCell ⟨w.heap.size + 1 + 1 + 1, 0, none⟩ (.pointer (some ⟨vb, 0, none⟩))) B10 e.f e.k e.s := (Below.heap_setCell w1 ⟨w.heap.size + 1 + 1 + 1, 0, none⟩ _ B10 hB10C).trans HE1.out
        have x9 := e9.cell
        have x0 : (w1.setCell ⟨w.heap.size + 1 + 1 + 1, 0, none⟩ (.pointer (some ⟨vb, 0, none⟩))).cell? ⟨B10, 0, none⟩ = some (.int .i64 e.f) := by rw [Lib.cell_of_heap e10]; rfl
        have x1 : (w1.setCell ⟨w.heap.size + 1 + 1 + 1, 0, none⟩ (.pointer (some ⟨vb, 0, none⟩))).cell? ⟨B10, 1, none⟩ = some (.int .i64 e.k) := by rw [Lib.cell_of_heap e10]; rfl
        have x2 : (w1.setCell ⟨w.heap.size + 1 + 1 + 1, 0, none⟩ (.pointer (some ⟨vb, 0, none⟩))).cell? ⟨B10, 2, none⟩ = some (.string e.s) := by rw [Lib.cell_of_heap e10]; rfl
        have o3 := owns_ck (owns_set d2 n1 (by decide) (.pointer (some ⟨vb, 0, none⟩))) (CK.below ((Below.refl (w1.setCell ⟨w.heap.size + 1 + 1 + 1, 0, none⟩ (.pointer (some ⟨vb, 0, none⟩))).heap.size (w1.setCell ⟨w.heap.size + 1 + 1 + 1, 0, none⟩ (.pointer (some ⟨vb, 0, none⟩)))).alloc (Nat.le_refl _) (.cells #[.int .i64 e.f, .int .i64 e.k, .string e.s] 63)))
        have hnews : ∀ (j : Nat) (u : Value), ([.int .i64 e.f, .int .i64 e.k, .string e.s] : List Value)[j]? = some u → ((w1.setCell ⟨w.heap.size + 1 + 1 + 1, 0, none⟩ (.pointer (some ⟨vb, 0, none⟩))).alloc (.cells #[.int .i64 e.f, .int .i64 e.k, .string e.s] 63)).cell? ((⟨w1.heap.size, 0, none⟩ : Addr).add j) = some u := fun j u hu => by
          have hsz2 : (w1.setCell ⟨w.heap.size + 1 + 1 + 1, 0, none⟩ (.pointer (some ⟨vb, 0, none⟩))).heap.size = w1.heap.size := by simp [World.setCell]
          have hb := heap_alloc_new (w1.setCell ⟨w.heap.size + 1 + 1 + 1, 0, none⟩ (.pointer (some ⟨vb, 0, none⟩))) (.cells #[.int .i64 e.f, .int .i64 e.k, .string e.s] 63)
          rw [hsz2] at hb
          have hadd : (⟨w1.heap.size, 0, none⟩ : Addr).add j = ⟨w1.heap.size, j, none⟩ := by unfold Addr.add; split <;> simp_all
          rw [hadd, cell_of_row _ _ j _ _ (0, 0) hb]
          simpa using hu
        have HO := Lib.hid (And.intro o3 (And.intro hnews (And.intro (e9.alloc (.cells #[.int .i64 e.f, .int .i64 e.k, .string e.s] 63)) (show w.heap.size + 1 + 1 + 1 + 1 ≤ ((w1.setCell ⟨w.heap.size + 1 + 1 + 1, 0, none⟩ (.pointer (some ⟨vb, 0, none⟩))).alloc (.cells #[.int .i64 e.f, .int .i64 e.k, .string e.s] 63)).heap.size by rw [World.size_alloc]; have := HD1.out.b2.lt; have := HS5.out; simp [World.setCell]; omega))))
        have hi64 : i < 64 := by omega
        clear hst hYz hR2 hx2 n1 d1 d2 e9 e10 hB9C hB10C o3 hnews
        gi_wp2_with (gi_at_builtin; refine wpListIn_append_own _ rfl _ _ 55 rfl (w.heap.size + 1 + 1 + 1 + 1) 63 i0 _ 3 32 Tryd.underlying55 hi0 hz0 hz1 hz2 rfl (by decide) _ i (edCells (Ed.runD t.tx (L.take i)).es) rfl HO.out.1 ⟨w1.heap.size, 0, none⟩ 1 1 [.int .i64 e.f, .int .i64 e.k, .string e.s] rfl (by rfl) HO.out.2.1 (fun u hu => by
            simp only [List.mem_cons, List.not_mem_nil, or_false] at hu
            rcases hu with rfl | rfl | rfl <;> rfl) (by unfold maxLen; omega) (by omega) HO.out.2.2.2 ?_; intro v4 w4 own4 hg4 _; obtain ⟨g4, cap4, rfl⟩ := ownsRow_succ own4; have b9 := HO.out.2.2.1.kept hg4 (HO.out.2.2.1.not_row (by decide) HO.out.1); have z9 := b9.cell; have f9 := b9.frozen; have HF := Lib.hid (HFin.out _ _ hg4 own4); clear own4 hg4 b9)
        exact ⟨((HKp.out).trans HF.out.2).from _, HF.out.1⟩
      · have hst := HSt.out.1
        rw [if_neg hE0] at hst
        have hEL : (Ed.runD t.tx L).E = E2 := by
          have h1 : Ed.runD t.tx (L.take (i + 1)) = _ := (Ed.runD_take HJ.out).trans hst
          rw [Ed.runD_stop (i := i + 1) (by rw [h1]; exact hE0), h1]
        have HX := Lib.hid (doX_mk E2 hE0 (HD1.out.bel.setCell (p := ⟨w.heap.size + 1 + 1 + 1, 0, none⟩) (by show w.heap.size ≤ w.heap.size + 1 + 1 + 1; omega) (.pointer none)) (HD1.out.r1.other (by omega) _) (HD1.out.r2.other (by omega) _) (HD1.out.r3.other (by omega) _))
        have HEL := Lib.hid hEL
        have c1 := HD1.out.r1.cell
        have g1 := HD1.out.r1.frozen
        have c2 := HD1.out.r2.cell
        have g2 := HD1.out.r2.frozen
        have c3 := HD1.out.r3.cell
        have g3 := HD1.out.r3.frozen
        clear hst hEL n1 d1 d2
        gi_wp2
        exact ⟨((HKp.out).trans ((KeepsOthers.setCell _ _ _).trans HX.out.2)).from _, by rw [HEL.out]; exact HX.out.1⟩
    · have hst : Ed.stepD (Ed.runD t.tx (L.take i)) c = ⟨(Ed.ofX (Ed.runD t.tx (L.take i)).y c).2, (Ed.runD t.tx (L.take i)).y, (Ed.runD t.tx (L.take i)).es⟩ := by
        unfold Ed.stepD; rw [if_pos HD.out.ok, if_neg hr2]
      have hEL : (Ed.runD t.tx L).E = (Ed.ofX (Ed.runD t.tx (L.take i)).y c).2 := by
        have h1 : Ed.runD t.tx (L.take (i + 1)) = _ := (Ed.runD_take HJ.out).trans hst
        rw [Ed.runD_stop (i := i + 1) (by rw [h1]; exact hr2), h1]
      have HEL := Lib.hid hEL
      generalize (Ed.ofX (Ed.runD t.tx (L.take i)).y c).2 = E2 at *
      have HX := Lib.hid (doX_mk E2 hr2 HD.out.bel HD.out.r1 HD.out.r2 HD.out.r3)
      have c1 := HD.out.r1.cell
      have g1 := HD.out.r1.frozen
      have c2 := HD.out.r2.cell
      have g2 := HD.out.r2.frozen
      have c3 := HD.out.r3.cell
      have g3 := HD.out.r3.frozen
      clear hst hEL hin hsz hTw hcm n2 n3 hD hE hj hB10 n1 d1 d2
      gi_wp2
      exact ⟨HX.out.2.from _, by rw [HEL.out]; exact HX.out.1⟩
  case done =>
    rintro D W hD hI hK
    have HI := Lib.hid hI
    obtain ⟨v0, t', n1, n2, n3⟩ := hI.now
    obtain ⟨sv, d1, d2⟩ := hI.dn
    obtain ⟨v0b, rfl⟩ : ∃ v0b, v0 = .pointer (some ⟨v0b, 0, none⟩) := by obtain ⟨b', rv', e, _⟩ := n2; exact ⟨b', e⟩
    have hsh : ∃ p9 c9, sv = .slice p9 L.length c9 := by
      rcases d2.2 with ⟨e, h0⟩ | ⟨g, cap', cur, e, _⟩
      · exact ⟨none, 0, by rw [e, h0]⟩
      · exact ⟨_, _, e⟩
    obtain ⟨p9, c9, rfl⟩ := hsh
    have HN := Lib.hid (And.intro n1 (And.intro n2 (And.intro n3 (And.intro d1 d2))))
    have HW := Lib.hid hwW
    clear hI n1 n2 n3 d1 d2
    gi_wp2
    refine wpIn_wide.2 ?_
    refine RR.wp_region_stepsP (Rl := Rl3 w (.pointer (some ⟨v0b, 0, none⟩)) (.slice p9 L.length c9)) [some 47, some 48, none, none, none] _ _ (G := fun W' => Rl3 w (.pointer (some ⟨v0b, 0, none⟩)) (.slice p9 L.length c9) W W') (F := FEn w (.pointer (some ⟨v0b, 0, none⟩)) (.slice p9 L.length c9)) (z := 4) (by kernel_rfl) rfl (by decide +kernel) rfl (by decide +kernel) (by decide +kernel) rfl (fun W W' h hB => h.trans hB) (fun i y W W' h hB => h.on hB) ?_ ?_ (Rl3.drew _ _ _ _)
    · intro i o' ho hz' a X hg hd hold K' hK'
      have HG := Lib.hid hg
      have hlt : i < 5 := (Array.getElem?_eq_some_iff.1 ho).1
      obtain rfl | rfl | rfl | rfl | rfl : i = 0 ∨ i = 1 ∨ i = 2 ∨ i = 3 ∨ i = 4 := by omega
      · obtain rfl := Option.some.inj ho
        have o7 : a.tmps[7]? = _ := (hold 7 rfl).trans rfl
        have y0 := (HG.out.else HN.out.1 (by omega) (by omega)).cell
        clear hd hold hg
        go_simp
        exact hK'.out _ _ (by rfl) (Rl3.refl _ _ _ _)
      · obtain rfl := Option.some.inj ho
        have o9 : a.tmps[9]? = _ := (hold 9 rfl).trans rfl
        have y0 := (HG.out.else HN.out.2.2.2.1 (by have := HS5.out; omega) (by have := HS5.out; omega)).cell
        clear hd hold hg
        go_simp
        exact hK'.out _ _ (by rfl) (Rl3.refl _ _ _ _)
      · obtain rfl := Option.some.inj ho
        obtain ⟨v1, e1, h1⟩ := hd 0 47 rfl (by decide +kernel) (by decide)
        have h1 : v1 = _ := h1
        subst h1
        have o4 : a.tmps[4]? = _ := (hold 4 rfl).trans rfl
        obtain ⟨y, hy⟩ := HG.out.at1 HI.out.r1
        have yc := hy.cell
        have yf := hy.frozen
        have HY := Lib.hid hy
        clear hd hold hg hy
        go_simp
        exact hK'.out undef _ (HY.out.set _) (Rl3.set1 HY.out)
      · obtain rfl := Option.some.inj ho
        obtain ⟨v1, e1, h1⟩ := hd 1 48 rfl (by decide +kernel) (by decide)
        have h1 : v1 = _ := h1
        subst h1
        have o5 : a.tmps[5]? = _ := (hold 5 rfl).trans rfl
        obtain ⟨y, hy⟩ := HG.out.at2 HI.out.r2
        have yc := hy.cell
        have yf := hy.frozen
        have HY := Lib.hid hy
        clear hd hold hg hy
        go_simp
        exact hK'.out undef _ (HY.out.set _) (Rl3.set2 HY.out)
      · exact absurd rfl hz'
    · intro a X hg hf hold hput hall K' hK'
      have HG := Lib.hid hg
      have o6 : a.tmps[6]? = _ := (hold 6 rfl).trans rfl
      have h3 := HG.out.else HI.out.r3 (by omega) (by omega)
      obtain ⟨_, f1⟩ := hall 2 (by decide) (by decide)
      obtain ⟨_, f2⟩ := hall 3 (by decide) (by decide)
      have HB := Lib.hid (And.intro (show Boxed X w.heap.size 24 (.pointer (some ⟨v0b, 0, none⟩)) from f1) (And.intro (show Boxed X (w.heap.size + 1) 55 (.slice p9 L.length c9) from f2) h3))
      have yc := h3.cell
      have yf := h3.frozen
      clear hf hold hall hg h3 f1 f2
      go_simp
      refine hK'.out _ _ ?_
      obtain ⟨rr, ha⟩ := hput.out
      clear hput o6 yc yf
      subst ha
      simp only [putL, Act.put, List.setIfInBounds_toArray, List.set_cons_zero, List.set_cons_succ]
      clear hK' K'
      gi_wp2
      have hDw : w.heap.size + 1 + 1 < D := by have := HS5.out; have := HI.out.b2.lt; have := HD0.out.b2.lt; omega
      have hKX : X.heap[D]? = some (.deferred (some [])) := (HG.out.els D (by omega) (by omega)).trans hK
      have hK3 : (X.setCell ⟨w.heap.size + 1 + 1, 0, none⟩ (.int .i64 0)).heap[D]? = some (.deferred (some [])) := (Below.heap_setCell X ⟨w.heap.size + 1 + 1, 0, none⟩ _ D (by show D ≠ w.heap.size + 1 + 1; omega)).trans hKX
      have hfin := do_fin HI.out HG.out HN.out.2.1 HN.out.2.2.2.2 hKX hDw HB.out.2.2
      rw [List.take_length] at hfin
      refine ⟨by simp, .inl ⟨_, _, rfl, run_takeDeferred hK3, ?_⟩⟩
      have k0 := cell_kept ((HB.out.1.other (B' := w.heap.size + 1 + 1) (by omega) (.int .i64 0))).cell (grownBy_putObj' _ D (.deferred none)) (fun r e => by cases e; exact ⟨_, hK3, rfl⟩)
      have k1 := cell_kept ((HB.out.2.1.other (B' := w.heap.size + 1 + 1) (by omega) (.int .i64 0))).cell (grownBy_putObj' _ D (.deferred none)) (fun r e => by cases e; exact ⟨_, hK3, rfl⟩)
      have k2 := cell_kept ((HB.out.2.2.set (.int .i64 0))).cell (grownBy_putObj' _ D (.deferred none)) (fun r e => by cases e; exact ⟨_, hK3, rfl⟩)
      refine ⟨.tuple #[.pointer (some ⟨v0b, 0, none⟩), .slice p9 L.length c9, .int .i64 0], ?_, hfin.1, .inl ⟨?_, _, t', _, rfl, hfin.2.1, ?_, hfin.2.2⟩⟩
      · simp [results, Tryd.results28, go_sem, k0, k1, k2]
      · have := HI.out.ok
        rw [List.take_length] at this
        unfold doE
        rw [if_neg (by omega)]
        exact this
      · have := HN.out.2.2.1
        rw [List.take_length] at this
        exact this
  case stop =>
    rintro D W hD hX hK
    have HX := Lib.hid hX
    clear hX
    gi_wp2
    refine ⟨by simp, .inl ⟨_, _, rfl, run_takeDeferred hK, ?_⟩⟩
    have k0 := cell_kept HX.out.r1.cell (grownBy_putObj' _ D (.deferred none)) (fun r e => by cases e; exact ⟨_, hK, rfl⟩)
    have k1 := cell_kept HX.out.r2.cell (grownBy_putObj' _ D (.deferred none)) (fun r e => by cases e; exact ⟨_, hK, rfl⟩)
    have k2 := cell_kept HX.out.r3.cell (grownBy_putObj' _ D (.deferred none)) (fun r e => by cases e; exact ⟨_, hK, rfl⟩)
    refine ⟨.tuple #[.pointer none, .slice none 0 0, .int .i64 (Ed.runD t.tx L).E], ?_, ?_⟩
    · simp [results, Tryd.results28, go_sem, k0, k1, k2]
    · refine ⟨below_own (Nat.le_refl _) hwW HX.out.bel (grownBy_putObj' W D (.deferred none)) (fun r e => by cases e; exact ⟨hD, _, hK, rfl⟩), .inr ⟨?_, ?_⟩⟩
      · unfold doE; rw [if_neg (by omega)]; exact HX.out.ne
      · unfold doE; rw [if_neg (by omega)]
end Go.Proofs.YtjeopabnddekgaaDoor
