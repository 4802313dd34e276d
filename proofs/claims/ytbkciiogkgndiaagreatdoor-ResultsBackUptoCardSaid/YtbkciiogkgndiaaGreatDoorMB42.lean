/- A list of chains. Conditions: at most 10^6 chains, of at most 10^6 ranges each; the library's table of powers. -/
import Derived.Test.YtbkciiogkgndiaaGreatDoorMB39
import Derived.Test.YtbkciiogkgndiaaGreatDoorMB41
import Derived.Test.YtbkciiogkgndiaaGreatDoorMB38
import Derived.Carry
import Derived.Lib.SmallJoins
namespace Go.Proofs.YtbkciiogkgndiaaGreatDoor
open Go Go.RowKit Go.Lib

set_option maxRecDepth 100000 in
set_option maxHeartbeats 1000000 in
theorem listCh (b o c : Nat) (l : List Ch) (w : World) (hc : l.length ≤ c ∧ c ≤ 9223372036854775807) (hn : l.length ≤ 1000000) (hb : l ≠ [] → b < w.heap.size) (hS : ∀ (j : Nat) (e : Ch), l[j]? = some e → w.cell? ⟨b, o + j, none⟩ = some (.slice e.p e.n e.c)) (hz : ∀ e ∈ l, ChOk w e) (hP : PowTab w) :
    Calls Tryz.prog 115 #[.slice (some ⟨b, o, none⟩) l.length c, .func (.func 116) #[] #[]] w (ListR (listChT l) w) := by
  have HTx := Lib.hid (fun W (hB : Below w.heap.size w W) (N : Nat) (hN : N ≤ W.heap.size) (e : Ch) (h : ChOk W e) => (show Calls Tryz.prog 116 #[.slice e.p e.n e.c] W (RetV N (chainK e.l) ⟨#[]⟩ .nil (chainT e.l) W) from chain_any e.p e.n e.c e.l N W hN h.1 h.2 (pow_below hP hB)))
  have HEl := Lib.hid (fun i (hi : i < l.length) => (show ∃ e : Ch, (∀ W, Below w.heap.size w W → ChOk W e ∧ W.cell? ⟨b, o + i, none⟩ = some (.slice e.p e.n e.c)) ∧ (listChT l).drop i = .cons ⟨#[]⟩ (chainK e.l) ⟨#[]⟩ .nil (chainT e.l) (listChT (l.drop (i + 1))) from
    ⟨l[i], fun W hB => ⟨ChOk_below hB (hz l[i] (List.getElem_mem hi)), (hB.cell (p := ⟨b, o + i, none⟩) (hb (by intro e; subst e; simp at hi))).trans (hS i _ (List.getElem?_eq_getElem hi))⟩, listChT_drop l i l[i] (List.getElem?_eq_getElem hi)⟩))
  have HE := Lib.hid (listChT_len l)
  generalize en : l.length = na at *
  have HN := Lib.hid en
  obtain ⟨i0, hi0, hz0, hz1, hz2⟩ := info_parts infoValue
  obtain ⟨M, hM⟩ : ∃ M, M = madeCells (Value.agg #[.int .u8 0, .string ⟨#[]⟩, .slice none 0 0, .slice none 0 0]).cells (((na : Nat) : Int).toNat * i0.size) := ⟨_, rfl⟩
  have hMs : M.size = na * 4 := by rw [hM, size_madeCells, hz1, Int.toNat_natCast]
  have hmk : ∀ W : World, (Instr.makeSlice 22 (.int .i64 (na : Int)) (.int .i64 (na : Int))).run Tryz.prog W = .ok (.slice (some ⟨W.heap.size, 0, none⟩) na na) (W.alloc (.cells M 25)) := fun W => by
    have h := run_make (P := Tryz.prog) W 22 25 i0 _ Tryz.underlying22 hi0 hz0 .i64 .i64 (na : Int) (na : Int) (by omega) (by omega) (by rw [hz2]; omega) (by omega)
    rw [← hM] at h
    simpa using h
  have hB0 := (Below.refl w.heap.size w).alloc (Nat.le_refl _) (.cells #[.int .u8 0, .string ⟨#[]⟩, .slice none 0 0, .slice none 0 0] 25)
  have b0 : Blk4 (w.alloc (.cells #[.int .u8 0, .string ⟨#[]⟩, .slice none 0 0, .slice none 0 0] 25)) w.heap.size 25 _ _ _ _ := heap_alloc_new _ _
  have hz0 := World.size_alloc w (.cells #[.int .u8 0, .string ⟨#[]⟩, .slice none 0 0, .slice none 0 0] 25)
  have HB := Lib.hid (And.intro b0 (And.intro hB0 hz0))
  clear hM hS hz hP en hB0 b0 hz0 hb
  go_enter Tryz.func115, Tryz.ntmps115
  go_wp2_with fail
  generalize w.alloc (.cells #[.int .u8 0, .string ⟨#[]⟩, .slice none 0 0, .slice none 0 0] 25) = w1 at *
  have hB1 := (Below.refl w1.heap.size w1).alloc (Nat.le_refl _) (.cells M 25)
  have hg : w1.heap.size = w.heap.size + 1 := HB.out.2.2
  have HC := Lib.hid (show LsSt w1 w.heap.size (w.heap.size + 1) (listChT l) 0 M (w1.alloc (.cells M 25)) from
    ⟨⟨hB1, hg ▸ heap_alloc_new _ _, by rw [hMs, HE.out], Nat.le_of_eq hg, by rw [Nat.zero_mul, List.take_zero]; exact RP.nil _ _ _ _⟩, HB.out.1.same (hB1.block _ HB.out.1.lt), HB.out.1.lt⟩)
  generalize w1.alloc (.cells M 25) = W0 at *
  have HG := Lib.hid hg
  clear hB1 hMs hmk hg
  go_loopw [13] (fun p wr => ∃ i : Nat, p = .int .i64 i ∧ i ≤ na ∧ Hid (∃ cur, LsSt w1 w.heap.size (w.heap.size + 1) (listChT l) i cur wr)) (fun p _ => na - (RowKit.intOf p).toNat)
  case atStart => exact ⟨0, rfl, Nat.zero_le _, Lib.hid ⟨_, HC.out⟩⟩
  case round =>
    obtain ⟨i, rfl, hi, HR⟩ := hrel
    obtain ⟨cur, hR⟩ := HR.out
    by_cases hlt : i < na
    · have HQ := Lib.hid hR
      clear HR hR
      have hbw := HB.out.2.1.trans (HQ.out.ca.below.mono HB.out.2.1.size)
      obtain ⟨e, e1', d1'⟩ := HEl.out i hlt
      obtain ⟨v1', e1⟩ := e1' wr hbw
      have HV1 := Lib.hid v1'
      have D1 := Lib.hid d1'
      have HL := Lib.hid hlt
      clear e1' d1' v1'
      have HW := Lib.hid hbw
      have hrow := HQ.out.ca.row
      have hgl := hrow.lt
      have hcs : i * 4 + 4 ≤ cur.size := by rw [HQ.out.ca.size, HE.out]; have := HL.out; omega
      clear hbw
      go_wp2_with fail
      go_at_call 116
      (with_reducible refine (HTx.out _ HW.out wr.heap.size (Nat.le_refl _) e HV1.out).mono ?_)
      rintro en w2 ⟨y, rfl, ⟨p1, n1, c1, q1, m1, d1, rfl, hl1, hf1⟩, hB2⟩
      have HR1 := Lib.hid (And.intro hl1 hf1)
      clear hl1 hf1
      have hr1 := hrow.same (hB2.block _ hgl)
      have q0 := hr1.cell (j := i * 4) (by omega)
      have q1 := hr1.cell (j := i * 4 + 1) (by omega)
      have q2 := hr1.cell (j := i * 4 + 2) (by omega)
      have q3 := hr1.cell (j := i * 4 + 3) (by omega)
      have z0 := hr1.free (i * 4)
      have z1 := hr1.free (i * 4 + 1)
      have z2 := hr1.free (i * 4 + 2)
      have z3 := hr1.free (i * 4 + 3)
      have HB2 := Lib.hid hB2
      clear hB2 hr1
      go_wp2_with fail
      go_roundw
      case rel => exact ⟨i + 1, by go_num, HL.out, Lib.hid ⟨_, HQ.out.step (by rw [HE.out]; exact HL.out) D1.out rfl ⟨chainK_lt _, by decide, by decide⟩ HB2.out HR1.out.1 HR1.out.2⟩⟩
      case measure => have := HL.out; simp [RowKit.intOf]; omega
    · obtain rfl : i = na := by omega
      clear HR
      have hw := CaSt.whole (by rw [HE.out]; exact hR.ca) (by rw [HE.out]; omega)
      rw [HE.out] at hw
      have hb2 := hR.box
      have HF := Lib.hid (And.intro hw (And.intro hb2 (And.intro hR.ca.below hR.lt)))
      obtain ⟨x0, x1, x2, x3⟩ := hb2.box
      have f0 := hb2.free 0
      have f1 := hb2.free 1
      have f2 := hb2.free 2
      have f3 := hb2.free 3
      clear hw hR hb2
      go_wp2_with fail
      obtain ⟨g1, g2, g3⟩ := HF.out.2.1.all (.int .u8 5) (.string ⟨#[]⟩) (.slice (some ⟨w.heap.size + 1, 0, none⟩) i i) (.slice none 0 0)
      have hw3 := set4_else wr w.heap.size (.int .u8 5) (.string ⟨#[]⟩) (.slice (some ⟨w.heap.size + 1, 0, none⟩) i i) (.slice none 0 0)
      have g3' := g3 w.heap.size (Nat.le_refl _)
      clear x0 x1 x2 x3 f0 f1 f2 f3
      generalize (((wr.setCell ⟨w.heap.size, 0, none⟩ (.int .u8 5)).setCell ⟨w.heap.size, 1, none⟩ (.string ⟨#[]⟩)).setCell ⟨w.heap.size, 2, none⟩ (.slice (some ⟨w.heap.size + 1, 0, none⟩) i i)).setCell ⟨w.heap.size, 3, none⟩ (.slice none 0 0) = w3 at *
      obtain ⟨x0, x1, x2, x3⟩ := g1.box
      refine bodyPost_ret (v := .agg #[.int .u8 5, .string ⟨#[]⟩, .slice (some ⟨w.heap.size + 1, 0, none⟩) i i, .slice none 0 0]) (by simp [results, Tryz.results115, go_sem, x0, x1, x2, x3]) rfl ?_
      have hlt := HF.out.2.2.2
      have hg := HG.out
      exact ⟨_, rfl, HF.out.1.fre (fun b hb => by omega) (fun b hb _ => hw3 b (by omega)), (HB.out.2.1.trans (HF.out.2.2.1.mono HB.out.2.1.size)).trans g3'⟩
set_option maxRecDepth 100000 in
set_option maxHeartbeats 1000000 in
theorem listCh_nil (p : Option Addr) (c : Nat) (w : World) (hc : c ≤ 9223372036854775807) :
    Calls Tryz.prog 115 #[.slice p 0 c, .func (.func 116) #[] #[]] w (ListR .nil w) := by
  obtain ⟨i0, hi0, hz0, hz1, hz2⟩ := info_parts infoValue
  obtain ⟨M, hM⟩ : ∃ M, M = madeCells (Value.agg #[.int .u8 0, .string ⟨#[]⟩, .slice none 0 0, .slice none 0 0]).cells (((0 : Nat) : Int).toNat * i0.size) := ⟨_, rfl⟩
  have hMs : M.size = 0 * 4 := by rw [hM, size_madeCells, hz1, Int.toNat_natCast]
  have hmk : ∀ W : World, (Instr.makeSlice 22 (.int .i64 0) (.int .i64 0)).run Tryz.prog W = .ok (.slice (some ⟨W.heap.size, 0, none⟩) 0 0) (W.alloc (.cells M 25)) := fun W => by
    have h := run_make (P := Tryz.prog) W 22 25 i0 _ Tryz.underlying22 hi0 hz0 .i64 .i64 ((0 : Nat) : Int) ((0 : Nat) : Int) (by omega) (by omega) (by rw [hz2]; omega) (by omega)
    rw [← hM] at h
    simpa using h
  have hB0 := (Below.refl w.heap.size w).alloc (Nat.le_refl _) (.cells #[.int .u8 0, .string ⟨#[]⟩, .slice none 0 0, .slice none 0 0] 25)
  have b0 : Blk4 (w.alloc (.cells #[.int .u8 0, .string ⟨#[]⟩, .slice none 0 0, .slice none 0 0] 25)) w.heap.size 25 _ _ _ _ := heap_alloc_new _ _
  have hz0 := World.size_alloc w (.cells #[.int .u8 0, .string ⟨#[]⟩, .slice none 0 0, .slice none 0 0] 25)
  have HB := Lib.hid (And.intro b0 (And.intro hB0 hz0))
  clear hM hB0 b0 hz0
  go_enter Tryz.func115, Tryz.ntmps115
  go_wp2_with fail
  generalize w.alloc (.cells #[.int .u8 0, .string ⟨#[]⟩, .slice none 0 0, .slice none 0 0] 25) = w1 at *
  have hB1 := (Below.refl w1.heap.size w1).alloc (Nat.le_refl _) (.cells M 25)
  have hg : w1.heap.size = w.heap.size + 1 := HB.out.2.2
  have HC := Lib.hid (show LsSt w1 w.heap.size (w.heap.size + 1) .nil 0 M (w1.alloc (.cells M 25)) from
    ⟨⟨hB1, hg ▸ heap_alloc_new _ _, by rw [hMs]; rfl, Nat.le_of_eq hg, by rw [Nat.zero_mul, List.take_zero]; exact RP.nil _ _ _ _⟩, HB.out.1.same (hB1.block _ HB.out.1.lt), HB.out.1.lt⟩)
  generalize w1.alloc (.cells M 25) = W0 at *
  have HG := Lib.hid hg
  clear hB1 hMs hmk hg
  go_loopw [13] (fun p wr => ∃ i : Nat, p = .int .i64 i ∧ i ≤ 0 ∧ Hid (∃ cur, LsSt w1 w.heap.size (w.heap.size + 1) .nil i cur wr)) (fun p _ => 0 - (RowKit.intOf p).toNat)
  case atStart => exact ⟨0, rfl, Nat.zero_le _, Lib.hid ⟨_, HC.out⟩⟩
  case round =>
    obtain ⟨i, rfl, hi, HR⟩ := hrel
    obtain ⟨cur, hR⟩ := HR.out
    obtain rfl : i = 0 := by omega
    clear HR
    have hw := CaSt.whole (t := .nil) hR.ca (by decide)
    have hb2 := hR.box
    have HF := Lib.hid (And.intro hw (And.intro hb2 (And.intro hR.ca.below hR.lt)))
    obtain ⟨x0, x1, x2, x3⟩ := hb2.box
    have f0 := hb2.free 0
    have f1 := hb2.free 1
    have f2 := hb2.free 2
    have f3 := hb2.free 3
    clear hw hR hb2
    go_wp2_with fail
    obtain ⟨g1, g2, g3⟩ := HF.out.2.1.all (.int .u8 5) (.string ⟨#[]⟩) (.slice (some ⟨w.heap.size + 1, 0, none⟩) 0 0) (.slice none 0 0)
    have hw3 := set4_else wr w.heap.size (.int .u8 5) (.string ⟨#[]⟩) (.slice (some ⟨w.heap.size + 1, 0, none⟩) 0 0) (.slice none 0 0)
    have g3' := g3 w.heap.size (Nat.le_refl _)
    clear x0 x1 x2 x3 f0 f1 f2 f3
    generalize (((wr.setCell ⟨w.heap.size, 0, none⟩ (.int .u8 5)).setCell ⟨w.heap.size, 1, none⟩ (.string ⟨#[]⟩)).setCell ⟨w.heap.size, 2, none⟩ (.slice (some ⟨w.heap.size + 1, 0, none⟩) 0 0)).setCell ⟨w.heap.size, 3, none⟩ (.slice none 0 0) = w3 at *
    obtain ⟨x0, x1, x2, x3⟩ := g1.box
    refine bodyPost_ret (v := .agg #[.int .u8 5, .string ⟨#[]⟩, .slice (some ⟨w.heap.size + 1, 0, none⟩) 0 0, .slice none 0 0]) (by simp [results, Tryz.results115, go_sem, x0, x1, x2, x3]) rfl ?_
    have hlt := HF.out.2.2.2
    have hg := HG.out
    exact ⟨_, rfl, HF.out.1.fre (fun b hb => by omega) (fun b hb _ => hw3 b (by omega)), (HB.out.2.1.trans (HF.out.2.2.1.mono HB.out.2.1.size)).trans g3'⟩

/-- chains as they lie behind a slice -/
def SrcC (w : World) (v : Value) (l : List Ch) : Prop := (l = [] ∧ ∃ p c, v = .slice p 0 c ∧ c ≤ 9223372036854775807) ∨ ∃ b o c, v = .slice (some ⟨b, o, none⟩) l.length c ∧ l.length ≤ c ∧ c ≤ 9223372036854775807 ∧ b < w.heap.size ∧ (∀ (j : Nat) (e : Ch), l[j]? = some e → w.cell? ⟨b, o + j, none⟩ = some (.slice e.p e.n e.c)) ∧ ∀ e ∈ l, ChOk w e
theorem SrcC.below {w w' : World} {v : Value} {l : List Ch} (h : SrcC w v l) (hB : Below w.heap.size w w') : SrcC w' v l := by
  rcases h with h | ⟨b, o, c, h1, h2, h3, h4, h5, h6⟩
  · exact .inl h
  · exact .inr ⟨b, o, c, h1, h2, h3, Nat.lt_of_lt_of_le h4 hB.size, fun j e hj => (hB.cell (p := ⟨b, o + j, none⟩) h4).trans (h5 j e hj), fun e he => ChOk_below hB (h6 e he)⟩
theorem listC_any (v : Value) (l : List Ch) (w : World) (h : SrcC w v l) (hn : l.length ≤ 1000000) (hP : PowTab w) :
    Calls Tryz.prog 115 #[v, .func (.func 116) #[] #[]] w (ListR (listChT l) w) := by
  rcases h with ⟨rfl, p, c, rfl, hc⟩ | ⟨b, o, c, rfl, h2, h3, h4, h5, h6⟩
  · exact listCh_nil p c w hc
  · exact listCh b o c l w ⟨h2, h3⟩ hn (fun _ => h4) h5 h6 hP
set_option maxHeartbeats 1000000 in
set_option maxRecDepth 100000 in
theorem chains_any (p : Option Addr) (n c : Nat) (l : List Ch) (N : Nat) (w : World) (hN : N ≤ w.heap.size) (h : SrcC w (.slice p n c) l) (hn : l.length ≤ 1000000) (hP : PowTab w) :
    Calls Tryz.prog 55 #[.slice p n c] w (RetV N 5 ⟨#[]⟩ (listChT l) .nil w) := by
  have hB0 := (Below.refl w.heap.size w).alloc (Nat.le_refl _) (.cells #[.int .u8 0, .string ⟨#[]⟩, .slice none 0 0, .slice none 0 0] 25)
  have b0 : Blk4 (w.alloc (.cells #[.int .u8 0, .string ⟨#[]⟩, .slice none 0 0, .slice none 0 0] 25)) w.heap.size 25 _ _ _ _ := heap_alloc_new _ _
  have HC := Lib.hid (listC_any (.slice p n c) l _ (h.below hB0) hn (pow_below hP hB0))
  have hs0 := World.size_alloc w (.cells #[.int .u8 0, .string ⟨#[]⟩, .slice none 0 0, .slice none 0 0] 25)
  have H0 := Lib.hid (And.intro b0 (And.intro hB0 hs0))
  clear hB0 b0 hs0 h hP
  go_enter Tryz.func55, Tryz.ntmps55
  go_wp2_with fail
  refine HC.out.mono ?_
  rintro e w1 ⟨v, rfl, hv, hB⟩
  obtain ⟨q, d, rfl, -⟩ := hv.len
  have b1 := H0.out.1.same (hB.block _ H0.out.1.lt)
  have H1 := Lib.hid (And.intro hv (And.intro b1 (H0.out.2.1.trans (hB.mono H0.out.2.1.size))))
  obtain ⟨x0, x1, x2, x3⟩ := b1.box
  have f0 := b1.free 0
  have f1 := b1.free 1
  have f2 := b1.free 2
  have f3 := b1.free 3
  clear hv hB b1 HC
  generalize (listChT l).len = nl at *
  go_wp2_with fail
  obtain ⟨g1, g2, g3⟩ := H1.out.2.1.all (.int .u8 5) (.string ⟨#[]⟩) (.slice q nl d) (.slice none 0 0)
  have hw3 := set4_else w1 w.heap.size (.int .u8 5) (.string ⟨#[]⟩) (.slice q nl d) (.slice none 0 0)
  have g3' := g3 w.heap.size (Nat.le_refl _)
  clear x0 x1 x2 x3 f0 f1 f2 f3
  generalize (((w1.setCell ⟨w.heap.size, 0, none⟩ (.int .u8 5)).setCell ⟨w.heap.size, 1, none⟩ (.string ⟨#[]⟩)).setCell ⟨w.heap.size, 2, none⟩ (.slice q nl d)).setCell ⟨w.heap.size, 3, none⟩ (.slice none 0 0) = w3 at *
  obtain ⟨x0, x1, x2, x3⟩ := g1.box
  refine bodyPost_ret (v := .agg #[.int .u8 5, .string ⟨#[]⟩, .slice q nl d, .slice none 0 0]) (by simp [results, Tryz.results55, go_sem, x0, x1, x2, x3]) rfl ?_
  have hz := H0.out.2.2
  exact ⟨_, rfl, VF.mk (H1.out.1.fre (fun b hb => by omega) (fun b hb _ => hw3 b (by omega))) (HS.nil _ _ _), H1.out.2.2.trans g3'⟩
end Go.Proofs.YtbkciiogkgndiaaGreatDoor

namespace Go.Proofs.YtbkciiogkgndiaaGreatDoor
open Go Go.ChangeShapes Go.WideShapes Go.ChangeAt Go.RowKit

section
variable {H : Type} {enc : TypeId × Value → H} {W : World} {base : Nat} {spare : Nat → Bool}
theorem rows_of {α : Type} {Is : List Value → Prop} (f : α → List Value) (Q : α → Prop) (his : ∀ cs, Is cs → ∃ x, cs = f x ∧ Q x) (b sz : Nat) : ∀ (n o : Nat), (∀ i, i < n → ∃ cs', W.cells? 0 ⟨b, o + i * sz, none⟩ sz = some cs' ∧ Is cs') →
    ∃ l : List α, l.length = n ∧ (∀ j x, l[j]? = some x → ∀ k u, (f x)[k]? = some u → W.cell? ⟨b, o + j * sz + k, none⟩ = some u) ∧ ∀ x ∈ l, Q x
  | 0, _, _ => ⟨[], rfl, fun j x h => by simp at h, fun x h => by simp at h⟩
  | n + 1, o, h => by
    obtain ⟨l, hl, hr, hq⟩ := rows_of f Q his b sz n (o + sz) (fun i hi => by
      have := h (i + 1) (by omega)
      rwa [show o + (i + 1) * sz = o + sz + i * sz by rw [Nat.succ_mul]; omega] at this)
    obtain ⟨cs, hc, hi⟩ := h 0 (by omega)
    obtain ⟨x, rfl, hx⟩ := his cs hi
    obtain ⟨_, hlen, hcell⟩ := World.cells?_some hc
    rw [Nat.zero_mul, Nat.add_zero] at hcell
    refine ⟨x :: l, congrArg (· + 1) hl, fun j y hj k u hu => ?_, fun y hy => ?_⟩
    · match j, hj with
      | 0, hj =>
        cases hj
        have hk := (List.getElem?_eq_some_iff.1 hu).1
        have h1 := hcell k (by omega)
        have ea : (⟨b, o, none⟩ : Addr).add k = ⟨b, o + k, none⟩ := by unfold Addr.add; split <;> simp_all
        rw [ea, hu] at h1
        rw [Nat.zero_mul, Nat.add_zero]
        exact h1
      | j + 1, hj =>
        have := hr j y hj k u hu
        rw [show o + (j + 1) * sz + k = o + sz + j * sz + k by rw [Nat.succ_mul]; omega]
        exact this
    · rcases List.mem_cons.1 hy with rfl | hy
      · exact hx
      · exact hq y hy
/-- a slice reads as these -/
def Src (W : World) {α : Type} (f : α → List Value) (sz : Nat) (Q : α → Prop) (v : Value) (l : List α) : Prop := (l = [] ∧ ∃ p c, v = .slice p 0 c ∧ c ≤ 9223372036854775807) ∨ ∃ b o c, v = .slice (some ⟨b, o, none⟩) l.length c ∧ l.length ≤ c ∧ c ≤ 9223372036854775807 ∧ b < W.heap.size ∧ (∀ j x, l[j]? = some x → ∀ k u, (f x)[k]? = some u → W.cell? ⟨b, o + j * sz + k, none⟩ = some u) ∧ ∀ x ∈ l, Q x
theorem src_of {α : Type} {e : TypeId} {sz : Nat} {fuel : Nat} {t : TypeId} {cs : List Value} {x : DataW H × List MemPlace} {Is : List Value → Prop} (f : α → List Value) (Q : α → Prop) (hf : ∀ x, (f x).length = sz) (his : ∀ cs, Is cs → ∃ x, cs = f x ∧ Q x) (ht : Tryz.prog.underlying t = some (.slice e)) (hz : Tryz.prog.cellsOf e = sz) (hsz : 0 < sz)
    (h : DataW.trod enc Tryz.prog W 0 spare true fuel t cs = some x) (hw : Rows.uptoBulk x.1 ≤ 1048576)
    (ih : ∀ n, n < fuel → ∀ cs' y, DataW.trod enc Tryz.prog W 0 spare true n e cs' = some y → Rows.uptoBulk y.1 ≤ 1048576 → Is cs') : ∃ v l, cs = [v] ∧ l.length ≤ 1048576 ∧ Src W f sz Q v l := by
  have hlen : ∀ (a : Option Addr) (n c : Nat), cs = [.slice a n c] → n ≤ 1048576 := fun a n c e1 => by
    rcases DataW.trod_slice ht h with ⟨h0, _⟩ | ⟨a', len, cap, elems, rest, m, hm, e2, rfl, _, hl, _, hle, _, _, _⟩
    · rw [h0] at e1
      cases e1
      exact Nat.zero_le _
    · rw [e2] at e1
      cases e1
      have h1 := Bulk.length_le (elems.map fun z : DataW H × List MemPlace => z.1)
      rw [List.length_map] at h1
      simp only [Rows.uptoBulk] at hw
      omega
  rcases slice_openU ht hz hsz h hw ih with rfl | ⟨a, len, cap, rfl, h1, h2, h3, h4⟩
  · exact ⟨_, [], rfl, Nat.zero_le _, .inl ⟨rfl, none, 0, rfl, Nat.zero_le _⟩⟩
  · have hl2 := hlen _ _ _ rfl
    by_cases h0 : len = 0
    · subst h0
      exact ⟨_, [], rfl, Nat.zero_le _, .inl ⟨rfl, some a, cap, rfl, h2⟩⟩
    · obtain ⟨hs, cs0, hc0, hi0⟩ := h4 0 (by omega)
      obtain ⟨l, hl, hr, hq⟩ := rows_of f Q his a.block sz len a.off (fun i hi => (h4 i hi).2)
      obtain ⟨x0, rfl, -⟩ := his cs0 hi0
      obtain ⟨_, hlen0, hcell⟩ := World.cells?_some hc0
      have hlt : a.block < W.heap.size := by
        obtain ⟨u, hu⟩ : ∃ u, (f x0)[0]? = some u := ⟨_, List.getElem?_eq_getElem (by rw [hf]; exact hsz)⟩
        have h5 := hcell 0 hsz
        rw [hu] at h5
        have h6 : ((⟨a.block, a.off + 0 * sz, none⟩ : Addr).add 0).block < W.heap.size := World.block_lt_of_cell? W _ h5
        have e6 : ((⟨a.block, a.off + 0 * sz, none⟩ : Addr).add 0).block = a.block := by unfold Addr.add; split <;> rfl
        rw [e6] at h6
        exact h6
      refine ⟨_, l, rfl, by omega, .inr ⟨a.block, a.off, cap, ?_, by omega, h2, hlt, hr, hq⟩⟩
      rw [hl]
      cases a with | mk b o s => (cases hs; rfl)
theorem cells_int : Tryz.prog.cellsOf 3 = 1 := by kernel_rfl
theorem cells_bool : Tryz.prog.cellsOf 4 = 1 := by kernel_rfl
theorem cells_ints : Tryz.prog.cellsOf 78 = 1 := by kernel_rfl
theorem cells_pos : Tryz.prog.cellsOf 61 = 2 := by kernel_rfl
theorem cells_range : Tryz.prog.cellsOf 67 = 4 := by kernel_rfl
theorem cells_ranges : Tryz.prog.cellsOf 165 = 1 := by kernel_rfl
theorem cells_splice : Tryz.prog.cellsOf 91 = 3 := by kernel_rfl
theorem cells_fold : Tryz.prog.cellsOf 94 = 3 := by kernel_rfl
theorem int_is {fuel : Nat} {cs : List Value} {x : DataW H × List MemPlace} (h : DataW.trod enc Tryz.prog W 0 spare true fuel 3 cs = some x) : ∃ n : Int, cs = [.int .i64 n] ∧ I64 n := by
  obtain ⟨k, rfl, _, hwf⟩ := DataW.trod_int Tryz.underlying3 h
  exact ⟨k, rfl, bounds_i64 hwf⟩
theorem ints_is {fuel : Nat} {cs : List Value} {x : DataW H × List MemPlace} (h : DataW.trod enc Tryz.prog W 0 spare true fuel 78 cs = some x) (hw : Rows.uptoBulk x.1 ≤ 1048576) : ∃ p n c li, cs = [.slice p n c] ∧ SrcI W (.slice p n c) li ∧ li.length ≤ 1048576 := by
  obtain ⟨v, l, rfl, hl, hs⟩ := src_of (Is := fun cs => ∃ n : Int, cs = [.int .i64 n] ∧ I64 n) (fun n : Int => [Value.int .i64 n]) I64 (fun _ => rfl) (fun _ h => h) Tryz.underlying78 cells_int (by decide) h hw (fun n _ cs' y hy _ => int_is hy)
  rcases hs with ⟨rfl, p, c, rfl, hc⟩ | ⟨b, o, c, rfl, h1, h2, h3, h4, h5⟩
  · exact ⟨_, _, _, [], rfl, .inl ⟨rfl, _, _, rfl, hc⟩, Nat.zero_le _⟩
  · refine ⟨_, _, _, l, rfl, .inr ⟨b, o, c, rfl, h1, h2, h3, fun j n hj => ?_, fun n hn => h5 n hn⟩, hl⟩
    have := h4 j n hj 0 _ rfl
    rwa [Nat.mul_one, Nat.add_zero] at this
/-- as a splice, a chain that is opened, of whatever length -/
def SpO (w : World) (e : Sp) : Prop := I64 e.st ∧ I64 e.de ∧ SrcI w (.slice e.p e.n e.c) e.li ∧ e.li.length ≤ 1048576
def ChO (w : World) (e : Ch) : Prop := SrcR w (.slice e.p e.n e.c) e.l ∧ e.l.length ≤ 1048576
def ArgSp (w : World) (v : Value) (l : List Sp) : Prop := Src w (fun e : Sp => [Value.int .i64 e.st, .int .i64 e.de, .slice e.p e.n e.c]) 3 (SpO w) v l ∧ l.length ≤ 1048576
def ArgFo (w : World) (v : Value) (l : List Fo) : Prop := Src w (fun e : Fo => [Value.int .i64 e.a, .int .i64 e.b, .bool e.cm]) 3 (FoOk w) v l ∧ l.length ≤ 1048576
def ArgCh (w : World) (v : Value) (l : List Ch) : Prop := Src w (fun e : Ch => [Value.slice e.p e.n e.c]) 1 (ChO w) v l ∧ l.length ≤ 1048576
theorem three' {α : Type} {l : List α} (h : l.length = 3) : ∃ a b c, l = [a, b, c] := by
  match l, h with
  | [a, b, c], _ => exact ⟨a, b, c, rfl⟩
theorem four' {α : Type} {l : List α} (h : l.length = 4) : ∃ a b c d, l = [a, b, c, d] := by
  match l, h with
  | [a, b, c, d], _ => exact ⟨a, b, c, d, rfl⟩
theorem two' {α : Type} {l : List α} (h : l.length = 2) : ∃ a b, l = [a, b] := by
  match l, h with
  | [a, b], _ => exact ⟨a, b, rfl⟩
theorem splice_is {fuel : Nat} {cs : List Value} {x : DataW H × List MemPlace} (h : DataW.trod enc Tryz.prog W 0 spare true fuel 91 cs = some x) (hw : Rows.uptoBulk x.1 ≤ 1048576) : ∃ e : Sp, cs = [.int .i64 e.st, .int .i64 e.de, .slice e.p e.n e.c] ∧ SpO W e := by
  obtain ⟨xs, n, rfl, rfl, hl, hxl, hp⟩ := DataW.trod_struct Tryz.underlying91 h
  rw [cells_splice] at hl
  obtain ⟨c0, c1, c2, rfl⟩ := three' hl
  have hxl : xs.length = 3 := hxl
  obtain ⟨x0, x1, x2, rfl⟩ := three' hxl
  have h0 := hp 0 _ rfl
  have h1 := hp 1 _ rfl
  have h2 := hp 2 _ rfl
  have w2 := part_bulk hw (j := 2) (x := x2) rfl
  change DataW.trod enc Tryz.prog W 0 spare true n 3 (List.take (Tryz.prog.cellsOf 3) (List.drop 0 [c0, c1, c2])) = some x0 at h0
  change DataW.trod enc Tryz.prog W 0 spare true n 3 (List.take (Tryz.prog.cellsOf 3) (List.drop 1 [c0, c1, c2])) = some x1 at h1
  change DataW.trod enc Tryz.prog W 0 spare true n 78 (List.take (Tryz.prog.cellsOf 78) (List.drop 2 [c0, c1, c2])) = some x2 at h2
  rw [cells_int] at h0 h1
  rw [cells_ints] at h2
  obtain ⟨a, e0, ha⟩ := int_is h0
  obtain ⟨b, e1, hb⟩ := int_is h1
  obtain ⟨p, m, c, li, e2, hs, hn⟩ := ints_is h2 w2
  simp at e0 e1 e2
  subst e0 e1 e2
  exact ⟨⟨a, b, p, m, c, li⟩, rfl, ha, hb, hs, hn⟩
theorem fold_is {fuel : Nat} {cs : List Value} {x : DataW H × List MemPlace} (h : DataW.trod enc Tryz.prog W 0 spare true fuel 94 cs = some x) : ∃ e : Fo, cs = [.int .i64 e.a, .int .i64 e.b, .bool e.cm] ∧ FoOk W e := by
  obtain ⟨xs, n, rfl, rfl, hl, hxl, hp⟩ := DataW.trod_struct Tryz.underlying94 h
  rw [cells_fold] at hl
  obtain ⟨c0, c1, c2, rfl⟩ := three' hl
  have hxl : xs.length = 3 := hxl
  obtain ⟨x0, x1, x2, rfl⟩ := three' hxl
  have h0 := hp 0 _ rfl
  have h1 := hp 1 _ rfl
  have h2 := hp 2 _ rfl
  change DataW.trod enc Tryz.prog W 0 spare true n 3 (List.take (Tryz.prog.cellsOf 3) (List.drop 0 [c0, c1, c2])) = some x0 at h0
  change DataW.trod enc Tryz.prog W 0 spare true n 3 (List.take (Tryz.prog.cellsOf 3) (List.drop 1 [c0, c1, c2])) = some x1 at h1
  change DataW.trod enc Tryz.prog W 0 spare true n 4 (List.take (Tryz.prog.cellsOf 4) (List.drop 2 [c0, c1, c2])) = some x2 at h2
  rw [cells_int] at h0 h1
  rw [cells_bool] at h2
  obtain ⟨a, e0, ha⟩ := int_is h0
  obtain ⟨b, e1, hb⟩ := int_is h1
  obtain ⟨c, e2, _⟩ := DataW.trod_bool Tryz.underlying4 h2
  simp at e0 e1 e2
  subst e0 e1 e2
  exact ⟨⟨a, b, c⟩, rfl, ha, hb⟩
theorem pos_is {fuel : Nat} {cs : List Value} {x : DataW H × List MemPlace} (h : DataW.trod enc Tryz.prog W 0 spare true fuel 61 cs = some x) : ∃ a b : Int, cs = [.int .i64 a, .int .i64 b] ∧ I64 a ∧ I64 b := by
  obtain ⟨xs, n, rfl, rfl, hl, hxl, hp⟩ := DataW.trod_struct Tryz.underlying61 h
  rw [cells_pos] at hl
  obtain ⟨c0, c1, rfl⟩ := two' hl
  have hxl : xs.length = 2 := hxl
  obtain ⟨x0, x1, rfl⟩ := two' hxl
  have h0 := hp 0 _ rfl
  have h1 := hp 1 _ rfl
  change DataW.trod enc Tryz.prog W 0 spare true n 3 (List.take (Tryz.prog.cellsOf 3) (List.drop 0 [c0, c1])) = some x0 at h0
  change DataW.trod enc Tryz.prog W 0 spare true n 3 (List.take (Tryz.prog.cellsOf 3) (List.drop 1 [c0, c1])) = some x1 at h1
  rw [cells_int] at h0 h1
  obtain ⟨a, e0, ha⟩ := int_is h0
  obtain ⟨b, e1, hb⟩ := int_is h1
  simp at e0 e1
  subst e0 e1
  exact ⟨a, b, rfl, ha, hb⟩
theorem range_is {fuel : Nat} {cs : List Value} {x : DataW H × List MemPlace} (h : DataW.trod enc Tryz.prog W 0 spare true fuel 67 cs = some x) : ∃ e : Rg, cs = [.int .i64 e.a, .int .i64 e.b, .int .i64 e.c, .int .i64 e.d] ∧ e.Ok := by
  obtain ⟨xs, n, rfl, rfl, hl, hxl, hp⟩ := DataW.trod_struct Tryz.underlying67 h
  rw [cells_range] at hl
  obtain ⟨c0, c1, c2, c3, rfl⟩ := four' hl
  have hxl : xs.length = 2 := hxl
  obtain ⟨x0, x1, rfl⟩ := two' hxl
  have h0 := hp 0 _ rfl
  have h1 := hp 1 _ rfl
  change DataW.trod enc Tryz.prog W 0 spare true n 61 (List.take (Tryz.prog.cellsOf 61) (List.drop 0 [c0, c1, c2, c3])) = some x0 at h0
  change DataW.trod enc Tryz.prog W 0 spare true n 61 (List.take (Tryz.prog.cellsOf 61) (List.drop 2 [c0, c1, c2, c3])) = some x1 at h1
  rw [cells_pos] at h0 h1
  obtain ⟨a, b, e0, ha, hb⟩ := pos_is h0
  obtain ⟨c, d, e1, hc, hd⟩ := pos_is h1
  simp at e0 e1
  obtain ⟨rfl, rfl⟩ := e0
  obtain ⟨rfl, rfl⟩ := e1
  exact ⟨⟨a, b, c, d⟩, rfl, ha, hb, hc, hd⟩
theorem chain_is {fuel : Nat} {cs : List Value} {x : DataW H × List MemPlace} (h : DataW.trod enc Tryz.prog W 0 spare true fuel 165 cs = some x) (hw : Rows.uptoBulk x.1 ≤ 1048576) : ∃ e : Ch, cs = [.slice e.p e.n e.c] ∧ ChO W e := by
  obtain ⟨v, l, rfl, hl, hs⟩ := src_of (Is := fun cs => ∃ e : Rg, cs = [.int .i64 e.a, .int .i64 e.b, .int .i64 e.c, .int .i64 e.d] ∧ e.Ok) (fun e : Rg => [Value.int .i64 e.a, .int .i64 e.b, .int .i64 e.c, .int .i64 e.d]) Rg.Ok (fun _ => rfl) (fun _ h => h) Tryz.underlying165 cells_range (by decide) h hw (fun n _ cs' y hy _ => range_is hy)
  rcases hs with ⟨rfl, p, c, rfl, hc⟩ | ⟨b, o, c, rfl, h1, h2, h3, h4, h5⟩
  · exact ⟨⟨_, _, _, []⟩, rfl, .inl ⟨rfl, _, _, rfl, hc⟩, Nat.zero_le _⟩
  · exact ⟨⟨_, _, _, l⟩, rfl, .inr ⟨b, o, c, rfl, h1, h2, h3, fun j e hj => ⟨h4 j e hj 0 _ rfl, h4 j e hj 1 _ rfl, h4 j e hj 2 _ rfl, h4 j e hj 3 _ rfl⟩, h5⟩, hl⟩
variable {v : Value} {d : DataW H} {p : List MemPlace}
theorem one_of {v u : Value} {n m c : Nat} {q : Option Addr} (h : v.cells.toList = [u]) (e : v = .slice q m c) : u = .slice q m c := by
  subst e
  simp [Value.cells] at h
  exact h.symm
set_option maxRecDepth 100000 in
theorem openIntsU (hval : Value.okWide Tryz.prog W .any base 78 v) (h : DataW.Trod enc Tryz.prog W 0 (fun _ => true) true 78 v d p) (hw : Rows.uptoBulk d ≤ 1048576) : ∃ li, SrcI W v li ∧ li.length ≤ 1048576 := by
  obtain ⟨z, len, cap, rfl⟩ := okWide_slice Tryz.underlying78 hval
  obtain ⟨fuel, hf⟩ := h
  obtain ⟨q, n, c, li, e, hs, hl⟩ := ints_is hf hw
  simp [Value.cells] at e
  obtain ⟨rfl, rfl, rfl⟩ := e
  exact ⟨li, hs, hl⟩
set_option maxRecDepth 100000 in
theorem openSpU (hval : Value.okWide Tryz.prog W .any base 79 v) (h : DataW.Trod enc Tryz.prog W 0 (fun _ => true) true 79 v d p) (hw : Rows.uptoBulk d ≤ 1048576) : ∃ l, ArgSp W v l := by
  obtain ⟨z, len, cap, rfl⟩ := okWide_slice Tryz.underlying79 hval
  obtain ⟨fuel, hf⟩ := h
  obtain ⟨u, l, e, hl, hs⟩ := src_of (fun e : Sp => [Value.int .i64 e.st, .int .i64 e.de, .slice e.p e.n e.c]) (SpO W) (fun _ => rfl) (fun _ h => h) Tryz.underlying79 cells_splice (by decide) hf hw (fun n _ cs' y hy hb => splice_is hy hb)
  simp [Value.cells] at e
  subst e
  exact ⟨l, hs, hl⟩
set_option maxRecDepth 100000 in
theorem openFoU (hval : Value.okWide Tryz.prog W .any base 80 v) (h : DataW.Trod enc Tryz.prog W 0 (fun _ => true) true 80 v d p) (hw : Rows.uptoBulk d ≤ 1048576) : ∃ l, ArgFo W v l := by
  obtain ⟨z, len, cap, rfl⟩ := okWide_slice Tryz.underlying80 hval
  obtain ⟨fuel, hf⟩ := h
  obtain ⟨u, l, e, hl, hs⟩ := src_of (fun e : Fo => [Value.int .i64 e.a, .int .i64 e.b, .bool e.cm]) (FoOk W) (fun _ => rfl) (fun _ h => h) Tryz.underlying80 cells_fold (by decide) hf hw (fun n _ cs' y hy _ => fold_is hy)
  simp [Value.cells] at e
  subst e
  exact ⟨l, hs, hl⟩
set_option maxRecDepth 100000 in
theorem openChU (hval : Value.okWide Tryz.prog W .any base 81 v) (h : DataW.Trod enc Tryz.prog W 0 (fun _ => true) true 81 v d p) (hw : Rows.uptoBulk d ≤ 1048576) : ∃ l, ArgCh W v l := by
  obtain ⟨z, len, cap, rfl⟩ := okWide_slice Tryz.underlying81 hval
  obtain ⟨fuel, hf⟩ := h
  obtain ⟨u, l, e, hl, hs⟩ := src_of (fun e : Ch => [Value.slice e.p e.n e.c]) (ChO W) (fun _ => rfl) (fun _ h => h) Tryz.underlying81 cells_ranges (by decide) hf hw (fun n _ cs' y hy hb => chain_is hy hb)
  simp [Value.cells] at e
  subst e
  exact ⟨l, hs, hl⟩
end
end Go.Proofs.YtbkciiogkgndiaaGreatDoor
