/- A list of chains. Conditions: at most 10^6 chains, of at most 10^6 ranges each; the library's table of powers. -/
import Derived.Test.YtdgmbmoaeoakpaaDoorMA37
import Derived.Test.YtdgmbmoaeoakpaaDoorMA36
import Derived.Test.YtdgmbmoaeoakpaaDoorMA25
import Derived.Test.YtdgmbmoaeoakpaaDoorMA30
import Derived.Test.YtdgmbmoaeoakpaaDoorMA33
namespace Go.Proofs.YtdgmbmoaeoakpaaDoor
open Go Go.RowKit Go.Lib

set_option maxRecDepth 100000 in
set_option maxHeartbeats 1000000 in
theorem listCh (b o c : Nat) (l : List Ch) (w : World) (hc : l.length ≤ c ∧ c ≤ 9223372036854775807) (hn : l.length ≤ 1000000) (hb : l ≠ [] → b < w.heap.size) (hS : ∀ (j : Nat) (e : Ch), l[j]? = some e → w.cell? ⟨b, o + j, none⟩ = some (.slice e.p e.n e.c)) (hz : ∀ e ∈ l, ChOk w e) (hP : PowTab w) :
    Calls Tryd.prog 61 #[.slice (some ⟨b, o, none⟩) l.length c, .func (.func 62) #[] #[]] w (ListR (listChT l) w) := by
  have HTx := Lib.hid (fun W (hB : Below w.heap.size w W) (N : Nat) (hN : N ≤ W.heap.size) (e : Ch) (h : ChOk W e) => (show Calls Tryd.prog 62 #[.slice e.p e.n e.c] W (RetV N (chainK e.l) ⟨#[]⟩ .nil (chainT e.l) W) from chain_any e.p e.n e.c e.l N W hN h.1 h.2 (pow_below hP hB)))
  have HEl := Lib.hid (fun i (hi : i < l.length) => (show ∃ e : Ch, (∀ W, Below w.heap.size w W → ChOk W e ∧ W.cell? ⟨b, o + i, none⟩ = some (.slice e.p e.n e.c)) ∧ (listChT l).drop i = .cons ⟨#[]⟩ (chainK e.l) ⟨#[]⟩ .nil (chainT e.l) (listChT (l.drop (i + 1))) from
    ⟨l[i], fun W hB => ⟨ChOk_below hB (hz l[i] (List.getElem_mem hi)), (hB.cell (p := ⟨b, o + i, none⟩) (hb (by intro e; subst e; simp at hi))).trans (hS i _ (List.getElem?_eq_getElem hi))⟩, listChT_drop l i l[i] (List.getElem?_eq_getElem hi)⟩))
  have HE := Lib.hid (listChT_len l)
  generalize en : l.length = na at *
  have HN := Lib.hid en
  obtain ⟨i0, hi0, hz0, hz1, hz2⟩ := info_parts infoValue
  obtain ⟨M, hM⟩ : ∃ M, M = madeCells (Value.agg #[.int .u8 0, .string ⟨#[]⟩, .slice none 0 0, .slice none 0 0]).cells (((na : Nat) : Int).toNat * i0.size) := ⟨_, rfl⟩
  have hMs : M.size = na * 4 := by rw [hM, size_madeCells, hz1, Int.toNat_natCast]
  have hmk : ∀ W : World, (Instr.makeSlice 22 (.int .i64 (na : Int)) (.int .i64 (na : Int))).run Tryd.prog W = .ok (.slice (some ⟨W.heap.size, 0, none⟩) na na) (W.alloc (.cells M 25)) := fun W => by
    have h := run_make (P := Tryd.prog) W 22 25 i0 _ Tryd.underlying22 hi0 hz0 .i64 .i64 (na : Int) (na : Int) (by omega) (by omega) (by rw [hz2]; omega) (by omega)
    rw [← hM] at h
    simpa using h
  have hB0 := (Below.refl w.heap.size w).alloc (Nat.le_refl _) (.cells #[.int .u8 0, .string ⟨#[]⟩, .slice none 0 0, .slice none 0 0] 25)
  have b0 : Blk4 (w.alloc (.cells #[.int .u8 0, .string ⟨#[]⟩, .slice none 0 0, .slice none 0 0] 25)) w.heap.size 25 _ _ _ _ := heap_alloc_new _ _
  have hz0 := World.size_alloc w (.cells #[.int .u8 0, .string ⟨#[]⟩, .slice none 0 0, .slice none 0 0] 25)
  have HB := Lib.hid (And.intro b0 (And.intro hB0 hz0))
  clear hM hS hz hP en hB0 b0 hz0 hb
  go_enter Tryd.func61, Tryd.ntmps61
  go_wp2_with fail
  generalize w.alloc (.cells #[.int .u8 0, .string ⟨#[]⟩, .slice none 0 0, .slice none 0 0] 25) = w1 at *
  have hB1 := (Below.refl w1.heap.size w1).alloc (Nat.le_refl _) (.cells M 25)
  have hg : w1.heap.size = w.heap.size + 1 := HB.out.2.2
  have HC := Lib.hid (show LsSt w1 w.heap.size (w.heap.size + 1) (listChT l) 0 M (w1.alloc (.cells M 25)) from
    ⟨⟨hB1, hg ▸ heap_alloc_new _ _, by rw [hMs, HE.out], Nat.le_of_eq hg, by rw [Nat.zero_mul, List.take_zero]; exact RP.nil _ _ _ _⟩, HB.out.1.same (hB1.block _ HB.out.1.lt), HB.out.1.lt⟩)
  generalize w1.alloc (.cells M 25) = W0 at *
  have HG := Lib.hid hg
  clear hB1 hMs hmk hg
  go_loopw [13] (fun p wr => ∃ i : Nat, p = .int .i64 i ∧ i ≤ na ∧ Hid (∃ cur, LsSt w1 w.heap.size (w.heap.size + 1) (listChT l) i cur wr)) (fun p _ => na - (RowKit.intOf p).toNat)
  case atStart => exact ⟨0, rfl, Nat.zero_le _, Lib.hid ⟨_, HC.out⟩⟩
  case round =>
    obtain ⟨i, rfl, hi, HR⟩ := hrel
    obtain ⟨cur, hR⟩ := HR.out
    by_cases hlt : i < na
    · have HQ := Lib.hid hR
      clear HR hR
      have hbw := HB.out.2.1.trans (HQ.out.ca.below.mono HB.out.2.1.size)
      obtain ⟨e, e1', d1'⟩ := HEl.out i hlt
      obtain ⟨v1', e1⟩ := e1' wr hbw
      have HV1 := Lib.hid v1'
      have D1 := Lib.hid d1'
      have HL := Lib.hid hlt
      clear e1' d1' v1'
      have HW := Lib.hid hbw
      have hrow := HQ.out.ca.row
      have hgl := hrow.lt
      have hcs : i * 4 + 4 ≤ cur.size := by rw [HQ.out.ca.size, HE.out]; have := HL.out; omega
      clear hbw
      go_wp2_with fail
      go_at_call 62
      (with_reducible refine (HTx.out _ HW.out wr.heap.size (Nat.le_refl _) e HV1.out).mono ?_)
      rintro en w2 ⟨y, rfl, ⟨p1, n1, c1, q1, m1, d1, rfl, hl1, hf1⟩, hB2⟩
      have HR1 := Lib.hid (And.intro hl1 hf1)
      clear hl1 hf1
      have hr1 := hrow.same (hB2.block _ hgl)
      have q0 := hr1.cell (j := i * 4) (by omega)
      have q1 := hr1.cell (j := i * 4 + 1) (by omega)
      have q2 := hr1.cell (j := i * 4 + 2) (by omega)
      have q3 := hr1.cell (j := i * 4 + 3) (by omega)
      have z0 := hr1.free (i * 4)
      have z1 := hr1.free (i * 4 + 1)
      have z2 := hr1.free (i * 4 + 2)
      have z3 := hr1.free (i * 4 + 3)
      have HB2 := Lib.hid hB2
      clear hB2 hr1
      go_wp2_with fail
      go_roundw
      case rel => exact ⟨i + 1, by go_num, HL.out, Lib.hid ⟨_, HQ.out.step (by rw [HE.out]; exact HL.out) D1.out rfl ⟨chainK_lt _, by decide, by decide⟩ HB2.out HR1.out.1 HR1.out.2⟩⟩
      case measure => have := HL.out; simp [RowKit.intOf]; omega
    · obtain rfl : i = na := by omega
      clear HR
      have hw := CaSt.whole (by rw [HE.out]; exact hR.ca) (by rw [HE.out]; omega)
      rw [HE.out] at hw
      have hb2 := hR.box
      have HF := Lib.hid (And.intro hw (And.intro hb2 (And.intro hR.ca.below hR.lt)))
      obtain ⟨x0, x1, x2, x3⟩ := hb2.box
      have f0 := hb2.free 0
      have f1 := hb2.free 1
      have f2 := hb2.free 2
      have f3 := hb2.free 3
      clear hw hR hb2
      go_wp2_with fail
      obtain ⟨g1, g2, g3⟩ := HF.out.2.1.all (.int .u8 5) (.string ⟨#[]⟩) (.slice (some ⟨w.heap.size + 1, 0, none⟩) i i) (.slice none 0 0)
      have hw3 := set4_else wr w.heap.size (.int .u8 5) (.string ⟨#[]⟩) (.slice (some ⟨w.heap.size + 1, 0, none⟩) i i) (.slice none 0 0)
      have g3' := g3 w.heap.size (Nat.le_refl _)
      clear x0 x1 x2 x3 f0 f1 f2 f3
      generalize (((wr.setCell ⟨w.heap.size, 0, none⟩ (.int .u8 5)).setCell ⟨w.heap.size, 1, none⟩ (.string ⟨#[]⟩)).setCell ⟨w.heap.size, 2, none⟩ (.slice (some ⟨w.heap.size + 1, 0, none⟩) i i)).setCell ⟨w.heap.size, 3, none⟩ (.slice none 0 0) = w3 at *
      obtain ⟨x0, x1, x2, x3⟩ := g1.box
      refine bodyPost_ret (v := .agg #[.int .u8 5, .string ⟨#[]⟩, .slice (some ⟨w.heap.size + 1, 0, none⟩) i i, .slice none 0 0]) (by simp [results, Tryd.results61, go_sem, x0, x1, x2, x3]) rfl ?_
      have hlt := HF.out.2.2.2
      have hg := HG.out
      exact ⟨_, rfl, HF.out.1.fre (fun b hb => by omega) (fun b hb _ => hw3 b (by omega)), (HB.out.2.1.trans (HF.out.2.2.1.mono HB.out.2.1.size)).trans g3'⟩
set_option maxRecDepth 100000 in
set_option maxHeartbeats 1000000 in
theorem listCh_nil (p : Option Addr) (c : Nat) (w : World) (hc : c ≤ 9223372036854775807) :
    Calls Tryd.prog 61 #[.slice p 0 c, .func (.func 62) #[] #[]] w (ListR .nil w) := by
  obtain ⟨i0, hi0, hz0, hz1, hz2⟩ := info_parts infoValue
  obtain ⟨M, hM⟩ : ∃ M, M = madeCells (Value.agg #[.int .u8 0, .string ⟨#[]⟩, .slice none 0 0, .slice none 0 0]).cells (((0 : Nat) : Int).toNat * i0.size) := ⟨_, rfl⟩
  have hMs : M.size = 0 * 4 := by rw [hM, size_madeCells, hz1, Int.toNat_natCast]
  have hmk : ∀ W : World, (Instr.makeSlice 22 (.int .i64 0) (.int .i64 0)).run Tryd.prog W = .ok (.slice (some ⟨W.heap.size, 0, none⟩) 0 0) (W.alloc (.cells M 25)) := fun W => by
    have h := run_make (P := Tryd.prog) W 22 25 i0 _ Tryd.underlying22 hi0 hz0 .i64 .i64 ((0 : Nat) : Int) ((0 : Nat) : Int) (by omega) (by omega) (by rw [hz2]; omega) (by omega)
    rw [← hM] at h
    simpa using h
  have hB0 := (Below.refl w.heap.size w).alloc (Nat.le_refl _) (.cells #[.int .u8 0, .string ⟨#[]⟩, .slice none 0 0, .slice none 0 0] 25)
  have b0 : Blk4 (w.alloc (.cells #[.int .u8 0, .string ⟨#[]⟩, .slice none 0 0, .slice none 0 0] 25)) w.heap.size 25 _ _ _ _ := heap_alloc_new _ _
  have hz0 := World.size_alloc w (.cells #[.int .u8 0, .string ⟨#[]⟩, .slice none 0 0, .slice none 0 0] 25)
  have HB := Lib.hid (And.intro b0 (And.intro hB0 hz0))
  clear hM hB0 b0 hz0
  go_enter Tryd.func61, Tryd.ntmps61
  go_wp2_with fail
  generalize w.alloc (.cells #[.int .u8 0, .string ⟨#[]⟩, .slice none 0 0, .slice none 0 0] 25) = w1 at *
  have hB1 := (Below.refl w1.heap.size w1).alloc (Nat.le_refl _) (.cells M 25)
  have hg : w1.heap.size = w.heap.size + 1 := HB.out.2.2
  have HC := Lib.hid (show LsSt w1 w.heap.size (w.heap.size + 1) .nil 0 M (w1.alloc (.cells M 25)) from
    ⟨⟨hB1, hg ▸ heap_alloc_new _ _, by rw [hMs]; rfl, Nat.le_of_eq hg, by rw [Nat.zero_mul, List.take_zero]; exact RP.nil _ _ _ _⟩, HB.out.1.same (hB1.block _ HB.out.1.lt), HB.out.1.lt⟩)
  generalize w1.alloc (.cells M 25) = W0 at *
  have HG := Lib.hid hg
  clear hB1 hMs hmk hg
  go_loopw [13] (fun p wr => ∃ i : Nat, p = .int .i64 i ∧ i ≤ 0 ∧ Hid (∃ cur, LsSt w1 w.heap.size (w.heap.size + 1) .nil i cur wr)) (fun p _ => 0 - (RowKit.intOf p).toNat)
  case atStart => exact ⟨0, rfl, Nat.zero_le _, Lib.hid ⟨_, HC.out⟩⟩
  case round =>
    obtain ⟨i, rfl, hi, HR⟩ := hrel
    obtain ⟨cur, hR⟩ := HR.out
    obtain rfl : i = 0 := by omega
    clear HR
    have hw := CaSt.whole (t := .nil) hR.ca (by decide)
    have hb2 := hR.box
    have HF := Lib.hid (And.intro hw (And.intro hb2 (And.intro hR.ca.below hR.lt)))
    obtain ⟨x0, x1, x2, x3⟩ := hb2.box
    have f0 := hb2.free 0
    have f1 := hb2.free 1
    have f2 := hb2.free 2
    have f3 := hb2.free 3
    clear hw hR hb2
    go_wp2_with fail
    obtain ⟨g1, g2, g3⟩ := HF.out.2.1.all (.int .u8 5) (.string ⟨#[]⟩) (.slice (some ⟨w.heap.size + 1, 0, none⟩) 0 0) (.slice none 0 0)
    have hw3 := set4_else wr w.heap.size (.int .u8 5) (.string ⟨#[]⟩) (.slice (some ⟨w.heap.size + 1, 0, none⟩) 0 0) (.slice none 0 0)
    have g3' := g3 w.heap.size (Nat.le_refl _)
    clear x0 x1 x2 x3 f0 f1 f2 f3
    generalize (((wr.setCell ⟨w.heap.size, 0, none⟩ (.int .u8 5)).setCell ⟨w.heap.size, 1, none⟩ (.string ⟨#[]⟩)).setCell ⟨w.heap.size, 2, none⟩ (.slice (some ⟨w.heap.size + 1, 0, none⟩) 0 0)).setCell ⟨w.heap.size, 3, none⟩ (.slice none 0 0) = w3 at *
    obtain ⟨x0, x1, x2, x3⟩ := g1.box
    refine bodyPost_ret (v := .agg #[.int .u8 5, .string ⟨#[]⟩, .slice (some ⟨w.heap.size + 1, 0, none⟩) 0 0, .slice none 0 0]) (by simp [results, Tryd.results61, go_sem, x0, x1, x2, x3]) rfl ?_
    have hlt := HF.out.2.2.2
    have hg := HG.out
    exact ⟨_, rfl, HF.out.1.fre (fun b hb => by omega) (fun b hb _ => hw3 b (by omega)), (HB.out.2.1.trans (HF.out.2.2.1.mono HB.out.2.1.size)).trans g3'⟩

/-- chains as they lie behind a slice -/
def SrcC (w : World) (v : Value) (l : List Ch) : Prop := (l = [] ∧ ∃ p c, v = .slice p 0 c ∧ c ≤ 9223372036854775807) ∨ ∃ b o c, v = .slice (some ⟨b, o, none⟩) l.length c ∧ l.length ≤ c ∧ c ≤ 9223372036854775807 ∧ b < w.heap.size ∧ (∀ (j : Nat) (e : Ch), l[j]? = some e → w.cell? ⟨b, o + j, none⟩ = some (.slice e.p e.n e.c)) ∧ ∀ e ∈ l, ChOk w e
theorem SrcC.below {w w' : World} {v : Value} {l : List Ch} (h : SrcC w v l) (hB : Below w.heap.size w w') : SrcC w' v l := by
  rcases h with h | ⟨b, o, c, h1, h2, h3, h4, h5, h6⟩
  · exact .inl h
  · exact .inr ⟨b, o, c, h1, h2, h3, Nat.lt_of_lt_of_le h4 hB.size, fun j e hj => (hB.cell (p := ⟨b, o + j, none⟩) h4).trans (h5 j e hj), fun e he => ChOk_below hB (h6 e he)⟩
theorem listC_any (v : Value) (l : List Ch) (w : World) (h : SrcC w v l) (hn : l.length ≤ 1000000) (hP : PowTab w) :
    Calls Tryd.prog 61 #[v, .func (.func 62) #[] #[]] w (ListR (listChT l) w) := by
  rcases h with ⟨rfl, p, c, rfl, hc⟩ | ⟨b, o, c, rfl, h2, h3, h4, h5, h6⟩
  · exact listCh_nil p c w hc
  · exact listCh b o c l w ⟨h2, h3⟩ hn (fun _ => h4) h5 h6 hP
set_option maxHeartbeats 1000000 in
set_option maxRecDepth 100000 in
theorem chains_any (p : Option Addr) (n c : Nat) (l : List Ch) (N : Nat) (w : World) (hN : N ≤ w.heap.size) (h : SrcC w (.slice p n c) l) (hn : l.length ≤ 1000000) (hP : PowTab w) :
    Calls Tryd.prog 30 #[.slice p n c] w (RetV N 5 ⟨#[]⟩ (listChT l) .nil w) := by
  have hB0 := (Below.refl w.heap.size w).alloc (Nat.le_refl _) (.cells #[.int .u8 0, .string ⟨#[]⟩, .slice none 0 0, .slice none 0 0] 25)
  have b0 : Blk4 (w.alloc (.cells #[.int .u8 0, .string ⟨#[]⟩, .slice none 0 0, .slice none 0 0] 25)) w.heap.size 25 _ _ _ _ := heap_alloc_new _ _
  have HC := Lib.hid (listC_any (.slice p n c) l _ (h.below hB0) hn (pow_below hP hB0))
  have hs0 := World.size_alloc w (.cells #[.int .u8 0, .string ⟨#[]⟩, .slice none 0 0, .slice none 0 0] 25)
  have H0 := Lib.hid (And.intro b0 (And.intro hB0 hs0))
  clear hB0 b0 hs0 h hP
  go_enter Tryd.func30, Tryd.ntmps30
  go_wp2_with fail
  refine HC.out.mono ?_
  rintro e w1 ⟨v, rfl, hv, hB⟩
  obtain ⟨q, d, rfl, -⟩ := hv.len
  have b1 := H0.out.1.same (hB.block _ H0.out.1.lt)
  have H1 := Lib.hid (And.intro hv (And.intro b1 (H0.out.2.1.trans (hB.mono H0.out.2.1.size))))
  obtain ⟨x0, x1, x2, x3⟩ := b1.box
  have f0 := b1.free 0
  have f1 := b1.free 1
  have f2 := b1.free 2
  have f3 := b1.free 3
  clear hv hB b1 HC
  generalize (listChT l).len = nl at *
  go_wp2_with fail
  obtain ⟨g1, g2, g3⟩ := H1.out.2.1.all (.int .u8 5) (.string ⟨#[]⟩) (.slice q nl d) (.slice none 0 0)
  have hw3 := set4_else w1 w.heap.size (.int .u8 5) (.string ⟨#[]⟩) (.slice q nl d) (.slice none 0 0)
  have g3' := g3 w.heap.size (Nat.le_refl _)
  clear x0 x1 x2 x3 f0 f1 f2 f3
  generalize (((w1.setCell ⟨w.heap.size, 0, none⟩ (.int .u8 5)).setCell ⟨w.heap.size, 1, none⟩ (.string ⟨#[]⟩)).setCell ⟨w.heap.size, 2, none⟩ (.slice q nl d)).setCell ⟨w.heap.size, 3, none⟩ (.slice none 0 0) = w3 at *
  obtain ⟨x0, x1, x2, x3⟩ := g1.box
  refine bodyPost_ret (v := .agg #[.int .u8 5, .string ⟨#[]⟩, .slice q nl d, .slice none 0 0]) (by simp [results, Tryd.results30, go_sem, x0, x1, x2, x3]) rfl ?_
  have hz := H0.out.2.2
  exact ⟨_, rfl, VF.mk (H1.out.1.fre (fun b hb => by omega) (fun b hb _ => hw3 b (by omega))) (HS.nil _ _ _), H1.out.2.2.trans g3'⟩
end Go.Proofs.YtdgmbmoaeoakpaaDoor

namespace Go.Proofs.YtdgmbmoaeoakpaaDoor
open Go Go.RowKit Go.Shelf Go.Lib

set_option maxRecDepth 100000 in
theorem valid_wild (k : Nat) (x : ByteArray) (va ua : Value) (d : Int) (w : World) (hk : ¬ k ≤ 6) :
    Calls Tryd.prog 65 #[.agg #[.int .u8 k, .string x, va, ua], .int .i64 d] w (Bools false w) := by
  have tk : decide ((6 : Int) < (k : Int)) = true := decide_eq_true (by omega)
  have hB := (Below.refl w.heap.size w).alloc (Nat.le_refl _) (.cells #[.int .u8 k, .string x, va, ua] 25)
  go_enter Tryd.func65, Tryd.ntmps65
  go_wp2_with fail
  go_ret
  exact ⟨rfl, hB⟩
theorem ent_noText : ∀ args w, (callFunc 104 args).run Tryd.prog w = .ok (.enter 104 args) w := enters_of Tryd.func104 (by kernel_rfl) rfl
theorem ent_noList : ∀ args w, (callFunc 105 args).run Tryd.prog w = .ok (.enter 105 args) w := enters_of Tryd.func105 (by kernel_rfl) rfl
theorem ent_noFields : ∀ args w, (callFunc 106 args).run Tryd.prog w = .ok (.enter 106 args) w := enters_of Tryd.func106 (by kernel_rfl) rfl
theorem ent_isNumber : ∀ args w, (callFunc 110 args).run Tryd.prog w = .ok (.enter 110 args) w := enters_of Tryd.func110 (by kernel_rfl) rfl
theorem ent_utfValid : ∀ args w, (callFunc 98 args).run Tryd.prog w = .ok (.enter 98 args) w := enters_of Tryd.func98 (by kernel_rfl) rfl
theorem ent_validList : ∀ args w, (callFunc 113 args).run Tryd.prog w = .ok (.enter 113 args) w := enters_of Tryd.func113 (by kernel_rfl) rfl
theorem ent_validFields : ∀ args w, (callFunc 115 args).run Tryd.prog w = .ok (.enter 115 args) w := enters_of Tryd.func115 (by kernel_rfl) rfl

theorem mayV_wild {k : Nat} {x : ByteArray} {l f : V.T} {d : Nat} (h : ¬ k ≤ 6) : mayV k x l f d = false := by
  unfold mayV
  rw [decide_eq_false h, Bool.false_and]
set_option maxRecDepth 100000 in
theorem may_ok : ∀ N, MayOk Tabs N
  | 0 => fun k x va ua l f A d w h => absurd h (Nat.not_lt_zero _)
  | N + 1 => fun k x va ua l f A d w hN hk hx hsl hsf hl hf hd hT => by
    have ih := may_ok N
    by_cases hk6 : k ≤ 6
    · obtain ⟨p, c, rfl, a0, a1, a2⟩ := hl.len
      obtain ⟨q, e, rfl, b0, b1, b2⟩ := hf.len
      have T0 := fun W (_ : Below w.heap.size w W) => noText_any x W
      have L0 := fun W (_ : Below w.heap.size w W) => noList_any p l.len c d W a0 a1 a2
      have F0 := fun W (_ : Below w.heap.size w W) => noFields_any q f.len e d W b0 b1 b2
      have L1 := fun W (hW : Below w.heap.size w W) => validList_any Tabs (fun _ _ => tabs_below) N ih _ l A d W (by omega) hsl (hl.below hW) hd (tabs_below hT hW)
      have F1 := fun W (hW : Below w.heap.size w W) => validFields_any Tabs (fun _ _ => tabs_below) (fun s W => utfValid_any s W) N ih _ f A d W (by omega) hsf (hf.below hW) hd (tabs_below hT hW)
      have hc : k = 0 ∨ k = 1 ∨ k = 2 ∨ k = 3 ∨ k = 4 ∨ k = 5 ∨ k = 6 := by omega
      rcases hc with rfl | rfl | rfl | rfl | rfl | rfl | rfl
      · exact valid_with 0 x p q l.len c f.len e d 104 105 106 107 _ _ _ w (by decide) (fun W => by kernel_rfl) ent_noText ent_noList ent_noFields T0 L0 F0
      · exact valid_with 1 x p q l.len c f.len e d 104 105 106 108 _ _ _ w (by decide) (fun W => by kernel_rfl) ent_noText ent_noList ent_noFields T0 L0 F0
      · exact valid_with 2 x p q l.len c f.len e d 104 105 106 109 _ _ _ w (by decide) (fun W => by kernel_rfl) ent_noText ent_noList ent_noFields T0 L0 F0
      · exact valid_with 3 x p q l.len c f.len e d 110 105 106 111 _ _ _ w (by decide) (fun W => by kernel_rfl) ent_isNumber ent_noList ent_noFields (fun W _ => isNumber_any x W (Nat.le_trans hx (by decide))) L0 F0
      · exact valid_with 4 x p q l.len c f.len e d 98 105 106 112 _ _ _ w (by decide) (fun W => by kernel_rfl) ent_utfValid ent_noList ent_noFields (fun W hW => utfValid_any x W hx (tabs_below hT hW)) L0 F0
      · exact valid_with 5 x p q l.len c f.len e d 104 113 106 114 _ _ _ w (by decide) (fun W => by kernel_rfl) ent_noText ent_validList ent_noFields T0 L1 F0
      · exact valid_with 6 x p q l.len c f.len e d 104 105 115 116 _ _ _ w (by decide) (fun W => by kernel_rfl) ent_noText ent_noList ent_validFields T0 L0 F1
    · rw [mayV_wild hk6]
      exact valid_wild k x va ua d w hk6
end Go.Proofs.YtdgmbmoaeoakpaaDoor

namespace Go.Proofs.YtdgmbmoaeoakpaaDoor
open Go Go.RowKit Go.Lib

/-- so many strings, in a block just made -/
def StrsNew (row : Array Value) (n : Nat) (w : World) (e : Ending) (w' : World) : Prop := e = .returned (.slice (some ⟨w.heap.size, 0, none⟩) n n) ∧ w' = w.alloc (.cells row 9)
def tyL : List ByteArray := [⟨#[107, 101, 121, 119, 111, 114, 100]⟩, ⟨#[99, 111, 109, 109, 101, 110, 116]⟩, ⟨#[115, 116, 114, 105, 110, 103]⟩, ⟨#[110, 117, 109, 98, 101, 114]⟩, ⟨#[111, 112, 101, 114, 97, 116, 111, 114]⟩, ⟨#[118, 97, 114, 105, 97, 98, 108, 101]⟩, ⟨#[112, 97, 114, 97, 109, 101, 116, 101, 114]⟩, ⟨#[102, 117, 110, 99, 116, 105, 111, 110]⟩]
def mdL : List ByteArray := [⟨#[100, 101, 99, 108, 97, 114, 97, 116, 105, 111, 110]⟩, ⟨#[117, 110, 114, 101, 115, 111, 108, 118, 101, 100]⟩, ⟨#[114, 101, 100, 101, 99, 108, 97, 114, 101, 100]⟩]
set_option maxRecDepth 100000 in
theorem types_any (w : World) : Calls Tryd.prog 67 #[] w (StrsNew #[.string ⟨#[107, 101, 121, 119, 111, 114, 100]⟩, .string ⟨#[99, 111, 109, 109, 101, 110, 116]⟩, .string ⟨#[115, 116, 114, 105, 110, 103]⟩, .string ⟨#[110, 117, 109, 98, 101, 114]⟩, .string ⟨#[111, 112, 101, 114, 97, 116, 111, 114]⟩, .string ⟨#[118, 97, 114, 105, 97, 98, 108, 101]⟩, .string ⟨#[112, 97, 114, 97, 109, 101, 116, 101, 114]⟩, .string ⟨#[102, 117, 110, 99, 116, 105, 111, 110]⟩] 8 w) := by
  go_enter Tryd.func67, Tryd.ntmps67
  go_wp2_with fail
  go_ret
  exact ⟨rfl, rfl⟩
set_option maxRecDepth 100000 in
theorem mods_any (w : World) : Calls Tryd.prog 68 #[] w (StrsNew #[.string ⟨#[100, 101, 99, 108, 97, 114, 97, 116, 105, 111, 110]⟩, .string ⟨#[117, 110, 114, 101, 115, 111, 108, 118, 101, 100]⟩, .string ⟨#[114, 101, 100, 101, 99, 108, 97, 114, 101, 100]⟩] 3 w) := by
  go_enter Tryd.func68, Tryd.ntmps68
  go_wp2_with fail
  go_ret
  exact ⟨rfl, rfl⟩
theorem strs_lie (w : World) (l : List ByteArray) {row : Array Value} (h : row.toList = l.map Value.string) : StrsLie (w.alloc (.cells row 9)) w.heap.size l := fun j s hs => by
  rw [cell_of_row _ _ j row _ (0, 0) (heap_alloc_new _ _), ← Array.getElem?_toList, h, List.getElem?_map, hs]
  rfl
def tSync : V.T := (.cons ⟨#[111, 112, 101, 110, 67, 108, 111, 115, 101]⟩ 2 ⟨#[]⟩ .nil .nil (.cons ⟨#[99, 104, 97, 110, 103, 101]⟩ 3 ⟨(Lib.itoa 2).toArray⟩ .nil .nil .nil))
def tFull : V.T := (.cons ⟨#[100, 101, 108, 116, 97]⟩ 2 ⟨#[]⟩ .nil .nil .nil)
def tLegend : V.T := (.cons ⟨#[116, 111, 107, 101, 110, 84, 121, 112, 101, 115]⟩ 5 ⟨#[]⟩ (txT tyL) .nil (.cons ⟨#[116, 111, 107, 101, 110, 77, 111, 100, 105, 102, 105, 101, 114, 115]⟩ 5 ⟨#[]⟩ (txT mdL) .nil .nil))
def tTokens : V.T := (.cons ⟨#[108, 101, 103, 101, 110, 100]⟩ 6 ⟨#[]⟩ .nil tLegend (.cons ⟨#[102, 117, 108, 108]⟩ 6 ⟨#[]⟩ .nil tFull .nil))
def tAll : V.T := (.cons ⟨#[112, 111, 115, 105, 116, 105, 111, 110, 69, 110, 99, 111, 100, 105, 110, 103]⟩ 4 ⟨#[117, 116, 102, 45, 49, 54]⟩ .nil .nil (.cons ⟨#[116, 101, 120, 116, 68, 111, 99, 117, 109, 101, 110, 116, 83, 121, 110, 99]⟩ 6 ⟨#[]⟩ .nil tSync (.cons ⟨#[115, 101, 109, 97, 110, 116, 105, 99, 84, 111, 107, 101, 110, 115, 80, 114, 111, 118, 105, 100, 101, 114]⟩ 6 ⟨#[]⟩ .nil tTokens (.cons ⟨#[102, 111, 108, 100, 105, 110, 103, 82, 97, 110, 103, 101, 80, 114, 111, 118, 105, 100, 101, 114]⟩ 2 ⟨#[]⟩ .nil .nil (.cons ⟨#[115, 101, 108, 101, 99, 116, 105, 111, 110, 82, 97, 110, 103, 101, 80, 114, 111, 118, 105, 100, 101, 114]⟩ 2 ⟨#[]⟩ .nil .nil .nil)))))
def tInfo : V.T := (.cons ⟨#[110, 97, 109, 101]⟩ 4 ⟨#[103, 108, 111, 115, 115, 97, 116, 111, 114]⟩ .nil .nil .nil)
def tCap : V.T := (.cons ⟨#[99, 97, 112, 97, 98, 105, 108, 105, 116, 105, 101, 115]⟩ 6 ⟨#[]⟩ .nil tAll (.cons ⟨#[115, 101, 114, 118, 101, 114, 73, 110, 102, 111]⟩ 6 ⟨#[]⟩ .nil tInfo .nil))
theorem fix_utf : U.fixS ⟨#[117, 116, 102, 45, 49, 54]⟩ = ⟨#[117, 116, 102, 45, 49, 54]⟩ := U.fixS_valid _ (by decide +kernel)
theorem fix_glo : U.fixS ⟨#[103, 108, 111, 115, 115, 97, 116, 111, 114]⟩ = ⟨#[103, 108, 111, 115, 115, 97, 116, 111, 114]⟩ := U.fixS_valid _ (by decide +kernel)
theorem tyL_small : ∀ s ∈ tyL, s.size ≤ 1000 := by decide
theorem mdL_small : ∀ s ∈ mdL, s.size ≤ 1000 := by decide
end Go.Proofs.YtdgmbmoaeoakpaaDoor

namespace Go.Proofs.YtdgmbmoaeoakpaaDoor
open Go Go.RowKit Go.Lib

set_option maxRecDepth 100000 in
theorem mayS_any (k : Nat) (x : ByteArray) (va ua : Value) (l f : V.T) (A : Nat → Prop) (w : World) (hl : HS w A 0 va l) (hf : HS w A 1 ua f) (hk : k < 256) (hx : x.size ≤ 1000000000000) (sl : Sm l) (sf : Sm f) (hT : Tabs w) : Calls Tryd.prog 33 #[.agg #[.int .u8 k, .string x, va, ua]] w (Bools (mayV k x l f 0) w) := by
  have hB := (Below.refl w.heap.size w).alloc (Nat.le_refl _) (.cells #[.int .u8 k, .string x, va, ua] 25)
  have hm := may_ok (l.size + f.size + 1) k x va ua l f A 0 (w.alloc (.cells #[.int .u8 k, .string x, va, ua] 25)) (Nat.lt_succ_self _) hk hx sl sf (hl.below hB) (hf.below hB) (Nat.zero_le _) (tabs_below hT hB)
  obtain ⟨p, c, rfl, -⟩ := hl.len
  obtain ⟨q, d, rfl, -⟩ := hf.len
  have HB := Lib.hid hB
  clear hB hl hf hT
  go_enter Tryd.func33, Tryd.ntmps33
  go_wp2_with fail
  refine hm.mono ?_
  rintro e w1 ⟨rfl, hB1⟩
  have H1 := Lib.hid (HB.out.trans (hB1.mono HB.out.size))
  clear hB1 hm
  go_wp2_with fail
  go_ret
  exact ⟨rfl, H1.out⟩
/-- of a value that was made -/
theorem mayVF_any {N k : Nat} {x : ByteArray} {l f : V.T} {y : Value} {w : World} (h : VF N k x l f y w) (hk : k < 256) (hx : x.size ≤ 1000000000000) (sl : Sm l) (sf : Sm f) (hT : Tabs w) : Calls Tryd.prog 33 #[y] w (Bools (mayV k x l f 0) w) := by
  obtain ⟨p, n, c, q, m, d, rfl, h1, h2⟩ := h
  exact mayS_any k x _ _ l f _ w h1 h2 hk hx sl sf hT
theorem sm_num {n : Int} (h : I64 n) : (⟨(Lib.itoa n).toArray⟩ : ByteArray).size ≤ 1000000000000 := by
  have := Lib.itoa_length_le n h.1 h.2
  show (Lib.itoa n).toArray.size ≤ _
  simp
  omega
theorem sm_nums : ∀ (l : List Int), (∀ n ∈ l, I64 n) → Sm (nmT l)
  | [], _ => trivial
  | n :: r, h => ⟨by decide, sm_num (h n (List.mem_cons_self ..)), trivial, trivial, sm_nums r fun m hm => h m (List.mem_cons_of_mem _ hm)⟩
theorem sm_full {id : ByteArray} {l : List Int} (hid : id.size ≤ 10000000) (h : ∀ n ∈ l, I64 n) : Sm (full_anyT id l) :=
  ⟨by decide, by have := U.fix_size id; omega, trivial, trivial, by decide, by decide, sm_nums l h, trivial, trivial⟩
def SpI (e : Sp) : Prop := I64 e.st ∧ I64 e.de ∧ ∀ n ∈ e.li, I64 n
theorem sm_splices : ∀ (l : List Sp), (∀ e ∈ l, SpI e) → Sm (listSpT l)
  | [], _ => trivial
  | e :: r, h => by
    obtain ⟨h1, h2, h3⟩ := h e (List.mem_cons_self ..)
    exact ⟨by decide, by decide, trivial, ⟨by decide, sm_num h1, trivial, trivial, by decide, sm_num h2, trivial, trivial, by decide, by decide, sm_nums e.li h3, trivial, trivial⟩, sm_splices r fun m hm => h m (List.mem_cons_of_mem _ hm)⟩
theorem sm_delta {id : ByteArray} {l : List Sp} (hid : id.size ≤ 10000000) (h : ∀ e ∈ l, SpI e) : Sm (delta_anyT id l) :=
  ⟨by decide, by have := U.fix_size id; omega, trivial, trivial, by decide, by decide, sm_splices l h, trivial, trivial⟩
theorem sm_foldL : ∀ (l : List Fo), (∀ e ∈ l, I64 e.a ∧ I64 e.b) → Sm (listFoT l)
  | [], _ => trivial
  | e :: r, h => by
    obtain ⟨h1, h2⟩ := h e (List.mem_cons_self ..)
    refine ⟨by decide, by decide, trivial, ⟨by decide, sm_num h1, trivial, trivial, by decide, sm_num h2, trivial, trivial, ?_⟩, sm_foldL r fun m hm => h m (List.mem_cons_of_mem _ hm)⟩
    cases e.cm
    · exact trivial
    · exact ⟨by decide, by decide, trivial, trivial, trivial⟩
theorem sm_pos {a b : Int} (h1 : I64 a) (h2 : I64 b) : Sm (posT a b) := ⟨by decide, sm_num h1, trivial, trivial, by decide, sm_num h2, trivial, trivial, trivial⟩
theorem sm_range {r : Rg} (h : r.Ok) : Sm (rangeT r.a r.b r.c r.d) := ⟨by decide, by decide, trivial, sm_pos h.1 h.2.1, by decide, by decide, trivial, sm_pos h.2.2.1 h.2.2.2, trivial⟩
theorem sm_chain : ∀ (l : List Rg), (∀ r ∈ l, r.Ok) → Sm (chainT l)
  | [], _ => trivial
  | r :: l, h => by
    refine ⟨by decide, by decide, trivial, sm_range (h r (List.mem_cons_self ..)), ?_⟩
    cases l with
    | nil => exact trivial
    | cons a b => exact ⟨by decide, by decide, trivial, sm_chain (a :: b) fun m hm => h m (List.mem_cons_of_mem _ hm), trivial⟩
theorem sm_chains : ∀ (l : List Ch), (∀ e ∈ l, ∀ r ∈ e.l, r.Ok) → Sm (listChT l)
  | [], _ => trivial
  | e :: r, h => ⟨by decide, by decide, trivial, sm_chain e.l (h e (List.mem_cons_self ..)), sm_chains r fun m hm => h m (List.mem_cons_of_mem _ hm)⟩
theorem may_cap : mayV 6 ⟨#[]⟩ .nil tCap 0 = true := by kernel_rfl
theorem sm_cap : Sm tCap := by
  have h2 : (⟨(Lib.itoa 2).toArray⟩ : ByteArray).size ≤ 1000000000000 := sm_num ⟨by decide, by decide⟩
  have ht : ∀ l : List ByteArray, (∀ s ∈ l, s.size ≤ 1000) → Sm (txT l) := fun l => by
    induction l with
    | nil => exact fun _ => trivial
    | cons s r ih => exact fun h => ⟨by decide, by have := U.fix_size s; have := h s (List.mem_cons_self ..); omega, trivial, trivial, ih fun m hm => h m (List.mem_cons_of_mem _ hm)⟩
  have h3 := ht tyL tyL_small
  have h4 := ht mdL mdL_small
  simp only [Sm, tSync, tFull, tLegend, tTokens, tAll, tInfo, tCap]
  repeat' apply And.intro
  all_goals first | exact h2 | exact h3 | exact h4 | exact trivial | decide
end Go.Proofs.YtdgmbmoaeoakpaaDoor
