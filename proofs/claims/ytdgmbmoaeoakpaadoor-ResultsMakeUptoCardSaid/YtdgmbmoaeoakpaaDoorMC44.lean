/- A list of chains. Conditions: at most 10^6 chains, of at most 10^6 ranges each; the library's table of powers. -/
import Derived.Test.YtdgmbmoaeoakpaaDoorMC42
import Derived.Test.YtdgmbmoaeoakpaaDoorMC38
namespace Go.Proofs.YtdgmbmoaeoakpaaDoor
open Go Go.RowKit Go.Lib

set_option maxRecDepth 100000 in
set_option maxHeartbeats 1000000 in
theorem listCh (b o c : Nat) (l : List Ch) (w : World) (hc : l.length ≤ c ∧ c ≤ 9223372036854775807) (hn : l.length ≤ 1000000) (hb : l ≠ [] → b < w.heap.size) (hS : ∀ (j : Nat) (e : Ch), l[j]? = some e → w.cell? ⟨b, o + j, none⟩ = some (.slice e.p e.n e.c)) (hz : ∀ e ∈ l, ChOk w e) (hP : PowTab w) :
    Calls Tryd.prog 61 #[.slice (some ⟨b, o, none⟩) l.length c, .func (.func 62) #[] #[]] w (ListR (listChT l) w) := by
  have HTx := Lib.hid (fun W (hB : Below w.heap.size w W) (N : Nat) (hN : N ≤ W.heap.size) (e : Ch) (h : ChOk W e) => (show Calls Tryd.prog 62 #[.slice e.p e.n e.c] W (RetV N (chainK e.l) ⟨#[]⟩ .nil (chainT e.l) W) from chain_any e.p e.n e.c e.l N W hN h.1 h.2 (pow_below hP hB)))
  have HEl := Lib.hid (fun i (hi : i < l.length) => (show ∃ e : Ch, (∀ W, Below w.heap.size w W → ChOk W e ∧ W.cell? ⟨b, o + i, none⟩ = some (.slice e.p e.n e.c)) ∧ (listChT l).drop i = .cons ⟨#[]⟩ (chainK e.l) ⟨#[]⟩ .nil (chainT e.l) (listChT (l.drop (i + 1))) from
    ⟨l[i], fun W hB => ⟨ChOk_below hB (hz l[i] (List.getElem_mem hi)), (hB.cell (p := ⟨b, o + i, none⟩) (hb (by intro e; subst e; simp at hi))).trans (hS i _ (List.getElem?_eq_getElem hi))⟩, listChT_drop l i l[i] (List.getElem?_eq_getElem hi)⟩))
  have HE := Lib.hid (listChT_len l)
  generalize en : l.length = na at *
  have HN := Lib.hid en
  obtain ⟨i0, hi0, hz0, hz1, hz2⟩ := info_parts infoValue
  obtain ⟨M, hM⟩ : ∃ M, M = madeCells (Value.agg #[.int .u8 0, .string ⟨#[]⟩, .slice none 0 0, .slice none 0 0]).cells (((na : Nat) : Int).toNat * i0.size) := ⟨_, rfl⟩
  have hMs : M.size = na * 4 := by rw [hM, size_madeCells, hz1, Int.toNat_natCast]
  have hmk : ∀ W : World, (Instr.makeSlice 22 (.int .i64 (na : Int)) (.int .i64 (na : Int))).run Tryd.prog W = .ok (.slice (some ⟨W.heap.size, 0, none⟩) na na) (W.alloc (.cells M 25)) := fun W => by
    have h := run_make (P := Tryd.prog) W 22 25 i0 _ Tryd.underlying22 hi0 hz0 .i64 .i64 (na : Int) (na : Int) (by omega) (by omega) (by rw [hz2]; omega) (by omega)
    rw [← hM] at h
    simpa using h
  have hB0 := (Below.refl w.heap.size w).alloc (Nat.le_refl _) (.cells #[.int .u8 0, .string ⟨#[]⟩, .slice none 0 0, .slice none 0 0] 25)
  have b0 : Blk4 (w.alloc (.cells #[.int .u8 0, .string ⟨#[]⟩, .slice none 0 0, .slice none 0 0] 25)) w.heap.size 25 _ _ _ _ := heap_alloc_new _ _
  have hz0 := World.size_alloc w (.cells #[.int .u8 0, .string ⟨#[]⟩, .slice none 0 0, .slice none 0 0] 25)
  have HB := Lib.hid (And.intro b0 (And.intro hB0 hz0))
  clear hM hS hz hP en hB0 b0 hz0 hb
  go_enter Tryd.func61, Tryd.ntmps61
  go_wp2_with fail
  generalize w.alloc (.cells #[.int .u8 0, .string ⟨#[]⟩, .slice none 0 0, .slice none 0 0] 25) = w1 at *
  have hB1 := (Below.refl w1.heap.size w1).alloc (Nat.le_refl _) (.cells M 25)
  have hg : w1.heap.size = w.heap.size + 1 := HB.out.2.2
  have HC := Lib.hid (show LsSt w1 w.heap.size (w.heap.size + 1) (listChT l) 0 M (w1.alloc (.cells M 25)) from
    ⟨⟨hB1, hg ▸ heap_alloc_new _ _, by rw [hMs, HE.out], Nat.le_of_eq hg, by rw [Nat.zero_mul, List.take_zero]; exact RP.nil _ _ _ _⟩, HB.out.1.same (hB1.block _ HB.out.1.lt), HB.out.1.lt⟩)
  generalize w1.alloc (.cells M 25) = W0 at *
  have HG := Lib.hid hg
  clear hB1 hMs hmk hg
  go_loopw [13] (fun p wr => ∃ i : Nat, p = .int .i64 i ∧ i ≤ na ∧ Hid (∃ cur, LsSt w1 w.heap.size (w.heap.size + 1) (listChT l) i cur wr)) (fun p _ => na - (RowKit.intOf p).toNat)
  case atStart => exact ⟨0, rfl, Nat.zero_le _, Lib.hid ⟨_, HC.out⟩⟩
  case round =>
    obtain ⟨i, rfl, hi, HR⟩ := hrel
    obtain ⟨cur, hR⟩ := HR.out
    by_cases hlt : i < na
    · have HQ := Lib.hid hR
      clear HR hR
      have hbw := HB.out.2.1.trans (HQ.out.ca.below.mono HB.out.2.1.size)
      obtain ⟨e, e1', d1'⟩ := HEl.out i hlt
      obtain ⟨v1', e1⟩ := e1' wr hbw
      have HV1 := Lib.hid v1'
      have D1 := Lib.hid d1'
      have HL := Lib.hid hlt
      clear e1' d1' v1'
      have HW := Lib.hid hbw
      have hrow := HQ.out.ca.row
      have hgl := hrow.lt
      have hcs : i * 4 + 4 ≤ cur.size := by rw [HQ.out.ca.size, HE.out]; have := HL.out; omega
      clear hbw
      go_wp2_with fail
      go_at_call 62
      (with_reducible refine (HTx.out _ HW.out wr.heap.size (Nat.le_refl _) e HV1.out).mono ?_)
      rintro en w2 ⟨y, rfl, ⟨p1, n1, c1, q1, m1, d1, rfl, hl1, hf1⟩, hB2⟩
      have HR1 := Lib.hid (And.intro hl1 hf1)
      clear hl1 hf1
      have hr1 := hrow.same (hB2.block _ hgl)
      have q0 := hr1.cell (j := i * 4) (by omega)
      have q1 := hr1.cell (j := i * 4 + 1) (by omega)
      have q2 := hr1.cell (j := i * 4 + 2) (by omega)
      have q3 := hr1.cell (j := i * 4 + 3) (by omega)
      have z0 := hr1.free (i * 4)
      have z1 := hr1.free (i * 4 + 1)
      have z2 := hr1.free (i * 4 + 2)
      have z3 := hr1.free (i * 4 + 3)
      have HB2 := Lib.hid hB2
      clear hB2 hr1
      go_wp2_with fail
      go_roundw
      case rel => exact ⟨i + 1, by go_num, HL.out, Lib.hid ⟨_, HQ.out.step (by rw [HE.out]; exact HL.out) D1.out rfl ⟨chainK_lt _, by decide, by decide⟩ HB2.out HR1.out.1 HR1.out.2⟩⟩
      case measure => have := HL.out; simp [RowKit.intOf]; omega
    · obtain rfl : i = na := by omega
      clear HR
      have hw := CaSt.whole (by rw [HE.out]; exact hR.ca) (by rw [HE.out]; omega)
      rw [HE.out] at hw
      have hb2 := hR.box
      have HF := Lib.hid (And.intro hw (And.intro hb2 (And.intro hR.ca.below hR.lt)))
      obtain ⟨x0, x1, x2, x3⟩ := hb2.box
      have f0 := hb2.free 0
      have f1 := hb2.free 1
      have f2 := hb2.free 2
      have f3 := hb2.free 3
      clear hw hR hb2
      go_wp2_with fail
      obtain ⟨g1, g2, g3⟩ := HF.out.2.1.all (.int .u8 5) (.string ⟨#[]⟩) (.slice (some ⟨w.heap.size + 1, 0, none⟩) i i) (.slice none 0 0)
      have hw3 := set4_else wr w.heap.size (.int .u8 5) (.string ⟨#[]⟩) (.slice (some ⟨w.heap.size + 1, 0, none⟩) i i) (.slice none 0 0)
      have g3' := g3 w.heap.size (Nat.le_refl _)
      clear x0 x1 x2 x3 f0 f1 f2 f3
      generalize (((wr.setCell ⟨w.heap.size, 0, none⟩ (.int .u8 5)).setCell ⟨w.heap.size, 1, none⟩ (.string ⟨#[]⟩)).setCell ⟨w.heap.size, 2, none⟩ (.slice (some ⟨w.heap.size + 1, 0, none⟩) i i)).setCell ⟨w.heap.size, 3, none⟩ (.slice none 0 0) = w3 at *
      obtain ⟨x0, x1, x2, x3⟩ := g1.box
      refine bodyPost_ret (v := .agg #[.int .u8 5, .string ⟨#[]⟩, .slice (some ⟨w.heap.size + 1, 0, none⟩) i i, .slice none 0 0]) (by simp [results, Tryd.results61, go_sem, x0, x1, x2, x3]) rfl ?_
      have hlt := HF.out.2.2.2
      have hg := HG.out
      exact ⟨_, rfl, HF.out.1.fre (fun b hb => by omega) (fun b hb _ => hw3 b (by omega)), (HB.out.2.1.trans (HF.out.2.2.1.mono HB.out.2.1.size)).trans g3'⟩
set_option maxRecDepth 100000 in
set_option maxHeartbeats 1000000 in
theorem listCh_nil (p : Option Addr) (c : Nat) (w : World) (hc : c ≤ 9223372036854775807) :
    Calls Tryd.prog 61 #[.slice p 0 c, .func (.func 62) #[] #[]] w (ListR .nil w) := by
  obtain ⟨i0, hi0, hz0, hz1, hz2⟩ := info_parts infoValue
  obtain ⟨M, hM⟩ : ∃ M, M = madeCells (Value.agg #[.int .u8 0, .string ⟨#[]⟩, .slice none 0 0, .slice none 0 0]).cells (((0 : Nat) : Int).toNat * i0.size) := ⟨_, rfl⟩
  have hMs : M.size = 0 * 4 := by rw [hM, size_madeCells, hz1, Int.toNat_natCast]
  have hmk : ∀ W : World, (Instr.makeSlice 22 (.int .i64 0) (.int .i64 0)).run Tryd.prog W = .ok (.slice (some ⟨W.heap.size, 0, none⟩) 0 0) (W.alloc (.cells M 25)) := fun W => by
    have h := run_make (P := Tryd.prog) W 22 25 i0 _ Tryd.underlying22 hi0 hz0 .i64 .i64 ((0 : Nat) : Int) ((0 : Nat) : Int) (by omega) (by omega) (by rw [hz2]; omega) (by omega)
    rw [← hM] at h
    simpa using h
  have hB0 := (Below.refl w.heap.size w).alloc (Nat.le_refl _) (.cells #[.int .u8 0, .string ⟨#[]⟩, .slice none 0 0, .slice none 0 0] 25)
  have b0 : Blk4 (w.alloc (.cells #[.int .u8 0, .string ⟨#[]⟩, .slice none 0 0, .slice none 0 0] 25)) w.heap.size 25 _ _ _ _ := heap_alloc_new _ _
  have hz0 := World.size_alloc w (.cells #[.int .u8 0, .string ⟨#[]⟩, .slice none 0 0, .slice none 0 0] 25)
  have HB := Lib.hid (And.intro b0 (And.intro hB0 hz0))
  clear hM hB0 b0 hz0
  go_enter Tryd.func61, Tryd.ntmps61
  go_wp2_with fail
  generalize w.alloc (.cells #[.int .u8 0, .string ⟨#[]⟩, .slice none 0 0, .slice none 0 0] 25) = w1 at *
  have hB1 := (Below.refl w1.heap.size w1).alloc (Nat.le_refl _) (.cells M 25)
  have hg : w1.heap.size = w.heap.size + 1 := HB.out.2.2
  have HC := Lib.hid (show LsSt w1 w.heap.size (w.heap.size + 1) .nil 0 M (w1.alloc (.cells M 25)) from
    ⟨⟨hB1, hg ▸ heap_alloc_new _ _, by rw [hMs]; rfl, Nat.le_of_eq hg, by rw [Nat.zero_mul, List.take_zero]; exact RP.nil _ _ _ _⟩, HB.out.1.same (hB1.block _ HB.out.1.lt), HB.out.1.lt⟩)
  generalize w1.alloc (.cells M 25) = W0 at *
  have HG := Lib.hid hg
  clear hB1 hMs hmk hg
  go_loopw [13] (fun p wr => ∃ i : Nat, p = .int .i64 i ∧ i ≤ 0 ∧ Hid (∃ cur, LsSt w1 w.heap.size (w.heap.size + 1) .nil i cur wr)) (fun p _ => 0 - (RowKit.intOf p).toNat)
  case atStart => exact ⟨0, rfl, Nat.zero_le _, Lib.hid ⟨_, HC.out⟩⟩
  case round =>
    obtain ⟨i, rfl, hi, HR⟩ := hrel
    obtain ⟨cur, hR⟩ := HR.out
    obtain rfl : i = 0 := by omega
    clear HR
    have hw := CaSt.whole (t := .nil) hR.ca (by decide)
    have hb2 := hR.box
    have HF := Lib.hid (And.intro hw (And.intro hb2 (And.intro hR.ca.below hR.lt)))
    obtain ⟨x0, x1, x2, x3⟩ := hb2.box
    have f0 := hb2.free 0
    have f1 := hb2.free 1
    have f2 := hb2.free 2
    have f3 := hb2.free 3
    clear hw hR hb2
    go_wp2_with fail
    obtain ⟨g1, g2, g3⟩ := HF.out.2.1.all (.int .u8 5) (.string ⟨#[]⟩) (.slice (some ⟨w.heap.size + 1, 0, none⟩) 0 0) (.slice none 0 0)
    have hw3 := set4_else wr w.heap.size (.int .u8 5) (.string ⟨#[]⟩) (.slice (some ⟨w.heap.size + 1, 0, none⟩) 0 0) (.slice none 0 0)
    have g3' := g3 w.heap.size (Nat.le_refl _)
    clear x0 x1 x2 x3 f0 f1 f2 f3
    generalize (((wr.setCell ⟨w.heap.size, 0, none⟩ (.int .u8 5)).setCell ⟨w.heap.size, 1, none⟩ (.string ⟨#[]⟩)).setCell ⟨w.heap.size, 2, none⟩ (.slice (some ⟨w.heap.size + 1, 0, none⟩) 0 0)).setCell ⟨w.heap.size, 3, none⟩ (.slice none 0 0) = w3 at *
    obtain ⟨x0, x1, x2, x3⟩ := g1.box
    refine bodyPost_ret (v := .agg #[.int .u8 5, .string ⟨#[]⟩, .slice (some ⟨w.heap.size + 1, 0, none⟩) 0 0, .slice none 0 0]) (by simp [results, Tryd.results61, go_sem, x0, x1, x2, x3]) rfl ?_
    have hlt := HF.out.2.2.2
    have hg := HG.out
    exact ⟨_, rfl, HF.out.1.fre (fun b hb => by omega) (fun b hb _ => hw3 b (by omega)), (HB.out.2.1.trans (HF.out.2.2.1.mono HB.out.2.1.size)).trans g3'⟩

/-- chains as they lie behind a slice -/
def SrcC (w : World) (v : Value) (l : List Ch) : Prop := (l = [] ∧ ∃ p c, v = .slice p 0 c ∧ c ≤ 9223372036854775807) ∨ ∃ b o c, v = .slice (some ⟨b, o, none⟩) l.length c ∧ l.length ≤ c ∧ c ≤ 9223372036854775807 ∧ b < w.heap.size ∧ (∀ (j : Nat) (e : Ch), l[j]? = some e → w.cell? ⟨b, o + j, none⟩ = some (.slice e.p e.n e.c)) ∧ ∀ e ∈ l, ChOk w e
theorem SrcC.below {w w' : World} {v : Value} {l : List Ch} (h : SrcC w v l) (hB : Below w.heap.size w w') : SrcC w' v l := by
  rcases h with h | ⟨b, o, c, h1, h2, h3, h4, h5, h6⟩
  · exact .inl h
  · exact .inr ⟨b, o, c, h1, h2, h3, Nat.lt_of_lt_of_le h4 hB.size, fun j e hj => (hB.cell (p := ⟨b, o + j, none⟩) h4).trans (h5 j e hj), fun e he => ChOk_below hB (h6 e he)⟩
theorem listC_any (v : Value) (l : List Ch) (w : World) (h : SrcC w v l) (hn : l.length ≤ 1000000) (hP : PowTab w) :
    Calls Tryd.prog 61 #[v, .func (.func 62) #[] #[]] w (ListR (listChT l) w) := by
  rcases h with ⟨rfl, p, c, rfl, hc⟩ | ⟨b, o, c, rfl, h2, h3, h4, h5, h6⟩
  · exact listCh_nil p c w hc
  · exact listCh b o c l w ⟨h2, h3⟩ hn (fun _ => h4) h5 h6 hP
set_option maxHeartbeats 1000000 in
set_option maxRecDepth 100000 in
theorem chains_any (p : Option Addr) (n c : Nat) (l : List Ch) (N : Nat) (w : World) (hN : N ≤ w.heap.size) (h : SrcC w (.slice p n c) l) (hn : l.length ≤ 1000000) (hP : PowTab w) :
    Calls Tryd.prog 30 #[.slice p n c] w (RetV N 5 ⟨#[]⟩ (listChT l) .nil w) := by
  have hB0 := (Below.refl w.heap.size w).alloc (Nat.le_refl _) (.cells #[.int .u8 0, .string ⟨#[]⟩, .slice none 0 0, .slice none 0 0] 25)
  have b0 : Blk4 (w.alloc (.cells #[.int .u8 0, .string ⟨#[]⟩, .slice none 0 0, .slice none 0 0] 25)) w.heap.size 25 _ _ _ _ := heap_alloc_new _ _
  have HC := Lib.hid (listC_any (.slice p n c) l _ (h.below hB0) hn (pow_below hP hB0))
  have hs0 := World.size_alloc w (.cells #[.int .u8 0, .string ⟨#[]⟩, .slice none 0 0, .slice none 0 0] 25)
  have H0 := Lib.hid (And.intro b0 (And.intro hB0 hs0))
  clear hB0 b0 hs0 h hP
  go_enter Tryd.func30, Tryd.ntmps30
  go_wp2_with fail
  refine HC.out.mono ?_
  rintro e w1 ⟨v, rfl, hv, hB⟩
  obtain ⟨q, d, rfl, -⟩ := hv.len
  have b1 := H0.out.1.same (hB.block _ H0.out.1.lt)
  have H1 := Lib.hid (And.intro hv (And.intro b1 (H0.out.2.1.trans (hB.mono H0.out.2.1.size))))
  obtain ⟨x0, x1, x2, x3⟩ := b1.box
  have f0 := b1.free 0
  have f1 := b1.free 1
  have f2 := b1.free 2
  have f3 := b1.free 3
  clear hv hB b1 HC
  generalize (listChT l).len = nl at *
  go_wp2_with fail
  obtain ⟨g1, g2, g3⟩ := H1.out.2.1.all (.int .u8 5) (.string ⟨#[]⟩) (.slice q nl d) (.slice none 0 0)
  have hw3 := set4_else w1 w.heap.size (.int .u8 5) (.string ⟨#[]⟩) (.slice q nl d) (.slice none 0 0)
  have g3' := g3 w.heap.size (Nat.le_refl _)
  clear x0 x1 x2 x3 f0 f1 f2 f3
  generalize (((w1.setCell ⟨w.heap.size, 0, none⟩ (.int .u8 5)).setCell ⟨w.heap.size, 1, none⟩ (.string ⟨#[]⟩)).setCell ⟨w.heap.size, 2, none⟩ (.slice q nl d)).setCell ⟨w.heap.size, 3, none⟩ (.slice none 0 0) = w3 at *
  obtain ⟨x0, x1, x2, x3⟩ := g1.box
  refine bodyPost_ret (v := .agg #[.int .u8 5, .string ⟨#[]⟩, .slice q nl d, .slice none 0 0]) (by simp [results, Tryd.results30, go_sem, x0, x1, x2, x3]) rfl ?_
  have hz := H0.out.2.2
  exact ⟨_, rfl, VF.mk (H1.out.1.fre (fun b hb => by omega) (fun b hb _ => hw3 b (by omega))) (HS.nil _ _ _), H1.out.2.2.trans g3'⟩
end Go.Proofs.YtdgmbmoaeoakpaaDoor
