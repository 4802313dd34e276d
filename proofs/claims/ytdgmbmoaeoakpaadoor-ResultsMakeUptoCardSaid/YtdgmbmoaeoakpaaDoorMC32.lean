/- A list of splices. Conditions: at most 10^6 splices, of at most 10^6 numbers each; the library's table of powers. -/
import Derived.Test.YtdgmbmoaeoakpaaDoorMC31
namespace Go.Proofs.YtdgmbmoaeoakpaaDoor
open Go Go.RowKit Go.Lib

structure Sp where
  st : Int
  de : Int
  p : Option Addr
  n : Nat
  c : Nat
  li : List Int
def SpOk (w : World) (e : Sp) : Prop := I64 e.st ∧ I64 e.de ∧ SrcI w (.slice e.p e.n e.c) e.li ∧ e.li.length ≤ 1000000
theorem SpOk_below {w w' : World} {e : Sp} (hB : Below w.heap.size w w') (h : SpOk w e) : SpOk w' e := ⟨h.1, h.2.1, h.2.2.1.below hB, h.2.2.2⟩
theorem SpOk_below' {w w' : World} {e : Sp} (hB : Below w.heap.size w w') (h : SpOk w e) : SpOk w' e := SpOk_below hB h
def listSpT : List Sp → V.T
  | [] => .nil
  | e :: r => .cons ⟨#[]⟩ 6 ⟨#[]⟩ .nil (spliceT e.st e.de e.li) (listSpT r)
theorem listSpT_len (l : List Sp) : (listSpT l).len = l.length := by
  induction l with
  | nil => rfl
  | cons s r ih => show (listSpT r).len + 1 = _; rw [ih]; rfl
theorem listSpT_drop : ∀ (l : List Sp) (i : Nat) (e : Sp), l[i]? = some e → (listSpT l).drop i = .cons ⟨#[]⟩ 6 ⟨#[]⟩ .nil (spliceT e.st e.de e.li) (listSpT (l.drop (i + 1)))
  | [], _, _, h => by simp at h
  | s' :: r, 0, s, h => by
    simp at h; subst h
    rfl
  | s' :: r, i + 1, s, h => listSpT_drop r i s (by simpa using h)
set_option maxRecDepth 100000 in
set_option maxHeartbeats 1000000 in
theorem listSp (b o c : Nat) (l : List Sp) (w : World) (hc : l.length ≤ c ∧ c ≤ 9223372036854775807) (hn : l.length ≤ 1000000) (hb : l ≠ [] → b < w.heap.size) (hS : ∀ (j : Nat) (e : Sp), l[j]? = some e → w.cell? ⟨b, o + j * 3, none⟩ = some (.int .i64 e.st) ∧ w.cell? ⟨b, o + j * 3 + 1, none⟩ = some (.int .i64 e.de) ∧ w.cell? ⟨b, o + j * 3 + 2, none⟩ = some (.slice e.p e.n e.c)) (hz : ∀ e ∈ l, SpOk w e) (hP : PowTab w) :
    Calls Tryd.prog 57 #[.slice (some ⟨b, o, none⟩) l.length c, .func (.func 58) #[] #[]] w (ListR (listSpT l) w) := by
  have HTx := Lib.hid (fun W (hB : Below w.heap.size w W) (N : Nat) (hN : N ≤ W.heap.size) (e : Sp) (h : SpOk W e) => (show Calls Tryd.prog 58 #[.agg #[.int .i64 e.st, .int .i64 e.de, .slice e.p e.n e.c]] W (RetV N 6 ⟨#[]⟩ .nil (spliceT e.st e.de e.li) W) from splice_any e.st e.de e.p e.n e.c e.li N W h.1 h.2.1 h.2.2.1 h.2.2.2 hN (pow_below hP hB)))
  have HEl := Lib.hid (fun i (hi : i < l.length) => (show ∃ e : Sp, (∀ W, Below w.heap.size w W → SpOk W e ∧ W.cell? ⟨b, o + i * 3, none⟩ = some (.int .i64 e.st) ∧ W.cell? ⟨b, o + i * 3 + 1, none⟩ = some (.int .i64 e.de) ∧ W.cell? ⟨b, o + i * 3 + 2, none⟩ = some (.slice e.p e.n e.c)) ∧ (listSpT l).drop i = .cons ⟨#[]⟩ 6 ⟨#[]⟩ .nil (spliceT e.st e.de e.li) (listSpT (l.drop (i + 1))) from
    ⟨l[i], fun W hB => ⟨SpOk_below hB (hz l[i] (List.getElem_mem hi)), (hB.cell (p := ⟨b, o + i * 3, none⟩) (hb (by intro e; subst e; simp at hi))).trans (hS i _ (List.getElem?_eq_getElem hi)).1, (hB.cell (p := ⟨b, o + i * 3 + 1, none⟩) (hb (by intro e; subst e; simp at hi))).trans (hS i _ (List.getElem?_eq_getElem hi)).2.1, (hB.cell (p := ⟨b, o + i * 3 + 2, none⟩) (hb (by intro e; subst e; simp at hi))).trans (hS i _ (List.getElem?_eq_getElem hi)).2.2⟩, listSpT_drop l i l[i] (List.getElem?_eq_getElem hi)⟩))
  have HE := Lib.hid (listSpT_len l)
  generalize en : l.length = na at *
  have HN := Lib.hid en
  obtain ⟨i0, hi0, hz0, hz1, hz2⟩ := info_parts infoValue
  obtain ⟨M, hM⟩ : ∃ M, M = madeCells (Value.agg #[.int .u8 0, .string ⟨#[]⟩, .slice none 0 0, .slice none 0 0]).cells (((na : Nat) : Int).toNat * i0.size) := ⟨_, rfl⟩
  have hMs : M.size = na * 4 := by rw [hM, size_madeCells, hz1, Int.toNat_natCast]
  have hmk : ∀ W : World, (Instr.makeSlice 22 (.int .i64 (na : Int)) (.int .i64 (na : Int))).run Tryd.prog W = .ok (.slice (some ⟨W.heap.size, 0, none⟩) na na) (W.alloc (.cells M 25)) := fun W => by
    have h := run_make (P := Tryd.prog) W 22 25 i0 _ Tryd.underlying22 hi0 hz0 .i64 .i64 (na : Int) (na : Int) (by omega) (by omega) (by rw [hz2]; omega) (by omega)
    rw [← hM] at h
    simpa using h
  have hB0 := (Below.refl w.heap.size w).alloc (Nat.le_refl _) (.cells #[.int .u8 0, .string ⟨#[]⟩, .slice none 0 0, .slice none 0 0] 25)
  have b0 : Blk4 (w.alloc (.cells #[.int .u8 0, .string ⟨#[]⟩, .slice none 0 0, .slice none 0 0] 25)) w.heap.size 25 _ _ _ _ := heap_alloc_new _ _
  have hz0 := World.size_alloc w (.cells #[.int .u8 0, .string ⟨#[]⟩, .slice none 0 0, .slice none 0 0] 25)
  have HB := Lib.hid (And.intro b0 (And.intro hB0 hz0))
  clear hM hS hz hP en hB0 b0 hz0 hb
  go_enter Tryd.func57, Tryd.ntmps57
  go_wp2_with fail
  generalize w.alloc (.cells #[.int .u8 0, .string ⟨#[]⟩, .slice none 0 0, .slice none 0 0] 25) = w1 at *
  have hB1 := (Below.refl w1.heap.size w1).alloc (Nat.le_refl _) (.cells M 25)
  have hg : w1.heap.size = w.heap.size + 1 := HB.out.2.2
  have HC := Lib.hid (show LsSt w1 w.heap.size (w.heap.size + 1) (listSpT l) 0 M (w1.alloc (.cells M 25)) from
    ⟨⟨hB1, hg ▸ heap_alloc_new _ _, by rw [hMs, HE.out], Nat.le_of_eq hg, by rw [Nat.zero_mul, List.take_zero]; exact RP.nil _ _ _ _⟩, HB.out.1.same (hB1.block _ HB.out.1.lt), HB.out.1.lt⟩)
  generalize w1.alloc (.cells M 25) = W0 at *
  have HG := Lib.hid hg
  clear hB1 hMs hmk hg
  go_loopw [13] (fun p wr => ∃ i : Nat, p = .int .i64 i ∧ i ≤ na ∧ Hid (∃ cur, LsSt w1 w.heap.size (w.heap.size + 1) (listSpT l) i cur wr)) (fun p _ => na - (RowKit.intOf p).toNat)
  case atStart => exact ⟨0, rfl, Nat.zero_le _, Lib.hid ⟨_, HC.out⟩⟩
  case round =>
    obtain ⟨i, rfl, hi, HR⟩ := hrel
    obtain ⟨cur, hR⟩ := HR.out
    by_cases hlt : i < na
    · have HQ := Lib.hid hR
      clear HR hR
      have hbw := HB.out.2.1.trans (HQ.out.ca.below.mono HB.out.2.1.size)
      obtain ⟨e, e1', d1'⟩ := HEl.out i hlt
      obtain ⟨v1', e1, e2, e3⟩ := e1' wr hbw
      have hBx := (Below.refl wr.heap.size wr).alloc (Nat.le_refl _) (.cells #[.int .i64 e.st, .int .i64 e.de, .slice e.p e.n e.c] 81)
      have HV1 := Lib.hid (SpOk_below' hBx v1')
      have HX1 := Lib.hid (And.intro hBx (hbw.trans (hBx.mono hbw.size)))
      have D1 := Lib.hid d1'
      have HL := Lib.hid hlt
      clear e1' d1' v1' hBx
      have HW := Lib.hid hbw
      have hrow := HQ.out.ca.row
      have hgl := hrow.lt
      have hcs : i * 4 + 4 ≤ cur.size := by rw [HQ.out.ca.size, HE.out]; have := HL.out; omega
      clear hbw
      go_wp2_with fail
      go_at_call 58
      (with_reducible refine (HTx.out _ HX1.out.2 wr.heap.size HX1.out.1.size e HV1.out).mono ?_)
      rintro en w2 ⟨y, rfl, ⟨p1, n1, c1, q1, m1, d1, rfl, hl1, hf1⟩, hBc⟩
      have hB2 := HX1.out.1.trans (hBc.mono HX1.out.1.size)
      have HR1 := Lib.hid (And.intro hl1 hf1)
      clear hBc hl1 hf1
      have hr1 := hrow.same (hB2.block _ hgl)
      have q0 := hr1.cell (j := i * 4) (by omega)
      have q1 := hr1.cell (j := i * 4 + 1) (by omega)
      have q2 := hr1.cell (j := i * 4 + 2) (by omega)
      have q3 := hr1.cell (j := i * 4 + 3) (by omega)
      have z0 := hr1.free (i * 4)
      have z1 := hr1.free (i * 4 + 1)
      have z2 := hr1.free (i * 4 + 2)
      have z3 := hr1.free (i * 4 + 3)
      have HB2 := Lib.hid hB2
      clear hB2 hr1
      go_wp2_with fail
      go_roundw
      case rel => exact ⟨i + 1, by go_num, HL.out, Lib.hid ⟨_, HQ.out.step (by rw [HE.out]; exact HL.out) D1.out rfl ⟨by decide, by decide, by decide⟩ HB2.out HR1.out.1 HR1.out.2⟩⟩
      case measure => have := HL.out; simp [RowKit.intOf]; omega
    · obtain rfl : i = na := by omega
      clear HR
      have hw := CaSt.whole (by rw [HE.out]; exact hR.ca) (by rw [HE.out]; omega)
      rw [HE.out] at hw
      have hb2 := hR.box
      have HF := Lib.hid (And.intro hw (And.intro hb2 (And.intro hR.ca.below hR.lt)))
      obtain ⟨x0, x1, x2, x3⟩ := hb2.box
      have f0 := hb2.free 0
      have f1 := hb2.free 1
      have f2 := hb2.free 2
      have f3 := hb2.free 3
      clear hw hR hb2
      go_wp2_with fail
      obtain ⟨g1, g2, g3⟩ := HF.out.2.1.all (.int .u8 5) (.string ⟨#[]⟩) (.slice (some ⟨w.heap.size + 1, 0, none⟩) i i) (.slice none 0 0)
      have hw3 := set4_else wr w.heap.size (.int .u8 5) (.string ⟨#[]⟩) (.slice (some ⟨w.heap.size + 1, 0, none⟩) i i) (.slice none 0 0)
      have g3' := g3 w.heap.size (Nat.le_refl _)
      clear x0 x1 x2 x3 f0 f1 f2 f3
      generalize (((wr.setCell ⟨w.heap.size, 0, none⟩ (.int .u8 5)).setCell ⟨w.heap.size, 1, none⟩ (.string ⟨#[]⟩)).setCell ⟨w.heap.size, 2, none⟩ (.slice (some ⟨w.heap.size + 1, 0, none⟩) i i)).setCell ⟨w.heap.size, 3, none⟩ (.slice none 0 0) = w3 at *
      obtain ⟨x0, x1, x2, x3⟩ := g1.box
      refine bodyPost_ret (v := .agg #[.int .u8 5, .string ⟨#[]⟩, .slice (some ⟨w.heap.size + 1, 0, none⟩) i i, .slice none 0 0]) (by simp [results, Tryd.results57, go_sem, x0, x1, x2, x3]) rfl ?_
      have hlt := HF.out.2.2.2
      have hg := HG.out
      exact ⟨_, rfl, HF.out.1.fre (fun b hb => by omega) (fun b hb _ => hw3 b (by omega)), (HB.out.2.1.trans (HF.out.2.2.1.mono HB.out.2.1.size)).trans g3'⟩
end Go.Proofs.YtdgmbmoaeoakpaaDoor
