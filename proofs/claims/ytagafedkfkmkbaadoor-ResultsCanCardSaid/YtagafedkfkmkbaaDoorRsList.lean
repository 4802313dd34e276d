/- A list of texts is made of strings. Conditions: at most 1000 strings of at most 1000 bytes; the library's tables. -/
import Derived.Test.YtagafedkfkmkbaaDoorJvClone
import Derived.Test.YtagafedkfkmkbaaDoorQtTextP
import Derived.Test.YtagafedkfkmkbaaDoorRsMath
import Derived.Test.YtagafedkfkmkbaaDoorUtfMathG
namespace Go.Proofs.YtagafedkfkmkbaaDoor
open Go Go.RowKit Go.Lib

def StrsLie (w : World) (b : Nat) (l : List ByteArray) : Prop := ∀ j s, l[j]? = some s → w.cell? ⟨b, j, none⟩ = some (.string s)
def txT : List ByteArray → V.T
  | [] => .nil
  | s :: r => .cons ⟨#[]⟩ 4 (U.fixS s) .nil .nil (txT r)
theorem txT_len (l : List ByteArray) : (txT l).len = l.length := by
  induction l with
  | nil => rfl
  | cons s r ih => show (txT r).len + 1 = _; rw [ih]; rfl
theorem txT_drop : ∀ (l : List ByteArray) (i : Nat) (s : ByteArray), l[i]? = some s → (txT l).drop i = .cons ⟨#[]⟩ 4 (U.fixS s) .nil .nil (txT (l.drop (i + 1)))
  | [], _, _, h => by simp at h
  | s' :: r, 0, s, h => by
    simp at h; subst h
    rfl
  | s' :: r, i + 1, s, h => txT_drop r i s (by simpa using h)
theorem fix_fit {s : ByteArray} (h : s.size ≤ 1000000000000) : Fit ⟨#[]⟩ 4 (U.fixS s) := ⟨by decide, by have := U.fix_size s; omega, Nat.zero_le _⟩
/-- a list is handed back -/
def ListR (t : V.T) (w : World) (e : Ending) (w' : World) : Prop :=
  ∃ v, e = .returned (.agg #[.int .u8 5, .string ⟨#[]⟩, v, .slice none 0 0]) ∧ HS w' (Fre w.heap.size w') 0 v t ∧ Below w.heap.size w w'
/-- an empty value's box, and a row under way behind it -/
structure LsSt (w : World) (b g : Nat) (t : V.T) (i : Nat) (cur : Array Value) (W : World) : Prop where
  ca : CaSt w 25 0 g t i cur W
  box : Blk4 W b 25 (.int .u8 0) (.string ⟨#[]⟩) (.slice none 0 0) (.slice none 0 0)
  lt : b < w.heap.size
theorem LsSt.step {w wr w1 : World} {b g : Nat} {t : V.T} {i : Nat} {cur : Array Value} {nm : ByteArray} {k : Nat} {x : ByteArray} {l f tl : V.T} {v2 u2 : Value}
    (h : LsSt w b g t i cur wr) (hi : i < t.len) (hd : t.drop i = .cons nm k x l f tl) (hnm : nm = ⟨#[]⟩) (hk : Fit nm k x) (hB : Below wr.heap.size wr w1)
    (hl : HS w1 (Fre wr.heap.size w1) 0 v2 l) (hf : HS w1 (Fre wr.heap.size w1) 1 u2 f) :
    LsSt w b g t (i + 1) ((((cur.setIfInBounds (i * 4) (.int .u8 k)).setIfInBounds (i * 4 + 1) (.string x)).setIfInBounds (i * 4 + 2) v2).setIfInBounds (i * 4 + 3) u2)
      ((((w1.setCell ⟨g, i * 4, none⟩ (.int .u8 k)).setCell ⟨g, i * 4 + 1, none⟩ (.string x)).setCell ⟨g, i * 4 + 2, none⟩ v2).setCell ⟨g, i * 4 + 3, none⟩ u2) := by
  have hne : b ≠ g := by have := h.lt; have := h.ca.base; omega
  exact ⟨h.ca.step0 hi hd hnm hk hB hl hf, h.box.same ((Below.heap_setCell _ _ _ b hne).trans ((Below.heap_setCell _ _ _ b hne).trans ((Below.heap_setCell _ _ _ b hne).trans ((Below.heap_setCell _ _ _ b hne).trans (hB.block b h.box.lt))))), h.lt⟩

set_option maxRecDepth 100000 in
set_option maxHeartbeats 1000000 in
theorem listStr_any (b c : Nat) (l : List ByteArray) (w : World) (hc : l.length ≤ c ∧ c ≤ 9223372036854775807) (hn : l.length ≤ 1000) (hb : b < w.heap.size) (hS : StrsLie w b l) (hz : ∀ s ∈ l, s.size ≤ 1000) (hT : Tabs w) :
    Calls Tryd.prog 71 #[.slice (some ⟨b, 0, none⟩) l.length c, .func (.func 48) #[] #[]] w (ListR (txT l) w) := by
  have HTx := Lib.hid (fun W (hB : Below w.heap.size w W) (s : ByteArray) (hs : s.size ≤ 1000) => text4_any s W (by omega) (by have := U.fix_size s; omega) (tabs_below hT hB))
  have HEl := Lib.hid (fun i (hi : i < l.length) => (show ∃ s : ByteArray, s.size ≤ 1000 ∧ (∀ W, Below w.heap.size w W → W.cell? ⟨b, i, none⟩ = some (.string s)) ∧ (txT l).drop i = .cons ⟨#[]⟩ 4 (U.fixS s) .nil .nil (txT (l.drop (i + 1))) from
    ⟨l[i], hz l[i] (List.getElem_mem hi), fun W hB => (hB.cell (p := ⟨b, i, none⟩) hb).trans (hS i _ (List.getElem?_eq_getElem hi)), txT_drop l i l[i] (List.getElem?_eq_getElem hi)⟩))
  have HE := Lib.hid (txT_len l)
  generalize en : l.length = na at *
  have HN := Lib.hid en
  obtain ⟨i0, hi0, hz0, hz1, hz2⟩ := info_parts infoValue
  obtain ⟨M, hM⟩ : ∃ M, M = madeCells (Value.agg #[.int .u8 0, .string ⟨#[]⟩, .slice none 0 0, .slice none 0 0]).cells (((na : Nat) : Int).toNat * i0.size) := ⟨_, rfl⟩
  have hMs : M.size = na * 4 := by rw [hM, size_madeCells, hz1, Int.toNat_natCast]
  have hmk : ∀ W : World, (Instr.makeSlice 22 (.int .i64 (na : Int)) (.int .i64 (na : Int))).run Tryd.prog W = .ok (.slice (some ⟨W.heap.size, 0, none⟩) na na) (W.alloc (.cells M 25)) := fun W => by
    have h := run_make (P := Tryd.prog) W 22 25 i0 _ Tryd.underlying22 hi0 hz0 .i64 .i64 (na : Int) (na : Int) (by omega) (by omega) (by rw [hz2]; omega) (by omega)
    rw [← hM] at h
    simpa using h
  have hB0 := (Below.refl w.heap.size w).alloc (Nat.le_refl _) (.cells #[.int .u8 0, .string ⟨#[]⟩, .slice none 0 0, .slice none 0 0] 25)
  have b0 : Blk4 (w.alloc (.cells #[.int .u8 0, .string ⟨#[]⟩, .slice none 0 0, .slice none 0 0] 25)) w.heap.size 25 _ _ _ _ := heap_alloc_new _ _
  have hz0 := World.size_alloc w (.cells #[.int .u8 0, .string ⟨#[]⟩, .slice none 0 0, .slice none 0 0] 25)
  have HB := Lib.hid (And.intro b0 (And.intro hB0 hz0))
  clear hM hS hz hT en hB0 b0 hz0
  go_enter Tryd.func71, Tryd.ntmps71
  go_wp2_with fail
  generalize w.alloc (.cells #[.int .u8 0, .string ⟨#[]⟩, .slice none 0 0, .slice none 0 0] 25) = w1 at *
  have hB1 := (Below.refl w1.heap.size w1).alloc (Nat.le_refl _) (.cells M 25)
  have hg : w1.heap.size = w.heap.size + 1 := HB.out.2.2
  have HC := Lib.hid (show LsSt w1 w.heap.size (w.heap.size + 1) (txT l) 0 M (w1.alloc (.cells M 25)) from
    ⟨⟨hB1, hg ▸ heap_alloc_new _ _, by rw [hMs, HE.out], Nat.le_of_eq hg, by rw [Nat.zero_mul, List.take_zero]; exact RP.nil _ _ _ _⟩, HB.out.1.same (hB1.block _ HB.out.1.lt), HB.out.1.lt⟩)
  generalize w1.alloc (.cells M 25) = W0 at *
  have HG := Lib.hid hg
  clear hB1 hMs hmk hg
  go_loopw [13] (fun p wr => ∃ i : Nat, p = .int .i64 i ∧ i ≤ na ∧ Hid (∃ cur, LsSt w1 w.heap.size (w.heap.size + 1) (txT l) i cur wr)) (fun p _ => na - (RowKit.intOf p).toNat)
  case atStart => exact ⟨0, rfl, Nat.zero_le _, Lib.hid ⟨_, HC.out⟩⟩
  case round =>
    obtain ⟨i, rfl, hi, HR⟩ := hrel
    obtain ⟨cur, hR⟩ := HR.out
    by_cases hlt : i < na
    · have HQ := Lib.hid hR
      clear HR hR
      have hbw := HB.out.2.1.trans (HQ.out.ca.below.mono HB.out.2.1.size)
      obtain ⟨s, z1', e1', d1'⟩ := HEl.out i hlt
      have e1 := e1' wr hbw
      have D1 := Lib.hid d1'
      have Z1 := Lib.hid z1'
      have HL := Lib.hid hlt
      clear z1' e1' d1'
      have HW := Lib.hid hbw
      have hrow := HQ.out.ca.row
      have hgl := hrow.lt
      have hcs : i * 4 + 4 ≤ cur.size := by rw [HQ.out.ca.size, HE.out]; have := HL.out; omega
      clear hbw
      go_wp2_with fail
      go_at_call 48
      (with_reducible refine (HTx.out _ HW.out s Z1.out).mono ?_)
      rintro e w2 ⟨rfl, hB2⟩
      have hr1 := hrow.same (hB2.block _ hgl)
      have q0 := hr1.cell (j := i * 4) (by omega)
      have q1 := hr1.cell (j := i * 4 + 1) (by omega)
      have q2 := hr1.cell (j := i * 4 + 2) (by omega)
      have q3 := hr1.cell (j := i * 4 + 3) (by omega)
      have z0 := hr1.free (i * 4)
      have z1 := hr1.free (i * 4 + 1)
      have z2 := hr1.free (i * 4 + 2)
      have z3 := hr1.free (i * 4 + 3)
      have HB2 := Lib.hid hB2
      clear hB2 hr1
      go_wp2_with fail
      go_roundw
      case rel => exact ⟨i + 1, by go_num, HL.out, Lib.hid ⟨_, HQ.out.step (by rw [HE.out]; exact HL.out) D1.out rfl (fix_fit (by have := Z1.out; omega)) HB2.out (HS.nil _ _ _) (HS.nil _ _ _)⟩⟩
      case measure => have := HL.out; simp [RowKit.intOf]; omega
    · obtain rfl : i = na := by omega
      clear HR
      have hw := CaSt.whole (by rw [HE.out]; exact hR.ca) (by rw [HE.out]; omega)
      rw [HE.out] at hw
      have hb2 := hR.box
      have HF := Lib.hid (And.intro hw (And.intro hb2 (And.intro hR.ca.below hR.lt)))
      obtain ⟨x0, x1, x2, x3⟩ := hb2.box
      have f0 := hb2.free 0
      have f1 := hb2.free 1
      have f2 := hb2.free 2
      have f3 := hb2.free 3
      clear hw hR hb2
      go_wp2_with fail
      obtain ⟨g1, g2, g3⟩ := HF.out.2.1.all (.int .u8 5) (.string ⟨#[]⟩) (.slice (some ⟨w.heap.size + 1, 0, none⟩) i i) (.slice none 0 0)
      have hw3 := set4_else wr w.heap.size (.int .u8 5) (.string ⟨#[]⟩) (.slice (some ⟨w.heap.size + 1, 0, none⟩) i i) (.slice none 0 0)
      have g3' := g3 w.heap.size (Nat.le_refl _)
      clear x0 x1 x2 x3 f0 f1 f2 f3
      generalize (((wr.setCell ⟨w.heap.size, 0, none⟩ (.int .u8 5)).setCell ⟨w.heap.size, 1, none⟩ (.string ⟨#[]⟩)).setCell ⟨w.heap.size, 2, none⟩ (.slice (some ⟨w.heap.size + 1, 0, none⟩) i i)).setCell ⟨w.heap.size, 3, none⟩ (.slice none 0 0) = w3 at *
      obtain ⟨x0, x1, x2, x3⟩ := g1.box
      refine bodyPost_ret (v := .agg #[.int .u8 5, .string ⟨#[]⟩, .slice (some ⟨w.heap.size + 1, 0, none⟩) i i, .slice none 0 0]) (by simp [results, Tryd.results71, go_sem, x0, x1, x2, x3]) rfl ?_
      have hlt := HF.out.2.2.2
      have hg := HG.out
      exact ⟨_, rfl, HF.out.1.fre (fun b hb => by omega) (fun b hb _ => hw3 b (by omega)), (HB.out.2.1.trans (HF.out.2.2.1.mono HB.out.2.1.size)).trans g3'⟩
end Go.Proofs.YtagafedkfkmkbaaDoor
