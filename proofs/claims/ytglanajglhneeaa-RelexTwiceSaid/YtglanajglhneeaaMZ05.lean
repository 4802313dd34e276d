/- RelexTwice: two edits, one behind the other, come to what the edit around both comes to. Conditions: none but those of the parts. -/
import Derived.Test.YtglanajglhneeaaMX45
import Derived.Test.YtglanajglhneeaaMY01
import Derived.Test.YtglanajglhneeaaMZ01
import Derived.Test.YtglanajglhneeaaMZ03
import Derived.Test.YtglanajglhneeaaMZ04
import Derived.Test.YtglanajglhneeaaMX49
import Derived.Test.YtglanajglhneeaaMX50
namespace Go.Proofs
open Go Go.RowKit Go.Lib
namespace Ytglanajglhneeaa
theorem rdEd_two {W : World} {b : Nat} {ty : TypeId} (x y : EdE) (h : W.heap[b]? = some (.cells #[.int .i64 x.f, .int .i64 x.k, .string x.s, .int .i64 y.f, .int .i64 y.k, .string y.s] ty (0, 0))) : RdEd W (.slice (some ⟨b, 0, none⟩) 2 2) [x, y] := by
  refine ⟨_, _, rfl, by show 2 ≤ _; omega, fun j e hj => ?_⟩
  have hb := (Array.getElem?_eq_some_iff.1 h).1
  have hj2 : j < 2 := (List.getElem?_eq_some_iff.1 hj).1
  obtain rfl | rfl : j = 0 ∨ j = 1 := by omega
  · obtain rfl : x = e := Option.some.inj hj
    exact ⟨b, 0, rfl, hb, by rw [Lib.cell_of_heap h]; rfl, by rw [Lib.cell_of_heap h]; rfl, by rw [Lib.cell_of_heap h]; rfl⟩
  · obtain rfl : y = e := Option.some.inj hj
    exact ⟨b, 0, rfl, hb, by rw [Lib.cell_of_heap h]; rfl, by rw [Lib.cell_of_heap h]; rfl, by rw [Lib.cell_of_heap h]; rfl⟩
/-- what is told of the statement's operations that lays both edits; the two boxes that it makes are known by the pair -/
def TwF (n2 n4 : Nat) (t u : ByteArray) (oF oT nT pF pT rT A3 B3 C3 : Nat) : Option Nat × Option Nat → Nat → Value → World → Prop
  | _, 0, y, _ => y = .pointer (some ⟨n2, 0, none⟩)
  | _, 1, y, _ => y = .int .i64 (oF : Int)
  | _, 2, y, _ => y = .pointer (some ⟨n2, 1, none⟩)
  | _, 3, y, _ => y = .int .i64 (oT : Int)
  | _, 4, y, _ => y = .string t
  | _, 5, y, _ => y = .pointer (some ⟨(n2 + 1), 0, none⟩)
  | _, 6, y, _ => y = .int .i64 (oF : Int)
  | _, 7, y, _ => y = .pointer (some ⟨(n2 + 1), 1, none⟩)
  | _, 8, y, _ => y = .int .i64 (nT : Int)
  | _, 9, y, _ => y = .string (t.extract oF nT)
  | _, 10, y, _ => y = .agg #[.int .i64 (oF : Int), .int .i64 (oT : Int), .string (t.extract oF nT)]
  | _, 11, y, _ => y = .pointer (some ⟨n4, 0, none⟩)
  | _, 12, y, _ => y = .int .i64 (pF : Int)
  | _, 13, y, _ => y = .pointer (some ⟨n4, 1, none⟩)
  | _, 14, y, _ => y = .int .i64 (pT : Int)
  | _, 15, y, _ => y = .string u
  | _, 16, y, _ => y = .pointer (some ⟨(n4 + 1), 0, none⟩)
  | _, 17, y, _ => y = .int .i64 (pF : Int)
  | _, 18, y, _ => y = .pointer (some ⟨(n4 + 1), 1, none⟩)
  | _, 19, y, _ => y = .int .i64 (rT : Int)
  | _, 20, y, _ => y = .string (u.extract pF rT)
  | _, 21, y, _ => y = .agg #[.int .i64 (pF : Int), .int .i64 (pT : Int), .string (u.extract pF rT)]
  | γ, 22, y, W => ∃ b : Nat, y = .slice (some ⟨b, 0, none⟩) 2 2 ∧ W.heap[b]? = some (.cells #[.int .i64 (oF : Int), .int .i64 (oT : Int), .string (t.extract oF nT), .int .i64 (pF : Int), .int .i64 (pT : Int), .string (u.extract pF rT)] 48 (0, 0)) ∧ γ.1 ≠ some b ∧ γ.2 ≠ some b
  | _, 23, y, _ => y = .tuple #[.agg #[.int .i64 (A3 : Int), .int .i64 (B3 : Int)], .agg #[.int .i64 (A3 : Int), .int .i64 (C3 : Int)], .int .i64 0]
  | _, 24, y, _ => y = .tuple #[.agg #[.int .i64 (A3 : Int), .int .i64 (B3 : Int)], .agg #[.int .i64 (A3 : Int), .int .i64 (C3 : Int)], .int .i64 0]
  | _, 25, y, _ => y = .agg #[.int .i64 (A3 : Int), .int .i64 (B3 : Int)]
  | _, 26, y, _ => y = .agg #[.int .i64 (A3 : Int), .int .i64 (C3 : Int)]
  | _, 27, y, _ => y = .int .i64 0
  | γ, 28, y, _ => ∃ b : Nat, γ.1 = some b ∧ y = .pointer (some ⟨b, 0, none⟩)
  | γ, 29, y, _ => ∃ b : Nat, γ.2 = some b ∧ y = .pointer (some ⟨b, 0, none⟩)
  | γ, 30, _, W => ∃ b : Nat, γ.1 = some b ∧ EdRow W b (A3 : Int) (B3 : Int)
  | γ, 31, _, W => ∃ b : Nat, γ.2 = some b ∧ EdRow W b (A3 : Int) (C3 : Int)
  | _, _, _, _ => True
def TwG (w8 : World) (γ : Option Nat × Option Nat) (W : World) : Prop := Below w8.heap.size w8 W ∧ (∀ b, γ.1 = some b → w8.heap.size ≤ b ∧ ∃ p q, EdRow W b p q) ∧ (∀ b, γ.2 = some b → w8.heap.size ≤ b ∧ ∃ p q, EdRow W b p q) ∧ ∀ b c, γ.1 = some b → γ.2 = some c → b ≠ c
def TwN (γ : Option Nat × Option Nat) (i : Nat) : Prop := (i = 28 → γ.1 = none) ∧ (i = 29 → γ.2 = none)
theorem EdRow.lt9 {W : World} {b : Nat} {p q : Int} (h : EdRow W b p q) : b < W.heap.size := (Array.getElem?_eq_some_iff.1 h).1
theorem EdRow.al9 {W : World} {b : Nat} {p q : Int} (h : EdRow W b p q) (o : Obj) : EdRow (W.alloc o) b p q := (heap_alloc_old _ _ h.lt9).trans h
theorem TwG.on {w8 : World} {γ : Option Nat × Option Nat} {W W' : World} (h : TwG w8 γ W) (hB : Below W.heap.size W W') : TwG w8 γ W' := by
  obtain ⟨h1, h2, h3, h4⟩ := h
  refine ⟨h1.trans (hB.mono h1.size), fun b hb => ?_, fun b hb => ?_, h4⟩
  · obtain ⟨x, p, q, y⟩ := h2 b hb; exact ⟨x, p, q, y.below hB⟩
  · obtain ⟨x, p, q, y⟩ := h3 b hb; exact ⟨x, p, q, y.below hB⟩
theorem TwG.al1 {w8 : World} {γ : Option Nat × Option Nat} {W : World} (h : TwG w8 γ W) : TwG w8 (some W.heap.size, γ.2) (W.alloc (.cells #[.int .i64 0, .int .i64 0] 32)) := by
  obtain ⟨h1, h2, h3, h4⟩ := h
  refine ⟨h1.alloc h1.size _, fun b hb => ?_, fun b hb => ?_, fun b c hb hc => ?_⟩
  · cases hb; exact ⟨h1.size, 0, 0, heap_alloc_new W _⟩
  · obtain ⟨x, p, q, y⟩ := h3 b hb; exact ⟨x, p, q, y.al9 _⟩
  · cases hb
    obtain ⟨x, p, q, y⟩ := h3 c hc
    have := y.lt9
    omega
theorem TwG.al2 {w8 : World} {γ : Option Nat × Option Nat} {W : World} (h : TwG w8 γ W) : TwG w8 (γ.1, some W.heap.size) (W.alloc (.cells #[.int .i64 0, .int .i64 0] 32)) := by
  obtain ⟨h1, h2, h3, h4⟩ := h
  refine ⟨h1.alloc h1.size _, fun b hb => ?_, fun b hb => ?_, fun b c hb hc => ?_⟩
  · obtain ⟨x, p, q, y⟩ := h2 b hb; exact ⟨x, p, q, y.al9 _⟩
  · cases hb; exact ⟨h1.size, 0, 0, heap_alloc_new W _⟩
  · cases hc
    obtain ⟨x, p, q, y⟩ := h2 b hb
    have := y.lt9
    omega
theorem TwG.set {w8 : World} {γ : Option Nat × Option Nat} {W : World} (h : TwG w8 γ W) (g : Nat) (hg : w8.heap.size ≤ g) (x y : Int) : TwG w8 γ (W.setRow g #[.int .i64 x, .int .i64 y]) := by
  obtain ⟨h1, h2, h3, h4⟩ := h
  have hrow : ∀ b, (∃ p q, EdRow W b p q) → ∃ p q, EdRow (W.setRow g #[.int .i64 x, .int .i64 y]) b p q := fun b ⟨p, q, hr⟩ => by
    by_cases e : b = g
    · subst e; exact ⟨_, _, EdRow.set hr _ _⟩
    · exact ⟨_, _, EdRow.other hr _ e⟩
  exact ⟨below_setRow h1 hg _, fun b hb => ⟨(h2 b hb).1, hrow b (h2 b hb).2⟩, fun b hb => ⟨(h3 b hb).1, hrow b (h3 b hb).2⟩, h4⟩
theorem TwF.on {n2 n4 : Nat} {t u : ByteArray} {oF oT nT pF pT rT A3 B3 C3 : Nat} {γ : Option Nat × Option Nat} {i : Nat} {y : Value} {W W' : World} (h : TwF n2 n4 t u oF oT nT pF pT rT A3 B3 C3 γ i y W) (hB : Below W.heap.size W W') : TwF n2 n4 t u oF oT nT pF pT rT A3 B3 C3 γ i y W' := by
  unfold TwF at h ⊢
  split at h
  · exact h
  · exact h
  · exact h
  · exact h
  · exact h
  · exact h
  · exact h
  · exact h
  · exact h
  · exact h
  · exact h
  · exact h
  · exact h
  · exact h
  · exact h
  · exact h
  · exact h
  · exact h
  · exact h
  · exact h
  · exact h
  · exact h
  · obtain ⟨b, e, h1, h2⟩ := h; exact ⟨b, e, (hB.block b (Array.getElem?_eq_some_iff.1 h1).1).trans h1, h2⟩
  · exact h
  · exact h
  · exact h
  · exact h
  · exact h
  · exact h
  · exact h
  · obtain ⟨b, e, h1⟩ := h; exact ⟨b, e, h1.below hB⟩
  · obtain ⟨b, e, h1⟩ := h; exact ⟨b, e, h1.below hB⟩
  · trivial
theorem TwF.al1 {n2 n4 : Nat} {t u : ByteArray} {oF oT nT pF pT rT A3 B3 C3 : Nat} {γ : Option Nat × Option Nat} {i : Nat} {y : Value} {W W' : World} (h : TwF n2 n4 t u oF oT nT pF pT rT A3 B3 C3 γ i y W) (hn : γ.1 = none) (hW : W' = W.alloc (.cells #[.int .i64 0, .int .i64 0] 32)) : TwF n2 n4 t u oF oT nT pF pT rT A3 B3 C3 (some W.heap.size, γ.2) i y W' := by
  unfold TwF at h ⊢
  split at h
  · exact h
  · exact h
  · exact h
  · exact h
  · exact h
  · exact h
  · exact h
  · exact h
  · exact h
  · exact h
  · exact h
  · exact h
  · exact h
  · exact h
  · exact h
  · exact h
  · exact h
  · exact h
  · exact h
  · exact h
  · exact h
  · exact h
  · subst hW; obtain ⟨b, e, h1, h2, h3⟩ := h; exact ⟨b, e, (heap_alloc_old _ _ (Array.getElem?_eq_some_iff.1 h1).1).trans h1, fun e => by have := (Array.getElem?_eq_some_iff.1 h1).1; cases e; omega, h3⟩
  · exact h
  · exact h
  · exact h
  · exact h
  · exact h
  · obtain ⟨b, e, _⟩ := h; rw [hn] at e; cases e
  · exact h
  · obtain ⟨b, e, _⟩ := h; rw [hn] at e; cases e
  · subst hW; obtain ⟨b, e, h1⟩ := h; exact ⟨b, e, h1.al9 _⟩
  · trivial
theorem TwF.al2 {n2 n4 : Nat} {t u : ByteArray} {oF oT nT pF pT rT A3 B3 C3 : Nat} {γ : Option Nat × Option Nat} {i : Nat} {y : Value} {W W' : World} (h : TwF n2 n4 t u oF oT nT pF pT rT A3 B3 C3 γ i y W) (hn : γ.2 = none) (hW : W' = W.alloc (.cells #[.int .i64 0, .int .i64 0] 32)) : TwF n2 n4 t u oF oT nT pF pT rT A3 B3 C3 (γ.1, some W.heap.size) i y W' := by
  unfold TwF at h ⊢
  split at h
  · exact h
  · exact h
  · exact h
  · exact h
  · exact h
  · exact h
  · exact h
  · exact h
  · exact h
  · exact h
  · exact h
  · exact h
  · exact h
  · exact h
  · exact h
  · exact h
  · exact h
  · exact h
  · exact h
  · exact h
  · exact h
  · exact h
  · subst hW; obtain ⟨b, e, h1, h2, h3⟩ := h; exact ⟨b, e, (heap_alloc_old _ _ (Array.getElem?_eq_some_iff.1 h1).1).trans h1, h2, fun e => by have := (Array.getElem?_eq_some_iff.1 h1).1; cases e; omega⟩
  · exact h
  · exact h
  · exact h
  · exact h
  · exact h
  · exact h
  · obtain ⟨b, e, _⟩ := h; rw [hn] at e; cases e
  · subst hW; obtain ⟨b, e, h1⟩ := h; exact ⟨b, e, h1.al9 _⟩
  · obtain ⟨b, e, _⟩ := h; rw [hn] at e; cases e
  · trivial
theorem TwF.s1 {n2 n4 : Nat} {t u : ByteArray} {oF oT nT pF pT rT A3 B3 C3 : Nat} {γ : Option Nat × Option Nat} {i : Nat} {y : Value} {W W' : World} (h : TwF n2 n4 t u oF oT nT pF pT rT A3 B3 C3 γ i y W) {w8 : World} (hG : TwG w8 γ W) {g : Nat} (hg : γ.1 = some g) (hW : W' = W.setRow g #[.int .i64 (A3 : Int), .int .i64 (B3 : Int)]) : TwF n2 n4 t u oF oT nT pF pT rT A3 B3 C3 γ i y W' := by
  unfold TwF at h ⊢
  split at h
  · exact h
  · exact h
  · exact h
  · exact h
  · exact h
  · exact h
  · exact h
  · exact h
  · exact h
  · exact h
  · exact h
  · exact h
  · exact h
  · exact h
  · exact h
  · exact h
  · exact h
  · exact h
  · exact h
  · exact h
  · exact h
  · exact h
  · subst hW; obtain ⟨b, e, h1, h2, h3⟩ := h; exact ⟨b, e, (setRow_other W g b _ (fun e2 => h2 (by rw [hg, e2]))).trans h1, h2, h3⟩
  · exact h
  · exact h
  · exact h
  · exact h
  · exact h
  · exact h
  · exact h
  · subst hW; obtain ⟨b, e, h1⟩ := h; rw [hg] at e; cases e; exact ⟨g, hg, EdRow.set h1 _ _⟩
  · subst hW; obtain ⟨b, e, h1⟩ := h; exact ⟨b, e, EdRow.other h1 _ (Ne.symm (hG.2.2.2 g b hg e))⟩
  · trivial
theorem TwF.s2 {n2 n4 : Nat} {t u : ByteArray} {oF oT nT pF pT rT A3 B3 C3 : Nat} {γ : Option Nat × Option Nat} {i : Nat} {y : Value} {W W' : World} (h : TwF n2 n4 t u oF oT nT pF pT rT A3 B3 C3 γ i y W) {w8 : World} (hG : TwG w8 γ W) {g : Nat} (hg : γ.2 = some g) (hW : W' = W.setRow g #[.int .i64 (A3 : Int), .int .i64 (C3 : Int)]) : TwF n2 n4 t u oF oT nT pF pT rT A3 B3 C3 γ i y W' := by
  unfold TwF at h ⊢
  split at h
  · exact h
  · exact h
  · exact h
  · exact h
  · exact h
  · exact h
  · exact h
  · exact h
  · exact h
  · exact h
  · exact h
  · exact h
  · exact h
  · exact h
  · exact h
  · exact h
  · exact h
  · exact h
  · exact h
  · exact h
  · exact h
  · exact h
  · subst hW; obtain ⟨b, e, h1, h2, h3⟩ := h; exact ⟨b, e, (setRow_other W g b _ (fun e2 => h3 (by rw [hg, e2]))).trans h1, h2, h3⟩
  · exact h
  · exact h
  · exact h
  · exact h
  · exact h
  · exact h
  · exact h
  · subst hW; obtain ⟨b, e, h1⟩ := h; exact ⟨b, e, EdRow.other h1 _ (hG.2.2.2 b g e hg)⟩
  · subst hW; obtain ⟨b, e, h1⟩ := h; rw [hg] at e; cases e; exact ⟨g, hg, EdRow.set h1 _ _⟩
  · trivial
def TrueRx (w : World) (e : Ending) (w' : World) : Prop := e = .returned (.bool true) ∧ Below w.heap.size w w'
set_option maxHeartbeats 8000000 in
set_option maxRecDepth 100000 in
theorem relexTwice_any (s : ByteArray) (f0 k0 : Int) (m : ByteArray) (f1 k1 : Int) (l : ByteArray) (w : World) (hs : s.size ≤ 1000000000000000) (hm : m.size ≤ 1000000000000000) (hl : l.size ≤ 1000000000000000) : Calls Try.prog 6 #[.string s, .agg #[.int .i64 f0, .int .i64 k0, .string m], .agg #[.int .i64 f1, .int .i64 k1, .string l]] w (TrueRx w) := by
  have HFi := Lib.hid (fun W => fits_any s m f0 k0 hs hm W)
  have HFj := Lib.hid (fun (t : ByteArray) (ht : t.size ≤ 1000000000000000) W => fits_any t l f1 k1 ht hl W)
  have HAll := Lib.hid (fun (h : s.size ≤ 6000) W => all_any s W (by omega))
  have HUp := Lib.hid (fun s t oF oT nT (h : s.size ≤ 16000) (ht : t.size ≤ 16000) hE v W hr => update_any s t oF oT nT h ht hE v W hr)
  have HAw := Lib.hid (fun W => awake13_any W)
  clear hs hm hl
  go_enter Try.func6, Try.ntmps6
  go_upto_region 1 with fail
  have n0 : ((w.alloc (.cells #[.int .i64 f0, .int .i64 k0, .string m] 30)).alloc (.cells #[.int .i64 f1, .int .i64 k1, .string l] 30)).heap[w.heap.size]? = some (.cells #[.int .i64 f0, .int .i64 k0, .string m] 30 (0, 0)) := (heap_alloc_old _ _ (by simp)).trans (heap_alloc_new w _)
  have n1 : ((w.alloc (.cells #[.int .i64 f0, .int .i64 k0, .string m] 30)).alloc (.cells #[.int .i64 f1, .int .i64 k1, .string l] 30)).heap[w.heap.size + 1]? = some (.cells #[.int .i64 f1, .int .i64 k1, .string l] 30 (0, 0)) := by
    have := heap_alloc_new (w.alloc (.cells #[.int .i64 f0, .int .i64 k0, .string m] 30)) (.cells #[.int .i64 f1, .int .i64 k1, .string l] 30)
    rwa [World.size_alloc] at this
  have hbw : Below w.heap.size w ((w.alloc (.cells #[.int .i64 f0, .int .i64 k0, .string m] 30)).alloc (.cells #[.int .i64 f1, .int .i64 k1, .string l] 30)) := ((Below.refl _ _).alloc (Nat.le_refl _) _).alloc (by simp) _
  generalize (w.alloc _).alloc _ = W1 at *
  have HB1 := Lib.hid hbw
  have HC0 := Lib.hid (fun X (hX : Below W1.heap.size W1 X) => (show X.cell? ⟨w.heap.size, 0, none⟩ = some (.int .i64 f0) ∧ X.cell? ⟨w.heap.size, 1, none⟩ = some (.int .i64 k0) ∧ X.cell? ⟨w.heap.size, 2, none⟩ = some (.string m) ∧ X.cell? ⟨w.heap.size + 1, 0, none⟩ = some (.int .i64 f1) ∧ X.cell? ⟨w.heap.size + 1, 1, none⟩ = some (.int .i64 k1) ∧ X.cell? ⟨w.heap.size + 1, 2, none⟩ = some (.string l) from by
    have r0 := (hX.block _ (Array.getElem?_eq_some_iff.1 n0).1).trans n0
    have r1 := (hX.block _ (Array.getElem?_eq_some_iff.1 n1).1).trans n1
    refine ⟨?_, ?_, ?_, ?_, ?_, ?_⟩ <;> first | (rw [Lib.cell_of_heap r0]; rfl) | (rw [Lib.cell_of_heap r1]; rfl)))
  clear n0 n1 hbw
  obtain ⟨y0, y1, y2, y3, y4, y5⟩ := HC0.out _ (Below.refl _ _)
  go_wp2_with fail
  refine (HFi.out _).mono ?_
  rintro e w2 ⟨hr, hB2⟩
  have HB2 := Lib.hid (HB1.out.trans (hB2.mono HB1.out.size))
  have HB2l := Lib.hid (hB2 : Below W1.heap.size W1 w2)
  clear y0 y1 y2 y3 y4 y5 hB2
  rcases hr with ⟨oF, oT, rfl, h1, h2, h3, h4⟩ | rfl
  · have hE := D.ed1_put s m oF oT h1 h2
    have hz := D.put_size s m oF oT (by omega)
    generalize ht : s.extract 0 oF ++ m ++ s.extract oT s.size = t at *
    generalize hnT : oF + m.size = nT at *
    have htz : t.size ≤ 9000 := by omega
    have hsz : s.size ≤ 6000 := h3
    have hA := fun W => HAll.out h3 W
    have HA := Lib.hid hA
    have HU := Lib.hid (fun v W hr => HUp.out s t oF oT nT (by omega) (by omega) hE v W hr)
    have HE1 := Lib.hid hE
    have b1 : oF ≤ oT ∧ oT ≤ s.size ∧ oF ≤ nT ∧ nT ≤ t.size := ⟨hE.h1, hE.h2, hE.h3, hE.h4⟩
    clear hE hz ht hnT hA HAll h1 h2 h3 h4
    go_upto_region 2 with fail
    have n0 : ((w2.alloc (.cells #[.int .i64 (oF : Int), .int .i64 (oT : Int)] 32)).alloc (.cells #[.int .i64 (oF : Int), .int .i64 (nT : Int)] 32)).heap[w2.heap.size]? = some (.cells #[.int .i64 (oF : Int), .int .i64 (oT : Int)] 32 (0, 0)) := (heap_alloc_old _ _ (by simp)).trans (heap_alloc_new w2 _)
    have n1 : ((w2.alloc (.cells #[.int .i64 (oF : Int), .int .i64 (oT : Int)] 32)).alloc (.cells #[.int .i64 (oF : Int), .int .i64 (nT : Int)] 32)).heap[w2.heap.size + 1]? = some (.cells #[.int .i64 (oF : Int), .int .i64 (nT : Int)] 32 (0, 0)) := by
      have := heap_alloc_new (w2.alloc (.cells #[.int .i64 (oF : Int), .int .i64 (oT : Int)] 32)) (.cells #[.int .i64 (oF : Int), .int .i64 (nT : Int)] 32)
      rwa [World.size_alloc] at this
    have hbw : Below w.heap.size w ((w2.alloc (.cells #[.int .i64 (oF : Int), .int .i64 (oT : Int)] 32)).alloc (.cells #[.int .i64 (oF : Int), .int .i64 (nT : Int)] 32)) := (HB2.out.alloc HB2.out.size _).alloc (by have := HB2.out.size; simp; omega) _
    have hbl : Below w2.heap.size w2 ((w2.alloc (.cells #[.int .i64 (oF : Int), .int .i64 (oT : Int)] 32)).alloc (.cells #[.int .i64 (oF : Int), .int .i64 (nT : Int)] 32)) := ((Below.refl _ _).alloc (Nat.le_refl _) _).alloc (by simp) _
    generalize (w2.alloc _).alloc _ = W3 at *
    have HCo := Lib.hid (fun X (hX : Below W3.heap.size W3 X) => (show X.cell? ⟨w2.heap.size, 0, none⟩ = some (.int .i64 (oF : Int)) ∧ X.cell? ⟨w2.heap.size, 1, none⟩ = some (.int .i64 (oT : Int)) ∧ X.cell? ⟨w2.heap.size + 1, 0, none⟩ = some (.int .i64 (oF : Int)) ∧ X.cell? ⟨w2.heap.size + 1, 1, none⟩ = some (.int .i64 (nT : Int)) from by
      have r0 := (hX.block _ (Array.getElem?_eq_some_iff.1 n0).1).trans n0
      have r1 := (hX.block _ (Array.getElem?_eq_some_iff.1 n1).1).trans n1
      exact ⟨by rw [Lib.cell_of_heap r0]; rfl, by rw [Lib.cell_of_heap r0]; rfl, by rw [Lib.cell_of_heap r1]; rfl, by rw [Lib.cell_of_heap r1]; rfl⟩))
    have HB3 := Lib.hid (And.intro hbw hbl)
    clear n0 n1 hbw hbl
    obtain ⟨y0, y1, y2, y3, y4, y5⟩ := HC0.out W3 (HB2l.out.trans (HB3.out.2.mono HB2l.out.size))
    have HF2 := Lib.hid (fun W => HFj.out t (by omega) W)
    clear HFi HFj
    go_wp2_with fail
    refine (HF2.out _).mono ?_
    rintro e w4 ⟨hr, hB4⟩
    have HB4 := Lib.hid (HB3.out.1.trans (hB4.mono HB3.out.1.size))
    have HB4l := Lib.hid (hB4 : Below W3.heap.size W3 w4)
    clear y0 y1 y2 y3 y4 y5 hB4
    rcases hr with ⟨pF, pT, rfl, h1, h2, h3, h4⟩ | rfl
    · have hE := D.ed1_put t l pF pT h1 h2
      have hz := D.put_size t l pF pT (by omega)
      generalize hu : t.extract 0 pF ++ l ++ t.extract pT t.size = u at *
      generalize hrT : pF + l.size = rT at *
      have huz : u.size ≤ 9000 := by omega
      have HV := Lib.hid (fun v W hr => HUp.out t u pF pT rT (by omega) (by omega) hE v W hr)
      have b2 : pF ≤ pT ∧ pT ≤ t.size ∧ pF ≤ rT ∧ rT ≤ u.size := ⟨hE.h1, hE.h2, hE.h3, hE.h4⟩
      have hE3 := D.Ed1.twice HE1.out hE
      have HX := Lib.hid (fun v W hr => HUp.out s u _ _ _ (by omega) (by omega) hE3 v W hr)
      have hAn := Ed.ans_two (x := t.extract oF nT) (y := u.extract pF rT) b1.1 (by omega) b1.2.2.1 (by omega) b2.1 (by omega) b2.2.2.1 (by omega) (by rw [ByteArray.size_extract]; omega) (by rw [ByteArray.size_extract]; omega)
      have b3 : min oF pF ≤ 9000 ∧ oT + max nT pT - nT ≤ 20000 ∧ max nT pT + rT - pT ≤ 20000 := by omega
      generalize hA3 : min oF pF = A3 at *
      generalize hB3 : oT + max nT pT - nT = B3 at *
      generalize hC3 : max nT pT + rT - pT = C3 at *
      have HAn := Lib.hid hAn
      have HAr := Lib.hid (fun v W hr => around_any v [⟨oF, oT, t.extract oF nT⟩, ⟨pF, pT, u.extract pF rT⟩] W hr hAn.2.2)
      unfold ArdIs at HAr
      rw [hAn.1, hAn.2.1] at HAr
      clear hE hz hu hrT hE3 hAn hA3 hB3 hC3 HUp h1 h2 h3 h4
      go_upto_region 5 with fail
      have n0 : ((w4.alloc (.cells #[.int .i64 (pF : Int), .int .i64 (pT : Int)] 32)).alloc (.cells #[.int .i64 (pF : Int), .int .i64 (rT : Int)] 32)).heap[w4.heap.size]? = some (.cells #[.int .i64 (pF : Int), .int .i64 (pT : Int)] 32 (0, 0)) := (heap_alloc_old _ _ (by simp)).trans (heap_alloc_new w4 _)
      have n1 : ((w4.alloc (.cells #[.int .i64 (pF : Int), .int .i64 (pT : Int)] 32)).alloc (.cells #[.int .i64 (pF : Int), .int .i64 (rT : Int)] 32)).heap[w4.heap.size + 1]? = some (.cells #[.int .i64 (pF : Int), .int .i64 (rT : Int)] 32 (0, 0)) := by
        have := heap_alloc_new (w4.alloc (.cells #[.int .i64 (pF : Int), .int .i64 (pT : Int)] 32)) (.cells #[.int .i64 (pF : Int), .int .i64 (rT : Int)] 32)
        rwa [World.size_alloc] at this
      have hbw : Below w.heap.size w ((w4.alloc (.cells #[.int .i64 (pF : Int), .int .i64 (pT : Int)] 32)).alloc (.cells #[.int .i64 (pF : Int), .int .i64 (rT : Int)] 32)) := (HB4.out.alloc HB4.out.size _).alloc (by have := HB4.out.size; simp; omega) _
      have hbl : Below w4.heap.size w4 ((w4.alloc (.cells #[.int .i64 (pF : Int), .int .i64 (pT : Int)] 32)).alloc (.cells #[.int .i64 (pF : Int), .int .i64 (rT : Int)] 32)) := ((Below.refl _ _).alloc (Nat.le_refl _) _).alloc (by simp) _
      generalize (w4.alloc _).alloc _ = W5 at *
      have HCm := Lib.hid (fun X (hX : Below W5.heap.size W5 X) => (show X.cell? ⟨w4.heap.size, 0, none⟩ = some (.int .i64 (pF : Int)) ∧ X.cell? ⟨w4.heap.size, 1, none⟩ = some (.int .i64 (pT : Int)) ∧ X.cell? ⟨w4.heap.size + 1, 0, none⟩ = some (.int .i64 (pF : Int)) ∧ X.cell? ⟨w4.heap.size + 1, 1, none⟩ = some (.int .i64 (rT : Int)) from by
        have r0 := (hX.block _ (Array.getElem?_eq_some_iff.1 n0).1).trans n0
        have r1 := (hX.block _ (Array.getElem?_eq_some_iff.1 n1).1).trans n1
        exact ⟨by rw [Lib.cell_of_heap r0]; rfl, by rw [Lib.cell_of_heap r0]; rfl, by rw [Lib.cell_of_heap r1]; rfl, by rw [Lib.cell_of_heap r1]; rfl⟩))
      have HB5 := Lib.hid (And.intro hbw hbl)
      clear n0 n1 hbw hbl
      go_wp2_with fail
      refine (HA.out _).mono ?_
      rintro e w6 ⟨v6, rfl, own6, _, hB6⟩
      have hr6 := rdT_toks (w := W5) (by omega) own6
      have H6 := Lib.hid (And.intro hr6 (hB6 : Below W5.heap.size W5 w6))
      have HL6 := Lib.hid (HB4l.out.trans ((HB5.out.2.trans (hB6.mono HB5.out.2.size)).mono HB4l.out.size))
      obtain ⟨z6, c6, rfl, g1, g2⟩ := hr6.shape rfl
      obtain ⟨y0, y1, y2, y3⟩ := HCo.out w6 HL6.out
      clear own6 hr6 hB6
      go_wp2_with fail
      refine (HU.out _ _ H6.out.1).mono ?_
      rintro e w7 ⟨v7, a1, a2, a3, rfl, hr7, _, hB7⟩
      have H7 := Lib.hid (And.intro hr7 (And.intro (H6.out.2.trans (hB7.mono H6.out.2.size)) (And.intro (HL6.out.trans (hB7.mono HL6.out.size)) (H6.out.1.below hB7))))
      obtain ⟨z7, c7, rfl, g3, g4⟩ := hr7.shape rfl
      clear hr7 hB7 y0 y1 y2 y3
      obtain ⟨y4, y5, y6, y7⟩ := HCm.out w7 H7.out.2.1
      go_wp2_with fail
      refine (HV.out _ _ H7.out.1).mono ?_
      rintro e w8 ⟨v8, b1', b2', b3', rfl, hr8, _, hB8⟩
      have H8 := Lib.hid (And.intro hr8 (And.intro (H7.out.2.1.trans (hB8.mono H7.out.2.1.size)) (And.intro (H7.out.2.2.1.trans (hB8.mono H7.out.2.2.1.size)) (H7.out.2.2.2.below hB8))))
      obtain ⟨z8, c8, rfl, g5, g6⟩ := hr8.shape rfl
      clear hr8 hB8 y4 y5 y6 y7
      have KEEP := Lib.hid (fun X (hX : Below w8.heap.size w8 X) => And.intro (HCo.out X (H8.out.2.2.1.trans (hX.mono H8.out.2.2.1.size))) (HCm.out X (H8.out.2.1.trans (hX.mono H8.out.2.1.size))))
      obtain ⟨⟨y0, y1, y2, y3⟩, y4, y5, y6, y7⟩ := KEEP.out w8 (Below.refl _ _)
      have s1 : (0 : Int) ≤ (oF : Int) := Int.natCast_nonneg _
      have s2 : (oF : Int) ≤ (nT : Int) := by omega
      have s3 : (nT : Int) ≤ (t.size : Int) := by omega
      have s4 : (0 : Int) ≤ (pF : Int) := Int.natCast_nonneg _
      have s5 : (pF : Int) ≤ (rT : Int) := by omega
      have s6 : (rT : Int) ≤ (u.size : Int) := by omega
      have s7 : oF ≤ nT ∧ nT ≤ t.size := by omega
      have s8 : pF ≤ rT ∧ rT ≤ u.size := by omega
      have HK8 := Lib.hid (show TwG w8 (none, none) w8.drew from ⟨(Below.refl _ _).drew, fun b hb => (by cases hb), fun b hb => (by cases hb), fun b c hb => (by cases hb)⟩)
      clear y0 y1 y2 y3 y4 y5 y6 y7
      go_upto_region 10 with fail
      refine RX.wp_region_steps (z := 32) [some 81, some 82, some 83, some 84, some 85, some 86, some 87, some 88, some 89, some 90, some 91, some 92, some 93, some 94, some 95, some 96, some 97, some 98, some 99, some 100, some 101, some 102, some 103, some 104, some 80, some 105, some 106, some 107, some 26, some 27, none, none, some 28] _ _ ((none, none) : Option Nat × Option Nat) TwN (TwG w8) (TwF w2.heap.size w4.heap.size t u oF oT nT pF pT rT A3 B3 C3) (fun i => ⟨fun _ => rfl, fun _ => rfl⟩) (by kernel_rfl) rfl (by decide +kernel) rfl (by decide +kernel) (by decide +kernel) rfl ?_ ?_ HK8.out
      · intro i o ho hz γ a W hg hnn hd hold K' hK
        have hlt : i < 33 := (Array.getElem?_eq_some_iff.1 ho).1
        obtain rfl | rfl | rfl | rfl | rfl | rfl | rfl | rfl | rfl | rfl | rfl | rfl | rfl | rfl | rfl | rfl | rfl | rfl | rfl | rfl | rfl | rfl | rfl | rfl | rfl | rfl | rfl | rfl | rfl | rfl | rfl | rfl | rfl : i = 0 ∨ i = 1 ∨ i = 2 ∨ i = 3 ∨ i = 4 ∨ i = 5 ∨ i = 6 ∨ i = 7 ∨ i = 8 ∨ i = 9 ∨ i = 10 ∨ i = 11 ∨ i = 12 ∨ i = 13 ∨ i = 14 ∨ i = 15 ∨ i = 16 ∨ i = 17 ∨ i = 18 ∨ i = 19 ∨ i = 20 ∨ i = 21 ∨ i = 22 ∨ i = 23 ∨ i = 24 ∨ i = 25 ∨ i = 26 ∨ i = 27 ∨ i = 28 ∨ i = 29 ∨ i = 30 ∨ i = 31 ∨ i = 32 := by omega
        · obtain rfl := Option.some.inj ho
          have o7 : a.tmps[7]? = _ := (hold 7 rfl).trans rfl
          clear hd hold hnn
          go_simp
          exact hK.out γ _ _ (by rfl) hg (fun _ _ h => h) (fun _ _ h => h)
        · obtain rfl := Option.some.inj ho
          obtain ⟨v0, e0, h0⟩ := hd 0 81 rfl (by decide +kernel) (by decide)
          have h0 : v0 = _ := h0
          subst h0
          obtain ⟨⟨y0, y1, y2, y3⟩, y4, y5, y6, y7⟩ := KEEP.out W hg.1
          clear hd hold hnn
          go_simp
          exact hK.out γ _ _ (by rfl) hg (fun _ _ h => h) (fun _ _ h => h)
        · obtain rfl := Option.some.inj ho
          have o7 : a.tmps[7]? = _ := (hold 7 rfl).trans rfl
          clear hd hold hnn
          go_simp
          exact hK.out γ _ _ (by rfl) hg (fun _ _ h => h) (fun _ _ h => h)
        · obtain rfl := Option.some.inj ho
          obtain ⟨v2, e2, h2⟩ := hd 2 83 rfl (by decide +kernel) (by decide)
          have h2 : v2 = _ := h2
          subst h2
          obtain ⟨⟨y0, y1, y2, y3⟩, y4, y5, y6, y7⟩ := KEEP.out W hg.1
          clear hd hold hnn
          go_simp
          exact hK.out γ _ _ (by rfl) hg (fun _ _ h => h) (fun _ _ h => h)
        · obtain rfl := Option.some.inj ho
          have o9 : a.tmps[9]? = _ := (hold 9 rfl).trans rfl
          clear hd hold hnn
          go_simp
          exact hK.out γ _ _ (by rfl) hg (fun _ _ h => h) (fun _ _ h => h)
        · obtain rfl := Option.some.inj ho
          have o8 : a.tmps[8]? = _ := (hold 8 rfl).trans rfl
          clear hd hold hnn
          go_simp
          exact hK.out γ _ _ (by rfl) hg (fun _ _ h => h) (fun _ _ h => h)
        · obtain rfl := Option.some.inj ho
          obtain ⟨v5, e5, h5⟩ := hd 5 86 rfl (by decide +kernel) (by decide)
          have h5 : v5 = _ := h5
          subst h5
          obtain ⟨⟨y0, y1, y2, y3⟩, y4, y5, y6, y7⟩ := KEEP.out W hg.1
          clear hd hold hnn
          go_simp
          exact hK.out γ _ _ (by rfl) hg (fun _ _ h => h) (fun _ _ h => h)
        · obtain rfl := Option.some.inj ho
          have o8 : a.tmps[8]? = _ := (hold 8 rfl).trans rfl
          clear hd hold hnn
          go_simp
          exact hK.out γ _ _ (by rfl) hg (fun _ _ h => h) (fun _ _ h => h)
        · obtain rfl := Option.some.inj ho
          obtain ⟨v7, e7, h7⟩ := hd 7 88 rfl (by decide +kernel) (by decide)
          have h7 : v7 = _ := h7
          subst h7
          obtain ⟨⟨y0, y1, y2, y3⟩, y4, y5, y6, y7⟩ := KEEP.out W hg.1
          clear hd hold hnn
          go_simp
          exact hK.out γ _ _ (by rfl) hg (fun _ _ h => h) (fun _ _ h => h)
        · obtain rfl := Option.some.inj ho
          obtain ⟨v4, e4, h4⟩ := hd 4 85 rfl (by decide +kernel) (by decide)
          have h4 : v4 = _ := h4
          subst h4
          obtain ⟨v6, e6, h6⟩ := hd 6 87 rfl (by decide +kernel) (by decide)
          have h6 : v6 = _ := h6
          subst h6
          obtain ⟨v8, e8, h8⟩ := hd 8 89 rfl (by decide +kernel) (by decide)
          have h8 : v8 = _ := h8
          subst h8
          clear hd hold hnn
          go_simp
          exact hK.out γ _ _ (by rfl) hg (fun _ _ h => h) (fun _ _ h => h)
        · obtain rfl := Option.some.inj ho
          obtain ⟨v1, e1, h1⟩ := hd 1 82 rfl (by decide +kernel) (by decide)
          have h1 : v1 = _ := h1
          subst h1
          obtain ⟨v3, e3, h3⟩ := hd 3 84 rfl (by decide +kernel) (by decide)
          have h3 : v3 = _ := h3
          subst h3
          obtain ⟨v9, e9, h9⟩ := hd 9 90 rfl (by decide +kernel) (by decide)
          have h9 : v9 = _ := h9
          subst h9
          clear hd hold hnn
          go_simp
          exact hK.out γ _ _ (by rfl) hg (fun _ _ h => h) (fun _ _ h => h)
        · obtain rfl := Option.some.inj ho
          have o11 : a.tmps[11]? = _ := (hold 11 rfl).trans rfl
          clear hd hold hnn
          go_simp
          exact hK.out γ _ _ (by rfl) hg (fun _ _ h => h) (fun _ _ h => h)
        · obtain rfl := Option.some.inj ho
          obtain ⟨v11, e11, h11⟩ := hd 11 92 rfl (by decide +kernel) (by decide)
          have h11 : v11 = _ := h11
          subst h11
          obtain ⟨⟨y0, y1, y2, y3⟩, y4, y5, y6, y7⟩ := KEEP.out W hg.1
          clear hd hold hnn
          go_simp
          exact hK.out γ _ _ (by rfl) hg (fun _ _ h => h) (fun _ _ h => h)
        · obtain rfl := Option.some.inj ho
          have o11 : a.tmps[11]? = _ := (hold 11 rfl).trans rfl
          clear hd hold hnn
          go_simp
          exact hK.out γ _ _ (by rfl) hg (fun _ _ h => h) (fun _ _ h => h)
        · obtain rfl := Option.some.inj ho
          obtain ⟨v13, e13, h13⟩ := hd 13 94 rfl (by decide +kernel) (by decide)
          have h13 : v13 = _ := h13
          subst h13
          obtain ⟨⟨y0, y1, y2, y3⟩, y4, y5, y6, y7⟩ := KEEP.out W hg.1
          clear hd hold hnn
          go_simp
          exact hK.out γ _ _ (by rfl) hg (fun _ _ h => h) (fun _ _ h => h)
        · obtain rfl := Option.some.inj ho
          have o13 : a.tmps[13]? = _ := (hold 13 rfl).trans rfl
          clear hd hold hnn
          go_simp
          exact hK.out γ _ _ (by rfl) hg (fun _ _ h => h) (fun _ _ h => h)
        · obtain rfl := Option.some.inj ho
          have o12 : a.tmps[12]? = _ := (hold 12 rfl).trans rfl
          clear hd hold hnn
          go_simp
          exact hK.out γ _ _ (by rfl) hg (fun _ _ h => h) (fun _ _ h => h)
        · obtain rfl := Option.some.inj ho
          obtain ⟨v16, e16, h16⟩ := hd 16 97 rfl (by decide +kernel) (by decide)
          have h16 : v16 = _ := h16
          subst h16
          obtain ⟨⟨y0, y1, y2, y3⟩, y4, y5, y6, y7⟩ := KEEP.out W hg.1
          clear hd hold hnn
          go_simp
          exact hK.out γ _ _ (by rfl) hg (fun _ _ h => h) (fun _ _ h => h)
        · obtain rfl := Option.some.inj ho
          have o12 : a.tmps[12]? = _ := (hold 12 rfl).trans rfl
          clear hd hold hnn
          go_simp
          exact hK.out γ _ _ (by rfl) hg (fun _ _ h => h) (fun _ _ h => h)
        · obtain rfl := Option.some.inj ho
          obtain ⟨v18, e18, h18⟩ := hd 18 99 rfl (by decide +kernel) (by decide)
          have h18 : v18 = _ := h18
          subst h18
          obtain ⟨⟨y0, y1, y2, y3⟩, y4, y5, y6, y7⟩ := KEEP.out W hg.1
          clear hd hold hnn
          go_simp
          exact hK.out γ _ _ (by rfl) hg (fun _ _ h => h) (fun _ _ h => h)
        · obtain rfl := Option.some.inj ho
          obtain ⟨v15, e15, h15⟩ := hd 15 96 rfl (by decide +kernel) (by decide)
          have h15 : v15 = _ := h15
          subst h15
          obtain ⟨v17, e17, h17⟩ := hd 17 98 rfl (by decide +kernel) (by decide)
          have h17 : v17 = _ := h17
          subst h17
          obtain ⟨v19, e19, h19⟩ := hd 19 100 rfl (by decide +kernel) (by decide)
          have h19 : v19 = _ := h19
          subst h19
          clear hd hold hnn
          go_simp
          exact hK.out γ _ _ (by rfl) hg (fun _ _ h => h) (fun _ _ h => h)
        · obtain rfl := Option.some.inj ho
          obtain ⟨v12, e12, h12⟩ := hd 12 93 rfl (by decide +kernel) (by decide)
          have h12 : v12 = _ := h12
          subst h12
          obtain ⟨v14, e14, h14⟩ := hd 14 95 rfl (by decide +kernel) (by decide)
          have h14 : v14 = _ := h14
          subst h14
          obtain ⟨v20, e20, h20⟩ := hd 20 101 rfl (by decide +kernel) (by decide)
          have h20 : v20 = _ := h20
          subst h20
          clear hd hold hnn
          go_simp
          exact hK.out γ _ _ (by rfl) hg (fun _ _ h => h) (fun _ _ h => h)
        · obtain rfl := Option.some.inj ho
          obtain ⟨v10, e10, h10⟩ := hd 10 91 rfl (by decide +kernel) (by decide)
          have h10 : v10 = _ := h10
          subst h10
          obtain ⟨v21, e21, h21⟩ := hd 21 102 rfl (by decide +kernel) (by decide)
          have h21 : v21 = _ := h21
          subst h21
          have HN := Lib.hid (show TwF w2.heap.size w4.heap.size t u oF oT nT pF pT rT A3 B3 C3 γ 22 (.slice (some ⟨W.heap.size, 0, none⟩) 2 2) (W.alloc (.cells #[.int .i64 (oF : Int), .int .i64 (oT : Int), .string (t.extract oF nT), .int .i64 (pF : Int), .int .i64 (pT : Int), .string (u.extract pF rT)] 48)) from ⟨W.heap.size, rfl, heap_alloc_new W _, fun e => by obtain ⟨_, p, q, hr⟩ := hg.2.1 _ e; have := hr.lt9; omega, fun e => by obtain ⟨_, p, q, hr⟩ := hg.2.2.1 _ e; have := hr.lt9; omega⟩)
          clear hd hold hnn
          go_simp
          exact hK.out γ _ _ HN.out (hg.on ((Below.refl _ _).alloc (Nat.le_refl _) _)) (fun _ _ h => h) (fun _ _ h => h.on ((Below.refl _ _).alloc (Nat.le_refl _) _))
        · obtain rfl := Option.some.inj ho
          obtain ⟨v22, e22, h22⟩ := hd 22 103 rfl (by decide +kernel) (by decide)
          obtain ⟨bb, rfl, hrow, _⟩ := h22
          have HC9 := Lib.hid (HAr.out _ W (rdEd_two (ty := 48) (⟨oF, oT, t.extract oF nT⟩ : EdE) (⟨pF, pT, u.extract pF rT⟩ : EdE) hrow))
          clear hd hold hnn hrow
          go_simp
          go_at_call 18
          (with_reducible refine HC9.out.mono ?_)
          rintro e W9 ⟨rfl, hB9⟩
          exact hK.out γ _ _ (by rfl) (hg.on hB9) (fun _ _ h => h) (fun _ _ h => h.on hB9)
        · obtain rfl := Option.some.inj ho
          obtain ⟨v23, e23, h23⟩ := hd 23 104 rfl (by decide +kernel) (by decide)
          have h23 : v23 = _ := h23
          subst h23
          clear hd hold hnn
          go_simp
          exact hK.out γ _ _ (by rfl) hg (fun _ _ h => h) (fun _ _ h => h)
        · obtain rfl := Option.some.inj ho
          obtain ⟨v24, e24, h24⟩ := hd 24 80 rfl (by decide +kernel) (by decide)
          have h24 : v24 = _ := h24
          subst h24
          clear hd hold hnn
          go_simp
          exact hK.out γ _ _ (by rfl) hg (fun _ _ h => h) (fun _ _ h => h)
        · obtain rfl := Option.some.inj ho
          obtain ⟨v24, e24, h24⟩ := hd 24 80 rfl (by decide +kernel) (by decide)
          have h24 : v24 = _ := h24
          subst h24
          clear hd hold hnn
          go_simp
          exact hK.out γ _ _ (by rfl) hg (fun _ _ h => h) (fun _ _ h => h)
        · obtain rfl := Option.some.inj ho
          obtain ⟨v24, e24, h24⟩ := hd 24 80 rfl (by decide +kernel) (by decide)
          have h24 : v24 = _ := h24
          subst h24
          clear hd hold hnn
          go_simp
          exact hK.out γ _ _ (by rfl) hg (fun _ _ h => h) (fun _ _ h => h)
        · obtain rfl := Option.some.inj ho
          have HN := Lib.hid (hnn.1 rfl)
          clear hd hold hnn
          go_simp
          exact hK.out (some W.heap.size, γ.2) _ _ ⟨_, rfl, rfl⟩ hg.al1 (fun j hj h => ⟨fun e => absurd e hj, h.2⟩) (fun _ _ h => h.al1 HN.out rfl)
        · obtain rfl := Option.some.inj ho
          have HN := Lib.hid (hnn.2 rfl)
          clear hd hold hnn
          go_simp
          exact hK.out (γ.1, some W.heap.size) _ _ ⟨_, rfl, rfl⟩ hg.al2 (fun j hj h => ⟨h.1, fun e => absurd e hj⟩) (fun _ _ h => h.al2 HN.out rfl)
        · obtain rfl := Option.some.inj ho
          obtain ⟨v25, e25, h25⟩ := hd 25 105 rfl (by decide +kernel) (by decide)
          have h25 : v25 = _ := h25
          subst h25
          obtain ⟨v28, e28, h28⟩ := hd 28 26 rfl (by decide +kernel) (by decide)
          obtain ⟨b, eb, rfl⟩ := h28
          obtain ⟨hb1, p, q, hrow⟩ := hg.2.1 b eb
          clear hd hold hnn
          rw [if_pos (by rfl)]
          refine wp_store_row _ _ _ rfl b #[.int .i64 (A3 : Int), .int .i64 (B3 : Int)] (by simp [Act.eval, e28]) (by simp [Act.eval, e25]) 32 _ hrow info_edspan rfl (one_edspan _ _) ?_
          exact hK.out γ undef _ ⟨b, eb, EdRow.set hrow _ _⟩ (hg.set b hb1 _ _) (fun _ _ h => h) (fun _ _ h => h.s1 hg eb rfl)
        · obtain rfl := Option.some.inj ho
          obtain ⟨v26, e26, h26⟩ := hd 26 106 rfl (by decide +kernel) (by decide)
          have h26 : v26 = _ := h26
          subst h26
          obtain ⟨v29, e29, h29⟩ := hd 29 27 rfl (by decide +kernel) (by decide)
          obtain ⟨b, eb, rfl⟩ := h29
          obtain ⟨hb1, p, q, hrow⟩ := hg.2.2.1 b eb
          clear hd hold hnn
          rw [if_pos (by rfl)]
          refine wp_store_row _ _ _ rfl b #[.int .i64 (A3 : Int), .int .i64 (C3 : Int)] (by simp [Act.eval, e29]) (by simp [Act.eval, e26]) 32 _ hrow info_edspan rfl (one_edspan _ _) ?_
          exact hK.out γ undef _ ⟨b, eb, EdRow.set hrow _ _⟩ (hg.set b hb1 _ _) (fun _ _ h => h) (fun _ _ h => h.s2 hg eb rfl)
        · exact absurd rfl hz
      · intro γ rr W hg hf K' hK
        have e27 : rr 27 = .int .i64 0 := hf 27 (by decide) (by decide)
        obtain ⟨b, eb, e28⟩ : ∃ b : Nat, γ.1 = some b ∧ rr 28 = .pointer (some ⟨b, 0, none⟩) := hf 28 (by decide) (by decide)
        obtain ⟨b', eb', e29⟩ : ∃ b : Nat, γ.2 = some b ∧ rr 29 = .pointer (some ⟨b, 0, none⟩) := hf 29 (by decide) (by decide)
        obtain ⟨b2, eb2, hr1⟩ : ∃ b : Nat, γ.1 = some b ∧ EdRow W b (A3 : Int) (B3 : Int) := hf 30 (by decide) (by decide)
        obtain ⟨b3', eb3, hr2⟩ : ∃ b : Nat, γ.2 = some b ∧ EdRow W b (A3 : Int) (C3 : Int) := hf 31 (by decide) (by decide)
        rw [eb] at eb2
        rw [eb'] at eb3
        cases eb2
        cases eb3
        have HQ := Lib.hid (And.intro hg.1 (And.intro hr1 hr2))
        clear hf hg hr1 hr2 eb eb'
        simp only [putL, Act.put, List.setIfInBounds_toArray, List.set_cons_zero, List.set_cons_succ, e27, e28, e29]
        clear e27 e28 e29
        go_simp
        refine hK.out _ _ ?_
        try simp only [Act.put, List.setIfInBounds_toArray, List.set_cons_zero, List.set_cons_succ]
        clear hK K'
        have q0 := HQ.out.2.1.cell0
        have q1 := HQ.out.2.1.cell1
        have q2 := HQ.out.2.2.cell0
        have q3 := HQ.out.2.2.cell1
        go_wp2_with fail
        refine (HX.out _ _ (H8.out.2.2.2.below HQ.out.1)).mono ?_
        rintro e w10 ⟨v10, d1, d2, d3, rfl, hr10, _, hB10⟩
        have HSm := Lib.hid (same_any _ _ _ _ true (by simp) w10 ((H8.out.1.below HQ.out.1).below hB10) hr10)
        have HB10 := Lib.hid ((HB5.out.1.trans ((H8.out.2.1.trans (HQ.out.1.mono H8.out.2.1.size)).mono HB5.out.1.size)).trans (hB10.mono ((HB5.out.1.trans ((H8.out.2.1.trans (HQ.out.1.mono H8.out.2.1.size)).mono HB5.out.1.size)).size)))
        clear hr10 hB10 q0 q1 q2 q3
        go_wp2_with fail
        refine HSm.out.mono ?_
        rintro e w11 ⟨rfl, hB11⟩
        have HB11 := Lib.hid (HB10.out.trans (Below.mono hB11 HB10.out.size))
        clear hB11
        go_wp2_with fail
        refine (HAw.out _).mono ?_
        rintro e w12 ⟨rfl, hB12⟩
        have HB12 := Lib.hid (HB11.out.trans (hB12.mono HB11.out.size))
        clear hB12
        go_wp2_with fail
        go_ret
        exact ⟨rfl, HB12.out⟩
    · have hbw : Below w.heap.size w ((w4.alloc (.cells #[.int .i64 0, .int .i64 0] 32)).alloc (.cells #[.int .i64 0, .int .i64 0] 32)) := (HB4.out.alloc HB4.out.size _).alloc (by have := HB4.out.size; simp; omega) _
      have HBw := Lib.hid hbw
      clear hbw
      go_wp2_with fail
      refine (HAw.out _).mono ?_
      rintro e w9 ⟨rfl, hB9⟩
      have HB9 := Lib.hid (HBw.out.trans (hB9.mono HBw.out.size))
      clear hB9
      go_wp2_with fail
      go_ret
      exact ⟨rfl, HB9.out⟩
  · have hbw : Below w.heap.size w ((w2.alloc (.cells #[.int .i64 0, .int .i64 0] 32)).alloc (.cells #[.int .i64 0, .int .i64 0] 32)) := (HB2.out.alloc HB2.out.size _).alloc (by have := HB2.out.size; simp; omega) _
    have HBw := Lib.hid hbw
    clear hbw
    go_wp2_with fail
    refine (HAw.out _).mono ?_
    rintro e w9 ⟨rfl, hB9⟩
    have HB9 := Lib.hid (HBw.out.trans (hB9.mono HBw.out.size))
    clear hB9
    go_wp2_with fail
    go_ret
    exact ⟨rfl, HB9.out⟩
theorem relexTwice_x (s : ByteArray) (x y : OpE) (hs : s.size ≤ 1000000000000000) (hx : OpOk x) (hy : OpOk y) (w : World) : Calls Try.prog 6 #[.string s, .agg #[.int .i64 x.f, .int .i64 x.k, .string x.s], .agg #[.int .i64 y.f, .int .i64 y.k, .string y.s]] w (TrueRx w) := relexTwice_any s x.f x.k x.s y.f y.k y.s w hs (Nat.le_trans hx.2.2 (by decide)) (Nat.le_trans hy.2.2 (by decide))
end Ytglanajglhneeaa
end Go.Proofs
