/- LexAll: a text has just the document's tokens, and Right tells them from any other list. Conditions: none but those of the parts. -/
import Derived.Test.YthglpfmbmmlbjaaDxAll
import Derived.Test.YthglpfmbmmlbjaaDxRight
import Derived.Test.YthglpfmbmmlbjaaLxSame
import Derived.Test.YthglpfmbmmlbjaaLxOpen
namespace Go.Proofs
open Go Go.RowKit Go.Lib
namespace Ythglpfmbmmlbjaa
def TrueLx (w : World) (e : Ending) (w' : World) : Prop := e = .returned (.bool true) ∧ Below w.heap.size w w'
theorem same_is (va vb : Value) (ta tb : List TkI) (w : World) (ha : RdT w va ta) (hbb : RdT w vb tb) : ∃ b, (b = true ↔ ta = tb) ∧ Calls Try.prog 16 #[va, vb] w (fun e w' => e = .returned (.bool b) ∧ SameD9 w w') := by
  by_cases h : ta = tb
  · exact ⟨true, by simp [h], same_any va vb ta tb true (by simp [h]) w ha hbb⟩
  · exact ⟨false, by simp [h], same_any va vb ta tb false (by simp [h]) w ha hbb⟩
set_option maxHeartbeats 2000000 in
set_option maxRecDepth 100000 in
theorem lexAll_any (s : ByteArray) (v : Value) (ts : List TkI) (W0 : World) (_hs : s.size ≤ 1000000000000000) (hR : RdT W0 v ts) : Calls Try.prog 7 #[.string s, v] W0 (TrueLx W0) := by
  have HR := Lib.hid hR
  clear hR
  by_cases hbig : 40000 < s.size
  · have h1 : (40000 : Int) < (s.size : Int) := by omega
    go_enter Try.func7, Try.ntmps7
    go_wp2_with fail
    go_ret
    exact ⟨rfl, Below.refl _ _⟩
  have h1 : ¬ (40000 : Int) < (s.size : Int) := by omega
  have hA := fun W => all_any s W (by omega)
  have hB := fun W => refAll_any s (by omega) W
  have hlen := D.toks_len s
  have hmem := D.tkF_mem s s.size 0
  have HL := Lib.hid (show (D.toks s).length ≤ 1000000000000 ∧ ∀ t ∈ D.toks s, t.k < 256 ∧ t.w ≤ 1000000000000000 ∧ t.l ≤ 3 from ⟨by omega, fun t ht => by have := hmem t ht; omega⟩)
  have HRi := Lib.hid (fun v ts b hb W h => right_any s v ts b hb W (by omega) h)
  clear hlen hmem hbig
  generalize D.toks s = tk at *
  go_enter Try.func7, Try.ntmps7
  go_wp2_with fail
  refine (hA _).mono ?_
  rintro e w1 ⟨va, rfl, own1, _, hb1⟩
  have H1 := Lib.hid (And.intro (rdT_own own1 HL.out.1 HL.out.2) hb1)
  clear own1 hb1 hA
  go_wp2_with fail
  refine (hB _).mono ?_
  rintro e w2 ⟨vb, rfl, own2, hb2⟩
  have hW2 : Below W0.heap.size W0 w2 := H1.out.2.trans (hb2.mono H1.out.2.size)
  have H2 := Lib.hid (And.intro (H1.out.1.below hb2) (And.intro (rdT_own own2 HL.out.1 HL.out.2) hW2))
  have hS := same_any va vb _ _ true (by simp) w2 H2.out.1 H2.out.2.1
  clear own2 hb2 hW2 hB
  go_wp2_with fail
  refine hS.mono ?_
  rintro e w3 ⟨rfl, hb3⟩
  have hW3 : Below W0.heap.size W0 w3 := H2.out.2.2.trans (Below.mono hb3 H2.out.2.2.size)
  have hvb3 := H2.out.2.1.below hb3
  have H3 := Lib.hid (And.intro hvb3 hW3)
  have hRb := HRi.out vb _ true (by simp) w3 hvb3
  clear hb3 hW3 hvb3 hS
  go_wp2_with fail
  refine hRb.mono ?_
  rintro e w4 ⟨rfl, hb4⟩
  have hW4 : Below W0.heap.size W0 w4 := H3.out.2.trans (hb4.mono H3.out.2.size)
  have H4 := Lib.hid (And.intro (H3.out.1.below hb4) hW4)
  obtain ⟨b, hb, hRl⟩ : ∃ b, (b = true ↔ ts = tk.map D.Tk.i) ∧ Calls Try.prog 17 #[.string s, v] w4 (fun e w' => e = .returned (.bool b) ∧ Below w4.heap.size w4 w') := by
    by_cases h : ts = tk.map D.Tk.i
    · exact ⟨true, by simp [h], HRi.out v ts true (by simp [h]) w4 (HR.out.below hW4)⟩
    · exact ⟨false, by simp [h], HRi.out v ts false (by simp [h]) w4 (HR.out.below hW4)⟩
  have HBb := Lib.hid hb
  clear hb4 hW4 hb hRb
  go_wp2_with fail
  refine hRl.mono ?_
  rintro e w5 ⟨rfl, hb5⟩
  have hW5 : Below W0.heap.size W0 w5 := H4.out.2.trans (hb5.mono H4.out.2.size)
  have H5 := Lib.hid hW5
  have hSl := same_any v vb ts _ b HBb.out w5 (HR.out.below hW5) (H4.out.1.below hb5)
  clear hb5 hW5 hRl
  go_wp2_with fail
  refine hSl.mono ?_
  rintro e w6 ⟨rfl, hb6⟩
  have H6 := Lib.hid (show Below W0.heap.size W0 w6 from H5.out.trans (Below.mono hb6 H5.out.size))
  clear hb6 hSl
  cases b
  all_goals
    go_wp2_with fail
    go_ret
    exact ⟨rfl, H6.out⟩
end Ythglpfmbmmlbjaa
end Go.Proofs
