/- Folds. Conditions: at most 10^6 folds; the library's tables. -/
import Derived.Test.YtdgmbmoaeoakpaaDoorMC35
namespace Go.Proofs.YtdgmbmoaeoakpaaDoor
open Go Go.RowKit Go.Lib

/-- folds as they lie behind a slice -/
def SrcF (w : World) (v : Value) (l : List Fo) : Prop := (l = [] ∧ ∃ p c, v = .slice p 0 c ∧ c ≤ 9223372036854775807) ∨ ∃ b o c, v = .slice (some ⟨b, o, none⟩) l.length c ∧ l.length ≤ c ∧ c ≤ 9223372036854775807 ∧ b < w.heap.size ∧ (∀ (j : Nat) (e : Fo), l[j]? = some e → w.cell? ⟨b, o + j * 3, none⟩ = some (.int .i64 e.a) ∧ w.cell? ⟨b, o + j * 3 + 1, none⟩ = some (.int .i64 e.b) ∧ w.cell? ⟨b, o + j * 3 + 2, none⟩ = some (.bool e.cm)) ∧ ∀ e ∈ l, FoOk w e
theorem SrcF.below {w w' : World} {v : Value} {l : List Fo} (h : SrcF w v l) (hB : Below w.heap.size w w') : SrcF w' v l := by
  rcases h with h | ⟨b, o, c, h1, h2, h3, h4, h5, h6⟩
  · exact .inl h
  · exact .inr ⟨b, o, c, h1, h2, h3, Nat.lt_of_lt_of_le h4 hB.size, fun j e hj => ⟨(hB.cell (p := ⟨b, o + j * 3, none⟩) h4).trans (h5 j e hj).1, (hB.cell (p := ⟨b, o + j * 3 + 1, none⟩) h4).trans (h5 j e hj).2.1, (hB.cell (p := ⟨b, o + j * 3 + 2, none⟩) h4).trans (h5 j e hj).2.2⟩, fun e he => FoOk_below hB (h6 e he)⟩
theorem listF_any (v : Value) (l : List Fo) (w : World) (h : SrcF w v l) (hn : l.length ≤ 1000000) (hP : PowTab w) (hT : Tabs w) :
    Calls Tryd.prog 59 #[v, .func (.func 60) #[] #[]] w (ListR (listFoT l) w) := by
  rcases h with ⟨rfl, p, c, rfl, hc⟩ | ⟨b, o, c, rfl, h2, h3, h4, h5, h6⟩
  · exact listFo_nil p c w hc
  · exact listFo b o c l w ⟨h2, h3⟩ hn (fun _ => h4) h5 h6 hP hT
set_option maxHeartbeats 1000000 in
set_option maxRecDepth 100000 in
theorem folds_any (p : Option Addr) (n c : Nat) (l : List Fo) (N : Nat) (w : World) (hN : N ≤ w.heap.size) (h : SrcF w (.slice p n c) l) (hn : l.length ≤ 1000000) (hP : PowTab w) (hT : Tabs w) :
    Calls Tryd.prog 28 #[.slice p n c] w (RetV N 5 ⟨#[]⟩ (listFoT l) .nil w) := by
  have hB0 := (Below.refl w.heap.size w).alloc (Nat.le_refl _) (.cells #[.int .u8 0, .string ⟨#[]⟩, .slice none 0 0, .slice none 0 0] 25)
  have b0 : Blk4 (w.alloc (.cells #[.int .u8 0, .string ⟨#[]⟩, .slice none 0 0, .slice none 0 0] 25)) w.heap.size 25 _ _ _ _ := heap_alloc_new _ _
  have HC := Lib.hid (listF_any (.slice p n c) l _ (h.below hB0) hn (pow_below hP hB0) (tabs_below hT hB0))
  have hs0 := World.size_alloc w (.cells #[.int .u8 0, .string ⟨#[]⟩, .slice none 0 0, .slice none 0 0] 25)
  have H0 := Lib.hid (And.intro b0 (And.intro hB0 hs0))
  clear hB0 b0 hs0 h hP hT
  go_enter Tryd.func28, Tryd.ntmps28
  go_wp2_with fail
  refine HC.out.mono ?_
  rintro e w1 ⟨v, rfl, hv, hB⟩
  obtain ⟨q, d, rfl, -⟩ := hv.len
  have b1 := H0.out.1.same (hB.block _ H0.out.1.lt)
  have H1 := Lib.hid (And.intro hv (And.intro b1 (H0.out.2.1.trans (hB.mono H0.out.2.1.size))))
  obtain ⟨x0, x1, x2, x3⟩ := b1.box
  have f0 := b1.free 0
  have f1 := b1.free 1
  have f2 := b1.free 2
  have f3 := b1.free 3
  clear hv hB b1 HC
  generalize (listFoT l).len = nl at *
  go_wp2_with fail
  obtain ⟨g1, g2, g3⟩ := H1.out.2.1.all (.int .u8 5) (.string ⟨#[]⟩) (.slice q nl d) (.slice none 0 0)
  have hw3 := set4_else w1 w.heap.size (.int .u8 5) (.string ⟨#[]⟩) (.slice q nl d) (.slice none 0 0)
  have g3' := g3 w.heap.size (Nat.le_refl _)
  clear x0 x1 x2 x3 f0 f1 f2 f3
  generalize (((w1.setCell ⟨w.heap.size, 0, none⟩ (.int .u8 5)).setCell ⟨w.heap.size, 1, none⟩ (.string ⟨#[]⟩)).setCell ⟨w.heap.size, 2, none⟩ (.slice q nl d)).setCell ⟨w.heap.size, 3, none⟩ (.slice none 0 0) = w3 at *
  obtain ⟨x0, x1, x2, x3⟩ := g1.box
  refine bodyPost_ret (v := .agg #[.int .u8 5, .string ⟨#[]⟩, .slice q nl d, .slice none 0 0]) (by simp [results, Tryd.results28, go_sem, x0, x1, x2, x3]) rfl ?_
  have hz := H0.out.2.2
  exact ⟨_, rfl, VF.mk (H1.out.1.fre (fun b hb => by omega) (fun b hb _ => hw3 b (by omega))) (HS.nil _ _ _), H1.out.2.2.trans g3'⟩
end Go.Proofs.YtdgmbmoaeoakpaaDoor
