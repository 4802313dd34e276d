/- The program's Text. Conditions: a string of at most 10^12 bytes; the library's two tables of UTF-8 as its text lays them. -/
import Derived.Test.YtagafedkfkmkbaaDoorQtFix
import Derived.Test.YtagafedkfkmkbaaDoorStrClone
namespace Go.Proofs
open Go Go.RowKit Go.Shelf Go.Lib

namespace YtagafedkfkmkbaaDoor
def TextIs (x : ByteArray) (w : World) (e : Ending) (w' : World) : Prop := e = .returned (.agg #[.int .u8 4, .string x, .slice none 0 0, .slice none 0 0]) ∧ Below w.heap.size w w'
set_option maxHeartbeats 1000000 in
set_option maxRecDepth 100000 in
theorem text4_any (s : ByteArray) (w : World) (hs : s.size ≤ 1000000000000) (hz : (U.fixS s).size ≤ 140737488355328) (hT : Tabs w) :
    Calls Tryd.prog 48 #[.string s] w (TextIs (U.fixS s) w) := by
  have hfix := fun W (hW : Tabs W) => utfFix_any s W hs hW
  have hclone := fun W => strClone_any (U.fixS s) W hz
  generalize U.fixS s = F at *
  have HT := Lib.hid hT
  clear hT
  have hB0 := (Below.refl w.heap.size w).alloc (Nat.le_refl _) (.cells #[.int .u8 0, .string ⟨#[]⟩, .slice none 0 0, .slice none 0 0] 25)
  have b0 : Blk4 (w.alloc (.cells #[.int .u8 0, .string ⟨#[]⟩, .slice none 0 0, .slice none 0 0] 25)) w.heap.size 25 _ _ _ _ := heap_alloc_new _ _
  go_enter Tryd.func48, Tryd.ntmps48
  go_wp2_with fail
  refine (hfix _ (tabs_below HT.out hB0)).mono ?_
  rintro e w1 ⟨rfl, hB1⟩
  have b1 := b0.same (hB1.block _ b0.lt)
  have hB2 := hB0.trans (hB1.mono hB0.size)
  clear b0 hB0 hB1 hfix
  go_wp2_with fail
  refine (hclone _).mono ?_
  rintro e w3 ⟨rfl, hB3⟩
  have b3 := b1.same (hB3.block _ b1.lt)
  have hB4 := hB2.trans (hB3.mono hB2.size)
  obtain ⟨x0, x1, x2, x3⟩ := b3.box
  have f0 := b3.free 0
  have f1 := b3.free 1
  have f2 := b3.free 2
  have f3 := b3.free 3
  have HB := Lib.hid (And.intro b3 hB4)
  clear b1 b3 hB2 hB3 hB4 hclone
  go_wp2_with fail
  obtain ⟨g1, g2, g3⟩ := HB.out.1.all (.int .u8 4) (.string F) (.slice none 0 0) (.slice none 0 0)
  have hfin := HB.out.2.trans (g3 w.heap.size (Nat.le_refl _))
  clear x0 x1 x2 x3 f0 f1 f2 f3
  generalize (((w3.setCell ⟨w.heap.size, 0, none⟩ (.int .u8 4)).setCell ⟨w.heap.size, 1, none⟩ (.string F)).setCell ⟨w.heap.size, 2, none⟩ (.slice none 0 0)).setCell ⟨w.heap.size, 3, none⟩ (.slice none 0 0) = W' at *
  obtain ⟨x0, x1, x2, x3⟩ := g1.box
  refine bodyPost_ret (v := .agg #[.int .u8 4, .string F, .slice none 0 0, .slice none 0 0]) (by simp [results, Tryd.results48, go_sem, x0, x1, x2, x3]) rfl ?_
  exact ⟨rfl, hfin⟩
end YtagafedkfkmkbaaDoor
end Go.Proofs
