/- The program's Number. Conditions: an int; the library's table of powers as its text lays it. -/
import Derived.Test.YtagafedkfkmkbaaDoorQtBase
import Derived.Test.YtagafedkfkmkbaaDoorJvRow
import Derived.Test.YtagafedkfkmkbaaDoorUtfLaysI
import Derived.Shelf.Strconv.Itoa3
import Derived.Lib.AppendIntMem
import Derived.Lib.ItoaLen
namespace Go.Proofs
open Go Go.RowKit Go.Shelf Go.Lib

namespace YtagafedkfkmkbaaDoor
def PowTab (w : World) : Prop := Lib.TabIs Tryd.prog w "internal/strconv.uint64pow10" .u64 Lib.pow10Tab
def NumIs (x : List UInt8) (w : World) (e : Ending) (w' : World) : Prop := e = .returned (.agg #[.int .u8 3, .string ⟨x.toArray⟩, .slice none 0 0, .slice none 0 0]) ∧ Below w.heap.size w w'
theorem itoa_any (n : Int) (h0 : -9223372036854775808 ≤ n) (h1 : n ≤ 9223372036854775807) (w : World) (hP : PowTab w) :
    Calls Tryd.prog 87 #[.int .i64 n] w (StrIs ⟨(Lib.itoa n).toArray⟩ w) := by
  refine (Any.strconv_Itoa Tryd.laysItoa n h0 h1 w hP).mono ?_
  rintro e w' ⟨rfl, k, os, rfl⟩
  exact ⟨rfl, Lib.below_grow _ _ (Nat.le_refl _) k os⟩

set_option maxHeartbeats 1000000 in
set_option maxRecDepth 100000 in
theorem numberJ_any (n : Int) (h0 : -9223372036854775808 ≤ n) (h1 : n ≤ 9223372036854775807) (w : World) (hP : ∀ w', Below w.heap.size w w' → PowTab w') :
    Calls Tryd.prog 49 #[.int .i64 n] w (NumIs (Lib.itoa n) w) := by
  have hc := fun W hB => itoa_any n h0 h1 W (hP W hB)
  go_enter Tryd.func49, Tryd.ntmps49
  go_wp2_with fail
  have hB0 := (Below.refl w.heap.size w).alloc (Nat.le_refl _) (.cells #[.int .u8 0, .string ⟨#[]⟩, .slice none 0 0, .slice none 0 0] 25)
  have b0 : Blk4 (w.alloc (.cells #[.int .u8 0, .string ⟨#[]⟩, .slice none 0 0, .slice none 0 0] 25)) w.heap.size 25 _ _ _ _ := heap_alloc_new _ _
  refine (hc _ hB0).mono ?_
  rintro e w1 ⟨rfl, hB1⟩
  have b1 := b0.same (hB1.block _ b0.lt)
  have hB2 := hB0.trans (hB1.mono hB0.size)
  obtain ⟨x0, x1, x2, x3⟩ := b1.box
  have f0 := b1.free 0
  have f1 := b1.free 1
  have f2 := b1.free 2
  have f3 := b1.free 3
  have HB := Lib.hid (And.intro b1 hB2)
  clear b0 b1 hB0 hB1 hB2 hc
  go_wp2_with fail
  obtain ⟨g1, g2, g3⟩ := HB.out.1.all (.int .u8 3) (.string ⟨(Lib.itoa n).toArray⟩) (.slice none 0 0) (.slice none 0 0)
  have hfin := HB.out.2.trans (g3 _ (Nat.le_refl _))
  clear x0 x1 x2 x3 f0 f1 f2 f3
  generalize (((w1.setCell ⟨w.heap.size, 0, none⟩ (.int .u8 3)).setCell ⟨w.heap.size, 1, none⟩ (.string ⟨(Lib.itoa n).toArray⟩)).setCell ⟨w.heap.size, 2, none⟩ (.slice none 0 0)).setCell ⟨w.heap.size, 3, none⟩ (.slice none 0 0) = W' at *
  obtain ⟨x0, x1, x2, x3⟩ := g1.box
  refine bodyPost_ret (v := .agg #[.int .u8 3, .string ⟨(Lib.itoa n).toArray⟩, .slice none 0 0, .slice none 0 0]) (by simp [results, Tryd.results49, go_sem, x0, x1, x2, x3]) rfl ?_
  exact ⟨rfl, hfin⟩

end YtagafedkfkmkbaaDoor
end Go.Proofs
