/- The library's functions that this seat's program holds are laid at its numbers, in plain words. Conditions: none. -/
import Derived.Test.YtgcdfkoobbijeaaDoorProg
import Derived.Shelf.Lays
import Derived.Shelf.LaysM
import Derived.KernelRfl
import Derived.Test.YtgcdfkoobbijeaaDoorMR20
import Derived.Test.YtgcdfkoobbijeaaDoorMR03
import Derived.Shelf.Strconv.Itoa3
import Derived.Lib.AppendIntMem
import Derived.Lib.ItoaLen
namespace Go.Proofs
open Go.Shelf

def Tryd.laysItoa_ren : Go.Shelf.Ren := ⟨fun | 129 => 152 | 171 => 64 | 243 => 95 | 246 => 119 | 283 => 137 | 284 => 138 | 285 => 139 | 286 => 140 | 317 => 151 | 318 => 153 | 319 => 154 | 320 => 155 | 337 => 161 | 338 => 162 | n => n, fun | 37 => 56 | 46 => 112 | 51 => 122 | 53 => 131 | 171 => 145 | 173 => 148 | 212 => 164 | 213 => 165 | 232 => 173 | 233 => 174 | n => n, fun | 17 => 4 | 18 => 6 | 19 => 7 | n => n⟩
theorem Tryd.laysItoa : LaysM.n171 Tryd.prog Tryd.laysItoa_ren := {
  mixed := by kernel_rfl,
  f129 := Tryd.func152.trans (congrArg some (by kernel_rfl)),
  f171 := Tryd.func64.trans (congrArg some (by kernel_rfl)),
  f243 := Tryd.func95.trans (congrArg some (by kernel_rfl)),
  f246 := Tryd.func119.trans (congrArg some (by kernel_rfl)),
  f283 := Tryd.func137.trans (congrArg some (by kernel_rfl)),
  f284 := Tryd.func138.trans (congrArg some (by kernel_rfl)),
  f285 := Tryd.func139.trans (congrArg some (by kernel_rfl)),
  f286 := Tryd.func140.trans (congrArg some (by kernel_rfl)),
  f317 := Tryd.func151.trans (congrArg some (by kernel_rfl)),
  f318 := Tryd.func153.trans (congrArg some (by kernel_rfl)),
  f319 := Tryd.func154.trans (congrArg some (by kernel_rfl)),
  f320 := Tryd.func155.trans (congrArg some (by kernel_rfl)),
  f337 := Tryd.func161.trans (congrArg some (by kernel_rfl)),
  f338 := Tryd.func162.trans (congrArg some (by kernel_rfl)),
  t0 := Tryd.underlying0,
  a0 := Tryd.isAgg0,
  z0 := Tryd.sizeOf0,
  v0 := Tryd.zeroValue0,
  t2 := Tryd.underlying2,
  a2 := Tryd.isAgg2,
  z2 := Tryd.sizeOf2,
  v2 := Tryd.zeroValue2,
  t3 := Tryd.underlying3,
  a3 := Tryd.isAgg3,
  z3 := Tryd.sizeOf3,
  v3 := Tryd.zeroValue3,
  t4 := Tryd.underlying4,
  a4 := Tryd.isAgg4,
  z4 := Tryd.sizeOf4,
  v4 := Tryd.zeroValue4,
  t5 := Tryd.underlying5,
  a5 := Tryd.isAgg5,
  z5 := Tryd.sizeOf5,
  v5 := Tryd.zeroValue5,
  t9 := Tryd.underlying9,
  a9 := Tryd.isAgg9,
  z9 := Tryd.sizeOf9,
  v9 := Tryd.zeroValue9,
  t20 := Tryd.underlying20,
  a20 := Tryd.isAgg20,
  z20 := Tryd.sizeOf20,
  v20 := Tryd.zeroValue20,
  t37 := Tryd.underlying56,
  a37 := Tryd.isAgg56,
  z37 := Tryd.sizeOf56,
  v37 := Tryd.zeroValue56,
  t46 := Tryd.underlying112,
  a46 := Tryd.isAgg112,
  z46 := Tryd.sizeOf112,
  v46 := Tryd.zeroValue112,
  t51 := Tryd.underlying122,
  a51 := Tryd.isAgg122,
  z51 := Tryd.sizeOf122,
  v51 := Tryd.zeroValue122,
  t53 := Tryd.underlying131,
  a53 := Tryd.isAgg131,
  z53 := Tryd.sizeOf131,
  v53 := Tryd.zeroValue131,
  t171 := Tryd.underlying145,
  a171 := Tryd.isAgg145,
  z171 := Tryd.sizeOf145,
  v171 := Tryd.zeroValue145,
  t173 := Tryd.underlying148,
  a173 := Tryd.isAgg148,
  z173 := Tryd.sizeOf148,
  v173 := Tryd.zeroValue148,
  t212 := Tryd.underlying164,
  a212 := Tryd.isAgg164,
  z212 := Tryd.sizeOf164,
  v212 := Tryd.zeroValue164,
  t213 := Tryd.underlying165,
  a213 := Tryd.isAgg165,
  z213 := Tryd.sizeOf165,
  t232 := Tryd.underlying173,
  a232 := Tryd.isAgg173,
  z232 := Tryd.sizeOf173,
  v232 := Tryd.zeroValue173,
  t233 := Tryd.underlying174,
  a233 := Tryd.isAgg174,
  z233 := Tryd.sizeOf174,
  v233 := Tryd.zeroValue174,
  g17 := by kernel_rfl,
  g18 := by kernel_rfl,
  g19 := by kernel_rfl,
  i0 := by kernel_rfl,
  i2 := by kernel_rfl,
  i3 := by kernel_rfl,
  i4 := by kernel_rfl,
  i5 := by kernel_rfl,
  i9 := by kernel_rfl,
  i20 := by kernel_rfl,
  i37 := by kernel_rfl,
  i46 := by kernel_rfl,
  i51 := by kernel_rfl,
  i53 := by kernel_rfl,
  i171 := by kernel_rfl,
  i173 := by kernel_rfl,
  i212 := by kernel_rfl,
  i232 := by kernel_rfl,
  i233 := by kernel_rfl,
  m17 := by kernel_rfl,
  m18 := by kernel_rfl,
  m19 := by kernel_rfl }
end Go.Proofs

namespace Go.Proofs
open Go Go.RowKit Go.Shelf Go.Lib

namespace YtgcdfkoobbijeaaDoor
def PowTab (w : World) : Prop := Lib.TabIs Tryd.prog w "internal/strconv.uint64pow10" .u64 Lib.pow10Tab
def NumIs (x : List UInt8) (w : World) (e : Ending) (w' : World) : Prop := e = .returned (.agg #[.int .u8 3, .string ⟨x.toArray⟩, .slice none 0 0, .slice none 0 0]) ∧ Below w.heap.size w w'
theorem itoa_any (n : Int) (h0 : -9223372036854775808 ≤ n) (h1 : n ≤ 9223372036854775807) (w : World) (hP : PowTab w) :
    Calls Tryd.prog 64 #[.int .i64 n] w (StrIs ⟨(Lib.itoa n).toArray⟩ w) := by
  refine (Any.strconv_Itoa Tryd.laysItoa n h0 h1 w hP).mono ?_
  rintro e w' ⟨rfl, k, os, rfl⟩
  exact ⟨rfl, Lib.below_grow _ _ (Nat.le_refl _) k os⟩

set_option maxHeartbeats 1000000 in
set_option maxRecDepth 100000 in
theorem numberJ_any (n : Int) (h0 : -9223372036854775808 ≤ n) (h1 : n ≤ 9223372036854775807) (w : World) (hP : ∀ w', Below w.heap.size w w' → PowTab w') :
    Calls Tryd.prog 40 #[.int .i64 n] w (NumIs (Lib.itoa n) w) := by
  have hc := fun W hB => itoa_any n h0 h1 W (hP W hB)
  go_enter Tryd.func40, Tryd.ntmps40
  go_wp2_with fail
  have hB0 := (Below.refl w.heap.size w).alloc (Nat.le_refl _) (.cells #[.int .u8 0, .string ⟨#[]⟩, .slice none 0 0, .slice none 0 0] 25)
  have b0 : Blk4 (w.alloc (.cells #[.int .u8 0, .string ⟨#[]⟩, .slice none 0 0, .slice none 0 0] 25)) w.heap.size 25 _ _ _ _ := heap_alloc_new _ _
  refine (hc _ hB0).mono ?_
  rintro e w1 ⟨rfl, hB1⟩
  have b1 := b0.same (hB1.block _ b0.lt)
  have hB2 := hB0.trans (hB1.mono hB0.size)
  obtain ⟨x0, x1, x2, x3⟩ := b1.box
  have f0 := b1.free 0
  have f1 := b1.free 1
  have f2 := b1.free 2
  have f3 := b1.free 3
  have HB := Lib.hid (And.intro b1 hB2)
  clear b0 b1 hB0 hB1 hB2 hc
  go_wp2_with fail
  obtain ⟨g1, g2, g3⟩ := HB.out.1.all (.int .u8 3) (.string ⟨(Lib.itoa n).toArray⟩) (.slice none 0 0) (.slice none 0 0)
  have hfin := HB.out.2.trans (g3 _ (Nat.le_refl _))
  clear x0 x1 x2 x3 f0 f1 f2 f3
  generalize (((w1.setCell ⟨w.heap.size, 0, none⟩ (.int .u8 3)).setCell ⟨w.heap.size, 1, none⟩ (.string ⟨(Lib.itoa n).toArray⟩)).setCell ⟨w.heap.size, 2, none⟩ (.slice none 0 0)).setCell ⟨w.heap.size, 3, none⟩ (.slice none 0 0) = W' at *
  obtain ⟨x0, x1, x2, x3⟩ := g1.box
  refine bodyPost_ret (v := .agg #[.int .u8 3, .string ⟨(Lib.itoa n).toArray⟩, .slice none 0 0, .slice none 0 0]) (by simp [results, Tryd.results40, go_sem, x0, x1, x2, x3]) rfl ?_
  exact ⟨rfl, hfin⟩

end YtgcdfkoobbijeaaDoor
end Go.Proofs
