/- The program's Fix. Conditions: a string of at most 10^12 bytes; the library's two tables as its text lays them. -/
import Derived.Test.YtepjomdjkoaofaaDoorMM19
import Derived.Shelf.Strings.FieldsFuncAny
import Derived.Test.YtepjomdjkoaofaaDoorMM10
import Derived.Test.YtepjomdjkoaofaaDoorProg
import Derived.Shelf.Lays
import Derived.Shelf.LaysM
import Derived.KernelRfl
import Derived.Test.YtepjomdjkoaofaaDoorMM04
import Derived.Shelf.Strconv.Itoa3
import Derived.Lib.AppendIntMem
import Derived.Lib.ItoaLen
namespace Go.Proofs
open Go Go.RowKit Go.Shelf Go.Lib

namespace YtepjomdjkoaofaaDoor
set_option maxHeartbeats 400000 in
set_option maxRecDepth 100000 in
theorem utfFix_valid (s : ByteArray) (w : World) (hs : s.size ≤ 1000000000000) (hT : Tabs w) (h : U.valid s = true) :
    Calls Tryd.prog 69 #[.string s] w (StrIs (U.fixS s) w) := by
  have hc := utfValid_any s w hs hT
  rw [U.fixS_valid s h]
  rw [h] at hc
  clear h
  go_enter Tryd.func69, Tryd.ntmps69
  go_wp2_with fail
  refine hc.mono ?_
  rintro e w' ⟨rfl, hb⟩
  go_wp2_with fail
  go_ret
  exact ⟨rfl, hb⟩

set_option maxHeartbeats 1000000 in
set_option maxRecDepth 100000 in
theorem utfFix_broken (s : ByteArray) (w : World) (hs : s.size ≤ 1000000000000) (hT : Tabs w) (h : U.valid s = false) :
    Calls Tryd.prog 69 #[.string s] w (StrIs (U.fixS s) w) := by
  have hc := utfValid_any s w hs hT
  rw [h] at hc
  clear h
  obtain ⟨i0, hi, hz0, hz1, hz2⟩ := info_parts infoByte
  go_enter Tryd.func69, Tryd.ntmps69
  go_wp2_with fail
  refine hc.mono ?_
  rintro e w1 ⟨rfl, hb⟩
  go_wp2_with (refine wpList_make_own _ rfl _ _ 87 rfl w.heap.size 5 i0 (.int .u8 0) 1 Tryd.underlying87 hi hz0 hz1 .i64 .i64 _ s.size rfl rfl rfl ?c1 ?c2 hb.size ?_)
  case c1 => rw [hz2]; omega
  case c2 => unfold maxLen; omega
  intro w2 hown2 hgrow2
  have hb2 := hb.grown hgrow2 hb.size (fun k hk => by cases hk)
  clear hb hgrow2 hc
  go_wp2_with fail
  go_loopw [3] (fun v wr => ∃ (f pos : Nat) (l : List UInt8), Hid (wr.heap[w2.heap.size]? = some (.stringIter s pos)) ∧ pos ≤ s.size ∧ l.length ≤ 3 * pos ∧ wr.ownsRow w.heap.size 5 1 v l.length (U.cellsOf l) ∧ Hid (l ++ U.fixFrom s f pos = U.fixL s ∧ s.size ≤ pos + f) ∧ Below w.heap.size w wr) (fun _ wr => s.size - wr.iterPos w2.heap.size)
  case atStart => exact ⟨s.size, 0, [], Lib.hid (World.iter_heap _ _ _), by omega, by simp, hown2.alloc _, Lib.hid ⟨rfl, by omega⟩, hb2.alloc hb2.size _⟩
  case round =>
    obtain ⟨f, pos, l, HI, hp, hl, hown, HU, hbl⟩ := hrel
    have HM := Lib.hid (iterPos_of HI.out)
    by_cases hlt : pos < s.size
    · have hw1 := U.wd_pos hlt
      have hw2 := U.wd_le hlt
      obtain ⟨f', rfl⟩ : ∃ f', f = f' + 1 := ⟨f - 1, by have := HU.out.2; omega⟩
      have HS := Lib.hid (U.fixFrom_step s f' pos hlt)
      have hpl := (U.piece_le hlt).1
      have hnx : ∀ ty, (Instr.next (.pointer (some ⟨w2.heap.size, 0, none⟩)) true ty).run Tryd.prog wr = .ok (.tuple #[.bool true, .int .i64 pos, .int .i32 (U.ch s pos)]) (wr.iterAt w2.heap.size s (pos + U.wd s pos)) := fun ty => Lib.run_next_any_at wr _ s pos ty HI.out hlt
      have hI1 := Lib.hid (Lib.iterAt_heap wr _ s pos (pos + U.wd s pos) HI.out)
      have hown1 := own_iterAt hown HI.out (pos + U.wd s pos)
      have hbl1 := Lib.below_iterAt hbl hb2.size s (pos + U.wd s pos)
      have hc := append_any w.heap.size u3 l s pos hlt _ hown1 (by omega) hbl1.size
      generalize U.wd s pos = d at *
      generalize U.ch s pos = c at *
      clear hown hbl
      go_wp2_with fail
      refine hc.mono ?_
      rintro e w3 ⟨v', rfl, hown3, o, hgrow⟩
      have hI3 := Lib.hid (iter_grown hI1.out hgrow (own_ne_iter hown1 hI1.out))
      have hb3 := (hbl1.alloc hbl1.size o).grown hgrow (hbl1.alloc hbl1.size o).size (fun k hk => (hown1.lt k hk).1)
      have HM3 := Lib.hid (iterPos_of hI3.out)
      clear hbl1 hown1 hgrow hc
      go_wp2_with fail
      go_roundw
      case rel =>
        refine ⟨f', pos + d, l ++ U.piece s pos, hI3, by omega, by rw [List.length_append]; omega, hown3, Lib.hid ⟨?_, ?_⟩, hb3⟩
        · rw [List.append_assoc, ← HS.out]; exact HU.out.1
        · have := HU.out.2; omega
      case measure =>
        rw [HM3.out, HM.out]
        omega
    · have hnx : ∀ ty, (Instr.next (.pointer (some ⟨w2.heap.size, 0, none⟩)) true ty).run Tryd.prog wr = _ := fun ty => Lib.run_next_end_at wr _ s pos ty HI.out hlt
      have hconv := conv_own hown
      have HE := Lib.hid (U.fixFrom_end s f pos hlt)
      clear hown
      go_wp2_with fail
      go_ret
      refine ⟨?_, hbl⟩
      have := HU.out.1
      rw [HE.out, List.append_nil] at this
      unfold U.fixS
      rw [← this]
      rfl
theorem utfFix_any (s : ByteArray) (w : World) (hs : s.size ≤ 1000000000000) (hT : Tabs w) :
    Calls Tryd.prog 69 #[.string s] w (StrIs (U.fixS s) w) := by
  cases h : U.valid s
  · exact utfFix_broken s w hs hT h
  · exact utfFix_valid s w hs hT h
end YtepjomdjkoaofaaDoor
end Go.Proofs

namespace Go.Proofs
open Go Go.RowKit Go.Shelf Go.Lib

namespace YtepjomdjkoaofaaDoor
def TextIs (x : ByteArray) (w : World) (e : Ending) (w' : World) : Prop := e = .returned (.agg #[.int .u8 4, .string x, .slice none 0 0, .slice none 0 0]) ∧ Below w.heap.size w w'
set_option maxHeartbeats 1000000 in
set_option maxRecDepth 100000 in
theorem text4_any (s : ByteArray) (w : World) (hs : s.size ≤ 1000000000000) (hz : (U.fixS s).size ≤ 140737488355328) (hT : Tabs w) :
    Calls Tryd.prog 40 #[.string s] w (TextIs (U.fixS s) w) := by
  have hfix := fun W (hW : Tabs W) => utfFix_any s W hs hW
  have hclone := fun W => strClone_any (U.fixS s) W hz
  generalize U.fixS s = F at *
  have HT := Lib.hid hT
  clear hT
  have hB0 := (Below.refl w.heap.size w).alloc (Nat.le_refl _) (.cells #[.int .u8 0, .string ⟨#[]⟩, .slice none 0 0, .slice none 0 0] 25)
  have b0 : Blk4 (w.alloc (.cells #[.int .u8 0, .string ⟨#[]⟩, .slice none 0 0, .slice none 0 0] 25)) w.heap.size 25 _ _ _ _ := heap_alloc_new _ _
  go_enter Tryd.func40, Tryd.ntmps40
  go_wp2_with fail
  refine (hfix _ (tabs_below HT.out hB0)).mono ?_
  rintro e w1 ⟨rfl, hB1⟩
  have b1 := b0.same (hB1.block _ b0.lt)
  have hB2 := hB0.trans (hB1.mono hB0.size)
  clear b0 hB0 hB1 hfix
  go_wp2_with fail
  refine (hclone _).mono ?_
  rintro e w3 ⟨rfl, hB3⟩
  have b3 := b1.same (hB3.block _ b1.lt)
  have hB4 := hB2.trans (hB3.mono hB2.size)
  obtain ⟨x0, x1, x2, x3⟩ := b3.box
  have f0 := b3.free 0
  have f1 := b3.free 1
  have f2 := b3.free 2
  have f3 := b3.free 3
  have HB := Lib.hid (And.intro b3 hB4)
  clear b1 b3 hB2 hB3 hB4 hclone
  go_wp2_with fail
  obtain ⟨g1, g2, g3⟩ := HB.out.1.all (.int .u8 4) (.string F) (.slice none 0 0) (.slice none 0 0)
  have hfin := HB.out.2.trans (g3 w.heap.size (Nat.le_refl _))
  clear x0 x1 x2 x3 f0 f1 f2 f3
  generalize (((w3.setCell ⟨w.heap.size, 0, none⟩ (.int .u8 4)).setCell ⟨w.heap.size, 1, none⟩ (.string F)).setCell ⟨w.heap.size, 2, none⟩ (.slice none 0 0)).setCell ⟨w.heap.size, 3, none⟩ (.slice none 0 0) = W' at *
  obtain ⟨x0, x1, x2, x3⟩ := g1.box
  refine bodyPost_ret (v := .agg #[.int .u8 4, .string F, .slice none 0 0, .slice none 0 0]) (by simp [results, Tryd.results40, go_sem, x0, x1, x2, x3]) rfl ?_
  exact ⟨rfl, hfin⟩
end YtepjomdjkoaofaaDoor
end Go.Proofs

namespace Go.Proofs
open Go.Shelf

def Tryd.laysItoa_ren : Go.Shelf.Ren := ⟨fun | 129 => 119 | 171 => 67 | 243 => 80 | 246 => 94 | 283 => 109 | 284 => 110 | 285 => 111 | 286 => 112 | 317 => 118 | 318 => 120 | 319 => 121 | 320 => 122 | 337 => 126 | 338 => 127 | n => n, fun | 37 => 87 | 46 => 129 | 51 => 107 | 53 => 119 | 171 => 118 | 173 => 122 | 212 => 133 | 213 => 134 | 232 => 144 | 233 => 145 | n => n, fun | 17 => 2 | 18 => 4 | 19 => 5 | n => n⟩
theorem Tryd.laysItoa : LaysM.n171 Tryd.prog Tryd.laysItoa_ren := {
  mixed := by kernel_rfl,
  f129 := Tryd.func119.trans (congrArg some (by kernel_rfl)),
  f171 := Tryd.func67.trans (congrArg some (by kernel_rfl)),
  f243 := Tryd.func80.trans (congrArg some (by kernel_rfl)),
  f246 := Tryd.func94.trans (congrArg some (by kernel_rfl)),
  f283 := Tryd.func109.trans (congrArg some (by kernel_rfl)),
  f284 := Tryd.func110.trans (congrArg some (by kernel_rfl)),
  f285 := Tryd.func111.trans (congrArg some (by kernel_rfl)),
  f286 := Tryd.func112.trans (congrArg some (by kernel_rfl)),
  f317 := Tryd.func118.trans (congrArg some (by kernel_rfl)),
  f318 := Tryd.func120.trans (congrArg some (by kernel_rfl)),
  f319 := Tryd.func121.trans (congrArg some (by kernel_rfl)),
  f320 := Tryd.func122.trans (congrArg some (by kernel_rfl)),
  f337 := Tryd.func126.trans (congrArg some (by kernel_rfl)),
  f338 := Tryd.func127.trans (congrArg some (by kernel_rfl)),
  t0 := Tryd.underlying0,
  a0 := Tryd.isAgg0,
  z0 := Tryd.sizeOf0,
  v0 := Tryd.zeroValue0,
  t2 := Tryd.underlying2,
  a2 := Tryd.isAgg2,
  z2 := Tryd.sizeOf2,
  v2 := Tryd.zeroValue2,
  t3 := Tryd.underlying3,
  a3 := Tryd.isAgg3,
  z3 := Tryd.sizeOf3,
  v3 := Tryd.zeroValue3,
  t4 := Tryd.underlying4,
  a4 := Tryd.isAgg4,
  z4 := Tryd.sizeOf4,
  v4 := Tryd.zeroValue4,
  t5 := Tryd.underlying5,
  a5 := Tryd.isAgg5,
  z5 := Tryd.sizeOf5,
  v5 := Tryd.zeroValue5,
  t9 := Tryd.underlying9,
  a9 := Tryd.isAgg9,
  z9 := Tryd.sizeOf9,
  v9 := Tryd.zeroValue9,
  t20 := Tryd.underlying20,
  a20 := Tryd.isAgg20,
  z20 := Tryd.sizeOf20,
  v20 := Tryd.zeroValue20,
  t37 := Tryd.underlying87,
  a37 := Tryd.isAgg87,
  z37 := Tryd.sizeOf87,
  v37 := Tryd.zeroValue87,
  t46 := Tryd.underlying129,
  a46 := Tryd.isAgg129,
  z46 := Tryd.sizeOf129,
  v46 := Tryd.zeroValue129,
  t51 := Tryd.underlying107,
  a51 := Tryd.isAgg107,
  z51 := Tryd.sizeOf107,
  v51 := Tryd.zeroValue107,
  t53 := Tryd.underlying119,
  a53 := Tryd.isAgg119,
  z53 := Tryd.sizeOf119,
  v53 := Tryd.zeroValue119,
  t171 := Tryd.underlying118,
  a171 := Tryd.isAgg118,
  z171 := Tryd.sizeOf118,
  v171 := Tryd.zeroValue118,
  t173 := Tryd.underlying122,
  a173 := Tryd.isAgg122,
  z173 := Tryd.sizeOf122,
  v173 := Tryd.zeroValue122,
  t212 := Tryd.underlying133,
  a212 := Tryd.isAgg133,
  z212 := Tryd.sizeOf133,
  v212 := Tryd.zeroValue133,
  t213 := Tryd.underlying134,
  a213 := Tryd.isAgg134,
  z213 := Tryd.sizeOf134,
  t232 := Tryd.underlying144,
  a232 := Tryd.isAgg144,
  z232 := Tryd.sizeOf144,
  v232 := Tryd.zeroValue144,
  t233 := Tryd.underlying145,
  a233 := Tryd.isAgg145,
  z233 := Tryd.sizeOf145,
  v233 := Tryd.zeroValue145,
  g17 := by kernel_rfl,
  g18 := by kernel_rfl,
  g19 := by kernel_rfl,
  i0 := by kernel_rfl,
  i2 := by kernel_rfl,
  i3 := by kernel_rfl,
  i4 := by kernel_rfl,
  i5 := by kernel_rfl,
  i9 := by kernel_rfl,
  i20 := by kernel_rfl,
  i37 := by kernel_rfl,
  i46 := by kernel_rfl,
  i51 := by kernel_rfl,
  i53 := by kernel_rfl,
  i171 := by kernel_rfl,
  i173 := by kernel_rfl,
  i212 := by kernel_rfl,
  i232 := by kernel_rfl,
  i233 := by kernel_rfl,
  m17 := by kernel_rfl,
  m18 := by kernel_rfl,
  m19 := by kernel_rfl }
end Go.Proofs

namespace Go.Proofs
open Go Go.RowKit Go.Shelf Go.Lib

namespace YtepjomdjkoaofaaDoor
def PowTab (w : World) : Prop := Lib.TabIs Tryd.prog w "internal/strconv.uint64pow10" .u64 Lib.pow10Tab
def NumIs (x : List UInt8) (w : World) (e : Ending) (w' : World) : Prop := e = .returned (.agg #[.int .u8 3, .string ⟨x.toArray⟩, .slice none 0 0, .slice none 0 0]) ∧ Below w.heap.size w w'
theorem itoa_any (n : Int) (h0 : -9223372036854775808 ≤ n) (h1 : n ≤ 9223372036854775807) (w : World) (hP : PowTab w) :
    Calls Tryd.prog 67 #[.int .i64 n] w (StrIs ⟨(Lib.itoa n).toArray⟩ w) := by
  refine (Any.strconv_Itoa Tryd.laysItoa n h0 h1 w hP).mono ?_
  rintro e w' ⟨rfl, k, os, rfl⟩
  exact ⟨rfl, Lib.below_grow _ _ (Nat.le_refl _) k os⟩

set_option maxHeartbeats 1000000 in
set_option maxRecDepth 100000 in
theorem numberJ_any (n : Int) (h0 : -9223372036854775808 ≤ n) (h1 : n ≤ 9223372036854775807) (w : World) (hP : ∀ w', Below w.heap.size w w' → PowTab w') :
    Calls Tryd.prog 39 #[.int .i64 n] w (NumIs (Lib.itoa n) w) := by
  have hc := fun W hB => itoa_any n h0 h1 W (hP W hB)
  go_enter Tryd.func39, Tryd.ntmps39
  go_wp2_with fail
  have hB0 := (Below.refl w.heap.size w).alloc (Nat.le_refl _) (.cells #[.int .u8 0, .string ⟨#[]⟩, .slice none 0 0, .slice none 0 0] 25)
  have b0 : Blk4 (w.alloc (.cells #[.int .u8 0, .string ⟨#[]⟩, .slice none 0 0, .slice none 0 0] 25)) w.heap.size 25 _ _ _ _ := heap_alloc_new _ _
  refine (hc _ hB0).mono ?_
  rintro e w1 ⟨rfl, hB1⟩
  have b1 := b0.same (hB1.block _ b0.lt)
  have hB2 := hB0.trans (hB1.mono hB0.size)
  obtain ⟨x0, x1, x2, x3⟩ := b1.box
  have f0 := b1.free 0
  have f1 := b1.free 1
  have f2 := b1.free 2
  have f3 := b1.free 3
  have HB := Lib.hid (And.intro b1 hB2)
  clear b0 b1 hB0 hB1 hB2 hc
  go_wp2_with fail
  obtain ⟨g1, g2, g3⟩ := HB.out.1.all (.int .u8 3) (.string ⟨(Lib.itoa n).toArray⟩) (.slice none 0 0) (.slice none 0 0)
  have hfin := HB.out.2.trans (g3 _ (Nat.le_refl _))
  clear x0 x1 x2 x3 f0 f1 f2 f3
  generalize (((w1.setCell ⟨w.heap.size, 0, none⟩ (.int .u8 3)).setCell ⟨w.heap.size, 1, none⟩ (.string ⟨(Lib.itoa n).toArray⟩)).setCell ⟨w.heap.size, 2, none⟩ (.slice none 0 0)).setCell ⟨w.heap.size, 3, none⟩ (.slice none 0 0) = W' at *
  obtain ⟨x0, x1, x2, x3⟩ := g1.box
  refine bodyPost_ret (v := .agg #[.int .u8 3, .string ⟨(Lib.itoa n).toArray⟩, .slice none 0 0, .slice none 0 0]) (by simp [results, Tryd.results39, go_sem, x0, x1, x2, x3]) rfl ?_
  exact ⟨rfl, hfin⟩

end YtepjomdjkoaofaaDoor
end Go.Proofs
