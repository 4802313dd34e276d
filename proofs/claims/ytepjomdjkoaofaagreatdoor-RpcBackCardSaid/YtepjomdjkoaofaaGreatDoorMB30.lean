/- The program's Text. Conditions: a string of at most 10^12 bytes; the library's two tables of UTF-8 as its text lays them. -/
import Derived.Test.YtepjomdjkoaofaaGreatDoorMB29
import Derived.Test.YtepjomdjkoaofaaGreatDoorMB05
import Derived.Test.YtepjomdjkoaofaaGreatDoorProg
import Derived.Shelf.Lays
import Derived.Shelf.LaysM
import Derived.KernelRfl
import Derived.Test.YtepjomdjkoaofaaGreatDoorMB26
import Derived.Test.YtepjomdjkoaofaaGreatDoorMB03
import Derived.Shelf.Strconv.Itoa3
import Derived.Lib.AppendIntMem
import Derived.Lib.ItoaLen
import Derived.Test.YtepjomdjkoaofaaGreatDoorMB28
import Derived.Deep.AppendLies
namespace Go.Proofs
open Go Go.RowKit Go.Shelf Go.Lib

namespace YtepjomdjkoaofaaGreatDoor
def TextIs (x : ByteArray) (w : World) (e : Ending) (w' : World) : Prop := e = .returned (.agg #[.int .u8 4, .string x, .slice none 0 0, .slice none 0 0]) ∧ Below w.heap.size w w'
set_option maxHeartbeats 1000000 in
set_option maxRecDepth 100000 in
theorem text4_any (s : ByteArray) (w : World) (hs : s.size ≤ 1000000000000) (hz : (U.fixS s).size ≤ 140737488355328) (hT : Tabs w) :
    Calls Tryz.prog 80 #[.string s] w (TextIs (U.fixS s) w) := by
  have hfix := fun W (hW : Tabs W) => utfFix_any s W hs hW
  have hclone := fun W => strClone_any (U.fixS s) W hz
  generalize U.fixS s = F at *
  have HT := Lib.hid hT
  clear hT
  have hB0 := (Below.refl w.heap.size w).alloc (Nat.le_refl _) (.cells #[.int .u8 0, .string ⟨#[]⟩, .slice none 0 0, .slice none 0 0] 25)
  have b0 : Blk4 (w.alloc (.cells #[.int .u8 0, .string ⟨#[]⟩, .slice none 0 0, .slice none 0 0] 25)) w.heap.size 25 _ _ _ _ := heap_alloc_new _ _
  go_enter Tryz.func80, Tryz.ntmps80
  go_wp2_with fail
  refine (hfix _ (tabs_below HT.out hB0)).mono ?_
  rintro e w1 ⟨rfl, hB1⟩
  have b1 := b0.same (hB1.block _ b0.lt)
  have hB2 := hB0.trans (hB1.mono hB0.size)
  clear b0 hB0 hB1 hfix
  go_wp2_with fail
  refine (hclone _).mono ?_
  rintro e w3 ⟨rfl, hB3⟩
  have b3 := b1.same (hB3.block _ b1.lt)
  have hB4 := hB2.trans (hB3.mono hB2.size)
  obtain ⟨x0, x1, x2, x3⟩ := b3.box
  have f0 := b3.free 0
  have f1 := b3.free 1
  have f2 := b3.free 2
  have f3 := b3.free 3
  have HB := Lib.hid (And.intro b3 hB4)
  clear b1 b3 hB2 hB3 hB4 hclone
  go_wp2_with fail
  obtain ⟨g1, g2, g3⟩ := HB.out.1.all (.int .u8 4) (.string F) (.slice none 0 0) (.slice none 0 0)
  have hfin := HB.out.2.trans (g3 w.heap.size (Nat.le_refl _))
  clear x0 x1 x2 x3 f0 f1 f2 f3
  generalize (((w3.setCell ⟨w.heap.size, 0, none⟩ (.int .u8 4)).setCell ⟨w.heap.size, 1, none⟩ (.string F)).setCell ⟨w.heap.size, 2, none⟩ (.slice none 0 0)).setCell ⟨w.heap.size, 3, none⟩ (.slice none 0 0) = W' at *
  obtain ⟨x0, x1, x2, x3⟩ := g1.box
  refine bodyPost_ret (v := .agg #[.int .u8 4, .string F, .slice none 0 0, .slice none 0 0]) (by simp [results, Tryz.results80, go_sem, x0, x1, x2, x3]) rfl ?_
  exact ⟨rfl, hfin⟩
end YtepjomdjkoaofaaGreatDoor
end Go.Proofs

namespace Go.Proofs
open Go.Shelf

def Tryz.laysItoa_ren : Go.Shelf.Ren := ⟨fun | 129 => 243 | 171 => 127 | 243 => 189 | 246 => 214 | 283 => 227 | 284 => 228 | 285 => 229 | 286 => 230 | 317 => 242 | 318 => 244 | 319 => 245 | 320 => 246 | 337 => 257 | 338 => 258 | n => n, fun | 37 => 92 | 46 => 190 | 51 => 183 | 53 => 221 | 171 => 263 | 173 => 266 | 212 => 278 | 213 => 279 | 232 => 292 | 233 => 293 | n => n, fun | 17 => 4 | 18 => 6 | 19 => 7 | n => n⟩
theorem Tryz.laysItoa : LaysM.n171 Tryz.prog Tryz.laysItoa_ren := {
  mixed := by kernel_rfl,
  f129 := Tryz.func243.trans (congrArg some (by kernel_rfl)),
  f171 := Tryz.func127.trans (congrArg some (by kernel_rfl)),
  f243 := Tryz.func189.trans (congrArg some (by kernel_rfl)),
  f246 := Tryz.func214.trans (congrArg some (by kernel_rfl)),
  f283 := Tryz.func227.trans (congrArg some (by kernel_rfl)),
  f284 := Tryz.func228.trans (congrArg some (by kernel_rfl)),
  f285 := Tryz.func229.trans (congrArg some (by kernel_rfl)),
  f286 := Tryz.func230.trans (congrArg some (by kernel_rfl)),
  f317 := Tryz.func242.trans (congrArg some (by kernel_rfl)),
  f318 := Tryz.func244.trans (congrArg some (by kernel_rfl)),
  f319 := Tryz.func245.trans (congrArg some (by kernel_rfl)),
  f320 := Tryz.func246.trans (congrArg some (by kernel_rfl)),
  f337 := Tryz.func257.trans (congrArg some (by kernel_rfl)),
  f338 := Tryz.func258.trans (congrArg some (by kernel_rfl)),
  t0 := Tryz.underlying0,
  a0 := Tryz.isAgg0,
  z0 := Tryz.sizeOf0,
  v0 := Tryz.zeroValue0,
  t2 := Tryz.underlying2,
  a2 := Tryz.isAgg2,
  z2 := Tryz.sizeOf2,
  v2 := Tryz.zeroValue2,
  t3 := Tryz.underlying3,
  a3 := Tryz.isAgg3,
  z3 := Tryz.sizeOf3,
  v3 := Tryz.zeroValue3,
  t4 := Tryz.underlying4,
  a4 := Tryz.isAgg4,
  z4 := Tryz.sizeOf4,
  v4 := Tryz.zeroValue4,
  t5 := Tryz.underlying5,
  a5 := Tryz.isAgg5,
  z5 := Tryz.sizeOf5,
  v5 := Tryz.zeroValue5,
  t9 := Tryz.underlying9,
  a9 := Tryz.isAgg9,
  z9 := Tryz.sizeOf9,
  v9 := Tryz.zeroValue9,
  t20 := Tryz.underlying20,
  a20 := Tryz.isAgg20,
  z20 := Tryz.sizeOf20,
  v20 := Tryz.zeroValue20,
  t37 := Tryz.underlying92,
  a37 := Tryz.isAgg92,
  z37 := Tryz.sizeOf92,
  v37 := Tryz.zeroValue92,
  t46 := Tryz.underlying190,
  a46 := Tryz.isAgg190,
  z46 := Tryz.sizeOf190,
  v46 := Tryz.zeroValue190,
  t51 := Tryz.underlying183,
  a51 := Tryz.isAgg183,
  z51 := Tryz.sizeOf183,
  v51 := Tryz.zeroValue183,
  t53 := Tryz.underlying221,
  a53 := Tryz.isAgg221,
  z53 := Tryz.sizeOf221,
  v53 := Tryz.zeroValue221,
  t171 := Tryz.underlying263,
  a171 := Tryz.isAgg263,
  z171 := Tryz.sizeOf263,
  v171 := Tryz.zeroValue263,
  t173 := Tryz.underlying266,
  a173 := Tryz.isAgg266,
  z173 := Tryz.sizeOf266,
  v173 := Tryz.zeroValue266,
  t212 := Tryz.underlying278,
  a212 := Tryz.isAgg278,
  z212 := Tryz.sizeOf278,
  v212 := Tryz.zeroValue278,
  t213 := Tryz.underlying279,
  a213 := Tryz.isAgg279,
  z213 := Tryz.sizeOf279,
  t232 := Tryz.underlying292,
  a232 := Tryz.isAgg292,
  z232 := Tryz.sizeOf292,
  v232 := Tryz.zeroValue292,
  t233 := Tryz.underlying293,
  a233 := Tryz.isAgg293,
  z233 := Tryz.sizeOf293,
  v233 := Tryz.zeroValue293,
  g17 := by kernel_rfl,
  g18 := by kernel_rfl,
  g19 := by kernel_rfl,
  i0 := by kernel_rfl,
  i2 := by kernel_rfl,
  i3 := by kernel_rfl,
  i4 := by kernel_rfl,
  i5 := by kernel_rfl,
  i9 := by kernel_rfl,
  i20 := by kernel_rfl,
  i37 := by kernel_rfl,
  i46 := by kernel_rfl,
  i51 := by kernel_rfl,
  i53 := by kernel_rfl,
  i171 := by kernel_rfl,
  i173 := by kernel_rfl,
  i212 := by kernel_rfl,
  i232 := by kernel_rfl,
  i233 := by kernel_rfl,
  m17 := by kernel_rfl,
  m18 := by kernel_rfl,
  m19 := by kernel_rfl }
end Go.Proofs

namespace Go.Proofs
open Go Go.RowKit Go.Shelf Go.Lib

namespace YtepjomdjkoaofaaGreatDoor
def PowTab (w : World) : Prop := Lib.TabIs Tryz.prog w "internal/strconv.uint64pow10" .u64 Lib.pow10Tab
def NumIs (x : List UInt8) (w : World) (e : Ending) (w' : World) : Prop := e = .returned (.agg #[.int .u8 3, .string ⟨x.toArray⟩, .slice none 0 0, .slice none 0 0]) ∧ Below w.heap.size w w'
theorem itoa_any (n : Int) (h0 : -9223372036854775808 ≤ n) (h1 : n ≤ 9223372036854775807) (w : World) (hP : PowTab w) :
    Calls Tryz.prog 127 #[.int .i64 n] w (StrIs ⟨(Lib.itoa n).toArray⟩ w) := by
  refine (Any.strconv_Itoa Tryz.laysItoa n h0 h1 w hP).mono ?_
  rintro e w' ⟨rfl, k, os, rfl⟩
  exact ⟨rfl, Lib.below_grow _ _ (Nat.le_refl _) k os⟩

set_option maxHeartbeats 1000000 in
set_option maxRecDepth 100000 in
theorem numberJ_any (n : Int) (h0 : -9223372036854775808 ≤ n) (h1 : n ≤ 9223372036854775807) (w : World) (hP : ∀ w', Below w.heap.size w w' → PowTab w') :
    Calls Tryz.prog 70 #[.int .i64 n] w (NumIs (Lib.itoa n) w) := by
  have hc := fun W hB => itoa_any n h0 h1 W (hP W hB)
  go_enter Tryz.func70, Tryz.ntmps70
  go_wp2_with fail
  have hB0 := (Below.refl w.heap.size w).alloc (Nat.le_refl _) (.cells #[.int .u8 0, .string ⟨#[]⟩, .slice none 0 0, .slice none 0 0] 25)
  have b0 : Blk4 (w.alloc (.cells #[.int .u8 0, .string ⟨#[]⟩, .slice none 0 0, .slice none 0 0] 25)) w.heap.size 25 _ _ _ _ := heap_alloc_new _ _
  refine (hc _ hB0).mono ?_
  rintro e w1 ⟨rfl, hB1⟩
  have b1 := b0.same (hB1.block _ b0.lt)
  have hB2 := hB0.trans (hB1.mono hB0.size)
  obtain ⟨x0, x1, x2, x3⟩ := b1.box
  have f0 := b1.free 0
  have f1 := b1.free 1
  have f2 := b1.free 2
  have f3 := b1.free 3
  have HB := Lib.hid (And.intro b1 hB2)
  clear b0 b1 hB0 hB1 hB2 hc
  go_wp2_with fail
  obtain ⟨g1, g2, g3⟩ := HB.out.1.all (.int .u8 3) (.string ⟨(Lib.itoa n).toArray⟩) (.slice none 0 0) (.slice none 0 0)
  have hfin := HB.out.2.trans (g3 _ (Nat.le_refl _))
  clear x0 x1 x2 x3 f0 f1 f2 f3
  generalize (((w1.setCell ⟨w.heap.size, 0, none⟩ (.int .u8 3)).setCell ⟨w.heap.size, 1, none⟩ (.string ⟨(Lib.itoa n).toArray⟩)).setCell ⟨w.heap.size, 2, none⟩ (.slice none 0 0)).setCell ⟨w.heap.size, 3, none⟩ (.slice none 0 0) = W' at *
  obtain ⟨x0, x1, x2, x3⟩ := g1.box
  refine bodyPost_ret (v := .agg #[.int .u8 3, .string ⟨(Lib.itoa n).toArray⟩, .slice none 0 0, .slice none 0 0]) (by simp [results, Tryz.results70, go_sem, x0, x1, x2, x3]) rfl ?_
  exact ⟨rfl, hfin⟩

end YtepjomdjkoaofaaGreatDoor
end Go.Proofs

namespace Go.Proofs.YtepjomdjkoaofaaGreatDoor
open Go Go.RowKit Go.Lib

/-- an object of these fields is handed back -/
def ObjIs (v : Value) (w : World) (e : Ending) (w' : World) : Prop := e = .returned (.agg #[.int .u8 6, .string ⟨#[]⟩, .slice none 0 0, v]) ∧ Below w.heap.size w w'
set_option maxHeartbeats 1000000 in
set_option maxRecDepth 100000 in
theorem object_any (p : Option Addr) (n c : Nat) (w : World) : Calls Tryz.prog 79 #[.slice p n c] w (ObjIs (.slice p n c) w) := by
  go_enter Tryz.func79, Tryz.ntmps79
  go_wp2_with fail
  have hfin := (Below.refl w.heap.size w).alloc (Nat.le_refl _) (.cells #[.int .u8 6, .string ⟨#[]⟩, .slice none 0 0, .slice p n c] 25)
  have g1 : Blk4 (w.alloc (.cells #[.int .u8 6, .string ⟨#[]⟩, .slice none 0 0, .slice p n c] 25)) w.heap.size 25 _ _ _ _ := heap_alloc_new _ _
  generalize w.alloc (.cells #[.int .u8 6, .string ⟨#[]⟩, .slice none 0 0, .slice p n c] 25) = W' at *
  obtain ⟨x0, x1, x2, x3⟩ := g1.box
  refine bodyPost_ret (v := .agg #[.int .u8 6, .string ⟨#[]⟩, .slice none 0 0, .slice p n c]) (by simp [results, Tryz.results79, go_sem, x0, x1, x2, x3]) rfl ?_
  exact ⟨rfl, hfin⟩

structure CpSt (w : World) (k : Nat) (x : ByteArray) (v u : Value) (l f : V.T) (W : World) : Prop where
  below : Below w.heap.size w W
  size : w.heap.size + 2 ≤ W.heap.size
  b0 : Blk4 W w.heap.size 25 (.int .u8 k) (.string x) v u
  b1 : Blk4 W (w.heap.size + 1) 25 (.int .u8 0) (.string ⟨#[]⟩) (.slice none 0 0) (.slice none 0 0)
  li : Lies W (.slice (some ⟨w.heap.size + 1 + 1, 0, none⟩) 1 1) [⟨⟨#[]⟩, k, x, v, u, l, f⟩]
  l : HS W (fun _ => True) 0 v l
  f : HS W (fun _ => True) 1 u f
theorem CpSt.on {w : World} {k : Nat} {x : ByteArray} {v u : Value} {l f : V.T} {W W' : World} (h : CpSt w k x v u l f W) (hB : Below W.heap.size W W') : CpSt w k x v u l f W' :=
  ⟨h.below.trans (hB.mono h.below.size), Nat.le_trans h.size hB.size, h.b0.same (hB.block _ h.b0.lt), h.b1.same (hB.block _ h.b1.lt), h.li.below hB, h.l.below hB, h.f.below hB⟩
theorem CpSt.get {w : World} {k : Nat} {x : ByteArray} {v u : Value} {l f : V.T} {W : World} (h : CpSt w k x v u l f W) (hk : Fit ⟨#[]⟩ k x) :
    Calls Tryz.prog 82 #[.agg #[.int .u8 6, .string ⟨#[]⟩, .slice none 0 0, .slice (some ⟨w.heap.size + 1 + 1, 0, none⟩) 1 1], .string ⟨#[]⟩] W (GotF (some (k, x, l, f)) W) := by
  have := get_any 6 ⟨#[]⟩ ⟨#[]⟩ (.slice none 0 0) _ .nil _ (fun _ => True) W (HS.nil _ _ _) (h.li.hs (A := fun _ => True) (fun e he => by
    cases he with
    | head => exact ⟨h.l, h.f, hk⟩
    | tail _ h => cases h) (fun _ _ => trivial) (by show 1 ≤ 2000000000000; decide))
  exact this
set_option maxHeartbeats 1000000 in
set_option maxRecDepth 100000 in
theorem copied_any (k : Nat) (x : ByteArray) (v u : Value) (l f : V.T) (A : Nat → Prop) (w : World) (hk : Fit ⟨#[]⟩ k x) (hl : HS w A 0 v l) (hf : HS w A 1 u f) :
    Calls Tryz.prog 138 #[.agg #[.int .u8 k, .string x, v, u]] w (Own4G k x l f w) := by
  obtain ⟨p, c, rfl, -⟩ := hl.len
  obtain ⟨q, d, rfl, -⟩ := hf.len
  have HO := Lib.hid (fun W p n c => object_any p n c W)
  have HG := Lib.hid (fun W (h : CpSt w k x (.slice p l.len c) (.slice q f.len d) l f W) => h.get hk)
  have S0 : CpSt w k x (.slice p l.len c) (.slice q f.len d) l f (((w.alloc (.cells #[.int .u8 k, .string x, .slice p l.len c, .slice q f.len d] 25)).alloc (.cells #[.int .u8 0, .string ⟨#[]⟩, .slice none 0 0, .slice none 0 0] 25)).alloc (.cells #[.string ⟨#[]⟩, .int .u8 k, .string x, .slice p l.len c, .slice q f.len d] 91)) := by
    have h2 := two_new w (.cells #[.int .u8 k, .string x, .slice p l.len c, .slice q f.len d] 25) (.cells #[.int .u8 0, .string ⟨#[]⟩, .slice none 0 0, .slice none 0 0] 25)
    have hb := two_below w (.cells #[.int .u8 k, .string x, .slice p l.len c, .slice q f.len d] 25) (.cells #[.int .u8 0, .string ⟨#[]⟩, .slice none 0 0, .slice none 0 0] 25)
    have hz := two_size w (.cells #[.int .u8 k, .string x, .slice p l.len c, .slice q f.len d] 25) (.cells #[.int .u8 0, .string ⟨#[]⟩, .slice none 0 0, .slice none 0 0] 25)
    generalize (w.alloc (.cells #[.int .u8 k, .string x, .slice p l.len c, .slice q f.len d] 25)).alloc (.cells #[.int .u8 0, .string ⟨#[]⟩, .slice none 0 0, .slice none 0 0] 25) = W2 at *
    have hB := (Below.refl W2.heap.size W2).alloc (Nat.le_refl _) (.cells #[.string ⟨#[]⟩, .int .u8 k, .string x, .slice p l.len c, .slice q f.len d] 91)
    have b0 : Blk4 W2 w.heap.size 25 _ _ _ _ := h2.1
    have b1 : Blk4 W2 (w.heap.size + 1) 25 _ _ _ _ := h2.2
    have hL := lies_new (w := W2) (cs := #[.string ⟨#[]⟩, .int .u8 k, .string x, .slice p l.len c, .slice q f.len d]) (es := [⟨⟨#[]⟩, k, x, .slice p l.len c, .slice q f.len d, l, f⟩]) (t := 91) (n := 1) rfl rfl (by decide)
    rw [hz] at hL
    exact ⟨hb.trans (hB.mono hb.size), by rw [World.size_alloc, hz]; omega, b0.same (hB.block _ b0.lt), b1.same (hB.block _ b1.lt), hL, ((hl.mono (fun _ _ _ => trivial)).below (hb.trans (hB.mono hb.size))), ((hf.mono (fun _ _ _ => trivial)).below (hb.trans (hB.mono hb.size)))⟩
  have H0 := Lib.hid S0
  clear hl hf S0
  go_enter Tryz.func138, Tryz.ntmps138
  go_wp2_with fail
  refine (HO.out _ _ _ _).mono ?_
  rintro e w1 ⟨rfl, hB1⟩
  have H1 := Lib.hid (H0.out.on hB1)
  clear hB1 H0
  go_wp2_with fail
  refine (HG.out _ H1.out).mono ?_
  rintro e w2 ⟨v2, u2, rfl, hl2, hf2, -, -, hB2⟩
  dsimp only [V.res] at hl2 hf2 ⊢
  obtain ⟨p2, c2, rfl, -⟩ := hl2.len
  obtain ⟨q2, d2, rfl, -⟩ := hf2.len
  have H2 := Lib.hid (H1.out.on hB2)
  obtain ⟨x0, x1, x2, x3⟩ := H2.out.b0.box
  obtain ⟨y0, y1, y2, y3⟩ := H2.out.b1.box
  have f0 := H2.out.b0.free
  have f1 := H2.out.b1.free
  go_wp2_with fail
  obtain ⟨g1, g2, g3⟩ := H2.out.b0.all (.int .u8 k) (.string x) (.slice p2 l.len c2) (.slice q2 f.len d2)
  have hw3 := set4_else w2 w.heap.size (.int .u8 k) (.string x) (.slice p2 l.len c2) (.slice q2 f.len d2)
  have g3' := g3 _ (Nat.le_refl _)
  have b1 := H2.out.b1.same (hw3 (w.heap.size + 1) (by omega))
  clear x0 x1 x2 x3 y0 y1 y2 y3 f0 f1
  generalize (((w2.setCell ⟨w.heap.size, 0, none⟩ (.int .u8 k)).setCell ⟨w.heap.size, 1, none⟩ (.string x)).setCell ⟨w.heap.size, 2, none⟩ (.slice p2 l.len c2)).setCell ⟨w.heap.size, 3, none⟩ (.slice q2 f.len d2) = w3 at *
  obtain ⟨k1, k2, k3⟩ := b1.all (.int .u8 k) (.string x) (.slice p2 l.len c2) (.slice q2 f.len d2)
  have hw4 := set4_else w3 (w.heap.size + 1) (.int .u8 k) (.string x) (.slice p2 l.len c2) (.slice q2 f.len d2)
  have k3' := k3 w.heap.size (Nat.le_succ _)
  generalize (((w3.setCell ⟨w.heap.size + 1, 0, none⟩ (.int .u8 k)).setCell ⟨w.heap.size + 1, 1, none⟩ (.string x)).setCell ⟨w.heap.size + 1, 2, none⟩ (.slice p2 l.len c2)).setCell ⟨w.heap.size + 1, 3, none⟩ (.slice q2 f.len d2) = w4 at *
  obtain ⟨x0, x1, x2, x3⟩ := k1.box
  have hs := H1.out.size
  have keep : ∀ b, w1.heap.size ≤ b → b < w2.heap.size → w4.heap[b]? = w2.heap[b]? := fun b hb _ => (hw4 b (by omega)).trans (hw3 b (by omega))
  refine bodyPost_ret (v := .agg #[.int .u8 k, .string x, .slice p2 l.len c2, .slice q2 f.len d2]) (by simp [results, Tryz.results138, go_sem, x0, x1, x2, x3]) rfl ?_
  exact ⟨_, _, rfl, hl2.fre (fun b hb => by omega) keep, hf2.fre (fun b hb => by omega) keep, (H2.out.below.trans g3').trans k3'⟩

def verF : Fe := ⟨⟨#[106, 115, 111, 110, 114, 112, 99]⟩, 4, ⟨#[50, 46, 48]⟩, .slice none 0 0, .slice none 0 0, .nil, .nil⟩
theorem verF_ok (w : World) (A : Nat → Prop) : verF.Ok w A := ⟨HS.nil _ _ _, HS.nil _ _ _, by decide, by decide, by decide⟩
theorem ver_fix : U.fixS ⟨#[50, 46, 48]⟩ = ⟨#[50, 46, 48]⟩ := U.fixS_valid _ (by decide +kernel)

structure MdSt (w : World) (v : Value) (es : List Fe) (W : World) : Prop where
  below : Below w.heap.size w W
  size : w.heap.size + 1 ≤ W.heap.size
  b0 : Blk4 W w.heap.size 25 (.int .u8 0) (.string ⟨#[]⟩) (.slice none 0 0) (.slice none 0 0)
  li : Lies W v es
  lt : ∀ b, v.ownBlock = some b → b < w.heap.size
  ok : ∀ e ∈ es, e.Ok W (fun b => b < w.heap.size)
theorem MdSt.on {w : World} {v : Value} {es : List Fe} {W W' : World} (h : MdSt w v es W) (hB : Below W.heap.size W W') : MdSt w v es W' :=
  ⟨h.below.trans (hB.mono h.below.size), Nat.le_trans h.size hB.size, h.b0.same (hB.block _ h.b0.lt), h.li.below hB, h.lt, fun e he => (h.ok e he).below hB⟩

structure M3 (w : World) (v : Value) (es : List Fe) (W : World) : Prop where
  below : Below w.heap.size w W
  size : w.heap.size + 1 ≤ W.heap.size
  b0 : Blk4 W w.heap.size 25 (.int .u8 0) (.string ⟨#[]⟩) (.slice none 0 0) (.slice none 0 0)
  hs : HS W (fun _ => True) 1 v (treeOf es)
theorem M3.on {w : World} {v : Value} {es : List Fe} {W W' : World} (h : M3 w v es W) (hB : Below W.heap.size W W') : M3 w v es W' :=
  ⟨h.below.trans (hB.mono h.below.size), Nat.le_trans h.size hB.size, h.b0.same (hB.block _ h.b0.lt), h.hs.below hB⟩

set_option maxHeartbeats 1000000 in
set_option maxRecDepth 100000 in
theorem made_any (p : Option Addr) (n c : Nat) (es : List Fe) (A : Nat → Prop) (w : World) (hn : n = es.length) (h10 : 0 < n ∧ n ≤ 10) (hl : Lies w (.slice p n c) es) (ho : ∀ e ∈ es, e.Ok w A) (hT : Tabs w) :
    Calls Tryz.prog 77 #[.slice p n c] w (Own4G 6 ⟨#[]⟩ .nil (treeOf (verF :: es)) w) := by
  obtain ⟨i0, hi0, hz0, hz1, hz2⟩ := info_parts infoField
  subst hn
  obtain ⟨b, hp⟩ : ∃ b, p = some ⟨b, 0, none⟩ := by
    obtain ⟨b, c', e, _⟩ := hl
    cases e
    exact ⟨b, rfl⟩
  subst hp
  have HO := Lib.hid (fun W p n c => object_any p n c W)
  have HT := Lib.hid (fun W (hB : Below w.heap.size w W) => text4_any ⟨#[50, 46, 48]⟩ W (by decide) (by rw [ver_fix]; decide) (tabs_below hT hB))
  rw [ver_fix] at HT
  have HC := Lib.hid (fun W p n c (h : HS W (fun _ => True) 1 (.slice p n c) (treeOf (verF :: es))) => copied_any 6 ⟨#[]⟩ (.slice none 0 0) (.slice p n c) .nil (treeOf (verF :: es)) (fun _ => True) W ⟨by decide, by decide, by decide⟩ (HS.nil _ _ _) h)
  have H0 := Lib.hid (show MdSt w (.slice (some ⟨b, 0, none⟩) es.length c) es (w.alloc (.cells #[.int .u8 0, .string ⟨#[]⟩, .slice none 0 0, .slice none 0 0] 25)) from by
    have hB := (Below.refl w.heap.size w).alloc (Nat.le_refl _) (.cells #[.int .u8 0, .string ⟨#[]⟩, .slice none 0 0, .slice none 0 0] 25)
    refine ⟨hB, by rw [World.size_alloc]; omega, heap_alloc_new _ _, hl.below hB, fun b hb => ?_, fun e he => ((ho e he).mono (fun _ _ h => h)).below hB⟩
    obtain ⟨b', c', e, _, _, h4, _⟩ := hl
    rw [e] at hb
    cases hb
    exact h4)
  clear hl ho hT
  go_enter Tryz.func77, Tryz.ntmps77
  go_wp2_with fail
  refine (HT.out _ H0.out.below).mono ?_
  rintro e w1 ⟨rfl, hB1⟩
  have H1 := Lib.hid (H0.out.on hB1)
  clear hB1 H0
  have hB2 := two_below w1 (.cells #[.string ⟨#[106, 115, 111, 110, 114, 112, 99]⟩, .int .u8 4, .string ⟨#[50, 46, 48]⟩, .slice none 0 0, .slice none 0 0] 91) (.cells #[.string ⟨#[106, 115, 111, 110, 114, 112, 99]⟩, .int .u8 4, .string ⟨#[50, 46, 48]⟩, .slice none 0 0, .slice none 0 0] 91)
  have H2 := H1.out.on hB2
  have own2 := owns_new (w := w1.alloc (.cells #[.string ⟨#[106, 115, 111, 110, 114, 112, 99]⟩, .int .u8 4, .string ⟨#[50, 46, 48]⟩, .slice none 0 0, .slice none 0 0] 91)) (cs := #[.string ⟨#[106, 115, 111, 110, 114, 112, 99]⟩, .int .u8 4, .string ⟨#[50, 46, 48]⟩, .slice none 0 0, .slice none 0 0]) (es := [verF]) (t := 91) (n := 1) rfl rfl (by decide) (w.heap.size + 1) (by rw [World.size_alloc]; have := H1.out.size; omega)
  rw [World.size_alloc] at own2
  go_wp2_with (at_builtin; go_loud (refine wpList_append_lies _ rfl _ _ 23 rfl (w.heap.size + 1) 91 i0 _ 5 88 Tryz.underlying23 hi0 hz0 hz1 hz2 rfl (by decide) (.slice (some ⟨w1.heap.size + 1, 0, none⟩) 1 1) 1 (cellsOf [verF]) rfl own2 ⟨b, 0, none⟩ es.length c (cellsOf es) rfl (cellsOf_len _) H2.li.news (cellsOf_one es H2.ok) h10.1 (by unfold maxLen; omega) (by omega) H2.size _ rfl ?_))
  intro g cap w3 own3 hg3 _ _
  have hs1 := H1.out.size
  have H3 := Lib.hid (show M3 w (.slice (some ⟨g, 0, none⟩) (1 + es.length) cap) (verF :: es) w3 from by
    have hrow : ∀ k, (Value.slice (some ⟨w1.heap.size + 1, 0, none⟩) 1 1).ownBlock = some k → k = w1.heap.size + 1 := fun k hk => by cases hk; rfl
    have hne : ∀ k, k < w1.heap.size + 1 → some k ≠ (Value.slice (some ⟨w1.heap.size + 1, 0, none⟩) 1 1).ownBlock := fun k hk e => by have := hrow k e.symm; omega
    refine ⟨H2.below.grown hg3 (by have := H2.size; omega) (fun k hk => by rw [hrow k hk]; omega), Nat.le_trans H2.size hg3.size, H2.b0.same (hg3.block _ H2.b0.lt (hne _ (by omega))), ?_⟩
    refine Lies.hs (lies_owned (by simp; omega) own3) (fun e he => ?_) (fun _ _ => trivial) (by simp; omega)
    rcases List.mem_cons.1 he with rfl | he
    · exact verF_ok _ _
    · exact (H2.ok e he).imp (fun _ _ _ => trivial) (fun k hk hlt => hg3.block k hlt (hne k (by omega))))
  clear own3 hg3 own2 H2 hB2 H1
  go_wp2_with fail
  refine (HO.out _ _ _ _).mono ?_
  rintro e w4 ⟨rfl, hB4⟩
  have H4 := Lib.hid (H3.out.on hB4)
  clear hB4 H3
  go_wp2_with fail
  refine (HC.out _ _ _ _ H4.out.hs).mono ?_
  rintro e w5 ⟨v2, u2, rfl, hl2, hf2, hB5⟩
  obtain ⟨p2, c2, rfl, -⟩ := hl2.len
  obtain ⟨q2, d2, rfl, -⟩ := hf2.len
  have H5 := Lib.hid (H4.out.on hB5)
  have hs4 := H4.out.size
  obtain ⟨x0, x1, x2, x3⟩ := H5.out.b0.box
  have f0 := H5.out.b0.free
  go_wp2_with fail
  obtain ⟨g1, g2, g3⟩ := H5.out.b0.all (.int .u8 6) (.string ⟨#[]⟩) (.slice p2 V.T.nil.len c2) (.slice q2 (treeOf (verF :: es)).len d2)
  have hw3 := set4_else w5 w.heap.size (.int .u8 6) (.string ⟨#[]⟩) (.slice p2 V.T.nil.len c2) (.slice q2 (treeOf (verF :: es)).len d2)
  have g3' := g3 _ (Nat.le_refl _)
  clear x0 x1 x2 x3 f0
  generalize (((w5.setCell ⟨w.heap.size, 0, none⟩ (.int .u8 6)).setCell ⟨w.heap.size, 1, none⟩ (.string ⟨#[]⟩)).setCell ⟨w.heap.size, 2, none⟩ (.slice p2 V.T.nil.len c2)).setCell ⟨w.heap.size, 3, none⟩ (.slice q2 (treeOf (verF :: es)).len d2) = w6 at *
  obtain ⟨x0, x1, x2, x3⟩ := g1.box
  have keep : ∀ b, w4.heap.size ≤ b → b < w5.heap.size → w6.heap[b]? = w5.heap[b]? := fun b hb _ => hw3 b (by omega)
  refine bodyPost_ret (v := .agg #[.int .u8 6, .string ⟨#[]⟩, .slice p2 V.T.nil.len c2, .slice q2 (treeOf (verF :: es)).len d2]) (by simp [results, Tryz.results77, go_sem, x0, x1, x2, x3]) rfl ?_
  exact ⟨_, _, rfl, hl2.fre (fun b hb => by omega) keep, hf2.fre (fun b hb => by omega) keep, H5.out.below.trans g3'⟩
end Go.Proofs.YtepjomdjkoaofaaGreatDoor
