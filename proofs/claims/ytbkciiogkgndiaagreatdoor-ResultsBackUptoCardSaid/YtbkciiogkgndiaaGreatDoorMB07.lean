/- The program's Fix. Conditions: a string of at most 10^12 bytes; the library's two tables as its text lays them. -/
import Derived.Test.YtbkciiogkgndiaaGreatDoorMB06
import Derived.Shelf.Strings.FieldsFuncAny
import Derived.Test.YtbkciiogkgndiaaGreatDoorMB04
import Derived.Test.YtbkciiogkgndiaaGreatDoorMB03
import Derived.Test.YtbkciiogkgndiaaGreatDoorProg
import Derived.Shelf.Lays
import Derived.Shelf.LaysM
import Derived.KernelRfl
import Derived.Shelf.Strconv.Itoa3
import Derived.Lib.AppendIntMem
import Derived.Lib.ItoaLen
namespace Go.Proofs
open Go Go.RowKit Go.Shelf Go.Lib

namespace YtbkciiogkgndiaaGreatDoor
set_option maxHeartbeats 400000 in
set_option maxRecDepth 100000 in
theorem utfFix_valid (s : ByteArray) (w : World) (hs : s.size ≤ 1000000000000) (hT : Tabs w) (h : U.valid s = true) :
    Calls Tryz.prog 38 #[.string s] w (StrIs (U.fixS s) w) := by
  have hc := utfValid_any s w hs hT
  rw [U.fixS_valid s h]
  rw [h] at hc
  clear h
  go_enter Tryz.func38, Tryz.ntmps38
  go_wp2_with fail
  refine hc.mono ?_
  rintro e w' ⟨rfl, hb⟩
  go_wp2_with fail
  go_ret
  exact ⟨rfl, hb⟩

set_option maxHeartbeats 1000000 in
set_option maxRecDepth 100000 in
theorem utfFix_broken (s : ByteArray) (w : World) (hs : s.size ≤ 1000000000000) (hT : Tabs w) (h : U.valid s = false) :
    Calls Tryz.prog 38 #[.string s] w (StrIs (U.fixS s) w) := by
  have hc := utfValid_any s w hs hT
  rw [h] at hc
  clear h
  obtain ⟨i0, hi, hz0, hz1, hz2⟩ := info_parts infoByte
  go_enter Tryz.func38, Tryz.ntmps38
  go_wp2_with fail
  refine hc.mono ?_
  rintro e w1 ⟨rfl, hb⟩
  go_wp2_with (refine wpList_make_own _ rfl _ _ 101 rfl w.heap.size 5 i0 (.int .u8 0) 1 Tryz.underlying101 hi hz0 hz1 .i64 .i64 _ s.size rfl rfl rfl ?c1 ?c2 hb.size ?_)
  case c1 => rw [hz2]; omega
  case c2 => unfold maxLen; omega
  intro w2 hown2 hgrow2
  have hb2 := hb.grown hgrow2 hb.size (fun k hk => by cases hk)
  clear hb hgrow2 hc
  go_wp2_with fail
  go_loopw [3] (fun v wr => ∃ (f pos : Nat) (l : List UInt8), Hid (wr.heap[w2.heap.size]? = some (.stringIter s pos)) ∧ pos ≤ s.size ∧ l.length ≤ 3 * pos ∧ wr.ownsRow w.heap.size 5 1 v l.length (U.cellsOf l) ∧ Hid (l ++ U.fixFrom s f pos = U.fixL s ∧ s.size ≤ pos + f) ∧ Below w.heap.size w wr) (fun _ wr => s.size - wr.iterPos w2.heap.size)
  case atStart => exact ⟨s.size, 0, [], Lib.hid (World.iter_heap _ _ _), by omega, by simp, hown2.alloc _, Lib.hid ⟨rfl, by omega⟩, hb2.alloc hb2.size _⟩
  case round =>
    obtain ⟨f, pos, l, HI, hp, hl, hown, HU, hbl⟩ := hrel
    have HM := Lib.hid (iterPos_of HI.out)
    by_cases hlt : pos < s.size
    · have hw1 := U.wd_pos hlt
      have hw2 := U.wd_le hlt
      obtain ⟨f', rfl⟩ : ∃ f', f = f' + 1 := ⟨f - 1, by have := HU.out.2; omega⟩
      have HS := Lib.hid (U.fixFrom_step s f' pos hlt)
      have hpl := (U.piece_le hlt).1
      have hnx : ∀ ty, (Instr.next (.pointer (some ⟨w2.heap.size, 0, none⟩)) true ty).run Tryz.prog wr = .ok (.tuple #[.bool true, .int .i64 pos, .int .i32 (U.ch s pos)]) (wr.iterAt w2.heap.size s (pos + U.wd s pos)) := fun ty => Lib.run_next_any_at wr _ s pos ty HI.out hlt
      have hI1 := Lib.hid (Lib.iterAt_heap wr _ s pos (pos + U.wd s pos) HI.out)
      have hown1 := own_iterAt hown HI.out (pos + U.wd s pos)
      have hbl1 := Lib.below_iterAt hbl hb2.size s (pos + U.wd s pos)
      have hc := append_any w.heap.size u3 l s pos hlt _ hown1 (by omega) hbl1.size
      generalize U.wd s pos = d at *
      generalize U.ch s pos = c at *
      clear hown hbl
      go_wp2_with fail
      refine hc.mono ?_
      rintro e w3 ⟨v', rfl, hown3, o, hgrow⟩
      have hI3 := Lib.hid (iter_grown hI1.out hgrow (own_ne_iter hown1 hI1.out))
      have hb3 := (hbl1.alloc hbl1.size o).grown hgrow (hbl1.alloc hbl1.size o).size (fun k hk => (hown1.lt k hk).1)
      have HM3 := Lib.hid (iterPos_of hI3.out)
      clear hbl1 hown1 hgrow hc
      go_wp2_with fail
      go_roundw
      case rel =>
        refine ⟨f', pos + d, l ++ U.piece s pos, hI3, by omega, by rw [List.length_append]; omega, hown3, Lib.hid ⟨?_, ?_⟩, hb3⟩
        · rw [List.append_assoc, ← HS.out]; exact HU.out.1
        · have := HU.out.2; omega
      case measure =>
        rw [HM3.out, HM.out]
        omega
    · have hnx : ∀ ty, (Instr.next (.pointer (some ⟨w2.heap.size, 0, none⟩)) true ty).run Tryz.prog wr = _ := fun ty => Lib.run_next_end_at wr _ s pos ty HI.out hlt
      have hconv := conv_own hown
      have HE := Lib.hid (U.fixFrom_end s f pos hlt)
      clear hown
      go_wp2_with fail
      go_ret
      refine ⟨?_, hbl⟩
      have := HU.out.1
      rw [HE.out, List.append_nil] at this
      unfold U.fixS
      rw [← this]
      rfl
theorem utfFix_any (s : ByteArray) (w : World) (hs : s.size ≤ 1000000000000) (hT : Tabs w) :
    Calls Tryz.prog 38 #[.string s] w (StrIs (U.fixS s) w) := by
  cases h : U.valid s
  · exact utfFix_broken s w hs hT h
  · exact utfFix_valid s w hs hT h
end YtbkciiogkgndiaaGreatDoor
end Go.Proofs

namespace Go.Proofs
open Go Go.RowKit Go.Shelf Go.Lib

namespace YtbkciiogkgndiaaGreatDoor
def TextIs (x : ByteArray) (w : World) (e : Ending) (w' : World) : Prop := e = .returned (.agg #[.int .u8 4, .string x, .slice none 0 0, .slice none 0 0]) ∧ Below w.heap.size w w'
set_option maxHeartbeats 1000000 in
set_option maxRecDepth 100000 in
theorem text4_any (s : ByteArray) (w : World) (hs : s.size ≤ 1000000000000) (hz : (U.fixS s).size ≤ 140737488355328) (hT : Tabs w) :
    Calls Tryz.prog 101 #[.string s] w (TextIs (U.fixS s) w) := by
  have hfix := fun W (hW : Tabs W) => utfFix_any s W hs hW
  have hclone := fun W => strClone_any (U.fixS s) W hz
  generalize U.fixS s = F at *
  have HT := Lib.hid hT
  clear hT
  have hB0 := (Below.refl w.heap.size w).alloc (Nat.le_refl _) (.cells #[.int .u8 0, .string ⟨#[]⟩, .slice none 0 0, .slice none 0 0] 25)
  have b0 : Blk4 (w.alloc (.cells #[.int .u8 0, .string ⟨#[]⟩, .slice none 0 0, .slice none 0 0] 25)) w.heap.size 25 _ _ _ _ := heap_alloc_new _ _
  go_enter Tryz.func101, Tryz.ntmps101
  go_wp2_with fail
  refine (hfix _ (tabs_below HT.out hB0)).mono ?_
  rintro e w1 ⟨rfl, hB1⟩
  have b1 := b0.same (hB1.block _ b0.lt)
  have hB2 := hB0.trans (hB1.mono hB0.size)
  clear b0 hB0 hB1 hfix
  go_wp2_with fail
  refine (hclone _).mono ?_
  rintro e w3 ⟨rfl, hB3⟩
  have b3 := b1.same (hB3.block _ b1.lt)
  have hB4 := hB2.trans (hB3.mono hB2.size)
  obtain ⟨x0, x1, x2, x3⟩ := b3.box
  have f0 := b3.free 0
  have f1 := b3.free 1
  have f2 := b3.free 2
  have f3 := b3.free 3
  have HB := Lib.hid (And.intro b3 hB4)
  clear b1 b3 hB2 hB3 hB4 hclone
  go_wp2_with fail
  obtain ⟨g1, g2, g3⟩ := HB.out.1.all (.int .u8 4) (.string F) (.slice none 0 0) (.slice none 0 0)
  have hfin := HB.out.2.trans (g3 w.heap.size (Nat.le_refl _))
  clear x0 x1 x2 x3 f0 f1 f2 f3
  generalize (((w3.setCell ⟨w.heap.size, 0, none⟩ (.int .u8 4)).setCell ⟨w.heap.size, 1, none⟩ (.string F)).setCell ⟨w.heap.size, 2, none⟩ (.slice none 0 0)).setCell ⟨w.heap.size, 3, none⟩ (.slice none 0 0) = W' at *
  obtain ⟨x0, x1, x2, x3⟩ := g1.box
  refine bodyPost_ret (v := .agg #[.int .u8 4, .string F, .slice none 0 0, .slice none 0 0]) (by simp [results, Tryz.results101, go_sem, x0, x1, x2, x3]) rfl ?_
  exact ⟨rfl, hfin⟩
end YtbkciiogkgndiaaGreatDoor
end Go.Proofs

namespace Go.Proofs.YtbkciiogkgndiaaGreatDoor
open Go Go.RowKit Go.Lib

/-- a field: its name, its value as it lies, the value's trees -/
structure Fe where
  nm : ByteArray
  k : Nat
  x : ByteArray
  v : Value
  u : Value
  l : V.T
  f : V.T
def Fe.cells (e : Fe) : List Value := [.string e.nm, .int .u8 e.k, .string e.x, e.v, e.u]
def cellsOf : List Fe → List Value
  | [] => []
  | e :: r => .string e.nm :: .int .u8 e.k :: .string e.x :: e.v :: e.u :: cellsOf r
def treeOf : List Fe → V.T
  | [] => .nil
  | e :: r => .cons e.nm e.k e.x e.l e.f (treeOf r)
def Fe.Ok (w : World) (A : Nat → Prop) (e : Fe) : Prop := HS w A 0 e.v e.l ∧ HS w A 1 e.u e.f ∧ Fit e.nm e.k e.x
theorem cellsOf_append (a b : List Fe) : cellsOf (a ++ b) = cellsOf a ++ cellsOf b := by
  induction a with
  | nil => rfl
  | cons e r ih => simp [cellsOf, ih]
theorem cellsOf_len (a : List Fe) : (cellsOf a).length = a.length * 5 := by
  induction a with
  | nil => rfl
  | cons e r ih => simp [cellsOf, ih]; omega
theorem treeOf_len (a : List Fe) : (treeOf a).len = a.length := by
  induction a with
  | nil => rfl
  | cons e r ih => show (treeOf r).len + 1 = _; rw [ih]; rfl
theorem Fe.Ok.below {w w' : World} {A : Nat → Prop} {e : Fe} (h : e.Ok w A) (hB : Below w.heap.size w w') : e.Ok w' A := ⟨h.1.below hB, h.2.1.below hB, h.2.2⟩
theorem Fe.Ok.mono {w : World} {A A' : Nat → Prop} {e : Fe} (h : e.Ok w A) (hA : ∀ b, A b → b < w.heap.size → A' b) : e.Ok w A' := ⟨h.1.mono hA, h.2.1.mono hA, h.2.2⟩
theorem Fe.Ok.imp {w w' : World} {A A' : Nat → Prop} {e : Fe} (h : e.Ok w A) (hA : ∀ b, A b → b < w.heap.size → A' b) (hk : ∀ b, A b → b < w.heap.size → w'.heap[b]? = w.heap[b]?) : e.Ok w' A' := ⟨h.1.imp hA hk, h.2.1.imp hA hk, h.2.2⟩
theorem one_slice {p : Option Addr} {n c : Nat} : (Value.slice p n c).oneCell' = true := rfl
theorem cellsOf_one {w : World} {A : Nat → Prop} : ∀ (es : List Fe), (∀ e ∈ es, e.Ok w A) → ∀ u ∈ cellsOf es, u.oneCell' = true
  | [], _, _, h => by cases h
  | e :: r, ho, u, h => by
    obtain ⟨h1, h2, _⟩ := ho e (List.mem_cons_self ..)
    obtain ⟨p, c, e1, _⟩ := h1.len
    obtain ⟨q, d, e2, _⟩ := h2.len
    simp only [cellsOf, List.mem_cons] at h
    rcases h with rfl | rfl | rfl | h | h | h
    · rfl
    · rfl
    · rfl
    · rw [h, e1]; rfl
    · rw [h, e2]; rfl
    · exact cellsOf_one r (fun e he => ho e (List.mem_cons_of_mem _ he)) u h
/-- the cells stand in block b from cell o on -/
theorem row_of {w : World} {A : Nat → Prop} {b : Nat} (hA : A b) : ∀ (es : List Fe) (o : Nat), (∀ e ∈ es, e.Ok w A) → (∀ j u, (cellsOf es)[j]? = some u → w.cell? ⟨b, o + j, none⟩ = some u) → HR w A 1 b o (treeOf es)
  | [], _, _, _ => trivial
  | e :: r, o, ho, h => by
    obtain ⟨h1, h2, h3⟩ := ho e (List.mem_cons_self ..)
    refine ⟨hA, (fun e => by cases e), fun _ => h 0 _ rfl, h 1 _ rfl, h 2 _ rfl, ⟨_, h 3 _ rfl, h1⟩, ⟨_, h 4 _ rfl, h2⟩, h3, ?_⟩
    exact row_of hA r (o + 5) (fun e he => ho e (List.mem_cons_of_mem _ he)) (fun j u hu => by
      have := h (j + 5) u hu
      rw [show o + (j + 5) = o + 5 + j by omega] at this
      exact this)
/-- a slice of fields as it lies -/
def Lies (w : World) (v : Value) (es : List Fe) : Prop := ∃ b c, v = .slice (some ⟨b, 0, none⟩) es.length c ∧ es.length ≤ c ∧ c ≤ maxLen ∧ b < w.heap.size ∧ ∀ j u, (cellsOf es)[j]? = some u → w.cell? ⟨b, j, none⟩ = some u
theorem Lies.below {w w' : World} {v : Value} {es : List Fe} (h : Lies w v es) (hB : Below w.heap.size w w') : Lies w' v es := by
  obtain ⟨b, c, h1, h2, h3, h4, h5⟩ := h
  exact ⟨b, c, h1, h2, h3, Nat.lt_of_lt_of_le h4 hB.size, fun j u hu => (World.cell?_of_block (w := w) (w' := w') (a := ⟨b, j, none⟩) (hB.block b h4)).trans (h5 j u hu)⟩
theorem Lies.hs {w : World} {A : Nat → Prop} {v : Value} {es : List Fe} (h : Lies w v es) (ho : ∀ e ∈ es, e.Ok w A) (hA : ∀ b, v.ownBlock = some b → A b) (hn : es.length ≤ 2000000000000) : HS w A 1 v (treeOf es) := by
  obtain ⟨b, c, rfl, h2, h3, h4, h5⟩ := h
  refine .inr (.inr ⟨b, 0, c, ?_, ?_, ⟨h3, ?_⟩, row_of (hA b rfl) es 0 ho (fun j u hu => by rw [Nat.zero_add]; exact h5 j u hu)⟩)
  · rw [treeOf_len]
  · rw [treeOf_len]; exact h2
  · rw [treeOf_len]; exact hn
theorem Lies.news {w : World} {es : List Fe} {b n c : Nat} (h : Lies w (.slice (some ⟨b, 0, none⟩) n c) es) : ∀ j u, (cellsOf es)[j]? = some u → w.cell? ((⟨b, 0, none⟩ : Addr).add j) = some u := by
  obtain ⟨b', c', e, _, _, _, h5⟩ := h
  cases e
  intro j u hu
  have hadd : (⟨b, 0, none⟩ : Addr).add j = ⟨b, j, none⟩ := by unfold Addr.add; split <;> simp_all
  rw [hadd]
  exact h5 j u hu
/-- a block just made -/
theorem lies_new {w : World} {cs : Array Value} {es : List Fe} {t : TypeId} {n : Nat} (h : cs.toList = cellsOf es) (hn : n = es.length) (hm : n ≤ maxLen) : Lies (w.alloc (.cells cs t)) (.slice (some ⟨w.heap.size, 0, none⟩) n n) es := by
  subst hn
  refine ⟨_, _, rfl, Nat.le_refl _, hm, by simp, fun j u hu => ?_⟩
  rw [cell_of_row _ _ j cs t (0, 0) (heap_alloc_new _ _)]
  rw [← h] at hu
  simpa using hu
theorem owns_new {w : World} {cs : Array Value} {es : List Fe} {t : TypeId} {n : Nat} (h : cs.toList = cellsOf es) (hn : n = es.length) (hm : n ≤ maxLen) (base : Nat) (hb : base ≤ w.heap.size) : (w.alloc (.cells cs t)).ownsRow base t 5 (.slice (some ⟨w.heap.size, 0, none⟩) n n) n (cellsOf es) := by
  subst hn
  have hz : cs.size = es.length * 5 := by rw [← Array.length_toList, h, cellsOf_len]
  refine ⟨cellsOf_len _, .inr ⟨_, _, cs, rfl, hb, heap_alloc_new _ _, Nat.le_refl _, hm, hz, ?_⟩⟩
  rw [← h, ← hz, ← Array.length_toList, List.take_length]
theorem lies_owned {w : World} {base : Nat} {t : TypeId} {g n c : Nat} {es : List Fe} (hn : n = es.length) (h : w.ownsRow base t 5 (.slice (some ⟨g, 0, none⟩) n c) n (cellsOf es)) : Lies w (.slice (some ⟨g, 0, none⟩) n c) es := by
  subst hn
  rcases h.2 with ⟨e, _⟩ | ⟨g', c', cur, e, hb, hg, h1, h2, h3, h4⟩
  · cases e
  · cases e
    refine ⟨_, _, rfl, h1, h2, (Array.getElem?_eq_some_iff.1 hg).1, fun j u hu => ?_⟩
    rw [cell_of_row _ _ j cur t (0, 0) hg]
    rw [← h4] at hu
    have hj := (List.getElem?_eq_some_iff.1 hu).1
    rw [List.getElem?_take_of_lt (by rw [List.length_take] at hj; omega)] at hu
    simpa using hu
end Go.Proofs.YtbkciiogkgndiaaGreatDoor

namespace Go.Proofs
open Go.Shelf

def Tryz.laysItoa_ren : Go.Shelf.Ren := ⟨fun | 129 => 244 | 171 => 152 | 243 => 196 | 246 => 211 | 283 => 227 | 284 => 228 | 285 => 229 | 286 => 230 | 317 => 243 | 318 => 245 | 319 => 246 | 320 => 247 | 337 => 253 | 338 => 254 | n => n, fun | 37 => 101 | 46 => 237 | 51 => 203 | 53 => 248 | 171 => 275 | 173 => 278 | 212 => 291 | 213 => 292 | 232 => 300 | 233 => 301 | n => n, fun | 17 => 4 | 18 => 6 | 19 => 7 | n => n⟩
theorem Tryz.laysItoa : LaysM.n171 Tryz.prog Tryz.laysItoa_ren := {
  mixed := by kernel_rfl,
  f129 := Tryz.func244.trans (congrArg some (by kernel_rfl)),
  f171 := Tryz.func152.trans (congrArg some (by kernel_rfl)),
  f243 := Tryz.func196.trans (congrArg some (by kernel_rfl)),
  f246 := Tryz.func211.trans (congrArg some (by kernel_rfl)),
  f283 := Tryz.func227.trans (congrArg some (by kernel_rfl)),
  f284 := Tryz.func228.trans (congrArg some (by kernel_rfl)),
  f285 := Tryz.func229.trans (congrArg some (by kernel_rfl)),
  f286 := Tryz.func230.trans (congrArg some (by kernel_rfl)),
  f317 := Tryz.func243.trans (congrArg some (by kernel_rfl)),
  f318 := Tryz.func245.trans (congrArg some (by kernel_rfl)),
  f319 := Tryz.func246.trans (congrArg some (by kernel_rfl)),
  f320 := Tryz.func247.trans (congrArg some (by kernel_rfl)),
  f337 := Tryz.func253.trans (congrArg some (by kernel_rfl)),
  f338 := Tryz.func254.trans (congrArg some (by kernel_rfl)),
  t0 := Tryz.underlying0,
  a0 := Tryz.isAgg0,
  z0 := Tryz.sizeOf0,
  v0 := Tryz.zeroValue0,
  t2 := Tryz.underlying2,
  a2 := Tryz.isAgg2,
  z2 := Tryz.sizeOf2,
  v2 := Tryz.zeroValue2,
  t3 := Tryz.underlying3,
  a3 := Tryz.isAgg3,
  z3 := Tryz.sizeOf3,
  v3 := Tryz.zeroValue3,
  t4 := Tryz.underlying4,
  a4 := Tryz.isAgg4,
  z4 := Tryz.sizeOf4,
  v4 := Tryz.zeroValue4,
  t5 := Tryz.underlying5,
  a5 := Tryz.isAgg5,
  z5 := Tryz.sizeOf5,
  v5 := Tryz.zeroValue5,
  t9 := Tryz.underlying9,
  a9 := Tryz.isAgg9,
  z9 := Tryz.sizeOf9,
  v9 := Tryz.zeroValue9,
  t20 := Tryz.underlying20,
  a20 := Tryz.isAgg20,
  z20 := Tryz.sizeOf20,
  v20 := Tryz.zeroValue20,
  t37 := Tryz.underlying101,
  a37 := Tryz.isAgg101,
  z37 := Tryz.sizeOf101,
  v37 := Tryz.zeroValue101,
  t46 := Tryz.underlying237,
  a46 := Tryz.isAgg237,
  z46 := Tryz.sizeOf237,
  v46 := Tryz.zeroValue237,
  t51 := Tryz.underlying203,
  a51 := Tryz.isAgg203,
  z51 := Tryz.sizeOf203,
  v51 := Tryz.zeroValue203,
  t53 := Tryz.underlying248,
  a53 := Tryz.isAgg248,
  z53 := Tryz.sizeOf248,
  v53 := Tryz.zeroValue248,
  t171 := Tryz.underlying275,
  a171 := Tryz.isAgg275,
  z171 := Tryz.sizeOf275,
  v171 := Tryz.zeroValue275,
  t173 := Tryz.underlying278,
  a173 := Tryz.isAgg278,
  z173 := Tryz.sizeOf278,
  v173 := Tryz.zeroValue278,
  t212 := Tryz.underlying291,
  a212 := Tryz.isAgg291,
  z212 := Tryz.sizeOf291,
  v212 := Tryz.zeroValue291,
  t213 := Tryz.underlying292,
  a213 := Tryz.isAgg292,
  z213 := Tryz.sizeOf292,
  t232 := Tryz.underlying300,
  a232 := Tryz.isAgg300,
  z232 := Tryz.sizeOf300,
  v232 := Tryz.zeroValue300,
  t233 := Tryz.underlying301,
  a233 := Tryz.isAgg301,
  z233 := Tryz.sizeOf301,
  v233 := Tryz.zeroValue301,
  g17 := by kernel_rfl,
  g18 := by kernel_rfl,
  g19 := by kernel_rfl,
  i0 := by kernel_rfl,
  i2 := by kernel_rfl,
  i3 := by kernel_rfl,
  i4 := by kernel_rfl,
  i5 := by kernel_rfl,
  i9 := by kernel_rfl,
  i20 := by kernel_rfl,
  i37 := by kernel_rfl,
  i46 := by kernel_rfl,
  i51 := by kernel_rfl,
  i53 := by kernel_rfl,
  i171 := by kernel_rfl,
  i173 := by kernel_rfl,
  i212 := by kernel_rfl,
  i232 := by kernel_rfl,
  i233 := by kernel_rfl,
  m17 := by kernel_rfl,
  m18 := by kernel_rfl,
  m19 := by kernel_rfl }
end Go.Proofs

namespace Go.Proofs
open Go Go.RowKit Go.Shelf Go.Lib

namespace YtbkciiogkgndiaaGreatDoor
def PowTab (w : World) : Prop := Lib.TabIs Tryz.prog w "internal/strconv.uint64pow10" .u64 Lib.pow10Tab
def NumIs (x : List UInt8) (w : World) (e : Ending) (w' : World) : Prop := e = .returned (.agg #[.int .u8 3, .string ⟨x.toArray⟩, .slice none 0 0, .slice none 0 0]) ∧ Below w.heap.size w w'
theorem itoa_any (n : Int) (h0 : -9223372036854775808 ≤ n) (h1 : n ≤ 9223372036854775807) (w : World) (hP : PowTab w) :
    Calls Tryz.prog 152 #[.int .i64 n] w (StrIs ⟨(Lib.itoa n).toArray⟩ w) := by
  refine (Any.strconv_Itoa Tryz.laysItoa n h0 h1 w hP).mono ?_
  rintro e w' ⟨rfl, k, os, rfl⟩
  exact ⟨rfl, Lib.below_grow _ _ (Nat.le_refl _) k os⟩

set_option maxHeartbeats 1000000 in
set_option maxRecDepth 100000 in
theorem numberJ_any (n : Int) (h0 : -9223372036854775808 ≤ n) (h1 : n ≤ 9223372036854775807) (w : World) (hP : ∀ w', Below w.heap.size w w' → PowTab w') :
    Calls Tryz.prog 102 #[.int .i64 n] w (NumIs (Lib.itoa n) w) := by
  have hc := fun W hB => itoa_any n h0 h1 W (hP W hB)
  go_enter Tryz.func102, Tryz.ntmps102
  go_wp2_with fail
  have hB0 := (Below.refl w.heap.size w).alloc (Nat.le_refl _) (.cells #[.int .u8 0, .string ⟨#[]⟩, .slice none 0 0, .slice none 0 0] 25)
  have b0 : Blk4 (w.alloc (.cells #[.int .u8 0, .string ⟨#[]⟩, .slice none 0 0, .slice none 0 0] 25)) w.heap.size 25 _ _ _ _ := heap_alloc_new _ _
  refine (hc _ hB0).mono ?_
  rintro e w1 ⟨rfl, hB1⟩
  have b1 := b0.same (hB1.block _ b0.lt)
  have hB2 := hB0.trans (hB1.mono hB0.size)
  obtain ⟨x0, x1, x2, x3⟩ := b1.box
  have f0 := b1.free 0
  have f1 := b1.free 1
  have f2 := b1.free 2
  have f3 := b1.free 3
  have HB := Lib.hid (And.intro b1 hB2)
  clear b0 b1 hB0 hB1 hB2 hc
  go_wp2_with fail
  obtain ⟨g1, g2, g3⟩ := HB.out.1.all (.int .u8 3) (.string ⟨(Lib.itoa n).toArray⟩) (.slice none 0 0) (.slice none 0 0)
  have hfin := HB.out.2.trans (g3 _ (Nat.le_refl _))
  clear x0 x1 x2 x3 f0 f1 f2 f3
  generalize (((w1.setCell ⟨w.heap.size, 0, none⟩ (.int .u8 3)).setCell ⟨w.heap.size, 1, none⟩ (.string ⟨(Lib.itoa n).toArray⟩)).setCell ⟨w.heap.size, 2, none⟩ (.slice none 0 0)).setCell ⟨w.heap.size, 3, none⟩ (.slice none 0 0) = W' at *
  obtain ⟨x0, x1, x2, x3⟩ := g1.box
  refine bodyPost_ret (v := .agg #[.int .u8 3, .string ⟨(Lib.itoa n).toArray⟩, .slice none 0 0, .slice none 0 0]) (by simp [results, Tryz.results102, go_sem, x0, x1, x2, x3]) rfl ?_
  exact ⟨rfl, hfin⟩

end YtbkciiogkgndiaaGreatDoor
end Go.Proofs

namespace Go.Proofs.YtbkciiogkgndiaaGreatDoor
open Go Go.RowKit Go.Lib

/-- a number as a field -/
def numE (nm : ByteArray) (n : Int) : Fe := ⟨nm, 3, ⟨(Lib.itoa n).toArray⟩, .slice none 0 0, .slice none 0 0, .nil, .nil⟩
/-- a part: what the interface holds behind the name, and the field that it becomes -/
structure Pt where
  t : TypeId
  v : Value
  e : Fe
def Pt.Ok (w : World) (A : Nat → Prop) (p : Pt) : Prop :=
  (∃ n : Int, (-9223372036854775808 ≤ n ∧ n ≤ 9223372036854775807) ∧ p = ⟨3, .int .i64 n, numE p.e.nm n⟩ ∧ p.e.nm.size ≤ 1000) ∨
  (p.t = 25 ∧ p.v = .agg #[.int .u8 p.e.k, .string p.e.x, p.e.v, p.e.u] ∧ p.e.Ok w A)
def ifs : List Pt → List Value
  | [] => []
  | p :: r => .iface 9 (.string p.e.nm) :: .iface p.t p.v :: ifs r
def fes (ps : List Pt) : List Fe := ps.map (·.e)
theorem ifs_len (ps : List Pt) : (ifs ps).length = 2 * ps.length := by
  induction ps with
  | nil => rfl
  | cons p r ih => simp [ifs, ih]; omega
theorem ifs_at : ∀ (ps : List Pt) (j : Nat) (p : Pt), ps[j]? = some p → (ifs ps)[2 * j]? = some (.iface 9 (.string p.e.nm)) ∧ (ifs ps)[2 * j + 1]? = some (.iface p.t p.v)
  | [], _, _, h => by simp at h
  | q :: r, 0, p, h => by
    simp at h; subst h
    exact ⟨rfl, rfl⟩
  | q :: r, j + 1, p, h => by
    have := ifs_at r j p (by simpa using h)
    rw [show 2 * (j + 1) = 2 * j + 1 + 1 by omega]
    exact this
theorem num_fit {nm : ByteArray} (n : Int) (h : nm.size ≤ 140737488355328) (hn : -9223372036854775808 ≤ n ∧ n ≤ 9223372036854775807) : Fit nm 3 ⟨(Lib.itoa n).toArray⟩ :=
  ⟨by decide, by have := Lib.itoa_length_le n hn.1 hn.2; show (Lib.itoa n).toArray.size ≤ _; simp; omega, h⟩
theorem numE_ok {nm : ByteArray} (n : Int) (w : World) (A : Nat → Prop) (h : nm.size ≤ 140737488355328) (hn : -9223372036854775808 ≤ n ∧ n ≤ 9223372036854775807) : (numE nm n).Ok w A :=
  ⟨HS.nil _ _ _, HS.nil _ _ _, num_fit n h hn⟩
theorem Pt.Ok.fe {w : World} {A : Nat → Prop} {p : Pt} (h : p.Ok w A) : p.e.Ok w A := by
  rcases h with ⟨n, hn, e, hz⟩ | ⟨_, _, h⟩
  · rw [e]
    exact numE_ok n w A (by omega) hn
  · exact h
theorem Pt.Ok.imp {w w' : World} {A A' : Nat → Prop} {p : Pt} (h : p.Ok w A) (hA : ∀ b, A b → b < w.heap.size → A' b) (hk : ∀ b, A b → b < w.heap.size → w'.heap[b]? = w.heap[b]?) : p.Ok w' A' := by
  rcases h with h | ⟨h1, h2, h3⟩
  · exact .inl h
  · exact .inr ⟨h1, h2, h3.imp hA hk⟩
theorem Pt.Ok.below {w w' : World} {A : Nat → Prop} {p : Pt} (h : p.Ok w A) (hB : Below w.heap.size w w') : p.Ok w' A := h.imp (fun _ a _ => a) fun b _ hb => hB.block b hb
theorem pow_below {w w' : World} (h : PowTab w) (hb : Below w.heap.size w w') : PowTab w' := Lib.tabBelow_of_tabIs h w' hb
end Go.Proofs.YtbkciiogkgndiaaGreatDoor

namespace Go.Proofs.YtbkciiogkgndiaaGreatDoor.U
open Go

set_option maxRecDepth 100000 in
set_option maxHeartbeats 4000000 in
/-- a character hangs on its own bytes alone -/
theorem dn_local (n n' b0 b1 b2 b3 c1 c2 c3 : Nat) (hg : ¬ ((Lib.decodeN n b0 b1 b2 b3).1 = 65533 ∧ (Lib.decodeN n b0 b1 b2 b3).2 = 1)) (hn : (Lib.decodeN n b0 b1 b2 b3).2 ≤ n')
    (h1 : 2 ≤ (Lib.decodeN n b0 b1 b2 b3).2 → c1 = b1) (h2 : 3 ≤ (Lib.decodeN n b0 b1 b2 b3).2 → c2 = b2) (h3 : 4 ≤ (Lib.decodeN n b0 b1 b2 b3).2 → c3 = b3) :
    Lib.decodeN n' b0 c1 c2 c3 = Lib.decodeN n b0 b1 b2 b3 := by
  by_cases k0 : b0 < 128
  · unfold Lib.decodeN
    rw [if_pos k0, if_pos k0]
  by_cases k1 : b0 / 32 = 6 ∧ (1 < n ∧ b1 / 64 = 2)
  · have e : Lib.decodeN n b0 b1 b2 b3 = (if b0 % 32 * 64 + b1 % 64 ≥ 128 then (b0 % 32 * 64 + b1 % 64, 2) else (65533, 1)) := by
      unfold Lib.decodeN
      rw [if_neg k0, if_pos k1]
    rw [e] at hg hn h1 h2 h3 ⊢
    split at hg
    · rename_i hc
      rw [if_pos hc] at hn h1 h2 h3 ⊢
      obtain rfl := h1 (Nat.le_refl _)
      unfold Lib.decodeN
      rw [if_neg k0, if_pos ⟨k1.1, by simp only at hn; omega, k1.2.2⟩, if_pos hc]
    · exact absurd ⟨rfl, rfl⟩ hg
  by_cases k2 : b0 / 16 = 14 ∧ (1 < n ∧ b1 / 64 = 2) ∧ (2 < n ∧ b2 / 64 = 2)
  · have e : Lib.decodeN n b0 b1 b2 b3 = (if b0 % 16 * 4096 + b1 % 64 * 64 + b2 % 64 ≥ 2048 ∧ (b0 % 16 * 4096 + b1 % 64 * 64 + b2 % 64 < 55296 ∨ (57344 ≤ b0 % 16 * 4096 + b1 % 64 * 64 + b2 % 64 ∧ b0 % 16 * 4096 + b1 % 64 * 64 + b2 % 64 ≤ 1114111)) then (b0 % 16 * 4096 + b1 % 64 * 64 + b2 % 64, 3) else (65533, 1)) := by
      unfold Lib.decodeN
      rw [if_neg k0, if_neg k1, if_pos k2]
    rw [e] at hg hn h1 h2 h3 ⊢
    split at hg
    · rename_i hc
      rw [if_pos hc] at hn h1 h2 h3 ⊢
      obtain rfl := h1 (by simp only; omega)
      obtain rfl := h2 (Nat.le_refl _)
      unfold Lib.decodeN
      simp only at hn
      rw [if_neg k0, if_neg (by omega), if_pos ⟨k2.1, ⟨by omega, k2.2.1.2⟩, by omega, k2.2.2.2⟩, if_pos hc]
    · exact absurd ⟨rfl, rfl⟩ hg
  by_cases k3 : b0 / 8 = 30 ∧ (1 < n ∧ b1 / 64 = 2) ∧ (2 < n ∧ b2 / 64 = 2) ∧ (3 < n ∧ b3 / 64 = 2)
  · have e : Lib.decodeN n b0 b1 b2 b3 = (if b0 % 8 * 262144 + b1 % 64 * 4096 + b2 % 64 * 64 + b3 % 64 ≥ 65536 ∧ (b0 % 8 * 262144 + b1 % 64 * 4096 + b2 % 64 * 64 + b3 % 64 < 55296 ∨ (57344 ≤ b0 % 8 * 262144 + b1 % 64 * 4096 + b2 % 64 * 64 + b3 % 64 ∧ b0 % 8 * 262144 + b1 % 64 * 4096 + b2 % 64 * 64 + b3 % 64 ≤ 1114111)) then (b0 % 8 * 262144 + b1 % 64 * 4096 + b2 % 64 * 64 + b3 % 64, 4) else (65533, 1)) := by
      unfold Lib.decodeN
      rw [if_neg k0, if_neg k1, if_neg k2, if_pos k3]
    rw [e] at hg hn h1 h2 h3 ⊢
    split at hg
    · rename_i hc
      rw [if_pos hc] at hn h1 h2 h3 ⊢
      obtain rfl := h1 (by simp only; omega)
      obtain rfl := h2 (by simp only; omega)
      obtain rfl := h3 (Nat.le_refl _)
      unfold Lib.decodeN
      simp only at hn
      rw [if_neg k0, if_neg (by omega), if_neg (by omega), if_pos ⟨k3.1, ⟨by omega, k3.2.1.2⟩, ⟨by omega, k3.2.2.1.2⟩, by omega, k3.2.2.2.2⟩, if_pos hc]
    · exact absurd ⟨rfl, rfl⟩ hg
  · exfalso
    apply hg
    unfold Lib.decodeN
    rw [if_neg k0, if_neg k1, if_neg k2, if_neg k3]
    exact ⟨rfl, rfl⟩

/-- a character that stands elsewhere, too, is the same there -/
theorem same_char (s t : ByteArray) (p q : Nat) (hp : p < s.size) (hg : bad s p = false) (hq : q + wd s p ≤ t.size) (hb : ∀ k, k < wd s p → t.get! (q + k) = s.get! (p + k)) : ch t q = ch s p ∧ wd t q = wd s p := by
  have hf := facts s p hp
  have hn : ¬ (ch s p = 65533 ∧ wd s p = 1) := fun hx => by rw [(bad_iff s p).2 hx] at hg; cases hg
  have h0 := hb 0 (by omega)
  rw [Nat.add_zero, Nat.add_zero] at h0
  have hl := dn_local (s.size - p) (t.size - q) (s.get! p).toNat (s.get! (p + 1)).toNat (s.get! (p + 2)).toNat (s.get! (p + 3)).toNat (t.get! (q + 1)).toNat (t.get! (q + 2)).toNat (t.get! (q + 3)).toNat
    (by rw [← ch_eq, ← wd_eq]; exact hn) (by rw [← wd_eq]; omega) (by rw [← wd_eq]; intro h; rw [hb 1 (by omega)]) (by rw [← wd_eq]; intro h; rw [hb 2 (by omega)]) (by rw [← wd_eq]; intro h; rw [hb 3 (by omega)])
  rw [ch_eq t q, wd_eq t q, ch_eq s p, wd_eq s p, h0, hl]
  exact ⟨rfl, rfl⟩

theorem get_list (t : ByteArray) (q : Nat) : t.get! q = t.data.toList.getD q 0 := (Lib.getD_get!' t q).symm
theorem get_app (t : ByteArray) (l m r : List UInt8) (h : t.data.toList = l ++ (m ++ r)) (k : Nat) (hk : k < m.length) : t.get! (l.length + k) = m.getD k 0 := by
  rw [get_list, h]
  simp only [List.getD]
  rw [List.getElem?_append_right (by omega), Nat.add_sub_cancel_left, List.getElem?_append_left hk]
theorem stretch_length (s : ByteArray) (p n : Nat) : (stretch s p n).length = n := by unfold stretch; rw [List.length_map, List.length_range]
theorem stretch_getD (s : ByteArray) (p n k : Nat) (hk : k < n) : (stretch s p n).getD k 0 = s.get! (p + k) := by
  unfold stretch
  simp [List.getD, hk]

/-- where a piece stands, it is what is next, and no invalid byte -/
theorem piece_next (s t : ByteArray) (p : Nat) (l r : List UInt8) (hp : p < s.size) (h : t.data.toList = l ++ (piece s p ++ r)) :
    ch t l.length = ch s p ∧ wd t l.length = (piece s p).length ∧ bad t l.length = false := by
  have hsz : t.size = l.length + ((piece s p).length + r.length) := by rw [Lib.size_eq, h, List.length_append, List.length_append]
  cases hb : bad s p
  · have hl : (piece s p).length = wd s p := by rw [piece_good hb, stretch_length]
    obtain ⟨h1, h2⟩ := same_char s t p l.length hp hb (by omega) (fun k hk => by rw [get_app t l _ r h k (by omega), piece_good hb, stretch_getD s p _ k hk])
    refine ⟨h1, by omega, ?_⟩
    cases hx : bad t l.length
    · rfl
    · have hy := (bad_iff _ _).1 hx
      rw [h1, h2] at hy
      rw [(bad_iff s p).2 hy] at hb
      cases hb
  · have hpc := piece_bad hb
    have hl : (piece s p).length = 3 := by rw [hpc]; rfl
    have g := fun k hk => get_app t l _ r h k hk
    have g0 := g 0 (by omega)
    have g1 := g 1 (by omega)
    have g2 := g 2 (by omega)
    rw [hpc] at g0 g1 g2
    rw [Nat.add_zero] at g0
    have hd : Lib.decodeN (t.size - l.length) (t.get! l.length).toNat (t.get! (l.length + 1)).toNat (t.get! (l.length + 2)).toNat (t.get! (l.length + 3)).toNat = (65533, 3) := by
      rw [g0, g1, g2]
      show Lib.decodeN _ 239 191 189 _ = _
      unfold Lib.decodeN
      rw [if_neg (by omega), if_neg (by omega), if_pos (by omega), if_pos (by omega)]
    have hc : ch t l.length = 65533 := by rw [ch_eq, hd]
    have hw : wd t l.length = 3 := by rw [wd_eq, hd]
    refine ⟨by rw [hc, ((bad_iff s p).1 hb).1], by rw [hw, hl], good_of_wd (by omega)⟩

theorem fix_scan (s t : ByteArray) : ∀ f pos (l : List UInt8), t.data.toList = l ++ fixFrom s f pos → s.size ≤ pos + f → ∀ F, t.size ≤ l.length + F → vFrom t F l.length = true ∧ unitsFrom t F l.length = unitsFrom s f pos
  | 0, pos, l, h, hf, F, hF => by
    have hz : t.size = l.length := by rw [Lib.size_eq, h]; simp [fixFrom]
    rw [vFrom_end t F _ (by omega), unitsFrom_end t F _ (by omega), unitsFrom_end s 0 pos (by omega)]
    exact ⟨rfl, rfl⟩
  | f + 1, pos, l, h, hf, F, hF => by
    by_cases hp : pos < s.size
    · rw [fixFrom_step s f pos hp] at h
      obtain ⟨h1, h2, h3⟩ := piece_next s t pos l _ hp h
      have hpl := piece_le hp
      have hsz : t.size = l.length + ((piece s pos).length + (fixFrom s f (pos + wd s pos)).length) := by rw [Lib.size_eq, h, List.length_append, List.length_append]
      obtain ⟨F', rfl⟩ : ∃ F', F = F' + 1 := ⟨F - 1, by omega⟩
      have hlt : l.length < t.size := by omega
      have ih := fix_scan s t f (pos + wd s pos) (l ++ piece s pos) (by rw [List.append_assoc]; exact h) (by have := wd_pos hp; omega) F' (by rw [List.length_append]; omega)
      rw [List.length_append, ← h2] at ih
      rw [vFrom_step t F' _ hlt h3, unitsFrom_step t F' _ hlt, unitsFrom_step s f pos hp]
      refine ⟨ih.1, ?_⟩
      rw [ih.2]
      unfold un
      rw [h1]
    · rw [fixFrom_end s _ pos hp, List.append_nil] at h
      have hz : t.size = l.length := by rw [Lib.size_eq, h]
      rw [vFrom_end t F _ (by omega), unitsFrom_end t F _ (by omega), unitsFrom_end s _ pos hp]
      exact ⟨rfl, rfl⟩
theorem fixS_list (s : ByteArray) : (fixS s).data.toList = fixL s := rfl
theorem fix_valid (s : ByteArray) : valid (fixS s) = true := (fix_scan s (fixS s) s.size 0 [] rfl (by omega) (fixS s).size (by simp)).1
theorem fix_units (s : ByteArray) : units (fixS s) = units s := (fix_scan s (fixS s) s.size 0 [] rfl (by omega) (fixS s).size (by simp)).2
theorem fix_fix (s : ByteArray) : fixS (fixS s) = fixS s := fixS_valid _ (fix_valid s)
theorem fix_same (s : ByteArray) : fixS s = s ↔ valid s = true := ⟨fun h => by rw [← h]; exact fix_valid s, fixS_valid s⟩
theorem fixFrom_len (s : ByteArray) : ∀ f pos, pos ≤ s.size → (fixFrom s f pos).length ≤ 3 * (s.size - pos)
  | 0, _, _ => by simp [fixFrom]
  | f + 1, pos, h => by
    by_cases hp : pos < s.size
    · rw [fixFrom_step s f pos hp, List.length_append]
      have := fixFrom_len s f (pos + wd s pos) (wd_le hp)
      have := (piece_le hp).1
      have := wd_le hp
      omega
    · rw [fixFrom_end s _ pos hp]; simp
theorem fix_size (s : ByteArray) : (fixS s).size ≤ 3 * s.size := by
  have := fixFrom_len s s.size 0 (Nat.zero_le _)
  rw [Lib.size_eq, fixS_list]
  exact this
end Go.Proofs.YtbkciiogkgndiaaGreatDoor.U
