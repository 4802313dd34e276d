/- The program's Fix. Conditions: a string of at most 10^12 bytes; the library's two tables as its text lays them. -/
import Derived.Test.YtdgmbmoaeoakpaaDoorMC11
import Derived.Shelf.Strings.FieldsFuncAny
import Derived.Test.YtdgmbmoaeoakpaaDoorMC04
import Derived.Test.YtdgmbmoaeoakpaaDoorMC03
namespace Go.Proofs
open Go Go.RowKit Go.Shelf Go.Lib

namespace YtdgmbmoaeoakpaaDoor
set_option maxHeartbeats 400000 in
set_option maxRecDepth 100000 in
theorem utfFix_valid (s : ByteArray) (w : World) (hs : s.size ≤ 1000000000000) (hT : Tabs w) (h : U.valid s = true) :
    Calls Tryd.prog 80 #[.string s] w (StrIs (U.fixS s) w) := by
  have hc := utfValid_any s w hs hT
  rw [U.fixS_valid s h]
  rw [h] at hc
  clear h
  go_enter Tryd.func80, Tryd.ntmps80
  go_wp2_with fail
  refine hc.mono ?_
  rintro e w' ⟨rfl, hb⟩
  go_wp2_with fail
  go_ret
  exact ⟨rfl, hb⟩

set_option maxHeartbeats 1000000 in
set_option maxRecDepth 100000 in
theorem utfFix_broken (s : ByteArray) (w : World) (hs : s.size ≤ 1000000000000) (hT : Tabs w) (h : U.valid s = false) :
    Calls Tryd.prog 80 #[.string s] w (StrIs (U.fixS s) w) := by
  have hc := utfValid_any s w hs hT
  rw [h] at hc
  clear h
  obtain ⟨i0, hi, hz0, hz1, hz2⟩ := info_parts infoByte
  go_enter Tryd.func80, Tryd.ntmps80
  go_wp2_with fail
  refine hc.mono ?_
  rintro e w1 ⟨rfl, hb⟩
  go_wp2_with (refine wpList_make_own _ rfl _ _ 107 rfl w.heap.size 5 i0 (.int .u8 0) 1 Tryd.underlying107 hi hz0 hz1 .i64 .i64 _ s.size rfl rfl rfl ?c1 ?c2 hb.size ?_)
  case c1 => rw [hz2]; omega
  case c2 => unfold maxLen; omega
  intro w2 hown2 hgrow2
  have hb2 := hb.grown hgrow2 hb.size (fun k hk => by cases hk)
  clear hb hgrow2 hc
  go_wp2_with fail
  go_loopw [3] (fun v wr => ∃ (f pos : Nat) (l : List UInt8), Hid (wr.heap[w2.heap.size]? = some (.stringIter s pos)) ∧ pos ≤ s.size ∧ l.length ≤ 3 * pos ∧ wr.ownsRow w.heap.size 5 1 v l.length (U.cellsOf l) ∧ Hid (l ++ U.fixFrom s f pos = U.fixL s ∧ s.size ≤ pos + f) ∧ Below w.heap.size w wr) (fun _ wr => s.size - wr.iterPos w2.heap.size)
  case atStart => exact ⟨s.size, 0, [], Lib.hid (World.iter_heap _ _ _), by omega, by simp, hown2.alloc _, Lib.hid ⟨rfl, by omega⟩, hb2.alloc hb2.size _⟩
  case round =>
    obtain ⟨f, pos, l, HI, hp, hl, hown, HU, hbl⟩ := hrel
    have HM := Lib.hid (iterPos_of HI.out)
    by_cases hlt : pos < s.size
    · have hw1 := U.wd_pos hlt
      have hw2 := U.wd_le hlt
      obtain ⟨f', rfl⟩ : ∃ f', f = f' + 1 := ⟨f - 1, by have := HU.out.2; omega⟩
      have HS := Lib.hid (U.fixFrom_step s f' pos hlt)
      have hpl := (U.piece_le hlt).1
      have hnx : ∀ ty, (Instr.next (.pointer (some ⟨w2.heap.size, 0, none⟩)) true ty).run Tryd.prog wr = .ok (.tuple #[.bool true, .int .i64 pos, .int .i32 (U.ch s pos)]) (wr.iterAt w2.heap.size s (pos + U.wd s pos)) := fun ty => Lib.run_next_any_at wr _ s pos ty HI.out hlt
      have hI1 := Lib.hid (Lib.iterAt_heap wr _ s pos (pos + U.wd s pos) HI.out)
      have hown1 := own_iterAt hown HI.out (pos + U.wd s pos)
      have hbl1 := Lib.below_iterAt hbl hb2.size s (pos + U.wd s pos)
      have hc := append_any w.heap.size u3 l s pos hlt _ hown1 (by omega) hbl1.size
      generalize U.wd s pos = d at *
      generalize U.ch s pos = c at *
      clear hown hbl
      go_wp2_with fail
      refine hc.mono ?_
      rintro e w3 ⟨v', rfl, hown3, o, hgrow⟩
      have hI3 := Lib.hid (iter_grown hI1.out hgrow (own_ne_iter hown1 hI1.out))
      have hb3 := (hbl1.alloc hbl1.size o).grown hgrow (hbl1.alloc hbl1.size o).size (fun k hk => (hown1.lt k hk).1)
      have HM3 := Lib.hid (iterPos_of hI3.out)
      clear hbl1 hown1 hgrow hc
      go_wp2_with fail
      go_roundw
      case rel =>
        refine ⟨f', pos + d, l ++ U.piece s pos, hI3, by omega, by rw [List.length_append]; omega, hown3, Lib.hid ⟨?_, ?_⟩, hb3⟩
        · rw [List.append_assoc, ← HS.out]; exact HU.out.1
        · have := HU.out.2; omega
      case measure =>
        rw [HM3.out, HM.out]
        omega
    · have hnx : ∀ ty, (Instr.next (.pointer (some ⟨w2.heap.size, 0, none⟩)) true ty).run Tryd.prog wr = _ := fun ty => Lib.run_next_end_at wr _ s pos ty HI.out hlt
      have hconv := conv_own hown
      have HE := Lib.hid (U.fixFrom_end s f pos hlt)
      clear hown
      go_wp2_with fail
      go_ret
      refine ⟨?_, hbl⟩
      have := HU.out.1
      rw [HE.out, List.append_nil] at this
      unfold U.fixS
      rw [← this]
      rfl
theorem utfFix_any (s : ByteArray) (w : World) (hs : s.size ≤ 1000000000000) (hT : Tabs w) :
    Calls Tryd.prog 80 #[.string s] w (StrIs (U.fixS s) w) := by
  cases h : U.valid s
  · exact utfFix_broken s w hs hT h
  · exact utfFix_valid s w hs hT h
end YtdgmbmoaeoakpaaDoor
end Go.Proofs

namespace Go.Proofs
open Go Go.RowKit Go.Shelf Go.Lib

namespace YtdgmbmoaeoakpaaDoor
def TextIs (x : ByteArray) (w : World) (e : Ending) (w' : World) : Prop := e = .returned (.agg #[.int .u8 4, .string x, .slice none 0 0, .slice none 0 0]) ∧ Below w.heap.size w w'
set_option maxHeartbeats 1000000 in
set_option maxRecDepth 100000 in
theorem text4_any (s : ByteArray) (w : World) (hs : s.size ≤ 1000000000000) (hz : (U.fixS s).size ≤ 140737488355328) (hT : Tabs w) :
    Calls Tryd.prog 41 #[.string s] w (TextIs (U.fixS s) w) := by
  have hfix := fun W (hW : Tabs W) => utfFix_any s W hs hW
  have hclone := fun W => strClone_any (U.fixS s) W hz
  generalize U.fixS s = F at *
  have HT := Lib.hid hT
  clear hT
  have hB0 := (Below.refl w.heap.size w).alloc (Nat.le_refl _) (.cells #[.int .u8 0, .string ⟨#[]⟩, .slice none 0 0, .slice none 0 0] 25)
  have b0 : Blk4 (w.alloc (.cells #[.int .u8 0, .string ⟨#[]⟩, .slice none 0 0, .slice none 0 0] 25)) w.heap.size 25 _ _ _ _ := heap_alloc_new _ _
  go_enter Tryd.func41, Tryd.ntmps41
  go_wp2_with fail
  refine (hfix _ (tabs_below HT.out hB0)).mono ?_
  rintro e w1 ⟨rfl, hB1⟩
  have b1 := b0.same (hB1.block _ b0.lt)
  have hB2 := hB0.trans (hB1.mono hB0.size)
  clear b0 hB0 hB1 hfix
  go_wp2_with fail
  refine (hclone _).mono ?_
  rintro e w3 ⟨rfl, hB3⟩
  have b3 := b1.same (hB3.block _ b1.lt)
  have hB4 := hB2.trans (hB3.mono hB2.size)
  obtain ⟨x0, x1, x2, x3⟩ := b3.box
  have f0 := b3.free 0
  have f1 := b3.free 1
  have f2 := b3.free 2
  have f3 := b3.free 3
  have HB := Lib.hid (And.intro b3 hB4)
  clear b1 b3 hB2 hB3 hB4 hclone
  go_wp2_with fail
  obtain ⟨g1, g2, g3⟩ := HB.out.1.all (.int .u8 4) (.string F) (.slice none 0 0) (.slice none 0 0)
  have hfin := HB.out.2.trans (g3 w.heap.size (Nat.le_refl _))
  clear x0 x1 x2 x3 f0 f1 f2 f3
  generalize (((w3.setCell ⟨w.heap.size, 0, none⟩ (.int .u8 4)).setCell ⟨w.heap.size, 1, none⟩ (.string F)).setCell ⟨w.heap.size, 2, none⟩ (.slice none 0 0)).setCell ⟨w.heap.size, 3, none⟩ (.slice none 0 0) = W' at *
  obtain ⟨x0, x1, x2, x3⟩ := g1.box
  refine bodyPost_ret (v := .agg #[.int .u8 4, .string F, .slice none 0 0, .slice none 0 0]) (by simp [results, Tryd.results41, go_sem, x0, x1, x2, x3]) rfl ?_
  exact ⟨rfl, hfin⟩
end YtdgmbmoaeoakpaaDoor
end Go.Proofs

namespace Go.Proofs.YtdgmbmoaeoakpaaDoor
open Go Go.RowKit Go.Lib

/-- a field: its name, its value as it lies, the value's trees -/
structure Fe where
  nm : ByteArray
  k : Nat
  x : ByteArray
  v : Value
  u : Value
  l : V.T
  f : V.T
def Fe.cells (e : Fe) : List Value := [.string e.nm, .int .u8 e.k, .string e.x, e.v, e.u]
def cellsOf : List Fe → List Value
  | [] => []
  | e :: r => .string e.nm :: .int .u8 e.k :: .string e.x :: e.v :: e.u :: cellsOf r
def treeOf : List Fe → V.T
  | [] => .nil
  | e :: r => .cons e.nm e.k e.x e.l e.f (treeOf r)
def Fe.Ok (w : World) (A : Nat → Prop) (e : Fe) : Prop := HS w A 0 e.v e.l ∧ HS w A 1 e.u e.f ∧ Fit e.nm e.k e.x
theorem cellsOf_append (a b : List Fe) : cellsOf (a ++ b) = cellsOf a ++ cellsOf b := by
  induction a with
  | nil => rfl
  | cons e r ih => simp [cellsOf, ih]
theorem cellsOf_len (a : List Fe) : (cellsOf a).length = a.length * 5 := by
  induction a with
  | nil => rfl
  | cons e r ih => simp [cellsOf, ih]; omega
theorem treeOf_len (a : List Fe) : (treeOf a).len = a.length := by
  induction a with
  | nil => rfl
  | cons e r ih => show (treeOf r).len + 1 = _; rw [ih]; rfl
theorem Fe.Ok.below {w w' : World} {A : Nat → Prop} {e : Fe} (h : e.Ok w A) (hB : Below w.heap.size w w') : e.Ok w' A := ⟨h.1.below hB, h.2.1.below hB, h.2.2⟩
theorem Fe.Ok.mono {w : World} {A A' : Nat → Prop} {e : Fe} (h : e.Ok w A) (hA : ∀ b, A b → b < w.heap.size → A' b) : e.Ok w A' := ⟨h.1.mono hA, h.2.1.mono hA, h.2.2⟩
theorem Fe.Ok.imp {w w' : World} {A A' : Nat → Prop} {e : Fe} (h : e.Ok w A) (hA : ∀ b, A b → b < w.heap.size → A' b) (hk : ∀ b, A b → b < w.heap.size → w'.heap[b]? = w.heap[b]?) : e.Ok w' A' := ⟨h.1.imp hA hk, h.2.1.imp hA hk, h.2.2⟩
theorem one_slice {p : Option Addr} {n c : Nat} : (Value.slice p n c).oneCell' = true := rfl
theorem cellsOf_one {w : World} {A : Nat → Prop} : ∀ (es : List Fe), (∀ e ∈ es, e.Ok w A) → ∀ u ∈ cellsOf es, u.oneCell' = true
  | [], _, _, h => by cases h
  | e :: r, ho, u, h => by
    obtain ⟨h1, h2, _⟩ := ho e (List.mem_cons_self ..)
    obtain ⟨p, c, e1, _⟩ := h1.len
    obtain ⟨q, d, e2, _⟩ := h2.len
    simp only [cellsOf, List.mem_cons] at h
    rcases h with rfl | rfl | rfl | h | h | h
    · rfl
    · rfl
    · rfl
    · rw [h, e1]; rfl
    · rw [h, e2]; rfl
    · exact cellsOf_one r (fun e he => ho e (List.mem_cons_of_mem _ he)) u h
/-- the cells stand in block b from cell o on -/
theorem row_of {w : World} {A : Nat → Prop} {b : Nat} (hA : A b) : ∀ (es : List Fe) (o : Nat), (∀ e ∈ es, e.Ok w A) → (∀ j u, (cellsOf es)[j]? = some u → w.cell? ⟨b, o + j, none⟩ = some u) → HR w A 1 b o (treeOf es)
  | [], _, _, _ => trivial
  | e :: r, o, ho, h => by
    obtain ⟨h1, h2, h3⟩ := ho e (List.mem_cons_self ..)
    refine ⟨hA, (fun e => by cases e), fun _ => h 0 _ rfl, h 1 _ rfl, h 2 _ rfl, ⟨_, h 3 _ rfl, h1⟩, ⟨_, h 4 _ rfl, h2⟩, h3, ?_⟩
    exact row_of hA r (o + 5) (fun e he => ho e (List.mem_cons_of_mem _ he)) (fun j u hu => by
      have := h (j + 5) u hu
      rw [show o + (j + 5) = o + 5 + j by omega] at this
      exact this)
/-- a slice of fields as it lies -/
def Lies (w : World) (v : Value) (es : List Fe) : Prop := ∃ b c, v = .slice (some ⟨b, 0, none⟩) es.length c ∧ es.length ≤ c ∧ c ≤ maxLen ∧ b < w.heap.size ∧ ∀ j u, (cellsOf es)[j]? = some u → w.cell? ⟨b, j, none⟩ = some u
theorem Lies.below {w w' : World} {v : Value} {es : List Fe} (h : Lies w v es) (hB : Below w.heap.size w w') : Lies w' v es := by
  obtain ⟨b, c, h1, h2, h3, h4, h5⟩ := h
  exact ⟨b, c, h1, h2, h3, Nat.lt_of_lt_of_le h4 hB.size, fun j u hu => (World.cell?_of_block (w := w) (w' := w') (a := ⟨b, j, none⟩) (hB.block b h4)).trans (h5 j u hu)⟩
theorem Lies.hs {w : World} {A : Nat → Prop} {v : Value} {es : List Fe} (h : Lies w v es) (ho : ∀ e ∈ es, e.Ok w A) (hA : ∀ b, v.ownBlock = some b → A b) (hn : es.length ≤ 2000000000000) : HS w A 1 v (treeOf es) := by
  obtain ⟨b, c, rfl, h2, h3, h4, h5⟩ := h
  refine .inr (.inr ⟨b, 0, c, ?_, ?_, ⟨h3, ?_⟩, row_of (hA b rfl) es 0 ho (fun j u hu => by rw [Nat.zero_add]; exact h5 j u hu)⟩)
  · rw [treeOf_len]
  · rw [treeOf_len]; exact h2
  · rw [treeOf_len]; exact hn
theorem Lies.news {w : World} {es : List Fe} {b n c : Nat} (h : Lies w (.slice (some ⟨b, 0, none⟩) n c) es) : ∀ j u, (cellsOf es)[j]? = some u → w.cell? ((⟨b, 0, none⟩ : Addr).add j) = some u := by
  obtain ⟨b', c', e, _, _, _, h5⟩ := h
  cases e
  intro j u hu
  have hadd : (⟨b, 0, none⟩ : Addr).add j = ⟨b, j, none⟩ := by unfold Addr.add; split <;> simp_all
  rw [hadd]
  exact h5 j u hu
/-- a block just made -/
theorem lies_new {w : World} {cs : Array Value} {es : List Fe} {t : TypeId} {n : Nat} (h : cs.toList = cellsOf es) (hn : n = es.length) (hm : n ≤ maxLen) : Lies (w.alloc (.cells cs t)) (.slice (some ⟨w.heap.size, 0, none⟩) n n) es := by
  subst hn
  refine ⟨_, _, rfl, Nat.le_refl _, hm, by simp, fun j u hu => ?_⟩
  rw [cell_of_row _ _ j cs t (0, 0) (heap_alloc_new _ _)]
  rw [← h] at hu
  simpa using hu
theorem owns_new {w : World} {cs : Array Value} {es : List Fe} {t : TypeId} {n : Nat} (h : cs.toList = cellsOf es) (hn : n = es.length) (hm : n ≤ maxLen) (base : Nat) (hb : base ≤ w.heap.size) : (w.alloc (.cells cs t)).ownsRow base t 5 (.slice (some ⟨w.heap.size, 0, none⟩) n n) n (cellsOf es) := by
  subst hn
  have hz : cs.size = es.length * 5 := by rw [← Array.length_toList, h, cellsOf_len]
  refine ⟨cellsOf_len _, .inr ⟨_, _, cs, rfl, hb, heap_alloc_new _ _, Nat.le_refl _, hm, hz, ?_⟩⟩
  rw [← h, ← hz, ← Array.length_toList, List.take_length]
theorem lies_owned {w : World} {base : Nat} {t : TypeId} {g n c : Nat} {es : List Fe} (hn : n = es.length) (h : w.ownsRow base t 5 (.slice (some ⟨g, 0, none⟩) n c) n (cellsOf es)) : Lies w (.slice (some ⟨g, 0, none⟩) n c) es := by
  subst hn
  rcases h.2 with ⟨e, _⟩ | ⟨g', c', cur, e, hb, hg, h1, h2, h3, h4⟩
  · cases e
  · cases e
    refine ⟨_, _, rfl, h1, h2, (Array.getElem?_eq_some_iff.1 hg).1, fun j u hu => ?_⟩
    rw [cell_of_row _ _ j cur t (0, 0) hg]
    rw [← h4] at hu
    have hj := (List.getElem?_eq_some_iff.1 hu).1
    rw [List.getElem?_take_of_lt (by rw [List.length_take] at hj; omega)] at hu
    simpa using hu
end Go.Proofs.YtdgmbmoaeoakpaaDoor
