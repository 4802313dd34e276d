/- The program's Quote: a string in quotes. Conditions: a string of at most 10^12 bytes. -/
import Derived.Test.YtoolkaahjmnjeaaGreatDoorMW20
import Derived.Shelf.Strings.FieldsFuncAny
import Derived.RangeFuncRecord
import Derived.Test.YtoolkaahjmnjeaaGreatDoorMW19
namespace Go.Proofs.YtoolkaahjmnjeaaGreatDoor
open Go Go.RowKit Go.Shelf Go.Lib

def qF (s : ByteArray) : Nat → Nat → List UInt8
  | 0, _ => []
  | f + 1, pos => if pos < s.size then pq s pos ++ qF s f (pos + U.wd s pos) else []
def qL (s : ByteArray) : List UInt8 := [34] ++ qF s s.size 0 ++ [34]
theorem qF_end (s : ByteArray) (f pos : Nat) (h : ¬ pos < s.size) : qF s f pos = [] := by cases f <;> simp [qF, h]
theorem qF_step (s : ByteArray) (f pos : Nat) (h : pos < s.size) : qF s (f + 1) pos = pq s pos ++ qF s f (pos + U.wd s pos) := by simp [qF, h]
theorem rb_le (b : Nat) : (rb b).length ≤ 6 := by
  unfold rb
  repeat' split
  all_goals simp
theorem pq_le {s : ByteArray} {p : Nat} (h : p < s.size) : (pq s p).length ≤ 6 := by
  unfold pq
  split
  · exact rb_le _
  · have := (U.piece_le h).2.2; omega
theorem grows_below {w w' : World} {row : Option Nat} {B : Nat} {w0 : World} (hb : Below B w0 w) (hB : B ≤ w.heap.size) (hg : Grows w w' row) (hr : ∀ k, row = some k → B ≤ k) : Below B w0 w' := by
  rcases hg with hg | ⟨o, hg | hg⟩
  · exact hb.grown hg hB hr
  · exact (hb.alloc hB o).grown hg (by simp; omega) hr
  · exact (hb.alloc hB o).drew.grown hg (by show B ≤ (w.alloc o).heap.size; simp; omega) hr
theorem grows_iter {w w' : World} {row : Option Nat} {k : Nat} {s : ByteArray} {pos : Nat} (hk : w.heap[k]? = some (.stringIter s pos)) (hg : Grows w w' row) (hne : some k ≠ row) : w'.heap[k]? = some (.stringIter s pos) := by
  have hlt : k < w.heap.size := (Array.getElem?_eq_some_iff.1 hk).1
  rcases hg with hg | ⟨o, hg | hg⟩
  · rw [hg.block k hlt hne]; exact hk
  · exact iter_grown hk hg hne
  · rw [hg.block k (by show k < (w.alloc o).heap.size; simp; omega) hne]
    exact (Below.heap_alloc w o k hlt).trans hk

set_option maxHeartbeats 1000000 in
set_option maxRecDepth 100000 in
theorem quoted_any (B : Nat) (v : Value) (l0 : List UInt8) (s : ByteArray) (w : World) (hs : s.size ≤ 1000000000000) (hl0 : l0.length ≤ 1000000000000) (hown : w.ownsRow B 5 1 v l0.length (U.cellsOf l0)) (hBw : B ≤ w.heap.size) :
    Calls Tryz.prog 171 #[v, .string s] w fun e w' => ∃ v', e = .returned v' ∧ w'.ownsRow B 5 1 v' (l0 ++ qL s).length (U.cellsOf (l0 ++ qL s)) ∧ Below B w w' := by
  obtain ⟨i0, hi, hz0, hz1, hz2⟩ := info_parts infoByte
  go_enter Tryz.func171, Tryz.ntmps171
  go_wp2_with (at_builtin; refine wpList_append_own _ rfl _ _ 81 rfl B 5 i0 (.int .u8 0) 1 1 Tryz.underlying81 hi hz0 hz1 hz2 rfl (by decide) _ l0.length (U.cellsOf l0) rfl (hown.alloc _) ⟨w.heap.size, 0, none⟩ 1 1 [.int .u8 34] rfl rfl ?c1 ?c2 ?c3 ?c4 ?c5 ?_)
  case c1 => exact cells1
  case c2 => intro u hu; simp at hu; rcases hu with rfl; rfl
  case c3 => unfold maxLen; omega
  case c4 => omega
  case c5 => simp; omega
  intro v1 w1 hown1 hgrow1 _
  have hb1 : Below B w w1 := grows_below (Below.refl B w) hBw (.inr ⟨_, .inl hgrow1⟩) (fun k hk => (hown.lt k hk).1)
  have hown1' : w1.ownsRow B 5 1 v1 (l0 ++ [34]).length (U.cellsOf (l0 ++ [34])) := by
    rw [List.length_append, ← U.cellsOf_append]
    exact hown1
  clear hown1 hgrow1
  go_wp2_with fail
  go_loopw [0] (fun v wr => ∃ (f pos : Nat) (l : List UInt8), Hid (wr.heap[w1.heap.size]? = some (.stringIter s pos)) ∧ pos ≤ s.size ∧ l.length ≤ l0.length + 1 + 6 * pos ∧ wr.ownsRow B 5 1 v l.length (U.cellsOf l) ∧ Hid (l ++ qF s f pos = l0 ++ [34] ++ qF s s.size 0 ∧ s.size ≤ pos + f) ∧ Below B w wr) (fun _ wr => s.size - wr.iterPos w1.heap.size)
  case atStart => exact ⟨s.size, 0, l0 ++ [34], Lib.hid (World.iter_heap _ _ _), by omega, by simp, hown1'.alloc _, Lib.hid ⟨rfl, by omega⟩, hb1.alloc (Nat.le_trans hBw hb1.size) _⟩
  case round =>
    obtain ⟨f, pos, l, HI, hp, hl, hown2, HU, hbl⟩ := hrel
    have HM := Lib.hid (iterPos_of HI.out)
    by_cases hlt : pos < s.size
    · have hw1 := U.wd_pos hlt
      have hw2 := U.wd_le hlt
      obtain ⟨f', rfl⟩ : ∃ f', f = f' + 1 := ⟨f - 1, by have := HU.out.2; omega⟩
      have HS := Lib.hid (qF_step s f' pos hlt)
      have hpl := pq_le hlt
      have hnx : ∀ ty, (Instr.next (.pointer (some ⟨w1.heap.size, 0, none⟩)) true ty).run Tryz.prog wr = .ok (.tuple #[.bool true, .int .i64 pos, .int .i32 (U.ch s pos)]) (wr.iterAt w1.heap.size s (pos + U.wd s pos)) := fun ty => Lib.run_next_any_at wr _ s pos ty HI.out hlt
      have hI1 := Lib.hid (Lib.iterAt_heap wr _ s pos (pos + U.wd s pos) HI.out)
      have hown1 := own_iterAt hown2 HI.out (pos + U.wd s pos)
      have hbl1 := Lib.below_iterAt hbl (Nat.le_trans hBw hb1.size) s (pos + U.wd s pos)
      have hc := char_any B u0 l s pos hlt _ hown1 (by omega) (Nat.le_trans hBw hbl1.size)
      generalize U.wd s pos = d at *
      generalize U.ch s pos = c at *
      clear hown2 hbl
      go_wp2_with fail
      refine hc.mono ?_
      rintro e w3 ⟨v', rfl, hown3, hgrow⟩
      have hI3 := Lib.hid (grows_iter hI1.out hgrow (own_ne_iter hown1 hI1.out))
      have hb3 := grows_below hbl1 (Nat.le_trans hBw hbl1.size) hgrow (fun k hk => (hown1.lt k hk).1)
      have HM3 := Lib.hid (iterPos_of hI3.out)
      clear hbl1 hown1 hgrow hc
      go_wp2_with fail
      go_roundw
      case rel =>
        refine ⟨f', pos + d, l ++ pq s pos, hI3, by omega, by rw [List.length_append]; omega, hown3, Lib.hid ⟨?_, ?_⟩, hb3⟩
        · rw [List.append_assoc, ← HS.out]; exact HU.out.1
        · have := HU.out.2; omega
      case measure =>
        rw [HM3.out, HM.out]
        omega
    · have hnx : ∀ ty, (Instr.next (.pointer (some ⟨w1.heap.size, 0, none⟩)) true ty).run Tryz.prog wr = _ := fun ty => Lib.run_next_end_at wr _ s pos ty HI.out hlt
      have HE := Lib.hid (qF_end s f pos hlt)
      go_wp2_with (at_builtin; refine wpList_append_own _ rfl _ _ 81 rfl B 5 i0 (.int .u8 0) 1 1 Tryz.underlying81 hi hz0 hz1 hz2 rfl (by decide) _ l.length (U.cellsOf l) rfl (hown2.alloc _) ⟨wr.heap.size, 0, none⟩ 1 1 [.int .u8 34] rfl rfl ?c1 ?c2 ?c3 ?c4 ?c5 ?_)
      case c1 => exact cells1
      case c2 => intro u hu; simp at hu; rcases hu with rfl; rfl
      case c3 => unfold maxLen; omega
      case c4 => omega
      case c5 => have := hbl.size; simp; omega
      intro v5 w5 hown5 hgrow5 _
      have hb5 : Below B w w5 := grows_below hbl (Nat.le_trans hBw hbl.size) (.inr ⟨_, .inl hgrow5⟩) (fun k hk => (hown2.lt k hk).1)
      go_wp2_with fail
      go_ret
      refine ⟨v5, rfl, ?_, hb5⟩
      have e : l ++ [34] = l0 ++ qL s := by
        have h := HU.out.1
        rw [HE.out, List.append_nil] at h
        unfold qL
        rw [h, List.append_assoc, List.append_assoc, List.append_assoc]
      rw [← e, List.length_append, ← U.cellsOf_append]
      exact hown5

end Go.Proofs.YtoolkaahjmnjeaaGreatDoor

namespace Go.Proofs.YtoolkaahjmnjeaaGreatDoor
open Go Go.RowKit Go.Shelf Go.Lib

/-- every block of cells that are no bytes is as it was; where the row has a byte already, every block of one byte alone too, but for the row's own -/
def KeepX (n : Nat) (v : Value) (w w' : World) : Prop := ∀ (k : Nat) (cur : Array Value) (t : TypeId) (fr : Nat × Nat), w.heap[k]? = some (Obj.cells cur t fr) → (t ≠ 5 ∨ (1 ≤ n ∧ cur.size = 1 ∧ v.ownBlock ≠ some k)) → w'.heap[k]? = w.heap[k]?
theorem KeepX.refl (n : Nat) (v : Value) (w : World) : KeepX n v w w := fun _ _ _ _ _ _ => rfl
theorem KeepX.same {n : Nat} {v : Value} {a b c : World} (h : KeepX n v a b) (k : KeepX n v b c) : KeepX n v a c := fun i cur t fr hi ht => by
  have h1 := h i cur t fr hi ht
  exact (k i cur t fr (h1.trans hi) ht).trans h1
theorem row_wide {w : World} {B k n : Nat} {v : Value} {xs : List Value} {cur : Array Value} {t : TypeId} {fr : Nat × Nat} (hown : w.ownsRow B 5 1 v n xs) (hn : 2 ≤ n) (hk : w.heap[k]? = some (.cells cur t fr)) (h1 : cur.size = 1) : v.ownBlock ≠ some k := by
  rcases hown.2 with ⟨_, h0⟩ | ⟨g, cap, cur', rfl, _, hg, h2, _, h3, _⟩
  · omega
  · intro e
    have e2 : g = k := by simpa [Value.ownBlock] using e
    subst e2
    rw [hk] at hg
    cases hg
    omega
/-- on to a greater row -/
theorem KeepX.onto {n m B : Nat} {v v1 : Value} {xs : List Value} {a b c : World} (h : KeepX n v a b) (k : KeepX m v1 b c) (hown : b.ownsRow B 5 1 v1 m xs) (hm : 1 ≤ n → 2 ≤ m) : KeepX n v a c := fun i cur t fr hi ht => by
  have h1 := h i cur t fr hi ht
  refine (k i cur t fr (h1.trans hi) ?_).trans h1
  rcases ht with ht | ⟨h2, h3, _⟩
  · exact .inl ht
  · exact .inr ⟨by have := hm h2; omega, h3, row_wide hown (hm h2) (h1.trans hi) h3⟩
/-- on to another row that lies apart -/
theorem KeepX.apart {n m : Nat} {v v1 : Value} {a b c : World} (h : KeepX n v a b) (k : KeepX m v1 b c) (hm : 1 ≤ n → 1 ≤ m) (hv : ∀ i, i < a.heap.size → v.ownBlock ≠ some i → v1.ownBlock ≠ some i) : KeepX n v a c := fun i cur t fr hi ht => by
  have h1 := h i cur t fr hi ht
  refine (k i cur t fr (h1.trans hi) ?_).trans h1
  rcases ht with ht | ⟨h2, h3, h4⟩
  · exact .inl ht
  · exact .inr ⟨hm h2, h3, hv i (Array.getElem?_eq_some_iff.1 hi).1 h4⟩
theorem keepX_below {w w' : World} (n : Nat) (v : Value) (h : Below w.heap.size w w') : KeepX n v w w' := fun k _ _ _ hk _ => h.block k (Array.getElem?_eq_some_iff.1 hk).1
theorem row_not {w : World} {B k : Nat} {v : Value} {n : Nat} {xs : List Value} {cur : Array Value} {t : TypeId} {fr : Nat × Nat} (hown : w.ownsRow B 5 1 v n xs) (hk : w.heap[k]? = some (.cells cur t fr)) (ht : t ≠ 5) : some k ≠ v.ownBlock := by
  rcases hown.2 with ⟨rfl, _⟩ | ⟨g, cap, cur', rfl, _, hg, _⟩
  · simp [Value.ownBlock]
  · intro e
    have e2 : k = g := by simpa [Value.ownBlock] using e
    subst e2
    rw [hk] at hg
    cases hg
    exact ht rfl
theorem keepX_grows {w w' : World} {B : Nat} {v : Value} {n m : Nat} {xs : List Value} (hown : w.ownsRow B 5 1 v m xs) (hg : Grows w w' v.ownBlock) : KeepX n v w w' := fun k cur t fr hk ht => by
  have hlt : k < w.heap.size := (Array.getElem?_eq_some_iff.1 hk).1
  have hne : some k ≠ v.ownBlock := ht.elim (fun h => row_not hown hk h) (fun h e => h.2.2 e.symm)
  rcases hg with hg | ⟨o, hg | hg⟩
  · exact hg.block k hlt hne
  · exact (hg.block k (by simp; omega) hne).trans (Below.heap_alloc w o k hlt)
  · exact (hg.block k (by show k < (w.alloc o).heap.size; simp; omega) hne).trans (Below.heap_alloc w o k hlt)
theorem keepX_iter {w : World} {i : Nat} {p : Nat} (n : Nat) (v : Value) (s : ByteArray) (h : w.heap[i]? = some (.stringIter s p)) (q : Nat) : KeepX n v w (w.iterAt i s q) := fun k cur t fr hk ht => by
  have hne : k ≠ i := fun e => by subst e; rw [hk] at h; cases h
  exact World.putObj_heap_other hne

set_option maxHeartbeats 1000000 in
set_option maxRecDepth 100000 in
theorem quotedK_any (B : Nat) (v : Value) (l0 : List UInt8) (s : ByteArray) (w : World) (hs : s.size ≤ 1000000000000) (hl0 : l0.length ≤ 1000000000000) (hown : w.ownsRow B 5 1 v l0.length (U.cellsOf l0)) (hBw : B ≤ w.heap.size) :
    Calls Tryz.prog 171 #[v, .string s] w fun e w' => ∃ v', e = .returned v' ∧ w'.ownsRow B 5 1 v' (l0 ++ qL s).length (U.cellsOf (l0 ++ qL s)) ∧ Below B w w' ∧ KeepX l0.length v w w' := by
  obtain ⟨i0, hi, hz0, hz1, hz2⟩ := info_parts infoByte
  go_enter Tryz.func171, Tryz.ntmps171
  go_wp2_with (at_builtin; refine wpList_append_own _ rfl _ _ 81 rfl B 5 i0 (.int .u8 0) 1 1 Tryz.underlying81 hi hz0 hz1 hz2 rfl (by decide) _ l0.length (U.cellsOf l0) rfl (hown.alloc _) ⟨w.heap.size, 0, none⟩ 1 1 [.int .u8 34] rfl rfl ?c1 ?c2 ?c3 ?c4 ?c5 ?_)
  case c1 => exact cells1
  case c2 => intro u hu; simp at hu; rcases hu with rfl; rfl
  case c3 => unfold maxLen; omega
  case c4 => omega
  case c5 => simp; omega
  intro v1 w1 hown1 hgrow1 _
  have hb1 : Below B w w1 := grows_below (Below.refl B w) hBw (.inr ⟨_, .inl hgrow1⟩) (fun k hk => (hown.lt k hk).1)
  have hk1 : KeepX l0.length v w w1 := keepX_grows hown (.inr ⟨_, .inl hgrow1⟩)
  have hown1' : w1.ownsRow B 5 1 v1 (l0 ++ [34]).length (U.cellsOf (l0 ++ [34])) := by
    rw [List.length_append, ← U.cellsOf_append]
    exact hown1
  clear hown1 hgrow1
  go_wp2_with fail
  go_loopw [0] (fun u wr => ∃ (f pos : Nat) (l : List UInt8), Hid (wr.heap[w1.heap.size]? = some (.stringIter s pos)) ∧ pos ≤ s.size ∧ (l0.length + 1 ≤ l.length ∧ l.length ≤ l0.length + 1 + 6 * pos) ∧ wr.ownsRow B 5 1 u l.length (U.cellsOf l) ∧ Hid (l ++ qF s f pos = l0 ++ [34] ++ qF s s.size 0 ∧ s.size ≤ pos + f) ∧ Below B w wr ∧ Hid (KeepX l0.length v w wr)) (fun _ wr => s.size - wr.iterPos w1.heap.size)
  case atStart => exact ⟨s.size, 0, l0 ++ [34], Lib.hid (World.iter_heap _ _ _), by omega, ⟨by simp, by simp⟩, hown1'.alloc _, Lib.hid ⟨rfl, by omega⟩, hb1.alloc (Nat.le_trans hBw hb1.size) _, Lib.hid (hk1.same (keepX_below _ _ ((Below.refl _ _).alloc (Nat.le_refl _) _)))⟩
  case round =>
    obtain ⟨f, pos, l, HI, hp, hl, hown2, HU, hbl, HKT⟩ := hrel
    have HM := Lib.hid (iterPos_of HI.out)
    by_cases hlt : pos < s.size
    · have hw1 := U.wd_pos hlt
      have hw2 := U.wd_le hlt
      obtain ⟨f', rfl⟩ : ∃ f', f = f' + 1 := ⟨f - 1, by have := HU.out.2; omega⟩
      have HS := Lib.hid (qF_step s f' pos hlt)
      have hpl := pq_le hlt
      have hnx : ∀ ty, (Instr.next (.pointer (some ⟨w1.heap.size, 0, none⟩)) true ty).run Tryz.prog wr = .ok (.tuple #[.bool true, .int .i64 pos, .int .i32 (U.ch s pos)]) (wr.iterAt w1.heap.size s (pos + U.wd s pos)) := fun ty => Lib.run_next_any_at wr _ s pos ty HI.out hlt
      have hI1 := Lib.hid (Lib.iterAt_heap wr _ s pos (pos + U.wd s pos) HI.out)
      have hown1 := own_iterAt hown2 HI.out (pos + U.wd s pos)
      have hbl1 := Lib.below_iterAt hbl (Nat.le_trans hBw hb1.size) s (pos + U.wd s pos)
      have HK1 := Lib.hid (HKT.out.same (keepX_iter _ _ s HI.out (pos + U.wd s pos)))
      have hc := char_any B u0 l s pos hlt _ hown1 (by omega) (Nat.le_trans hBw hbl1.size)
      generalize U.wd s pos = d at *
      generalize U.ch s pos = c at *
      clear hown2 hbl
      go_wp2_with fail
      refine hc.mono ?_
      rintro e w3 ⟨v', rfl, hown3, hgrow⟩
      have hI3 := Lib.hid (grows_iter hI1.out hgrow (own_ne_iter hown1 hI1.out))
      have hb3 := grows_below hbl1 (Nat.le_trans hBw hbl1.size) hgrow (fun k hk => (hown1.lt k hk).1)
      have HM3 := Lib.hid (iterPos_of hI3.out)
      have HK3 := Lib.hid (HK1.out.onto (keepX_grows hown1 hgrow) hown1 (by omega))
      clear hbl1 hown1 hgrow hc
      go_wp2_with fail
      go_roundw
      case rel =>
        refine ⟨f', pos + d, l ++ pq s pos, hI3, by omega, ⟨by rw [List.length_append]; omega, by rw [List.length_append]; omega⟩, hown3, Lib.hid ⟨?_, ?_⟩, hb3, HK3⟩
        · rw [List.append_assoc, ← HS.out]; exact HU.out.1
        · have := HU.out.2; omega
      case measure =>
        rw [HM3.out, HM.out]
        omega
    · have hnx : ∀ ty, (Instr.next (.pointer (some ⟨w1.heap.size, 0, none⟩)) true ty).run Tryz.prog wr = _ := fun ty => Lib.run_next_end_at wr _ s pos ty HI.out hlt
      have HE := Lib.hid (qF_end s f pos hlt)
      go_wp2_with (at_builtin; refine wpList_append_own _ rfl _ _ 81 rfl B 5 i0 (.int .u8 0) 1 1 Tryz.underlying81 hi hz0 hz1 hz2 rfl (by decide) _ l.length (U.cellsOf l) rfl (hown2.alloc _) ⟨wr.heap.size, 0, none⟩ 1 1 [.int .u8 34] rfl rfl ?c1 ?c2 ?c3 ?c4 ?c5 ?_)
      case c1 => exact cells1
      case c2 => intro u hu; simp at hu; rcases hu with rfl; rfl
      case c3 => unfold maxLen; omega
      case c4 => omega
      case c5 => have := hbl.size; simp; omega
      intro v5 w5 hown5 hgrow5 _
      have hb5 : Below B w w5 := grows_below hbl (Nat.le_trans hBw hbl.size) (.inr ⟨_, .inl hgrow5⟩) (fun k hk => (hown2.lt k hk).1)
      have HK5 := HKT.out.onto (keepX_grows hown2 (.inr ⟨_, .inl hgrow5⟩)) hown2 (by omega)
      go_wp2_with fail
      go_ret
      refine ⟨v5, rfl, ?_, hb5, HK5⟩
      have e : l ++ [34] = l0 ++ qL s := by
        have h := HU.out.1
        rw [HE.out, List.append_nil] at h
        unfold qL
        rw [h, List.append_assoc, List.append_assoc, List.append_assoc]
      rw [← e, List.length_append, ← U.cellsOf_append]
      exact hown5
end Go.Proofs.YtoolkaahjmnjeaaGreatDoor

namespace Go.Proofs.YtoolkaahjmnjeaaGreatDoor
open Go Go.RowKit Go.Shelf Go.Lib

/-- what a writer hands back: a row of these bytes, its own from B on; all that is no bytes stays -/
def WrK (B : Nat) (n : Nat) (v : Value) (l : List UInt8) (w : World) (e : Ending) (w' : World) : Prop := ∃ v', e = .returned v' ∧ w'.ownsRow B 5 1 v' l.length (U.cellsOf l) ∧ Below B w w' ∧ KeepX n v w w'

set_option maxRecDepth 100000 in
theorem appendNull_k (B : Nat) (b va ua : Value) (k : Nat) (x : ByteArray) (l : List UInt8) (w : World) (hl : l.length ≤ 100000000000000) (hown : w.ownsRow B 5 1 b l.length (U.cellsOf l)) (hBw : B ≤ w.heap.size) :
    Calls Tryz.prog 137 #[b, .agg #[.int .u8 k, .string x, va, ua]] w (WrK B l.length b (l ++ [110, 117, 108, 108]) w) := by
  obtain ⟨i0, hi, hz0, hz1, hz2⟩ := info_parts infoByte
  go_enter Tryz.func137, Tryz.ntmps137
  go_wp2_with (at_builtin; refine wpList_append_own_string _ rfl _ _ 81 9 rfl B 5 i0 Tryz.underlying81 Tryz.underlying9 hi hz0 hz1 hz2 _ l.length (U.cellsOf l) rfl (hown.alloc _) _ rfl ?c3 ?c4 ?c5 ?_)
  case c3 => unfold maxLen; show l.length + 4 ≤ _; omega
  case c4 => show (l.length + 4) ≤ _; omega
  case c5 => simp; omega
  intro v' w2 hown2 hgrow _
  go_wp2_with fail
  go_ret
  refine ⟨v', rfl, ?_, grows_below ((Below.refl B w).alloc hBw _) (by simp; omega) (.inl hgrow) (fun k hk => (hown.lt k hk).1), (keepX_below _ _ ((Below.refl _ w).alloc (Nat.le_refl _) _)).same (keepX_grows (hown.alloc _) (.inl hgrow))⟩
  rw [List.length_append, ← U.cellsOf_append]
  exact hown2

set_option maxRecDepth 100000 in
theorem appendFalse_k (B : Nat) (b va ua : Value) (k : Nat) (x : ByteArray) (l : List UInt8) (w : World) (hl : l.length ≤ 100000000000000) (hown : w.ownsRow B 5 1 b l.length (U.cellsOf l)) (hBw : B ≤ w.heap.size) :
    Calls Tryz.prog 138 #[b, .agg #[.int .u8 k, .string x, va, ua]] w (WrK B l.length b (l ++ [102, 97, 108, 115, 101]) w) := by
  obtain ⟨i0, hi, hz0, hz1, hz2⟩ := info_parts infoByte
  go_enter Tryz.func138, Tryz.ntmps138
  go_wp2_with (at_builtin; refine wpList_append_own_string _ rfl _ _ 81 9 rfl B 5 i0 Tryz.underlying81 Tryz.underlying9 hi hz0 hz1 hz2 _ l.length (U.cellsOf l) rfl (hown.alloc _) _ rfl ?c3 ?c4 ?c5 ?_)
  case c3 => unfold maxLen; show l.length + 5 ≤ _; omega
  case c4 => show (l.length + 5) ≤ _; omega
  case c5 => simp; omega
  intro v' w2 hown2 hgrow _
  go_wp2_with fail
  go_ret
  refine ⟨v', rfl, ?_, grows_below ((Below.refl B w).alloc hBw _) (by simp; omega) (.inl hgrow) (fun k hk => (hown.lt k hk).1), (keepX_below _ _ ((Below.refl _ w).alloc (Nat.le_refl _) _)).same (keepX_grows (hown.alloc _) (.inl hgrow))⟩
  rw [List.length_append, ← U.cellsOf_append]
  exact hown2

set_option maxRecDepth 100000 in
theorem appendTrue_k (B : Nat) (b va ua : Value) (k : Nat) (x : ByteArray) (l : List UInt8) (w : World) (hl : l.length ≤ 100000000000000) (hown : w.ownsRow B 5 1 b l.length (U.cellsOf l)) (hBw : B ≤ w.heap.size) :
    Calls Tryz.prog 139 #[b, .agg #[.int .u8 k, .string x, va, ua]] w (WrK B l.length b (l ++ [116, 114, 117, 101]) w) := by
  obtain ⟨i0, hi, hz0, hz1, hz2⟩ := info_parts infoByte
  go_enter Tryz.func139, Tryz.ntmps139
  go_wp2_with (at_builtin; refine wpList_append_own_string _ rfl _ _ 81 9 rfl B 5 i0 Tryz.underlying81 Tryz.underlying9 hi hz0 hz1 hz2 _ l.length (U.cellsOf l) rfl (hown.alloc _) _ rfl ?c3 ?c4 ?c5 ?_)
  case c3 => unfold maxLen; show l.length + 4 ≤ _; omega
  case c4 => show (l.length + 4) ≤ _; omega
  case c5 => simp; omega
  intro v' w2 hown2 hgrow _
  go_wp2_with fail
  go_ret
  refine ⟨v', rfl, ?_, grows_below ((Below.refl B w).alloc hBw _) (by simp; omega) (.inl hgrow) (fun k hk => (hown.lt k hk).1), (keepX_below _ _ ((Below.refl _ w).alloc (Nat.le_refl _) _)).same (keepX_grows (hown.alloc _) (.inl hgrow))⟩
  rw [List.length_append, ← U.cellsOf_append]
  exact hown2

set_option maxRecDepth 100000 in
theorem appendNumber_k (B : Nat) (b va ua : Value) (k : Nat) (x : ByteArray) (l : List UInt8) (w : World) (hx : x.size ≤ 1000000000000) (hl : l.length ≤ 100000000000000) (hown : w.ownsRow B 5 1 b l.length (U.cellsOf l)) (hBw : B ≤ w.heap.size) :
    Calls Tryz.prog 141 #[b, .agg #[.int .u8 k, .string x, va, ua]] w (WrK B l.length b (l ++ x.data.toList) w) := by
  obtain ⟨i0, hi, hz0, hz1, hz2⟩ := info_parts infoByte
  go_enter Tryz.func141, Tryz.ntmps141
  go_wp2_with (at_builtin; refine wpList_append_own_string _ rfl _ _ 81 9 rfl B 5 i0 Tryz.underlying81 Tryz.underlying9 hi hz0 hz1 hz2 _ l.length (U.cellsOf l) rfl (hown.alloc _) x rfl ?c3 ?c4 ?c5 ?_)
  case c3 => unfold maxLen; omega
  case c4 => omega
  case c5 => simp; omega
  intro v' w2 hown2 hgrow _
  go_wp2_with fail
  go_ret
  refine ⟨v', rfl, ?_, grows_below ((Below.refl B w).alloc hBw _) (by simp; omega) (.inl hgrow) (fun k hk => (hown.lt k hk).1), (keepX_below _ _ ((Below.refl _ w).alloc (Nat.le_refl _) _)).same (keepX_grows (hown.alloc _) (.inl hgrow))⟩
  rw [List.length_append, ← U.cellsOf_append]
  exact hown2

set_option maxRecDepth 100000 in
theorem appendText_k (B : Nat) (b va ua : Value) (k : Nat) (x : ByteArray) (l : List UInt8) (w : World) (hx : x.size ≤ 1000000000000) (hl : l.length ≤ 1000000000000) (hown : w.ownsRow B 5 1 b l.length (U.cellsOf l)) (hBw : B ≤ w.heap.size) :
    Calls Tryz.prog 142 #[b, .agg #[.int .u8 k, .string x, va, ua]] w (WrK B l.length b (l ++ qL x) w) := by
  have hq := quotedK_any B b l x (w.alloc (.cells #[.int .u8 k, .string x, va, ua] 25)) hx hl (hown.alloc _) (by simp; omega)
  go_enter Tryz.func142, Tryz.ntmps142
  go_wp2_with fail
  refine hq.mono ?_
  rintro e w1 ⟨v', rfl, hown1, hB, hK⟩
  go_wp2_with fail
  go_ret
  exact ⟨v', rfl, hown1, ((Below.refl B w).alloc hBw _).trans hB, (keepX_below _ _ ((Below.refl _ w).alloc (Nat.le_refl _) _)).same hK⟩
end Go.Proofs.YtoolkaahjmnjeaaGreatDoor
