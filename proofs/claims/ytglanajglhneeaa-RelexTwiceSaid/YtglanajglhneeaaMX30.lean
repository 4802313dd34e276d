/- All, the program's own: a text's tokens, in memory of its own. Conditions: a string of at most 10^12 bytes. -/
import Derived.Test.YtglanajglhneeaaMX29
import Derived.Maps.AppendAt
namespace Go.Proofs.Ytglanajglhneeaa
open Go Go.RowKit Go.Shelf Go.Lib

attribute [local go_sem] Oper.semAt_some

def tokCells (t : D.Tk) : List Value := [.int .u8 (t.k : Int), .int .i64 (t.w : Int), .int .i64 (t.l : Int)]
def tksCells (ts : List D.Tk) : List Value := ts.flatMap tokCells
theorem tksCells_snoc (ts : List D.Tk) (t : D.Tk) : tksCells (ts ++ [t]) = tksCells ts ++ tokCells t := by simp [tksCells]
theorem tksCells_len (ts : List D.Tk) : (tksCells ts).length = ts.length * 3 := by
  induction ts with
  | nil => rfl
  | cons t r ih => rw [show tksCells (t :: r) = tokCells t ++ tksCells r by simp [tksCells], List.length_append, ih, List.length_cons]; show 3 + _ = _; omega
theorem infoTok : (Try.prog.info? 24).map (fun i => (i.zero, i.size, i.bytes)) = some (some (.agg #[.int .u8 0, .int .i64 0, .int .i64 0]), 3, 24) := by kernel_rfl
/-- a slice of one's own that reads as these tokens -/
def TksAre (ts : List D.Tk) (w : World) (e : Ending) (w' : World) : Prop :=
  ∃ v, e = .returned v ∧ w'.ownsRow w.heap.size 24 3 v ts.length (tksCells ts) ∧ (ts = [] ↔ v = .slice none 0 0) ∧ Below w.heap.size w w'
/-- the row under way -/
def RowT (n0 : Nat) (W : World) (v : Value) (pre : List D.Tk) : Prop := W.ownsRow n0 24 3 v pre.length (tksCells pre) ∧ (pre = [] ↔ v = .slice none 0 0)
theorem ownsRow_lower {w : World} {a b : Nat} {e : TypeId} {size n : Nat} {v : Value} {xs : List Value} (h : w.ownsRow a e size v n xs) (hab : b ≤ a) : w.ownsRow b e size v n xs := by
  obtain ⟨h1, h2⟩ := h
  refine ⟨h1, ?_⟩
  rcases h2 with h2 | ⟨g, cap, cur, r1, r2, r3⟩
  · exact Or.inl h2
  · exact Or.inr ⟨g, cap, cur, r1, Nat.le_trans hab r2, r3⟩
theorem tok_appended {W w4 : World} {n0 lb B : Nat} {v v' : Value} {pre : List D.Tk} {t : D.Tk} {tmp : Obj} {s : ByteArray} (b1 : Boxed W lb 35 v) (hrow : W.ownsRow n0 24 3 v pre.length (tksCells pre)) (hv : pre = [] ↔ v = .slice none 0 0)
    (bS : Boxed W B 9 (.string s)) (hBl : B ≠ lb) (own4 : w4.ownsRow (if pre = [] then W.heap.size else n0) 24 3 v' (pre.length + 1) (tksCells (pre ++ [t]))) (hg : (W.alloc tmp).grownBy w4 v.ownBlock) : KeepT s B lb W (w4.setCell ⟨lb, 0, none⟩ v') ∧ Boxed (w4.setCell ⟨lb, 0, none⟩ v') B 9 (.string s) := by
  have hsz : W.heap.size ≤ w4.heap.size := by have := hg.size; rw [World.size_alloc] at this; omega
  have hold : ∀ b, b < W.heap.size → b ≠ lb → some b ≠ v.ownBlock → (w4.setCell ⟨lb, 0, none⟩ v').heap[b]? = W.heap[b]? := fun b hb hne hno => by
    rw [Below.heap_setCell _ _ _ _ hne, hg.block b (by rw [World.size_alloc]; omega) hno, Below.heap_alloc W _ b hb]
  have hpt : ∀ b, v.ownBlock = some b → PtL lb W b := fun b hb => by
    rcases hrow.2 with ⟨rfl, _⟩ | ⟨g, cap, cur, rfl, _⟩
    · cases hb
    · have : g = b := by injection hb
      subst this
      exact ⟨_, _, b1.cell⟩
  obtain ⟨g4, cap4, cur4, e4, o1, o2, o3, o4, o5, o6⟩ : ∃ g cap cur, v' = .slice (some ⟨g, 0, none⟩) (pre.length + 1) cap ∧ (if pre = [] then W.heap.size else n0) ≤ g ∧ w4.heap[g]? = some (.cells cur 24 (0, 0)) ∧ pre.length + 1 ≤ cap ∧ cap ≤ maxLen ∧ cur.size = cap * 3 ∧ cur.toList.take ((pre.length + 1) * 3) = tksCells (pre ++ [t]) := by
    rcases own4.2 with ⟨_, h⟩ | h
    · omega
    · exact h
  have hlb4 : w4.heap[lb]? = some (.cells #[v] 35 (0, 0)) := by
    have hb1 : W.heap[lb]? = some (.cells #[v] 35 (0, 0)) := b1
    rw [hg.block lb (by rw [World.size_alloc]; have := b1.lt; omega) (fun e => by
      have := hpt lb e.symm
      rcases hrow.2 with ⟨rfl, _⟩ | ⟨g, cap, cur, rfl, _, hc, _⟩
      · cases e
      · have hgl : g = lb := by injection e.symm
        subst hgl
        rw [hb1] at hc
        injection hc with hc
        injection hc with _ hc2
        cases hc2), Below.heap_alloc W _ lb b1.lt]
    exact hb1
  have hcell : (w4.setCell ⟨lb, 0, none⟩ v').cell? ⟨lb, 0, none⟩ = some v' := by
    rw [setCell_eq_setRow w4 lb 0 _ _ _ _ hlb4]
    exact cell_setRow_same w4 lb 0 _ _ _ _ hlb4
  have hnp : ∀ b, PtL lb (w4.setCell ⟨lb, 0, none⟩ v') b → b = g4 := fun b ⟨n, c, h⟩ => by
    rw [hcell, e4] at h
    injection h with h
    injection h with h
    injection h with h
    injection h with h
    exact h.symm
  have bS2 : Boxed (w4.setCell ⟨lb, 0, none⟩ v') B 9 (.string s) := by
    refine (hold B bS.lt hBl (fun e => ?_)).trans bS
    rcases hrow.2 with ⟨rfl, _⟩ | ⟨g, cap, cur, rfl, _, hc, _⟩
    · cases e
    · have hgl : g = B := by injection e.symm
      subst hgl
      have hb1 : W.heap[g]? = some (.cells #[.string s] 9 (0, 0)) := bS
      rw [hb1] at hc
      injection hc with hc
      injection hc with _ hc2
      cases hc2
  refine ⟨⟨fun _ => bS2.cell, fun b hb => ?_, fun _ b hb => ?_, by simp [World.setCell]; omega⟩, bS2⟩
  · obtain ⟨⟨cs, ty, h1, h2⟩, h3, h4⟩ := hb
    have hblt : b < W.heap.size := (Array.getElem?_eq_some_iff.1 h1).1
    have hk := hold b hblt h3 (fun e => h4 (hpt b e.symm))
    refine ⟨hk, ⟨cs, ty, hk.trans h1, h2⟩, h3, fun e => ?_⟩
    have hbg := hnp b e
    subst hbg
    have hk2 := hk.trans h1
    rw [Below.heap_setCell _ _ _ _ h3, o2] at hk2
    injection hk2 with hk2
    injection hk2 with hk3
    subst hk3
    have hpe : pre = [] := by
      have : pre.length = 0 := by omega
      exact List.eq_nil_of_length_eq_zero this
    rw [if_pos hpe] at o1
    omega
  · have := hnp b hb
    subst this
    have := (Array.getElem?_eq_some_iff.1 o2).1
    simp [World.setCell]; omega
set_option maxRecDepth 100000 in
set_option maxHeartbeats 2000000 in
theorem all_any (s : ByteArray) (w : World) (hs : s.size ≤ 1000000000000) :
    Calls Try.prog 16 #[.string s] w (TksAre (D.toks s) w) := by
  have hts := D.toks_len s
  obtain ⟨i0, hi0, hz0, hz1, hz2⟩ := info_parts infoTok
  refine (callsIn_wide (n := 5)).1 ?_
  refine callsIn_of_wp_marks Try.func16 rfl trivial ?_ rfl
  simp only [Try.ntmps16, List.size_toArray, List.length_cons, List.length_nil, Nat.reduceAdd, Nat.reduceSub, Array.replicate_succ, Array.replicate_zero, List.push_toArray, List.append_toArray, List.nil_append, List.cons_append]
  gi_wp2
  refine ⟨trivial, (callsIn_wide.2 (tokens_any s _)).mono ?_⟩
  rintro e w' ⟨rfl, rfl⟩
  gi_wp2
  have bL := (Boxed.new w 35 (.slice none 0 0)).alloc (.cells #[.string s] 9)
  have bS := Boxed.new (w.alloc (.cells #[.slice none 0 0] 35)) 9 (.string s)
  simp only [World.size_alloc] at bS
  have hB0 : Below w.heap.size w ((w.alloc (.cells #[.slice none 0 0] 35)).alloc (.cells #[.string s] 9)) := ((Below.refl _ w).alloc (Nat.le_refl _) _).alloc (by simp) _
  have hsz : ((w.alloc (.cells #[.slice none 0 0] 35)).alloc (.cells #[.string s] 9)).heap.size = w.heap.size + 2 := by simp
  obtain ⟨W0, hW0⟩ : ∃ W0, (w.alloc (.cells #[.slice none 0 0] 35)).alloc (.cells #[.string s] 9) = W0 := ⟨_, rfl⟩
  rw [hW0] at bL bS hB0 hsz ⊢
  clear hW0
  have hG0 : GdL w.heap.size W0 := fun b hb => by
    obtain ⟨n, c, h⟩ := hb
    rw [bL.cell] at h
    cases h
  refine wpIn_rangeFunc_ownH rfl (by decide) (gf := 63) (lb := #[.pointer (some ⟨w.heap.size + 1, 0, none⟩)]) rfl trivial (enters_of Try.func63 (by kernel_rfl) rfl)
    (tokens_stops (5 - 1) (w.heap.size + 1) w.heap.size (by decide) s (by omega) W0 (by omega) (by omega) hG0 bS.cell) keepT_t (fun W l o o' hl h ho _ => keepT_b W l o o' (by omega) (by omega) h ho) (Below.refl _ _) (fun _ => rfl)
    (fun pre W => ((∃ v, Boxed W w.heap.size 35 v ∧ W.ownsRow w.heap.size 24 3 v pre.length (tksCells pre) ∧ (pre = [] ↔ v = .slice none 0 0)) ∧ Boxed W (w.heap.size + 1) 9 (.string s)) ∧ Below w.heap.size w W)
    (fun _ _ _ => False)
    (OwnFrom.and (OwnFrom.and (Own.from (holdsRow_own w.heap.size w.heap.size 35 24 3 (fun (pre : List D.Tk) => pre.length) (fun pre => tksCells pre) (fun pre v => pre = [] ↔ v = .slice none 0 0)) _) (Own.from (boxed_own _ _ _) _)) (ownFrom_below (Nat.le_refl _) (by omega)))
    (fun _ _ _ _ _ hs _ _ => hs)
    ⟨⟨⟨_, bL, World.ownsRow_nil _ _ _ _, by simp⟩, bS⟩, hB0⟩
    (fun t a' W => ∃ N, w.heap.size + 1 < N ∧ TokRow W N t.k t.w t.l ∧ a' = { tmps := #[.string s, undef, .slice none 0 0, .pointer (some ⟨w.heap.size, 0, none⟩), .pointer (some ⟨N, 0, none⟩), .string s, .func (.func 63) #[] #[.pointer (some ⟨w.heap.size + 1, 0, none⟩)], tokV t, undef, undef, undef, undef, undef], defers := [] })
    (fun t a' _ X Y row hs hg hr => by
      obtain ⟨N, h1, h2, h3⟩ := hs
      refine ⟨N, h1, ?_, h3⟩
      refine (hg.block N (Array.getElem?_eq_some_iff.1 h2).1 (fun e => ?_)).trans h2
      obtain ⟨_, o, ho, hc⟩ := hr N e.symm
      unfold TokRow at h2
      rw [h2] at ho
      cases ho
      cases hc)
    ?assign ?body ?done ?stop
  case assign =>
    rintro l pre x W K ⟨⟨⟨v, b1, hrow, hv⟩, b2⟩, hB⟩ hK
    unfold tokV
    gi_wp2
    exact hK _ _ ((KeepsOthers.alloc _ _).from _) (keepT_below ((Below.refl _ W).alloc (Nat.le_refl _) _) b2.lt b1.lt) ⟨⟨⟨v, b1.alloc _, hrow.alloc _, hv⟩, b2.alloc _⟩, hB.alloc hB.size _⟩ ⟨W.heap.size, b2.lt, heap_alloc_new W _, rfl⟩
  case body =>
    rintro l pre x a' W hl ⟨r, hr⟩ ⟨⟨⟨v, b1, hrow, hv⟩, b2⟩, hB⟩ ⟨N, hNx, rN, rfl⟩ hlt
    have c1 := b1.cell
    have z0 : W.cell? ⟨N, 0, none⟩ = some (.int .u8 x.k) := by rw [Lib.cell_of_heap rN]; rfl
    have z1 : W.cell? ⟨N, 1, none⟩ = some (.int .i64 x.w) := by rw [Lib.cell_of_heap rN]; rfl
    have z2 : W.cell? ⟨N, 2, none⟩ = some (.int .i64 x.l) := by rw [Lib.cell_of_heap rN]; rfl
    have hnews : ∀ (j : Nat) (u : Value), (tokCells x)[j]? = some u → (W.alloc (.cells #[.int .u8 (x.k : Int), .int .i64 (x.w : Int), .int .i64 (x.l : Int)] 24)).cell? ((⟨W.heap.size, 0, none⟩ : Addr).add j) = some u := by
      intro j u hu
      have hadd : (⟨W.heap.size, 0, none⟩ : Addr).add j = ⟨W.heap.size, j, none⟩ := by unfold Addr.add; split <;> simp_all
      rw [hadd, cell_of_row _ _ j _ _ (0, 0) (heap_alloc_new _ _), ← Array.getElem?_toList]
      exact hu
    have hownB : (W.alloc (.cells #[.int .u8 (x.k : Int), .int .i64 (x.w : Int), .int .i64 (x.l : Int)] 24)).ownsRow (if pre = [] then W.heap.size else w.heap.size) 24 3 v pre.length (tksCells pre) := by
      by_cases hp : pre = []
      · rw [if_pos hp]
        have hvn := hv.1 hp
        subst hp hvn
        exact World.ownsRow_nil _ _ _ _
      · rw [if_neg hp]; exact hrow.alloc _
    have hbase : (if pre = [] then W.heap.size else w.heap.size) ≤ (W.alloc (.cells #[.int .u8 (x.k : Int), .int .i64 (x.w : Int), .int .i64 (x.l : Int)] 24)).heap.size := by
      rw [World.size_alloc]; have := hB.size; split <;> omega
    have hbase2 : w.heap.size ≤ (if pre = [] then W.heap.size else w.heap.size) := by have := hB.size; split <;> omega
    have HF := Lib.hid (fun v4 w4 (own4 : World.ownsRow w4 (if pre = [] then W.heap.size else w.heap.size) 24 3 v4 (pre.length + 1) (tksCells pre ++ tokCells x)) (hg4 : (W.alloc (.cells #[.int .u8 (x.k : Int), .int .i64 (x.w : Int), .int .i64 (x.l : Int)] 24)).grownBy w4 v.ownBlock) => And.intro (b1.appended (by decide) hrow hB.size (Nat.le_refl _) (ownsRow_lower own4 hbase2) hg4) (tok_appended b1 hrow hv b2 (by omega) (by rw [tksCells_snoc]; exact own4) hg4))
    have HB := Lib.hid hB
    have HO := Lib.hid (And.intro hownB (And.intro hnews hbase))
    have HB2 := Lib.hid b2
    have hlen : pre.length ≤ 1000000000000 := by omega
    generalize (if pre = [] then W.heap.size else w.heap.size) = bs at *
    clear hrow hB hownB hnews hbase rN b2 hbase2
    gi_wp2_with (gi_at_builtin; refine wpListIn_append_own _ rfl _ _ 35 rfl bs 24 i0 _ 3 24 Try.underlying35 hi0 hz0 hz1 hz2 rfl (by decide) _ pre.length (tksCells pre) rfl HO.out.1 ⟨W.heap.size, 0, none⟩ 1 1 (tokCells x) rfl rfl HO.out.2.1 (fun u hu => by
        simp only [tokCells, List.mem_cons, List.not_mem_nil, or_false] at hu
        rcases hu with rfl | rfl | rfl <;> rfl) (by unfold maxLen; omega) (by omega) HO.out.2.2 ?_; intro v4 w4 own4 hg4 _; obtain ⟨g4, cap4, rfl⟩ := ownsRow_succ own4; have HX := Lib.hid (HF.out _ _ own4 hg4); have x1 := HX.out.1.1.cell; have f1 := HX.out.1.1.frozen; clear own4 hg4)
    exact ⟨HX.out.1.2.2.2.1.from _, HX.out.2.1, ⟨⟨_, HX.out.1.2.1, by rw [tksCells_snoc, List.length_append]; exact HX.out.1.2.2.1, by simp⟩, HX.out.2.2⟩, HB.out.trans HX.out.1.2.2.2.2⟩
  case done =>
    rintro D' ys W hD rfl ⟨⟨⟨v, b1, hrow, hv⟩, b2⟩, hB⟩ hK
    have c1 := b1.cell
    gi_wp2
    refine ⟨by simp, .inl ⟨_, _, rfl, run_takeDeferred hK, ?_⟩⟩
    exact ⟨_, results_tmp rfl _ _ _, v, rfl, ownsRow_putObj hrow _ hK rfl, hv, hB.trans (belowK_b (w := w) (Nat.le_refl _) W D' _ _ (by omega) hK rfl rfl)⟩
  case stop =>
    rintro D' c pre W _ _ h _
    exact h.elim
end Go.Proofs.Ytglanajglhneeaa
