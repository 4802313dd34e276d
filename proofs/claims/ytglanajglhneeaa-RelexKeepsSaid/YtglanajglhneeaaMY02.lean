/- Right, the program's own: is a list just the text's tokens? Conditions: a string of at most 10^12 bytes. -/
import Derived.Test.YtglanajglhneeaaMX32
import Derived.Test.YtglanajglhneeaaMX49
import Derived.BigQuiet
namespace Go.Proofs.Ytglanajglhneeaa
open Go Go.RowKit Go.Shelf Go.Lib

attribute [local go_sem] Oper.semAt_some

theorem pfx_step {A ts : List TkI} {x : TkI} (h : A <+: ts) : ts[A.length]? = some x ↔ A ++ [x] <+: ts := by
  obtain ⟨r, rfl⟩ := h
  rw [List.getElem?_append_right (Nat.le_refl _), Nat.sub_self]
  cases r with
  | nil =>
    constructor
    · intro e; cases e
    · intro e; have := e.length_le; simp at this; omega
  | cons y r =>
    constructor
    · intro e
      have : y = x := Option.some.inj e
      subst this
      exact ⟨r, by simp⟩
    · intro ⟨q, hq⟩
      rw [List.append_assoc] at hq
      have := List.append_cancel_left hq
      injection this with h1 _
      rw [h1]; rfl
theorem boxed_otherD {W : World} {B B' o : Nat} {t : TypeId} {u : Value} (h : Boxed W B t u) (hne : B ≠ B') (x : Value) : Boxed (W.setCell ⟨B', o, none⟩ x) B t u := h.kept ⟨rfl, rfl, rfl, (KeepsWalks.setCell W _ x).size, fun k _ hk => Below.heap_setCell _ _ _ k (fun e => hk (by rw [e]))⟩ (fun e => hne (by cases e; rfl))
theorem rightX_own (ts : List TkI) (B B1 : Nat) (c : Code) : OwnFrom B (fun (pre : List D.Tk) W => c = .ret ∧ ¬ (pre.map D.Tk.i <+: ts) ∧ Boxed W B1 4 (.bool false)) := fun pre X Y row hs hg hr => by
  obtain ⟨hc, e1, e4⟩ := hs
  exact ⟨hc, e1, boxed_own B1 _ (fun _ => _) () X Y row e4 hg (fun r e => (hr r e).2)⟩
theorem keepT_int {s : ByteArray} {B lb m : Nat} {W : World} {n n' : Int} (b3 : Boxed W lb 3 (.int .i64 n)) (hne : B ≠ lb) : KeepT s B lb W ((W.drewN m).setCell ⟨lb, 0, none⟩ (.int .i64 n')) := by
  have b3X : Boxed (W.drewN m) lb 3 (.int .i64 n) := b3
  have hno : ∀ b, ¬ PtL lb ((W.drewN m).setCell ⟨lb, 0, none⟩ (.int .i64 n')) b := fun b hb => by
    obtain ⟨k, c, h⟩ := hb
    rw [(Boxed.set (.int .i64 n') b3X).cell] at h
    cases h
  have hk : ∀ b, b ≠ lb → ((W.drewN m).setCell ⟨lb, 0, none⟩ (.int .i64 n')).heap[b]? = W.heap[b]? := fun b h => (Below.heap_setCell (W.drewN m) _ _ b h).trans rfl
  refine ⟨fun c => (World.cell?_of_block (hk B hne)).trans c, fun b hb => ?_, fun _ b hb => absurd hb (hno b), (KeepsWalks.setCell (W.drewN m) _ _).size⟩
  obtain ⟨⟨cs, t, h1, h2⟩, h3, h4⟩ := hb
  exact ⟨hk b h3, ⟨cs, t, (hk b h3).trans h1, h2⟩, h3, hno b⟩
set_option maxRecDepth 100000 in
set_option maxHeartbeats 20000000 in
theorem right_any (s : ByteArray) (v : Value) (ts : List TkI) (b : Bool) (hb : b = true ↔ ts = (D.toks s).map D.Tk.i) (w : World) (hs : s.size ≤ 1000000000000) (hR : RdT w v ts) :
    Calls Try.prog 17 #[.string s, v] w fun e w' => e = .returned (.bool b) ∧ Below w.heap.size w w' := by
  have HRd := Lib.hid hR
  have HBo := Lib.hid hb
  clear hb
  obtain ⟨z, cap, rfl, hlc, hcap, hlen, _, _⟩ := hR
  refine (callsIn_wide (n := 5)).1 ?_
  refine callsIn_of_wp_marks Try.func17 rfl trivial ?_ rfl
  simp only [Try.ntmps17, List.size_toArray, List.length_cons, List.length_nil, Nat.reduceAdd, Nat.reduceSub, Array.replicate_succ, Array.replicate_zero, List.push_toArray, List.append_toArray, List.nil_append, List.cons_append]
  gi_wp2
  refine ⟨trivial, (callsIn_wide.2 (tokens_any s _)).mono ?_⟩
  rintro e w' ⟨rfl, rfl⟩
  gi_wp2
  obtain ⟨v, hv⟩ : ∃ v, v = Value.slice z ts.length cap := ⟨_, rfl⟩
  rw [← hv]
  have bL := (((Boxed.new w 35 v).alloc (.cells #[.bool false] 4)).alloc (.cells #[.int .i64 0] 3)).alloc (.cells #[.string s] 9)
  have bO := ((Boxed.new (w.alloc (.cells #[v] 35)) 4 (.bool false)).alloc (.cells #[.int .i64 0] 3)).alloc (.cells #[.string s] 9)
  have bN := (Boxed.new ((w.alloc (.cells #[v] 35)).alloc (.cells #[.bool false] 4)) 3 (.int .i64 0)).alloc (.cells #[.string s] 9)
  have bS := Boxed.new (((w.alloc (.cells #[v] 35)).alloc (.cells #[.bool false] 4)).alloc (.cells #[.int .i64 0] 3)) 9 (.string s)
  simp only [World.size_alloc] at bO bN bS
  have hB0 : Below w.heap.size w ((((w.alloc (.cells #[v] 35)).alloc (.cells #[.bool false] 4)).alloc (.cells #[.int .i64 0] 3)).alloc (.cells #[.string s] 9)) := ((((Below.refl _ w).alloc (Nat.le_refl _) _).alloc (by simp) _).alloc (by simp; omega) _).alloc (by simp; omega) _
  have hsz : ((((w.alloc (.cells #[v] 35)).alloc (.cells #[.bool false] 4)).alloc (.cells #[.int .i64 0] 3)).alloc (.cells #[.string s] 9)).heap.size = w.heap.size + 4 := by simp
  obtain ⟨W0, hW0⟩ : ∃ W0, (((w.alloc (.cells #[v] 35)).alloc (.cells #[.bool false] 4)).alloc (.cells #[.int .i64 0] 3)).alloc (.cells #[.string s] 9) = W0 := ⟨_, rfl⟩
  rw [hW0] at bL bO bN bS hB0 hsz ⊢
  clear hW0
  have hG0 : GdL (w.heap.size + 1 + 1) W0 := fun b hb => by
    obtain ⟨n, c, h⟩ := hb
    rw [bN.cell] at h
    cases h
  refine wpIn_rangeFunc_ownH rfl (by decide) (gf := 63) (lb := #[.pointer (some ⟨w.heap.size + 1 + 1 + 1, 0, none⟩)]) rfl trivial (enters_of Try.func63 (by kernel_rfl) rfl)
    (tokens_stops (5 - 1) (w.heap.size + 1 + 1 + 1) (w.heap.size + 1 + 1) (by decide) s (by omega) W0 (by omega) (by omega) hG0 bS.cell) keepT_t (fun W l o o' hl h ho _ => keepT_b W l o o' (by omega) (by omega) h ho) (Below.refl _ _) (fun _ => rfl)
    (fun pre W => (pre.map D.Tk.i <+: ts ∧ (Boxed W w.heap.size 35 v ∧ Boxed W (w.heap.size + 1) 4 (.bool false)) ∧ (Boxed W (w.heap.size + 1 + 1) 3 (.int .i64 (pre.length : Int)) ∧ Boxed W (w.heap.size + 1 + 1 + 1) 9 (.string s))) ∧ Below w.heap.size w W)
    (fun c pre W => (c = .ret ∧ ¬ (pre.map D.Tk.i <+: ts) ∧ Boxed W (w.heap.size + 1) 4 (.bool false)) ∧ Below w.heap.size w W)
    (OwnFrom.and (OwnFrom.and (ownFrom_pure _ _) (OwnFrom.and (OwnFrom.and (Own.from (boxed_own _ _ _) _) (Own.from (boxed_own _ _ _) _)) (OwnFrom.and (Own.from (boxed_own _ _ (fun pre : List D.Tk => Value.int .i64 (pre.length : Int))) _) (Own.from (boxed_own _ _ _) _)))) (ownFrom_below (Nat.le_refl _) (by omega)))
    (fun c => OwnFrom.and (rightX_own ts _ _ c) (ownFrom_below (Nat.le_refl _) (by omega)))
    ⟨⟨List.nil_prefix, ⟨bL, bO⟩, bN, bS⟩, hB0⟩
    (fun t a' W => ∃ N, w.heap.size + 1 + 1 + 1 < N ∧ TokRow W N t.k t.w t.l ∧ a' = { tmps := #[.string s, .slice z ts.length cap, undef, .pointer (some ⟨w.heap.size, 0, none⟩), .pointer (some ⟨w.heap.size + 1, 0, none⟩), .pointer (some ⟨w.heap.size + 1 + 1, 0, none⟩), .pointer (some ⟨N, 0, none⟩), .string s, .func (.func 63) #[] #[.pointer (some ⟨w.heap.size + 1 + 1 + 1, 0, none⟩)], tokV t, undef, undef, undef, undef, undef, undef, undef, undef, undef, undef, undef, undef, undef, undef, undef, undef, undef, undef], defers := [] })
    (fun t a' _ X Y row hs hg hr => by
      obtain ⟨N, h1, h2, h3⟩ := hs
      refine ⟨N, h1, ?_, h3⟩
      refine (hg.block N (Array.getElem?_eq_some_iff.1 h2).1 (fun e => ?_)).trans h2
      obtain ⟨_, o, ho, hc⟩ := hr N e.symm
      unfold TokRow at h2
      rw [h2] at ho
      cases ho
      cases hc)
    ?assign ?body ?done ?stop
  case assign =>
    rintro l pre x W K ⟨⟨hp, ⟨b1, b2⟩, b3, b4⟩, hB⟩ hK
    unfold tokV
    gi_wp2
    exact hK _ _ ((KeepsOthers.alloc _ _).from _) (keepT_below ((Below.refl _ W).alloc (Nat.le_refl _) _) b4.lt b3.lt) ⟨⟨hp, ⟨b1.alloc _, b2.alloc _⟩, b3.alloc _, b4.alloc _⟩, hB.alloc hB.size _⟩ ⟨W.heap.size, b4.lt, heap_alloc_new W _, rfl⟩
  case body =>
    rintro l pre x a' W hl ⟨r, hr⟩ ⟨⟨hp, ⟨b1, b2⟩, b3, b4⟩, hB⟩ ⟨N, hNx, rN, rfl⟩ hlt
    have HP := Lib.hid hp
    have hpl : pre.length ≤ ts.length := by have := hp.length_le; rwa [List.length_map] at this
    have HNo : ts[pre.length]? ≠ some x.i → ¬ ((pre ++ [x]).map D.Tk.i <+: ts) := fun h e => by
      rw [List.map_append, List.map_singleton] at e
      have h2 := (pfx_step HP.out).2 e
      rw [List.length_map] at h2
      exact h h2
    have HYes : ts[pre.length]? = some x.i → (pre ++ [x]).map D.Tk.i <+: ts := fun h => by
      rw [List.map_append, List.map_singleton]
      exact (pfx_step HP.out).1 (by rw [List.length_map]; exact h)
    have HQ := Lib.hid (And.intro HNo HYes)
    have HBl := Lib.hid hB
    have HB4 := Lib.hid b4
    have HRN := Lib.hid rN
    have hmx : Try.prog.follows .mixedOrders = true := by kernel_rfl
    have c1 := b1.cell
    have c2 := b2.cell
    have f2 := b2.frozen
    have c3 := b3.cell
    have f3 := b3.frozen
    have z0 : W.cell? ⟨N, 0, none⟩ = some (.int .u8 x.k) := by rw [Lib.cell_of_heap rN]; rfl
    have z1 : W.cell? ⟨N, 1, none⟩ = some (.int .i64 x.w) := by rw [Lib.cell_of_heap rN]; rfl
    have z2 : W.cell? ⟨N, 2, none⟩ = some (.int .i64 x.l) := by rw [Lib.cell_of_heap rN]; rfl
    rw [hv] at c1
    clear HNo HYes hp rN
    by_cases hfull : pre.length = ts.length
    · have e0 : ((pre.length : Int) == (ts.length : Int)) = true := by rw [beq_iff_eq]; omega
      have HX := Lib.hid (HQ.out.1 (by rw [hfull, List.getElem?_eq_none (Nat.le_refl _)]; intro e; cases e))
      gi_wp2
      gi_region_with_o (fail)
      all_goals gi_wp2
      all_goals exact ⟨((KeepsOthers.drew _).trans (KeepsOthers.setCell _ _ _)).from _, ⟨rfl, HX.out, Boxed.set (.bool false) b2⟩, (HBl.out.drew).setCell (p := ⟨w.heap.size + 1, 0, none⟩) (by simp) _⟩
    · obtain ⟨y, hy⟩ : ∃ y, ts[pre.length]? = some y := ⟨_, List.getElem?_eq_getElem (by omega)⟩
      have e0 : ((pre.length : Int) == (ts.length : Int)) = false := by rw [beq_eq_false_iff_ne]; omega
      obtain ⟨z', cap', hzz, _, _, _, _, hra⟩ := HRd.out.below HBl.out
      injection hzz with hz1 hz2 hz3
      subst hz1 hz3
      obtain ⟨ba, oa, rfl, _, d0, d1, d2⟩ := hra _ y hy
      have j1 : (pre.length : Int) < (ts.length : Int) := by omega
      have j0 : (0 : Int) ≤ (pre.length : Int) := Int.natCast_nonneg _
      have j3 : (pre.length : Int) ≤ 1000000000000000 := by omega
      by_cases he : y = x.i
      · have HX := Lib.hid (HQ.out.2 (by rw [hy, he]))
        subst he
        unfold D.Tk.i at d0 d1 d2
        simp only at d0 d1 d2
        clear hra hy
        obtain ⟨xk, xw, xl⟩ := x
        simp only at d0 d1 d2 z0 z1 z2
        gi_wp2
        gi_region_with_o (fail)
        all_goals gi_wp2
        all_goals exact ⟨((KeepsOthers.drew _).trans (KeepsOthers.setCell _ _ _)).from _, keepT_int b3 (by omega), ⟨HX.out, ⟨boxed_otherD (W := W.drewN _) b1 (by omega) _, boxed_otherD (W := W.drewN _) b2 (by omega) _⟩, by rw [List.length_append]; exact Boxed.set _ b3, boxed_otherD (W := W.drewN _) HB4.out (by omega) _⟩, (HBl.out.drew).setCell (p := ⟨w.heap.size + 1 + 1, 0, none⟩) (by simp; omega) _⟩
      · have HX := Lib.hid (HQ.out.1 (by rw [hy]; exact fun e => he (Option.some.inj e)))
        have hne := tki_ne he
        unfold D.Tk.i at hne
        obtain ⟨xk, xw, xl⟩ := x
        obtain ⟨yk, yw, yl⟩ := y
        simp only at d0 d1 d2 z0 z1 z2 hne
        clear hra hy he
        rcases hne with h1 | ⟨rfl, h1⟩ | ⟨rfl, rfl, h1⟩
        · have e1 : ((yk : Int) == (xk : Int)) = false := by rw [beq_eq_false_iff_ne]; omega
          clear h1
          gi_wp2
          gi_region_with_o (fail)
          all_goals gi_wp2
          all_goals exact ⟨((KeepsOthers.drew _).trans (KeepsOthers.setCell _ _ _)).from _, ⟨rfl, HX.out, Boxed.set (.bool false) b2⟩, (HBl.out.drew).setCell (p := ⟨w.heap.size + 1, 0, none⟩) (by simp) _⟩
        · have e1 : (yw == (xw : Int)) = false := by rw [beq_eq_false_iff_ne]; omega
          clear h1
          gi_wp2
          gi_region_with_o (fail)
          all_goals gi_wp2
          all_goals exact ⟨((KeepsOthers.drew _).trans (KeepsOthers.setCell _ _ _)).from _, ⟨rfl, HX.out, Boxed.set (.bool false) b2⟩, (HBl.out.drew).setCell (p := ⟨w.heap.size + 1, 0, none⟩) (by simp) _⟩
        · have e1 : (yl == (xl : Int)) = false := by rw [beq_eq_false_iff_ne]; omega
          clear h1
          gi_wp2
          gi_region_with_o (fail)
          all_goals gi_wp2
          all_goals exact ⟨((KeepsOthers.drew _).trans (KeepsOthers.setCell _ _ _)).from _, ⟨rfl, HX.out, Boxed.set (.bool false) b2⟩, (HBl.out.drew).setCell (p := ⟨w.heap.size + 1, 0, none⟩) (by simp) _⟩
  case done =>
    rintro D' ys W hD rfl ⟨⟨hp, ⟨b1, b2⟩, b3, b4⟩, hB⟩ hK
    have c1 := b1.cell
    rw [hv] at c1
    have f2 := b2.frozen
    have c2 := b2.cell
    have c3 := b3.cell
    have hlen2 := D.toks_len s
    have e0 : (((D.toks s).length : Int) == (ts.length : Int)) = b := by
      cases hbb : b
      · rw [beq_eq_false_iff_ne]
        intro e
        have := hp.eq_of_length (by rw [List.length_map]; omega)
        rw [HBo.out.2 this.symm] at hbb
        cases hbb
      · have := HBo.out.1 hbb
        rw [beq_iff_eq, this, List.length_map]
    generalize (D.toks s).length = m at *
    gi_wp2
    have b2' := Boxed.set (.bool b) b2
    have hB' := hB.setCell (p := ⟨w.heap.size + 1, 0, none⟩) (by simp) (.bool b)
    have hK' := (KeepsOthers.setCell W ⟨w.heap.size + 1, 0, none⟩ (.bool b)).same D' _ hK rfl
    generalize W.setCell ⟨w.heap.size + 1, 0, none⟩ (.bool b) = W' at *
    refine ⟨by simp, .inl ⟨_, _, rfl, run_takeDeferred hK', ?_⟩⟩
    have k2 := cell_kept b2'.cell (grownBy_putObj' _ D' (.deferred none)) (fun r e => by cases e; exact ⟨_, hK', rfl⟩)
    refine ⟨.bool b, ?_, rfl, hB'.trans (belowK_b (w := w) (Nat.le_refl _) _ D' _ _ (by omega) hK' rfl rfl)⟩
    simp [results, Try.results17, go_sem, k2]
  case stop =>
    rintro D' c pre W hD ⟨k, hk, rfl⟩ ⟨⟨rfl, hno, b2⟩, hB⟩ hK
    obtain rfl : b = false := by
      cases hbb : b
      · rfl
      · have := HBo.out.1 hbb
        exact absurd (by rw [this]; exact (List.take_prefix (k + 1) (D.toks s)).map D.Tk.i) hno
    gi_wp2
    refine ⟨by simp, .inl ⟨_, _, rfl, run_takeDeferred hK, ?_⟩⟩
    have k2 := cell_kept b2.cell (grownBy_putObj' _ D' (.deferred none)) (fun r e => by cases e; exact ⟨_, hK, rfl⟩)
    refine ⟨.bool false, ?_, rfl, hB.trans (belowK_b (w := w) (Nat.le_refl _) W D' _ _ (by omega) hK rfl rfl)⟩
    simp [results, Try.results17, go_sem, k2]
end Go.Proofs.Ytglanajglhneeaa
