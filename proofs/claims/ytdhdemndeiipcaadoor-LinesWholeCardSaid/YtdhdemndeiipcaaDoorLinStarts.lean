/- The program's Starts answers the offsets at which the lines begin, in memory of its own. Conditions: a string of at most 10^12 bytes. -/
import Derived.Test.YtdhdemndeiipcaaDoorLinLine
import Derived.Maps.AppendAt
namespace Go.Proofs.YtdhdemndeiipcaaDoor
open Go Go.RowKit Go.Shelf Go.Lib

attribute [local go_sem] Oper.semAt_some

theorem infoInt : (Tryd.prog.info? 3).map (fun i => (i.zero, i.size, i.bytes)) = some (some (.int .i64 0), 1, 8) := by kernel_rfl

/-- behind an append: the longer row, in memory of the call's own; nothing else has turned -/
def Appended (n₀ : Nat) (v : Value) (k : Nat) (xs : List Value) (w : World) (e : Ending) (w' : World) : Prop :=
  ∃ g cap, e = .returned (.slice (some ⟨g, 0, none⟩) (k + 1) cap) ∧ w'.ownsRow n₀ 3 1 (.slice (some ⟨g, 0, none⟩) (k + 1) cap) (k + 1) xs ∧ w.grownBy w' v.ownBlock

def AppState (n₀ : Nat) (v : Value) (k : Nat) (ys : List Value) (w : World) (p i : Value) (wr : World) : Prop :=
  (p = v ∧ i = .int .i64 0 ∧ wr = w) ∨ (i = .int .i64 1 ∧ ∃ g cap, p = .slice (some ⟨g, 0, none⟩) (k + 1) cap ∧ wr.ownsRow n₀ 3 1 (.slice (some ⟨g, 0, none⟩) (k + 1) cap) (k + 1) ys ∧ w.grownBy wr v.ownBlock)

set_option maxRecDepth 100000 in
set_option maxHeartbeats 1000000 in
theorem appendStarts_any (n₀ b : Nat) (v : Value) (k : Nat) (xs : List Value) (f t : Int) (w : World) (hown : w.ownsRow n₀ 3 1 v k xs) (hb : Boxed2 w b 29 (.int .i64 f) (.int .i64 t)) (hn₀ : n₀ ≤ w.heap.size) (hk : k ≤ 1000000000000) :
    Calls Tryd.prog 27 #[v, .slice (some ⟨b, 0, none⟩) 1 1] w (Appended n₀ v k (xs ++ [.int .i64 f]) w) := by
  obtain ⟨i0, hi, hz0, hz1, hz2⟩ := info_parts infoInt
  have HO := Lib.hid hown
  clear hown
  go_enter Tryd.func27, Tryd.ntmps27
  go_wp2_with fail
  go_loopw [0, 9] (fun p i wr => AppState n₀ v k (xs ++ [.int .i64 f]) w p i wr) (fun _ i _ => 1 - (RowKit.intOf i).toNat)
  case atStart => exact Or.inl ⟨rfl, rfl, rfl⟩
  case round =>
    rcases hrel with ⟨rfl, rfl, rfl⟩ | ⟨rfl, g, cap, rfl, hown', hgrow⟩
    · have c0 := hb.cell0
      have c1 := hb.cell1
      have hnew := cell_one_new (wr.alloc (.cells #[.int .i64 f, .int .i64 t] 29)) (.int .i64 f) 3
      rw [World.size_alloc] at hnew
      have HN := Lib.hid hnew
      clear hnew
      go_wp2_with (at_builtin; refine wpList_append_own _ rfl (.tmp 13) (.tmp 16) 37 rfl n₀ 3 i0 (.int .i64 0) 1 8 Tryd.underlying37 hi hz0 hz1 hz2 rfl (by decide) _ _ _ rfl ((HO.out.alloc _).alloc _) ⟨wr.heap.size + 1, 0, none⟩ 1 1 [.int .i64 f] rfl rfl HN.out (by simp [Value.oneCell']) (by unfold maxLen; omega) (by omega) (by simp; omega) ?_; intro v' w1 hown' hgrow _; obtain ⟨g', cap', rfl⟩ := ownsRow_succ hown')
      go_roundw
      case rel => exact Or.inr ⟨rfl, g', cap', rfl, hown', (((World.grownBy_alloc _ _ _).trans (World.grownBy_alloc _ _ _)).trans hgrow)⟩
      case measure => simp [RowKit.intOf]
    · have HG := Lib.hid hgrow
      have HR := Lib.hid hown'
      clear hgrow hown'
      go_wp2_with fail
      go_ret
      exact ⟨g, cap, rfl, HR.out, HG.out⟩

def offs (s : ByteArray) (pre : List Nat) : List Value := pre.map fun k => Value.int .i64 (L.fr s k)
theorem offs_snoc (s : ByteArray) (pre : List Nat) (k : Nat) : offs s (pre ++ [k]) = offs s pre ++ [.int .i64 (L.fr s k)] := by simp [offs]
/-- a slice of one's own that reads as the lines' offsets -/
def StartsAre (s : ByteArray) (w : World) (e : Ending) (w' : World) : Prop :=
  ∃ g cap, e = .returned (.slice (some ⟨g, 0, none⟩) (L.mny s) cap) ∧ w'.ownsRow w.heap.size 3 1 (.slice (some ⟨g, 0, none⟩) (L.mny s) cap) (L.mny s) (offs s (List.range (L.mny s))) ∧ Below w.heap.size w w'

set_option maxRecDepth 100000 in
set_option maxHeartbeats 1000000 in
theorem starts_any (s : ByteArray) (w : World) (hs : s.size ≤ 100000000000) :
    Calls Tryd.prog 16 #[.string s] w (StartsAre s w) := by
  have hm1 := L.mny_pos s
  have hm2 := L.mny_le s
  refine (callsIn_wide (n := 5)).1 ?_
  refine callsIn_of_wp_marks Tryd.func16 rfl trivial ?_ rfl
  simp only [Tryd.ntmps16, List.size_toArray, List.length_cons, List.length_nil, Nat.reduceAdd, Nat.reduceSub, Array.replicate_succ, Array.replicate_zero, List.push_toArray, List.append_toArray, List.nil_append, List.cons_append]
  gi_wp2
  refine ⟨trivial, (callsIn_wide.2 (each_any s _)).mono ?_⟩
  rintro e w' ⟨rfl, rfl⟩
  gi_wp2
  have bL := (Boxed.new w 37 (.slice none 0 0)).alloc (.cells #[.string s] 9)
  have bS := Boxed.new (w.alloc (.cells #[.slice none 0 0] 37)) 9 (.string s)
  simp only [World.size_alloc] at bS
  have hB0 : Below w.heap.size w ((w.alloc (.cells #[.slice none 0 0] 37)).alloc (.cells #[.string s] 9)) := ((Below.refl _ w).alloc (Nat.le_refl _) _).alloc (by simp) _
  have hsz : ((w.alloc (.cells #[.slice none 0 0] 37)).alloc (.cells #[.string s] 9)).heap.size = w.heap.size + 2 := by simp
  obtain ⟨W0, hW0⟩ : ∃ W0, (w.alloc (.cells #[.slice none 0 0] 37)).alloc (.cells #[.string s] 9) = W0 := ⟨_, rfl⟩
  rw [hW0] at bL bS hB0 hsz ⊢
  clear hW0
  refine wpIn_rangeFunc_ownH rfl (by decide) (gf := 31) (lb := #[.pointer (some ⟨w.heap.size + 1, 0, none⟩)]) rfl trivial (enters_of Tryd.func31 (by kernel_rfl) rfl)
    (each_stops (5 - 1) (w.heap.size + 1) (by decide) s (by omega) W0 (by omega) bS.cell) keepS_t (fun W l o o' _ h ho _ => keepS_b W l o o' h ho) (Below.refl _ _) (fun _ => rfl)
    (fun pre W => ((∃ v, Boxed W w.heap.size 37 v ∧ W.ownsRow w.heap.size 3 1 v pre.length (offs s pre) ∧ True) ∧ Boxed W (w.heap.size + 1) 9 (.string s)) ∧ Below w.heap.size w W)
    (fun _ _ _ => False)
    (OwnFrom.and (OwnFrom.and (Own.from (holdsRow_own w.heap.size w.heap.size 37 3 1 (fun (pre : List Nat) => pre.length) (fun pre => offs s pre) (fun _ _ => True)) _) (Own.from (boxed_own _ _ _) _)) (ownFrom_below (Nat.le_refl _) (by omega)))
    (fun _ _ _ _ _ hs _ _ => hs)
    ⟨⟨⟨_, bL, World.ownsRow_nil _ _ _ _, trivial⟩, bS⟩, hB0⟩
    (fun k a' W => ∃ B, w.heap.size + 1 < B ∧ Boxed2 W B 29 (.int .i64 (L.fr s k)) (.int .i64 (L.to s k)) ∧ a' = { tmps := #[.string s, undef, .slice none 0 0, .pointer (some ⟨w.heap.size, 0, none⟩), undef, .pointer (some ⟨B, 0, none⟩), .string s, .func (.func 31) #[] #[.pointer (some ⟨w.heap.size + 1, 0, none⟩)], .int .i64 k, .agg #[.int .i64 (L.fr s k), .int .i64 (L.to s k)], undef, undef, undef, undef, undef], defers := [] })
    (fun k a' _ X Y row hs hg hr => by obtain ⟨B, h1, h2, h3⟩ := hs; exact ⟨B, h1, boxed2_own B _ (fun _ => _) (fun _ => _) () X Y row h2 hg (fun r e => (hr r e).2), h3⟩)
    ?assign ?body ?done ?stop
  case assign =>
    rintro l pre x W K ⟨⟨⟨v, b1, hrow, _⟩, b2⟩, hB⟩ hK
    unfold span
    gi_wp2
    exact hK _ _ ((KeepsOthers.alloc _ _).from _) (fun _ => (b2.alloc _).cell) ⟨⟨⟨v, b1.alloc _, hrow.alloc _, trivial⟩, b2.alloc _⟩, hB.alloc hB.size _⟩ ⟨W.heap.size, b2.lt, Boxed2.new W _ _ _, rfl⟩
  case body =>
    rintro l pre x a' W hl ⟨r, hr⟩ ⟨⟨⟨v, b1, hrow, _⟩, b2⟩, hB⟩ ⟨B, hBx, bX, rfl⟩ hlt
    have c1 := b1.cell
    have cX := bX.cell0
    have cX' := bX.cell1
    have hcall := appendStarts_any w.heap.size W.heap.size v pre.length (offs s pre) (L.fr s x) (L.to s x) _ (hrow.alloc _) (Boxed2.new W 29 _ _) (by simp; have := hB.size; omega) (by omega)
    gi_wp2
    refine ⟨trivial, (CallsIn.inRound l (callsIn_wide.2 hcall)).mono ?_⟩
    rintro e w1 ⟨g, cap, rfl, hown', hgrow⟩
    obtain ⟨hv1, hv2, hr2, hk2, hb2⟩ := b1.appended (by decide) hrow hB.size (Nat.le_refl _) hown' hgrow
    have hc1 := hv1.cell
    have hf1 := hv1.frozen
    have b2' := (b2.alloc _).kept hgrow (b2.not_row (by decide) hrow)
    gi_wp2
    exact ⟨hk2.from _, fun _ => (b2'.other (by omega) _).cell, ⟨⟨_, hv2, by rw [offs_snoc, List.length_append]; exact hr2, trivial⟩, b2'.other (by omega) _⟩, hB.trans hb2⟩
  case done =>
    rintro D ys W hD rfl ⟨⟨⟨v, b1, hrow, _⟩, b2⟩, hB⟩ hK
    rw [List.length_range, show L.mny s = (L.mny s - 1) + 1 by omega] at hrow
    obtain ⟨g, cap, rfl⟩ := ownsRow_succ hrow
    rw [show (L.mny s - 1) + 1 = L.mny s by omega] at hrow b1
    have c1 := b1.cell
    gi_wp2
    refine ⟨by simp, .inl ⟨_, _, rfl, run_takeDeferred hK, ?_⟩⟩
    exact ⟨_, results_tmp rfl _ _ _, g, cap, rfl, ownsRow_putObj hrow _ hK rfl, hB.trans (belowK_b (w := w) (Nat.le_refl _) W D _ _ (by omega) hK rfl rfl)⟩
  case stop =>
    rintro D c pre W _ _ h _
    exact h.elim
end Go.Proofs.YtdhdemndeiipcaaDoor
