/- What a head tells: the number of its body's bytes, or what the reader dies of. Conditions: a head of at most 2^10 bytes; the library's own variable holds a number. -/
import Derived.Test.YtmaclplhphfkiaaDoorFrSeq
import Derived.Test.YtmaclplhphfkiaaDoorFrLine
import Derived.Test.YtmaclplhphfkiaaDoorFrMost
import Derived.Test.YtmaclplhphfkiaaDoorFrHead
import Derived.Shelf.Strings.Fold
import Derived.Shelf.Strings.Prefix
namespace Go.Proofs.YtmaclplhphfkiaaDoor
open Go Go.RowKit Go.Shelf Go.Lib F

attribute [local go_sem] Oper.semAt_some

namespace F
theorem ascii_name (n : Bs) (h : okName n = true) : ∀ (j : Nat) (b : UInt8), n[j]? = some b → b.toNat < 128 := fun j b hb => by
  unfold okName at h
  rw [Bool.and_eq_true, List.all_eq_true] at h
  have := h.2 b (List.mem_of_getElem? hb)
  simp at this
  omega
def cl : ByteArray := ⟨#[67, 111, 110, 116, 101, 110, 116, 45, 76, 101, 110, 103, 116, 104]⟩
theorem ascii_cl : ∀ (j : Nat) (b : UInt8), cl.data.toList[j]? = some b → b.toNat < 128 := fun j b hb => by
  have hall : ∀ b ∈ cl.data.toList, b.toNat < 128 := by decide
  exact hall b (List.mem_of_getElem? hb)
theorem sizes_snoc (pre : List Bs) (x : Bs) : sizes (pre ++ [x]) = if isLen (nm x) then sizes pre ++ [trim (vl x)] else sizes pre := by
  unfold sizes
  rw [List.filter_append]
  by_cases h : isLen (nm x) = true
  · simp [h]
  · simp [h]
theorem sizes_le (ls : List Bs) : (sizes ls).length ≤ ls.length := by
  unfold sizes
  rw [List.length_map]
  exact List.length_filter_le _ _
theorem splF_len : ∀ (f : Nat) (l : Bs), (splF f l).length ≤ f + 1
  | 0, l => by simp [splF]
  | f + 1, l => by
    unfold splF
    split
    · simp
    · have := splF_len f (l.drop ((Lib.index l [13, 10]).toNat + 2))
      simp only [List.length_cons]; omega
theorem spl_len (l : Bs) : (spl l).length ≤ l.length + 1 := splF_len _ _
theorem spl_mem_len : ∀ (n : Nat) (l : Bs), l.length ≤ n → ∀ x ∈ spl l, x.length ≤ l.length := by
  intro n
  induction n with
  | zero =>
    intro l h x hx
    obtain rfl : l = [] := List.length_eq_zero_iff.1 (by omega)
    have : x ∈ [([] : Bs)] := hx
    rw [List.mem_singleton.1 this]; exact Nat.le_refl _
  | succ n ih =>
    intro l h x hx
    rw [spl_eq] at hx
    split at hx
    · rw [List.mem_singleton.1 hx]; exact Nat.le_refl _
    · rcases List.mem_cons.1 hx with rfl | hx
      · rw [List.length_take]; omega
      · by_cases hl : l.length = 0
        · obtain rfl : l = [] := List.length_eq_zero_iff.1 hl
          exact absurd (show Lib.index ([] : Bs) [13, 10] < 0 by decide) (by assumption)
        · have := ih _ (by rw [List.length_drop]; omega) x hx
          rw [List.length_drop] at this; omega
theorem bare_len (p : Bs) : (bare p).length ≤ p.length := by
  unfold bare
  split
  · rw [List.length_take]; omega
  · exact Nat.le_refl _
end F
set_option maxRecDepth 100000 in
set_option maxHeartbeats 1000000 in
theorem isLen_any (n : Bs) (hn : okName n = true) (hl : n.length ≤ 1000000) (w : World) :
    Calls Tryd.prog 123 #[.string (ba n), .string ⟨#[67, 111, 110, 116, 101, 110, 116, 45, 76, 101, 110, 103, 116, 104]⟩] w (Stay (.bool (isLen n)) w) := by
  refine (Any.strings_EqualFold Tryd.laysEqualFold (ba n) cl w (by rw [ba_size]; omega) (fun j b hb => ascii_name n hn j b hb) ascii_cl).mono ?_
  rintro e w' ⟨he, hw⟩
  exact ⟨he, hw.symm⟩
/-- the three boxes of the iterator -/
def SeqMade (s : Bs) (w : World) (e : Ending) (w' : World) : Prop :=
  e = .returned (.func (.func 171) #[] #[.pointer (some ⟨w.heap.size + 1, 0, none⟩), .pointer (some ⟨w.heap.size, 0, none⟩), .pointer (some ⟨w.heap.size + 2, 0, none⟩)]) ∧
  w' = ((w.alloc (.cells #[.string (ba s)] 9)).alloc (.cells #[.string ⟨#[13, 10]⟩] 9)).alloc (.cells #[.int .i64 0] 3)
set_option maxRecDepth 100000 in
set_option maxHeartbeats 1000000 in
theorem splitSeq_any (s : Bs) (w : World) : Calls Tryd.prog 146 #[.string (ba s), .string ⟨#[13, 10]⟩, .int .i64 0] w (SeqMade s w) := by
  go_enter Tryd.func146, Tryd.ntmps146
  go_wp2_with fail
  go_ret
  exact ⟨rfl, rfl⟩
set_option maxRecDepth 100000 in
set_option maxHeartbeats 1000000 in
theorem SplitSeq_any (s : Bs) (w : World) : Calls Tryd.prog 120 #[.string (ba s), .string ⟨#[13, 10]⟩] w (SeqMade s w) := by
  have h := splitSeq_any s w
  go_enter Tryd.func120, Tryd.ntmps120
  go_wp2_with fail
  refine h.mono ?_
  rintro e w' ⟨rfl, rfl⟩
  go_wp2_with fail
  go_ret
  exact ⟨rfl, rfl⟩
/-- the six boxes -/
structure Made (s : Bs) (w W0 : World) : Prop where
  b0 : Boxed W0 w.heap.size 3 (.int .i64 0)
  b1 : Boxed W0 (w.heap.size + 1) 26 (.int .i64 0)
  b2 : Boxed W0 (w.heap.size + 2) 46 (.slice none 0 0)
  b3 : Boxed W0 (w.heap.size + 3) 9 (.string (ba s))
  b4 : Boxed W0 (w.heap.size + 4) 9 (.string ⟨#[13, 10]⟩)
  b5 : Boxed W0 (w.heap.size + 5) 3 (.int .i64 0)
  below : Below w.heap.size w W0
  size : W0.heap.size = w.heap.size + 6
theorem made_of (s : Bs) (w : World) : Made s w ((((((w.alloc (.cells #[.int .i64 0] 3)).alloc (.cells #[.int .i64 0] 26)).alloc (.cells #[.slice none 0 0] 46)).alloc (.cells #[.string (ba s)] 9)).alloc (.cells #[.string ⟨#[13, 10]⟩] 9)).alloc (.cells #[.int .i64 0] 3)) := by
  have k1 : ∀ (W : World) n, W.heap.size = n → ∀ t v, Boxed (W.alloc (.cells #[v] t)) n t v := fun W n h t v => by rw [← h]; exact Boxed.new W t v
  refine ⟨?_, ?_, ?_, ?_, ?_, ?_, ?_, ?_⟩
  · exact ((((((k1 _ _ rfl _ _).alloc _).alloc _).alloc _).alloc _).alloc _)
  · exact (((((k1 _ _ (by simp) _ _).alloc _).alloc _).alloc _).alloc _)
  · exact ((((k1 _ _ (by simp) _ _).alloc _).alloc _).alloc _)
  · exact (((k1 _ _ (by simp) _ _).alloc _).alloc _)
  · exact ((k1 _ _ (by simp) _ _).alloc _)
  · exact (k1 _ _ (by simp) _ _)
  · exact (((((((Below.refl _ w).alloc (Nat.le_refl _) _).alloc (by simp) _).alloc (by simp; omega) _).alloc (by simp; omega) _).alloc (by simp; omega) _).alloc (by simp; omega) _)
  · simp
theorem split_walks (n bS bP bK : Nat) (hn : 1 ≤ n) (s : Bs) (hs : s.length ≤ 1000000) (hSP : bS ≠ bP) (hSK : bS ≠ bK) (hSG : bS ≠ 10) (w : World) (hbS : Boxed w bS 9 (.string (ba s))) (hbP : Boxed w bP 9 (.string ⟨#[13, 10]⟩)) (hbK : Boxed w bK 3 (.int .i64 0))
    (hE : ∃ m, w.cell? ⟨10, 0, none⟩ = some (.int .i64 m)) :
    Walks Fence.wide n Tryd.prog 171 #[.pointer (some ⟨bP, 0, none⟩), .pointer (some ⟨bS, 0, none⟩), .pointer (some ⟨bK, 0, none⟩)] (fun x : Bs => #[Value.string (ba x)]) (KeepB (SeqB bS bP bK)) bS (spl s) (fun _ => True) w := by
  intro l J Jx W hW hJ hY h0
  obtain ⟨m, hm⟩ := hE
  exact split1_in n l bS bP bK hn s hs hSP hSK hSG J Jx hJ hY W ((hW.block _ hbS.lt).trans hbS) ((hW.block _ hbP.lt).trans hbP) ((hW.block _ hbK.lt).trans hbK) ⟨m, cell_block hm (hW.block _ (World.block_lt_of_cell? w _ hm))⟩ h0
theorem keepsFrom_below {B : Nat} {W W' : World} (h : Below W.heap.size W W') : KeepsFrom B W W' := ⟨h.size, fun k o _ hk _ => (h.block k (Array.getElem?_eq_some_iff.1 hk).1).trans hk⟩
theorem keepB_below {S : Nat → Prop} {W W' : World} (h : Below W.heap.size W W') (hS : ∀ k, S k → k < W.heap.size) : KeepB S W W' := fun k hk => h.block k (hS k hk)
theorem keepB_set {S : Nat → Prop} (W : World) (b : Nat) (v : Value) (hb : ¬ S b) : KeepB S W (W.setCell ⟨b, 0, none⟩ v) := fun k hk => Below.heap_setCell W ⟨b, 0, none⟩ v k (fun e => hb (by have e' : k = b := e; rw [← e']; exact hk))
theorem szrow_below {W W' : World} {base : Nat} {e : TypeId} {size n : Nat} {v : Value} {xs : List Value} (h : W.ownsRow base e size v n xs) (hB : Below W.heap.size W W') : W'.ownsRow base e size v n xs :=
  h.kept (row := none) ⟨hB.os, hB.tape, hB.output, hB.size, fun k hk _ => hB.block k hk⟩ (by cases v.ownBlock <;> simp)
theorem row_ne {W : World} {base b : Nat} {e : TypeId} {v : Value} {k size : Nat} {xs : List Value} (h : W.ownsRow base e size v k xs) (hb : b < base) : v.ownBlock ≠ some b := by
  rcases h.2 with ⟨rfl, _⟩ | ⟨g, cap, cur, rfl, hg, _⟩
  · simp [Value.ownBlock]
  · intro e'
    have : g = b := by simpa [Value.ownBlock] using e'
    omega
/-- behind an append, and its store -/
theorem app_after {W1 w2 : World} {n0 b k m : Nat} {v v' : Value} {xs ys : List Value} {e : TypeId} (tmp : Obj) (hrow : W1.ownsRow (n0 + 6) e 1 v k xs) (hsz : n0 + 6 ≤ W1.heap.size) (hgrow : (W1.alloc tmp).grownBy w2 v.ownBlock) (hown : w2.ownsRow (n0 + 6) e 1 v' m ys) (hb : b < n0 + 6) (hb0 : n0 ≤ b) :
    (∀ k, k < n0 + 6 → w2.heap[k]? = W1.heap[k]?) ∧ KeepsFrom (n0 + 6) W1 (w2.setCell ⟨b, 0, none⟩ v') ∧ (∀ k, k < n0 + 6 → k ≠ b → (w2.setCell ⟨b, 0, none⟩ v').heap[k]? = W1.heap[k]?) ∧ (w2.setCell ⟨b, 0, none⟩ v').ownsRow (n0 + 6) e 1 v' m ys ∧ Below n0 W1 (w2.setCell ⟨b, 0, none⟩ v') := by
  have h2 : ∀ k, k < n0 + 6 → w2.heap[k]? = W1.heap[k]? := fun k hk => (hgrow.block k (by rw [World.size_alloc]; omega) (fun e => row_ne (b := k) hrow hk e.symm)).trans (Below.heap_alloc W1 tmp k (by omega))
  have h3 : ∀ k, k < n0 + 6 → k ≠ b → (w2.setCell ⟨b, 0, none⟩ v').heap[k]? = W1.heap[k]? := fun k hk hkb => (Below.heap_setCell w2 ⟨b, 0, none⟩ v' k hkb).trans (h2 k hk)
  have hs := hgrow.size
  rw [World.size_alloc] at hs
  refine ⟨h2, ?_, h3, hown.kept (grownBy_setCell' w2 b v') (.inr (row_ne (b := b) hown hb)), hgrow.os, hgrow.tape, hgrow.output, by rw [World.size_setCell]; omega, fun k hk => h3 k (by omega) (by omega)⟩
  refine (((KeepsOthers.alloc W1 tmp).trans (KeepsOthers.of_grownBy hgrow fun j o ej hj => ?_)).trans (KeepsOthers.setCell _ _ _)).from _
  rcases (hrow.alloc tmp).2 with ⟨rfl, _⟩ | ⟨g, cap, cur, rfl, _, hgb, _⟩
  · simp [Value.ownBlock] at ej
  · obtain rfl : g = j := by simpa [Value.ownBlock] using ej
    rw [hgb] at hj; cases hj; rfl
/-- between two rounds -/
def SzI (w : World) (pre : List Bs) (W : World) : Prop :=
  ((((Boxed W w.heap.size 3 (.int .i64 0) ∧ Boxed W (w.heap.size + 1) 26 (.int .i64 0)) ∧ (∃ v, Boxed W (w.heap.size + 2) 46 v ∧ W.ownsRow (w.heap.size + 6) 9 1 v (sizes pre).length (strs (sizes pre)) ∧ True)) ∧ Below w.heap.size w W) ∧
    ((∃ m, W.cell? ⟨10, 0, none⟩ = some (.int .i64 m)) ∧ w.heap.size + 6 ≤ W.heap.size)) ∧ pre.all okLine = true
/-- behind a round that has left -/
def SzX (w : World) (ls : List Bs) (_pre : List Bs) (W : World) : Prop :=
  ((Boxed W w.heap.size 3 (.int .i64 0) ∧ Boxed W (w.heap.size + 1) 26 (.int .i64 50)) ∧ Below w.heap.size w W) ∧ ls.all okLine = false
theorem maxLen_own {β : Type} (g : Nat) : Own (fun (_ : β) W => ∃ m, W.cell? ⟨g, 0, none⟩ = some (.int .i64 m)) := fun _ X Y row hs hg hr => by
  obtain ⟨m, hm⟩ := hs
  exact ⟨m, cell_kept hm hg hr⟩
theorem size_own {β : Type} (B n : Nat) : OwnFrom B (fun (_ : β) W => n ≤ W.heap.size) := fun _ _ _ _ hs hg _ => Nat.le_trans hs hg.size
theorem szI_own (w : World) : OwnFrom (w.heap.size + 6) (SzI w) :=
  (OwnFrom.and (OwnFrom.and (OwnFrom.and (OwnFrom.and (OwnFrom.and (Own.from (boxed_own _ _ _) _) (Own.from (boxed_own _ _ _) _)) (Own.from (holdsRow_own (w.heap.size + 6) (w.heap.size + 2) 46 9 1 (fun pre => (sizes pre).length) (fun pre => strs (sizes pre)) (fun _ _ => True)) _)) (ownFrom_below (Nat.le_refl _) (by omega)))
    (OwnFrom.and (Own.from (maxLen_own _) _) (size_own _ _))) (ownFrom_pure _ (fun pre : List Bs => pre.all okLine = true)))
theorem szX_own (w : World) (ls : List Bs) : OwnFrom (w.heap.size + 6) (SzX w ls) :=
  (OwnFrom.and (OwnFrom.and (OwnFrom.and (Own.from (boxed_own _ _ _) _) (Own.from (boxed_own _ _ _) _)) (ownFrom_below (Nat.le_refl _) (by omega))) (ownFrom_pure _ (fun _ : List Bs => ls.all okLine = false)))
theorem szI_leaves (w : World) (hG : 10 < w.heap.size) : Leaves (w.heap.size + 3) (SzI w) := by
  rintro s W v ⟨⟨⟨⟨⟨a0, a1⟩, u, a2, hr, -⟩, hB⟩, ⟨m, hm⟩, hsz⟩, hall⟩
  exact ⟨⟨⟨⟨⟨a0.other (B' := w.heap.size + 3) (by omega) _, a1.other (B' := w.heap.size + 3) (by omega) _⟩, u, a2.other (B' := w.heap.size + 3) (by omega) _, hr.kept (grownBy_setCell' W (w.heap.size + 3) v) (.inr (row_ne (b := w.heap.size + 3) hr (by omega))), trivial⟩, hB.setCell (p := ⟨w.heap.size + 3, 0, none⟩) (by show w.heap.size ≤ w.heap.size + 3; omega) v⟩,
    ⟨m, cell_block hm (Below.heap_setCell _ _ _ _ (by show 10 ≠ w.heap.size + 3; omega))⟩, by rw [World.size_setCell]; exact hsz⟩, hall⟩
theorem two_cells {W : World} {D a b : Nat} {o : Option Obj} {x y : Value} (h : W.heap[D]? = o) (h1 : D ≠ a) (h2 : D ≠ b) : ((W.setCell ⟨a, 0, none⟩ x).setCell ⟨b, 0, none⟩ y).heap[D]? = o :=
  (Below.heap_setCell _ ⟨b, 0, none⟩ y D h2).trans ((Below.heap_setCell W ⟨a, 0, none⟩ x D h1).trans h)
theorem put_end {w W : World} {D : Nat} {x y : Value} {t u : TypeId} (hD : w.heap.size + 6 ≤ D) (a0 : Boxed W w.heap.size t x) (a1 : Boxed W (w.heap.size + 1) u y) (hB : Below w.heap.size w W) {o o' : Obj} (hK : W.heap[D]? = some o) :
    (W.putObj D o').cell? ⟨w.heap.size, 0, none⟩ = some x ∧ (W.putObj D o').cell? ⟨w.heap.size + 1, 0, none⟩ = some y ∧ Below w.heap.size w (W.putObj D o') := by
  have k : ∀ b, b < w.heap.size + 6 → (W.putObj D o').heap[b]? = W.heap[b]? := fun b hb => World.putObj_heap_other (by omega)
  exact ⟨cell_block a0.cell (k _ (by show w.heap.size < _; omega)), cell_block a1.cell (k _ (by show w.heap.size + 1 < _; omega)), hB.os, hB.tape, hB.output, by have := hB.size; simp [World.putObj]; exact this, fun b hb => (k b (by omega)).trans (hB.block b hb)⟩
set_option maxRecDepth 100000 in
set_option maxHeartbeats 1000000 in
theorem bodySize_any (p : Bs) (w : World) (hp : p.length ≤ 1024) (hE : ∃ m, w.cell? ⟨10, 0, none⟩ = some (.int .i64 m)) :
    Calls Tryd.prog 94 #[.string (ba p)] w (SizeIs p w) := by
  have hts := fun W => Any.strings_TrimSuffix Tryd.laysTrimSuffix (ba p) ⟨#[13, 10, 13, 10]⟩ W (by rw [ba_size]; omega)
  change ∀ W, Calls Tryd.prog 121 #[.string (ba p), .string ⟨#[13, 10, 13, 10]⟩] W (fun e w' => e = .returned (.string (ba (bare p))) ∧ w' = W) at hts
  have hsq := fun W => SplitSeq_any (bare p) W
  have hbl := bare_len p
  have hbs : bs p = if (spl (bare p)).all okLine then told (sizes (spl (bare p))) else (0, 50) := rfl
  generalize bare p = q at *
  refine (callsIn_wide (n := 5)).1 ?_
  refine callsIn_of_wp_marks Tryd.func94 rfl trivial ?_ rfl
  simp only [Tryd.ntmps94, List.size_toArray, List.length_cons, List.length_nil, Nat.reduceAdd, Nat.reduceSub, Array.replicate_succ, Array.replicate_zero, List.push_toArray, List.append_toArray, List.nil_append, List.cons_append]
  gi_wp2
  refine ⟨trivial, (callsIn_wide.2 (hts _)).mono ?_⟩
  rintro e w' ⟨rfl, rfl⟩
  gi_wp2
  refine ⟨trivial, (callsIn_wide.2 (hsq _)).mono ?_⟩
  rintro e w' ⟨rfl, rfl⟩
  gi_wp2
  obtain ⟨iS, hiS, hzS0, hzS1, hzS2⟩ := info_parts fS
  have hmade := made_of q w
  simp only [Nat.add_assoc, Nat.reduceAdd]
  generalize ((((((w.alloc (.cells #[.int .i64 0] 3)).alloc (.cells #[.int .i64 0] 26)).alloc (.cells #[.slice none 0 0] 46)).alloc (.cells #[.string (ba q)] 9)).alloc (.cells #[.string ⟨#[13, 10]⟩] 9)).alloc (.cells #[.int .i64 0] 3)) = W0 at *
  obtain ⟨b0, b1, b2, b3, b4, b5, hB0, hsz0⟩ := hmade
  have hG : 10 < w.heap.size := by obtain ⟨m, hm⟩ := hE; exact World.block_lt_of_cell? w _ hm
  have hE0 : ∃ m, W0.cell? ⟨10, 0, none⟩ = some (.int .i64 m) := by obtain ⟨m, hm⟩ := hE; exact ⟨m, cell_block hm (hB0.block _ hG)⟩
  have hwalks := split_walks (5 - 1) (w.heap.size + 3) (w.heap.size + 4) (w.heap.size + 5) (by decide) q (by omega) (by omega) (by omega) (by omega) W0 b3 b4 b5 hE0
  have hown := szI_own w
  have hownX := szX_own w (spl q)
  rw [← hsz0] at hown hownX
  refine wpIn_range_own rfl (by decide) (gf := 171) (lb := #[.pointer (some ⟨w.heap.size + 4, 0, none⟩), .pointer (some ⟨w.heap.size + 3, 0, none⟩), .pointer (some ⟨w.heap.size + 5, 0, none⟩)]) rfl trivial (enters_of Tryd.func171 (by kernel_rfl) rfl)
    hwalks (by omega) keepB_t (fun W l o h => keepB_put (n := W0.heap.size) (fun k hk => by rcases hk with rfl | rfl | rfl | rfl <;> omega) W l o h) (fun _ => rfl) (SzI w) (SzX w (spl q)) hown hownX (szI_leaves w hG)
    ⟨⟨⟨⟨⟨b0, b1⟩, _, b2, World.ownsRow_nil _ _ _ _, trivial⟩, hB0⟩, hE0, by omega⟩, rfl⟩
    (fun x => { tmps := #[.string (ba p), undef, .pointer (some ⟨w.heap.size, 0, none⟩), .pointer (some ⟨w.heap.size + 1, 0, none⟩), .pointer (some ⟨w.heap.size + 2, 0, none⟩), .string (ba x), undef, undef, undef, undef, .string (ba p), .string (ba q),
          .func (.func 171) #[] #[.pointer (some ⟨w.heap.size + 4, 0, none⟩), .pointer (some ⟨w.heap.size + 3, 0, none⟩), .pointer (some ⟨w.heap.size + 5, 0, none⟩)], .string (ba x), undef, undef, undef, undef, undef, undef, undef, undef, undef, undef, undef, undef, undef, undef, undef, undef, undef, undef, undef, undef, undef, undef, undef, undef, undef, undef, undef, undef, undef, undef, undef], defers := [] }) ?assign ?body ?done ?stop
  case assign =>
    intro l x W K hK
    gi_wp2
    simpa using hK
  case body =>
    rintro l pre x W ⟨⟨⟨⟨⟨a0, a1⟩, v, a2, hrow, -⟩, hB⟩, hE1, hsz6⟩, hall⟩ hpre
    have hmem : x ∈ spl q := by obtain ⟨t, ht⟩ := hpre; rw [← ht]; simp
    have hxl := spl_mem_len q.length q (Nat.le_refl _) x hmem
    have hpl : (pre ++ [x]).length ≤ q.length + 1 := Nat.le_trans hpre.length_le (spl_len q)
    have hszl := sizes_le pre
    rw [List.length_append, List.length_singleton] at hpl
    have hcl := cutLine_any x (by omega) W hE1
    have hnml := (cut_len x).1
    by_cases hok : okLine x = true
    · have hon : okName (nm x) = true := by
        unfold okLine at hok
        simp only [Bool.and_eq_true] at hok
        exact hok.2.1
      have hil := fun W => isLen_any (nm x) hon (by omega) W
      have hsn := sizes_snoc pre x
      have hal : (pre ++ [x]).all okLine = true := by rw [List.all_append, hall, List.all_cons, hok]; rfl
      gi_wp2
      refine ⟨trivial, (CallsIn.inRound l (callsIn_wide.2 hcl)).mono ?_⟩
      rintro e w1 ⟨he, -, hB1⟩
      obtain rfl := he hok
      clear he
      have hsz := hB.size
      have hsz1 := hB1.size
      have hlt0 := a0.lt
      have hlt2 := a2.lt
      have a0' : Boxed w1 _ _ _ := (hB1.block _ a0.lt).trans a0
      have a1' : Boxed w1 _ _ _ := (hB1.block _ a1.lt).trans a1
      have a2' : Boxed w1 _ _ _ := (hB1.block _ a2.lt).trans a2
      have hrow' := szrow_below hrow hB1
      have hE1' : ∃ m, w1.cell? ⟨10, 0, none⟩ = some (.int .i64 m) := by obtain ⟨m, hm⟩ := hE1; exact ⟨m, cell_block hm (hB1.block _ (World.block_lt_of_cell? W _ hm))⟩
      have hSk : ∀ k, SeqB (w.heap.size + 3) (w.heap.size + 4) (w.heap.size + 5) k → k < W.heap.size := fun k hk => by rcases hk with rfl | rfl | rfl | rfl <;> omega
      cases hL : isLen (nm x)
      · rw [hL] at hil hsn
        gi_wp2
        refine ⟨trivial, (CallsIn.inRound l (callsIn_wide.2 (hil w1))).mono ?_⟩
        rintro e w' ⟨rfl, rfl⟩
        gi_wp2
        refine ⟨keepsFrom_below hB1, keepB_below hB1 hSk, ⟨⟨⟨⟨⟨a0', a1'⟩, v, a2', ?_, trivial⟩, hB.trans (hB1.mono hB.size)⟩, hE1', by omega⟩, hal⟩⟩
        rw [hsn]
        exact hrow'
      · rw [hL] at hil hsn
        have c2 := a2'.cell
        gi_wp2
        refine ⟨trivial, (CallsIn.inRound l (callsIn_wide.2 (hil w1))).mono ?_⟩
        rintro e w' ⟨rfl, rfl⟩
        have HO := Lib.hid hrow'
        have HN := Lib.hid (heap_alloc_new w1 (.cells #[.string (ba (trim (vl x)))] 9))
        have hlen1 : (sizes pre).length ≤ 100000 := by omega
        clear hrow' hrow
        gi_wp2_with (gi_at_builtin; refine wpListIn_append_own _ rfl _ _ 46 rfl (w.heap.size + 6) 9 iS _ 1 16 Tryd.underlying46 hiS hzS0 hzS1 hzS2 rfl (by decide) v (sizes pre).length (strs (sizes pre)) rfl (HO.out.alloc _) ⟨w1.heap.size, 0, none⟩ 1 1 [.string (ba (trim (vl x)))] rfl rfl ?n1 ?n2 ?n3 ?n4 ?n5 ?_)
        case n1 => intro j u hj; exact World.news_of_block (cs := #[.string (ba (trim (vl x)))]) (t := 9) (fr := (0, 0)) HN.out j u hj
        case n2 => intro u hu; rw [List.mem_singleton.1 hu]; rfl
        case n3 => unfold maxLen; omega
        case n4 => omega
        case n5 => rw [World.size_alloc]; omega
        intro v' w2 hown2 hgrow2 _
        obtain ⟨g', cap', rfl⟩ := ownsRow_succ hown2
        obtain ⟨hk2, hkf, hk3, hown3, hB3⟩ := app_after (b := w.heap.size + 2) _ HO.out (by omega) hgrow2 hown2 (by omega) (by omega)
        have a2'' : Boxed w2 _ _ _ := (hk2 _ (by omega)).trans a2'
        have d2 := a2''.cell
        have g2 := a2''.frozen
        have hE3 : ∃ m, (w2.setCell ⟨w.heap.size + 2, 0, none⟩ (.slice (some ⟨g', 0, none⟩) ((sizes pre).length + 1) cap')).cell? ⟨10, 0, none⟩ = some (.int .i64 m) := by obtain ⟨m, hm⟩ := hE1'; exact ⟨m, cell_block hm (hk3 _ (by show 10 < _; omega) (by show 10 ≠ _; omega))⟩
        have HF := Lib.hid (And.intro hkf (And.intro hk3 (And.intro hown3 (And.intro hB3 hE3))))
        clear hkf hk3 hown3 hB3 hE3 hk2 hown2 hgrow2 HO HN c2
        gi_wp2
        obtain ⟨hkf, hk3, hown3, hB3, hE3⟩ := HF.out
        refine ⟨(keepsFrom_below hB1).trans hkf, keepB_t (keepB_below hB1 hSk) (fun k hk => hk3 k (by rcases hk with rfl | rfl | rfl | rfl <;> omega) (by rcases hk with rfl | rfl | rfl | rfl <;> omega)),
          ⟨⟨⟨⟨⟨(hk3 _ (by omega) (by omega)).trans a0', (hk3 _ (by omega) (by omega)).trans a1'⟩, _, a2''.set _, ?_, trivial⟩, (hB.trans (hB1.mono hB.size)).trans hB3⟩, hE3, ?_⟩, hal⟩⟩
        · rw [hsn]
          simp only [if_true]
          rw [List.length_append, List.length_singleton, strs_append]
          exact hown3
        · have := hB3.size; omega
    · have hok : okLine x = false := by simpa using hok
      have hal : (spl q).all okLine = false := by
        rw [List.all_eq_false]
        exact ⟨x, hmem, by rw [hok]; decide⟩
      gi_wp2
      refine ⟨trivial, (CallsIn.inRound l (callsIn_wide.2 hcl)).mono ?_⟩
      rintro e w1 ⟨-, he, hB1⟩
      obtain rfl := he hok
      clear he
      have a0' : Boxed w1 _ _ _ := (hB1.block _ a0.lt).trans a0
      have a1' : Boxed w1 _ _ _ := (hB1.block _ a1.lt).trans a1
      have c0 := a0'.cell
      have c1 := a1'.cell
      have f0 := a0'.frozen
      have f1 := a1'.frozen
      gi_wp2
      exact ⟨((keepsFrom_below hB1).trans ((KeepsOthers.setCell _ _ _).from _)).trans ((KeepsOthers.setCell _ _ _).from _),
        ⟨⟨(a0'.set _).other (by omega) _, (a1'.other (by omega) _).set _⟩, ((hB.trans (hB1.mono hB.size)).setCell (p := ⟨w.heap.size, 0, none⟩) (Nat.le_refl _) _).setCell (p := ⟨w.heap.size + 1, 0, none⟩) (by simp) _⟩, hal⟩
  case done =>
    rintro D W hD ⟨⟨⟨⟨⟨a0, a1⟩, v, a2, hrow, -⟩, hB⟩, hE1, hsz6⟩, hall⟩ hK
    rw [hall, if_pos rfl] at hbs
    have hlen := Nat.le_trans (sizes_le (spl q)) (spl_len q)
    generalize sizes (spl q) = vs at *
    have c2 := a2.cell
    match vs, hrow, hlen with
    | [], hrow, hlen =>
      have hv : ∃ z c, v = .slice z 0 c := by
        rcases hrow.2 with ⟨rfl, _⟩ | ⟨g, cap, cur, rfl, _⟩
        · exact ⟨_, _, rfl⟩
        · exact ⟨_, _, rfl⟩
      obtain ⟨z, c, rfl⟩ := hv
      obtain ⟨x0, x1, hB'⟩ := put_end (W := (W.setCell ⟨w.heap.size, 0, none⟩ (.int .i64 0)).setCell ⟨w.heap.size + 1, 0, none⟩ (.int .i64 50)) (by omega) ((a0.set (.int .i64 0)).other (by omega) _) ((a1.other (by omega) _).set (.int .i64 50)) ((hB.setCell (p := ⟨w.heap.size, 0, none⟩) (Nat.le_refl _) _).setCell (p := ⟨w.heap.size + 1, 0, none⟩) (by simp) _) (two_cells hK (by omega) (by omega)) (o' := .deferred none)
      have hK' := two_cells (x := .int .i64 0) (y := .int .i64 50) hK (show D ≠ w.heap.size by omega) (show D ≠ w.heap.size + 1 by omega)
      have e0 := a0.cell
      have e1 := a1.cell
      have f0 := a0.frozen
      have f1 := a1.frozen
      gi_wp2
      refine ⟨trivial, ?_⟩
      gi_wp2
      refine ⟨by simp, .inl ⟨_, _, rfl, run_takeDeferred hK', ?_⟩⟩
      exact ⟨.tuple #[.int .i64 0, .int .i64 50], by simp [results, Tryd.results94, go_sem, x0, x1], by rw [hbs]; rfl, hB'⟩
    | [x], hrow, hlen =>
      obtain ⟨g, cap, rfl⟩ : ∃ g cap, v = .slice (some ⟨g, 0, none⟩) 1 cap := ownsRow_succ (k := 0) hrow
      have cx : W.cell? ⟨g, 0, none⟩ = some (.string (ba x)) := hrow.cellAt 0 (by decide)
      have hin := fun W => isNumber_any x W
      have e0 := a0.cell
      have e1 := a1.cell
      have f0 := a0.frozen
      have f1 := a1.frozen
      have hto : told [x] = if isNum x then (if num x > 262144 then (0, 51) else (num x, 0)) else (0, 50) := rfl
      clear hrow hall hE1
      cases hN : isNum x
      · rw [hN] at hin hto
        gi_wp2
        refine ⟨trivial, (callsIn_wide.2 (hin _)).mono ?_⟩
        rintro e w1 ⟨rfl, hB1⟩
        have a0' : Boxed w1 _ _ _ := (hB1.block _ a0.lt).trans a0
        have a1' : Boxed w1 _ _ _ := (hB1.block _ a1.lt).trans a1
        have a2' : Boxed w1 _ _ _ := (hB1.block _ a2.lt).trans a2
        have hB2 := hB.trans (hB1.mono hB.size)
        have hKw : w1.heap[D]? = _ := (hB1.block _ (Array.getElem?_eq_some_iff.1 hK).1).trans hK
        clear c2 cx
        obtain ⟨x0, x1, hB'⟩ := put_end (W := (w1.setCell ⟨w.heap.size, 0, none⟩ (.int .i64 0)).setCell ⟨w.heap.size + 1, 0, none⟩ (.int .i64 50)) (by omega) ((a0'.set (.int .i64 0)).other (by omega) _) ((a1'.other (by omega) _).set (.int .i64 50)) ((hB2.setCell (p := ⟨w.heap.size, 0, none⟩) (Nat.le_refl _) _).setCell (p := ⟨w.heap.size + 1, 0, none⟩) (by simp) _) (two_cells hKw (by omega) (by omega)) (o' := .deferred none)
        have hK' := two_cells (x := .int .i64 0) (y := .int .i64 50) hKw (show D ≠ w.heap.size by omega) (show D ≠ w.heap.size + 1 by omega)
        have e0 := a0'.cell
        have e1 := a1'.cell
        have f0 := a0'.frozen
        have f1 := a1'.frozen
        gi_wp2
        refine ⟨by simp, .inl ⟨_, _, rfl, run_takeDeferred hK', ?_⟩⟩
        exact ⟨.tuple #[.int .i64 0, .int .i64 50], by simp [results, Tryd.results94, go_sem, x0, x1], by rw [hbs, hto]; rfl, hB'⟩
      · rw [hN] at hin hto
        have ham := fun W => atMost_any x hN W
        rw [if_pos rfl] at hto
        gi_wp2
        refine ⟨trivial, (callsIn_wide.2 (hin _)).mono ?_⟩
        rintro e w1 ⟨rfl, hB1⟩
        have d2 : w1.cell? ⟨w.heap.size + 2, 0, none⟩ = _ := cell_block c2 (hB1.block _ a2.lt)
        have dx : w1.cell? ⟨g, 0, none⟩ = some (.string (ba x)) := cell_block cx (hB1.block _ (World.block_lt_of_cell? W _ cx))
        clear c2 cx e0 e1 f0 f1
        gi_wp2
        refine ⟨trivial, (callsIn_wide.2 (ham _)).mono ?_⟩
        rintro e w2 ⟨rfl, hB2'⟩
        have hB12 := hB1.trans (hB2'.mono hB1.size)
        have a0' : Boxed w2 _ _ _ := (hB12.block _ a0.lt).trans a0
        have a1' : Boxed w2 _ _ _ := (hB12.block _ a1.lt).trans a1
        have a2' : Boxed w2 _ _ _ := (hB12.block _ a2.lt).trans a2
        have hB2 := hB.trans (hB12.mono hB.size)
        have hKw : w2.heap[D]? = _ := (hB12.block _ (Array.getElem?_eq_some_iff.1 hK).1).trans hK
        clear d2 dx
        by_cases hbig : num x > 262144
        · rw [if_pos hbig] at hto
          have hb1 : (num x : Int) > 262144 := by omega
          obtain ⟨x0, x1, hB'⟩ := put_end (W := (w2.setCell ⟨w.heap.size, 0, none⟩ (.int .i64 0)).setCell ⟨w.heap.size + 1, 0, none⟩ (.int .i64 51)) (by omega) ((a0'.set (.int .i64 0)).other (by omega) _) ((a1'.other (by omega) _).set (.int .i64 51)) ((hB2.setCell (p := ⟨w.heap.size, 0, none⟩) (Nat.le_refl _) _).setCell (p := ⟨w.heap.size + 1, 0, none⟩) (by simp) _) (two_cells hKw (by omega) (by omega)) (o' := .deferred none)
          have hK' := two_cells (x := .int .i64 0) (y := .int .i64 51) hKw (show D ≠ w.heap.size by omega) (show D ≠ w.heap.size + 1 by omega)
          have e0 := a0'.cell
          have e1 := a1'.cell
          have f0 := a0'.frozen
          have f1 := a1'.frozen
          gi_wp2
          refine ⟨by simp, .inl ⟨_, _, rfl, run_takeDeferred hK', ?_⟩⟩
          exact ⟨.tuple #[.int .i64 0, .int .i64 51], by simp [results, Tryd.results94, go_sem, x0, x1], by rw [hbs, hto]; rfl, hB'⟩
        · rw [if_neg hbig] at hto
          have hb1 : ¬ (num x : Int) > 262144 := by omega
          generalize num x = nx at *
          obtain ⟨x0, x1, hB'⟩ := put_end (W := (w2.setCell ⟨w.heap.size, 0, none⟩ (.int .i64 (nx : Nat))).setCell ⟨w.heap.size + 1, 0, none⟩ (.int .i64 0)) (by omega) ((a0'.set (.int .i64 (nx : Nat))).other (by omega) _) ((a1'.other (by omega) _).set (.int .i64 0)) ((hB2.setCell (p := ⟨w.heap.size, 0, none⟩) (Nat.le_refl _) _).setCell (p := ⟨w.heap.size + 1, 0, none⟩) (by simp) _) (two_cells hKw (by omega) (by omega)) (o' := .deferred none)
          have hK' := two_cells (x := .int .i64 (nx : Nat)) (y := .int .i64 0) hKw (show D ≠ w.heap.size by omega) (show D ≠ w.heap.size + 1 by omega)
          have e0 := a0'.cell
          have e1 := a1'.cell
          have f0 := a0'.frozen
          have f1 := a1'.frozen
          gi_wp2
          refine ⟨by simp, .inl ⟨_, _, rfl, run_takeDeferred hK', ?_⟩⟩
          exact ⟨.tuple #[.int .i64 (nx : Nat), .int .i64 0], by simp [results, Tryd.results94, go_sem, x0, x1], by rw [hbs, hto]; rfl, hB'⟩
    | x :: y :: r, hrow, hlen =>
      have hv : ∃ z c, v = .slice z (r.length + 2) c := by
        rcases hrow.2 with ⟨rfl, h⟩ | ⟨g, cap, cur, rfl, _⟩
        · cases h
        · exact ⟨_, _, rfl⟩
      obtain ⟨z, c, rfl⟩ := hv
      obtain ⟨x0, x1, hB'⟩ := put_end (W := (W.setCell ⟨w.heap.size, 0, none⟩ (.int .i64 0)).setCell ⟨w.heap.size + 1, 0, none⟩ (.int .i64 50)) (by omega) ((a0.set (.int .i64 0)).other (by omega) _) ((a1.other (by omega) _).set (.int .i64 50)) ((hB.setCell (p := ⟨w.heap.size, 0, none⟩) (Nat.le_refl _) _).setCell (p := ⟨w.heap.size + 1, 0, none⟩) (by simp) _) (two_cells hK (by omega) (by omega)) (o' := .deferred none)
      have hK' := two_cells (x := .int .i64 0) (y := .int .i64 50) hK (show D ≠ w.heap.size by omega) (show D ≠ w.heap.size + 1 by omega)
      have e0 := a0.cell
      have e1 := a1.cell
      have f0 := a0.frozen
      have f1 := a1.frozen
      have hn1 : (((r.length + 2 : Nat) : Int) != 1) = true := by simp; omega
      gi_wp2
      refine ⟨trivial, ?_⟩
      gi_wp2
      refine ⟨by simp, .inl ⟨_, _, rfl, run_takeDeferred hK', ?_⟩⟩
      exact ⟨.tuple #[.int .i64 0, .int .i64 50], by simp [results, Tryd.results94, go_sem, x0, x1], by rw [hbs]; rfl, hB'⟩
  case stop =>
    rintro D pre W hD - ⟨⟨⟨a0, a1⟩, hB⟩, hall⟩ hK
    rw [hall] at hbs
    unfold SizeIs
    rw [hbs]
    gi_wp2
    obtain ⟨x0, x1, hB'⟩ := put_end (by omega) a0 a1 hB hK
    refine ⟨by simp, .inl ⟨_, _, rfl, run_takeDeferred hK, ?_⟩⟩
    exact ⟨.tuple #[.int .i64 0, .int .i64 50], by simp [results, Tryd.results94, go_sem, x0, x1], rfl, hB'⟩
/-- what a head tells is known -/
theorem bsOk : BsOk := fun p w hp hE => bodySize_any p w hp hE
end Go.Proofs.YtmaclplhphfkiaaDoor
