/- The document's own Fix. Conditions: a string of at most 10^12 bytes. -/
import Derived.Test.YtdgmbmoaeoakpaaDoorMC11
import Derived.Test.YtdgmbmoaeoakpaaDoorMC12
import Derived.Test.YtdgmbmoaeoakpaaDoorMC21
namespace Go.Proofs
open Go Go.RowKit Go.Shelf Go.Lib

namespace YtdgmbmoaeoakpaaDoor
set_option maxHeartbeats 1000000 in
set_option maxRecDepth 100000 in
theorem refFix_any (s : ByteArray) (w : World) (hs : s.size ≤ 1000000000000) :
    Calls Tryd.prog 82 #[.string s] w (StrIs (U.fixS s) w) := by
  obtain ⟨i0, hi, hz0, hz1, hz2⟩ := info_parts infoByte
  go_enter Tryd.func82, Tryd.ntmps82
  go_wp2_with fail
  go_loopw [3, 4] (fun v p wr => ∃ (f pos : Nat) (l : List UInt8), p = .int .i64 pos ∧ pos ≤ s.size ∧ l.length ≤ 3 * pos ∧ wr.ownsRow w.heap.size 5 1 v l.length (U.cellsOf l) ∧ Hid (l ++ U.fixFrom s f pos = U.fixL s ∧ s.size ≤ pos + f) ∧ Below w.heap.size w wr) (fun _ p _ => s.size - (RowKit.intOf p).toNat)
  case atStart => exact ⟨s.size, 0, [], rfl, by omega, by simp, World.ownsRow_nil _ _ _ _, Lib.hid ⟨rfl, by omega⟩, Below.refl _ _⟩
  case round =>
    obtain ⟨f, pos, l, rfl, hp, hl, hown, HU, hbl⟩ := hrel
    by_cases hlt : pos < s.size
    · have hw1 := U.wd_pos hlt
      have hw2 := U.wd_le hlt
      obtain ⟨f', rfl⟩ : ∃ f', f = f' + 1 := ⟨f - 1, by have := HU.out.2; omega⟩
      have HS := Lib.hid (U.fixFrom_step s f' pos hlt)
      have hpl := (U.piece_le hlt).1
      cases hbad : U.bad s pos
      · have hc := fun W => refNext_good s pos W hlt hs hbad
        have HC := Lib.hid (U.strCells_ext s pos (U.wd s pos) hw2)
        have HP := Lib.hid (U.piece_good hbad)
        clear hbad
        have hz : (s.extract pos (pos + U.wd s pos)).size = U.wd s pos := by rw [ByteArray.size_extract]; omega
        generalize hd : U.wd s pos = d at *
        have HD := Lib.hid hd
        have HZ := Lib.hid hz
        clear hd hz
        generalize U.ch s pos = c at *
        go_wp2_with fail
        refine (hc _).mono ?_
        rintro e w1 ⟨rfl, hb⟩
        have hown1 := own8_below hown hb
        have hbl1 := hbl.trans (hb.mono hbl.size)
        clear hown hb hbl hc
        go_wp2_with (at_builtin; refine wpList_append_own_string _ rfl _ _ 107 9 rfl w.heap.size 5 i0 Tryd.underlying107 Tryd.underlying9 hi hz0 hz1 hz2 _ l.length (U.cellsOf l) rfl hown1 _ rfl ?c3 ?c4 hbl1.size ?_)
        case c3 => rw [HZ.out]; unfold maxLen; omega
        case c4 => rw [HZ.out]; omega
        intro v' w2 hown2 hgrow _
        go_wp2_with fail
        go_roundw
        case rel =>
          refine ⟨f', pos + d, l ++ U.piece s pos, by go_num, by omega, by rw [List.length_append]; omega, ?_, Lib.hid ⟨?_, ?_⟩, hbl1.grown hgrow hbl1.size (fun k hk => (hown1.lt k hk).1)⟩
          · have h1 : (U.piece s pos).length = d := by rw [HP.out]; unfold U.stretch; rw [List.length_map, List.length_range]
            rw [List.length_append, h1, ← U.cellsOf_append, HP.out, ← HC.out]
            exact hown2
          · rw [List.append_assoc, ← HS.out]; exact HU.out.1
          · have := HU.out.2; omega
        case measure => simp [RowKit.intOf]; omega
      · have hc := fun W => refNext_bad s pos W hlt hs hbad
        have HP := Lib.hid (U.piece_bad hbad)
        have HW := Lib.hid (U.bad_wd hbad)
        clear hbad
        go_wp2_with fail
        refine (hc _).mono ?_
        rintro e w1 ⟨rfl, hb⟩
        have hown1 := own8_below hown hb
        have hbl1 := hbl.trans (hb.mono hbl.size)
        clear hown hb hbl hc
        go_wp2_with (at_builtin; refine wpList_append_own _ rfl _ _ 107 rfl w.heap.size 5 i0 (.int .u8 0) 1 1 Tryd.underlying107 hi hz0 hz1 hz2 rfl (by decide) _ l.length (U.cellsOf l) rfl (hown1.alloc _) ⟨w1.heap.size, 0, none⟩ 3 3 [.int .u8 239, .int .u8 191, .int .u8 189] rfl rfl ?c1 ?c2 ?c3 ?c4 ?c5 ?_)
        case c1 =>
          intro j u hj
          match j, hj with
          | 0, hj => simp at hj; subst hj; simp [Addr.add]
          | 1, hj => simp at hj; subst hj; simp [Addr.add]
          | 2, hj => simp at hj; subst hj; simp [Addr.add]
          | (j + 3), hj => simp at hj
        case c2 => intro u hu; simp at hu; rcases hu with rfl | rfl | rfl <;> rfl
        case c3 => unfold maxLen; omega
        case c4 => omega
        case c5 => have := hbl1.size; simp; omega
        intro v' w2 hown2 hgrow _
        go_wp2_with fail
        go_roundw
        case rel =>
          refine ⟨f', pos + 1, l ++ U.piece s pos, by go_num, by omega, by rw [List.length_append, HP.out]; simp; omega, ?_, Lib.hid ⟨?_, ?_⟩, (hbl1.alloc hbl1.size _).grown hgrow (hbl1.alloc hbl1.size _).size (fun k hk => (hown1.lt k hk).1)⟩
          · rw [List.length_append, ← U.cellsOf_append, HP.out]
            exact hown2
          · rw [List.append_assoc, ← HW.out, ← HS.out]; exact HU.out.1
          · have := HU.out.2; omega
        case measure => simp [RowKit.intOf]; omega
    · have hconv := conv_own hown
      have HE := Lib.hid (U.fixFrom_end s f pos hlt)
      clear hown
      go_wp2_with fail
      go_ret
      refine ⟨?_, hbl⟩
      have := HU.out.1
      rw [HE.out, List.append_nil] at this
      unfold U.fixS
      rw [← this]
      rfl
end YtdgmbmoaeoakpaaDoor
end Go.Proofs

namespace Go.Proofs
open Go Go.RowKit Go.Shelf Go.Lib

namespace YtdgmbmoaeoakpaaDoor
set_option maxHeartbeats 1000000 in
set_option maxRecDepth 100000 in
theorem refText4_any (s : ByteArray) (w : World) (hs : s.size ≤ 1000000000000) :
    Calls Tryd.prog 44 #[.string s] w (TextIs (U.fixS s) w) := by
  have hfix := fun W => refFix_any s W hs
  generalize U.fixS s = F at *
  have hB0 := (Below.refl w.heap.size w).alloc (Nat.le_refl _) (.cells #[.int .u8 0, .string ⟨#[]⟩, .slice none 0 0, .slice none 0 0] 25)
  have b0 : Blk4 (w.alloc (.cells #[.int .u8 0, .string ⟨#[]⟩, .slice none 0 0, .slice none 0 0] 25)) w.heap.size 25 _ _ _ _ := heap_alloc_new _ _
  go_enter Tryd.func44, Tryd.ntmps44
  go_wp2_with fail
  refine (hfix _).mono ?_
  rintro e w3 ⟨rfl, hB3⟩
  have b3 := b0.same (hB3.block _ b0.lt)
  have hB4 := hB0.trans (hB3.mono hB0.size)
  obtain ⟨x0, x1, x2, x3⟩ := b3.box
  have f0 := b3.free 0
  have f1 := b3.free 1
  have f2 := b3.free 2
  have f3 := b3.free 3
  have HB := Lib.hid (And.intro b3 hB4)
  clear b0 b3 hB0 hB3 hB4 hfix
  go_wp2_with fail
  obtain ⟨g1, g2, g3⟩ := HB.out.1.all (.int .u8 4) (.string F) (.slice none 0 0) (.slice none 0 0)
  have hfin := HB.out.2.trans (g3 w.heap.size (Nat.le_refl _))
  clear x0 x1 x2 x3 f0 f1 f2 f3
  generalize (((w3.setCell ⟨w.heap.size, 0, none⟩ (.int .u8 4)).setCell ⟨w.heap.size, 1, none⟩ (.string F)).setCell ⟨w.heap.size, 2, none⟩ (.slice none 0 0)).setCell ⟨w.heap.size, 3, none⟩ (.slice none 0 0) = W' at *
  obtain ⟨x0, x1, x2, x3⟩ := g1.box
  refine bodyPost_ret (v := .agg #[.int .u8 4, .string F, .slice none 0 0, .slice none 0 0]) (by simp [results, Tryd.results44, go_sem, x0, x1, x2, x3]) rfl ?_
  exact ⟨rfl, hfin⟩
end YtdgmbmoaeoakpaaDoor
end Go.Proofs

namespace Go.Proofs.YtdgmbmoaeoakpaaDoor
open Go Go.RowKit Go.Lib

def tcells : List ByteArray → List Value
  | [] => []
  | s :: r => .int .u8 4 :: .string (U.fixS s) :: .slice none 0 0 :: .slice none 0 0 :: tcells r
theorem tcells_len (l : List ByteArray) : (tcells l).length = l.length * 4 := by
  induction l with
  | nil => rfl
  | cons s r ih => simp [tcells, ih]; omega
theorem tcells_app (a b : List ByteArray) : tcells (a ++ b) = tcells a ++ tcells b := by
  induction a with
  | nil => rfl
  | cons s r ih => simp [tcells, ih]
theorem txt_hr {w : World} {A : Nat → Prop} {b : Nat} (hA : A b) : ∀ (l : List ByteArray) (o : Nat), (∀ s ∈ l, s.size ≤ 1000) → (∀ j u, (tcells l)[j]? = some u → w.cell? ⟨b, o + j, none⟩ = some u) → HR w A 0 b o (txT l)
  | [], _, _, _ => trivial
  | s :: r, o, hz, h => by
    refine ⟨hA, fun _ => rfl, (fun e => by cases e), h 0 _ rfl, h 1 _ rfl, ⟨_, h 2 _ rfl, .inl ⟨rfl, rfl⟩⟩, ⟨_, h 3 _ rfl, .inl ⟨rfl, rfl⟩⟩, fix_fit (by have := hz s (List.mem_cons_self ..); omega), ?_⟩
    exact txt_hr hA r (o + 4) (fun s hs => hz s (List.mem_cons_of_mem _ hs)) (fun j u hu => by
      have := h (j + 4) u hu
      rw [show o + (j + 4) = o + 4 + j by omega] at this
      exact this)
theorem txt_hs {w : World} {base : Nat} {v : Value} {l : List ByteArray} (h : w.ownsRow base 25 4 v l.length (tcells l)) (hz : ∀ s ∈ l, s.size ≤ 1000) (hn : l.length ≤ 1000) : HS w (Fre base w) 0 v (txT l) := by
  rcases h.2 with ⟨e, h3⟩ | ⟨g, cap, cur, e, h3, h4, h5, h6, h7, h8⟩
  · obtain rfl : l = [] := by
      cases l with
      | nil => rfl
      | cons x r => cases h3
    rw [e]
    exact HS.nil _ _ _
  · subst e
    refine .inr (.inr ⟨g, 0, cap, by rw [txT_len], by rw [txT_len]; exact h5, ⟨h6, by rw [txT_len]; omega⟩, txt_hr ⟨h3, fun j => h.frozenAt j⟩ l 0 hz (fun j u hu => ?_)⟩)
    have hj := (List.getElem?_eq_some_iff.1 hu).1
    rw [tcells_len] at hj
    rw [Nat.zero_add, h.cellAt j hj]
    exact hu
theorem own_else {w : World} {base b j n size : Nat} {e : TypeId} {v y : Value} {xs : List Value} (h : w.ownsRow base e size v n xs) (hne : v.ownBlock ≠ some b) : (w.setCell ⟨b, j, none⟩ y).ownsRow base e size v n xs := by
  refine ⟨h.1, ?_⟩
  rcases h.2 with h1 | ⟨g, cap, cur, rfl, hb, hg, rest⟩
  · exact .inl h1
  · exact .inr ⟨g, cap, cur, rfl, hb, (Below.heap_setCell _ _ _ g (fun e => hne (by rw [e]; rfl))).trans hg, rest⟩
structure TxG (w : World) (v : Value) (xs : List Value) (i : Nat) (W : World) : Prop where
  below : Below w.heap.size w W
  lt : w.heap.size + 2 ≤ W.heap.size
  b0 : Blk4 W w.heap.size 25 (.int .u8 0) (.string ⟨#[]⟩) (.slice none 0 0) (.slice none 0 0)
  b1 : Blk4 W (w.heap.size + 1) 25 (.int .u8 5) (.string ⟨#[]⟩) v (.slice none 0 0)
  own : W.ownsRow (w.heap.size + 2) 25 4 v i xs
theorem TxG.on {w : World} {v : Value} {xs : List Value} {i : Nat} {W W' : World} (h : TxG w v xs i W) (hB : Below W.heap.size W W') : TxG w v xs i W' :=
  ⟨h.below.trans (hB.mono h.below.size), Nat.le_trans h.lt hB.size, h.b0.same (hB.block _ h.b0.lt), h.b1.same (hB.block _ h.b1.lt), ownsRow_below h.own hB⟩
end Go.Proofs.YtdgmbmoaeoakpaaDoor
