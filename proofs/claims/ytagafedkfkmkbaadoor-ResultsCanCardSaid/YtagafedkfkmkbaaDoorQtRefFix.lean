/- The document's own Fix. Conditions: a string of at most 10^12 bytes. -/
import Derived.Test.YtagafedkfkmkbaaDoorQtBase
import Derived.Test.YtagafedkfkmkbaaDoorUtfRefN
namespace Go.Proofs
open Go Go.RowKit Go.Shelf Go.Lib

namespace YtagafedkfkmkbaaDoor
set_option maxHeartbeats 1000000 in
set_option maxRecDepth 100000 in
theorem refFix_any (s : ByteArray) (w : World) (hs : s.size ≤ 1000000000000) :
    Calls Tryd.prog 88 #[.string s] w (StrIs (U.fixS s) w) := by
  obtain ⟨i0, hi, hz0, hz1, hz2⟩ := info_parts infoByte
  go_enter Tryd.func88, Tryd.ntmps88
  go_wp2_with fail
  go_loopw [3, 4] (fun v p wr => ∃ (f pos : Nat) (l : List UInt8), p = .int .i64 pos ∧ pos ≤ s.size ∧ l.length ≤ 3 * pos ∧ wr.ownsRow w.heap.size 5 1 v l.length (U.cellsOf l) ∧ Hid (l ++ U.fixFrom s f pos = U.fixL s ∧ s.size ≤ pos + f) ∧ Below w.heap.size w wr) (fun _ p _ => s.size - (RowKit.intOf p).toNat)
  case atStart => exact ⟨s.size, 0, [], rfl, by omega, by simp, World.ownsRow_nil _ _ _ _, Lib.hid ⟨rfl, by omega⟩, Below.refl _ _⟩
  case round =>
    obtain ⟨f, pos, l, rfl, hp, hl, hown, HU, hbl⟩ := hrel
    by_cases hlt : pos < s.size
    · have hw1 := U.wd_pos hlt
      have hw2 := U.wd_le hlt
      obtain ⟨f', rfl⟩ : ∃ f', f = f' + 1 := ⟨f - 1, by have := HU.out.2; omega⟩
      have HS := Lib.hid (U.fixFrom_step s f' pos hlt)
      have hpl := (U.piece_le hlt).1
      cases hbad : U.bad s pos
      · have hc := fun W => refNext_good s pos W hlt hs hbad
        have HC := Lib.hid (U.strCells_ext s pos (U.wd s pos) hw2)
        have HP := Lib.hid (U.piece_good hbad)
        clear hbad
        have hz : (s.extract pos (pos + U.wd s pos)).size = U.wd s pos := by rw [ByteArray.size_extract]; omega
        generalize hd : U.wd s pos = d at *
        have HD := Lib.hid hd
        have HZ := Lib.hid hz
        clear hd hz
        generalize U.ch s pos = c at *
        go_wp2_with fail
        refine (hc _).mono ?_
        rintro e w1 ⟨rfl, hb⟩
        have hown1 := own8_below hown hb
        have hbl1 := hbl.trans (hb.mono hbl.size)
        clear hown hb hbl hc
        go_wp2_with (at_builtin; refine wpList_append_own_string _ rfl _ _ 109 9 rfl w.heap.size 5 i0 Tryd.underlying109 Tryd.underlying9 hi hz0 hz1 hz2 _ l.length (U.cellsOf l) rfl hown1 _ rfl ?c3 ?c4 hbl1.size ?_)
        case c3 => rw [HZ.out]; unfold maxLen; omega
        case c4 => rw [HZ.out]; omega
        intro v' w2 hown2 hgrow _
        go_wp2_with fail
        go_roundw
        case rel =>
          refine ⟨f', pos + d, l ++ U.piece s pos, by go_num, by omega, by rw [List.length_append]; omega, ?_, Lib.hid ⟨?_, ?_⟩, hbl1.grown hgrow hbl1.size (fun k hk => (hown1.lt k hk).1)⟩
          · have h1 : (U.piece s pos).length = d := by rw [HP.out]; unfold U.stretch; rw [List.length_map, List.length_range]
            rw [List.length_append, h1, ← U.cellsOf_append, HP.out, ← HC.out]
            exact hown2
          · rw [List.append_assoc, ← HS.out]; exact HU.out.1
          · have := HU.out.2; omega
        case measure => simp [RowKit.intOf]; omega
      · have hc := fun W => refNext_bad s pos W hlt hs hbad
        have HP := Lib.hid (U.piece_bad hbad)
        have HW := Lib.hid (U.bad_wd hbad)
        clear hbad
        go_wp2_with fail
        refine (hc _).mono ?_
        rintro e w1 ⟨rfl, hb⟩
        have hown1 := own8_below hown hb
        have hbl1 := hbl.trans (hb.mono hbl.size)
        clear hown hb hbl hc
        go_wp2_with (at_builtin; refine wpList_append_own _ rfl _ _ 109 rfl w.heap.size 5 i0 (.int .u8 0) 1 1 Tryd.underlying109 hi hz0 hz1 hz2 rfl (by decide) _ l.length (U.cellsOf l) rfl (hown1.alloc _) ⟨w1.heap.size, 0, none⟩ 3 3 [.int .u8 239, .int .u8 191, .int .u8 189] rfl rfl ?c1 ?c2 ?c3 ?c4 ?c5 ?_)
        case c1 =>
          intro j u hj
          match j, hj with
          | 0, hj => simp at hj; subst hj; simp [Addr.add]
          | 1, hj => simp at hj; subst hj; simp [Addr.add]
          | 2, hj => simp at hj; subst hj; simp [Addr.add]
          | (j + 3), hj => simp at hj
        case c2 => intro u hu; simp at hu; rcases hu with rfl | rfl | rfl <;> rfl
        case c3 => unfold maxLen; omega
        case c4 => omega
        case c5 => have := hbl1.size; simp; omega
        intro v' w2 hown2 hgrow _
        go_wp2_with fail
        go_roundw
        case rel =>
          refine ⟨f', pos + 1, l ++ U.piece s pos, by go_num, by omega, by rw [List.length_append, HP.out]; simp; omega, ?_, Lib.hid ⟨?_, ?_⟩, (hbl1.alloc hbl1.size _).grown hgrow (hbl1.alloc hbl1.size _).size (fun k hk => (hown1.lt k hk).1)⟩
          · rw [List.length_append, ← U.cellsOf_append, HP.out]
            exact hown2
          · rw [List.append_assoc, ← HW.out, ← HS.out]; exact HU.out.1
          · have := HU.out.2; omega
        case measure => simp [RowKit.intOf]; omega
    · have hconv := conv_own hown
      have HE := Lib.hid (U.fixFrom_end s f pos hlt)
      clear hown
      go_wp2_with fail
      go_ret
      refine ⟨?_, hbl⟩
      have := HU.out.1
      rw [HE.out, List.append_nil] at this
      unfold U.fixS
      rw [← this]
      rfl
end YtagafedkfkmkbaaDoor
end Go.Proofs
