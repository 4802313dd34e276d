/- The document's own Quote: a string in quotes. Conditions: a string of at most 10^11 bytes. -/
import Derived.Test.YtoolkaahjmnjeaaGreatDoorMW39
import Derived.Test.YtoolkaahjmnjeaaGreatDoorMW33
import Derived.Test.YtoolkaahjmnjeaaGreatDoorMW21
namespace Go.Proofs.YtoolkaahjmnjeaaGreatDoor
open Go Go.RowKit Go.Shelf Go.Lib

def rF (F : ByteArray) : Nat → Nat → List UInt8
  | 0, _ => []
  | f + 1, pos => if pos < F.size then rb (F.get! pos).toNat ++ rF F f (pos + 1) else []
def rL (F : ByteArray) : List UInt8 := [34] ++ rF F F.size 0 ++ [34]
theorem rF_end (F : ByteArray) (f pos : Nat) (h : ¬ pos < F.size) : rF F f pos = [] := by cases f <;> simp [rF, h]
theorem rF_step (F : ByteArray) (f pos : Nat) (h : pos < F.size) : rF F (f + 1) pos = rb (F.get! pos).toNat ++ rF F f (pos + 1) := by simp [rF, h]
set_option maxHeartbeats 8000000 in
set_option maxRecDepth 100000 in
theorem refQuote_any (s : ByteArray) (w : World) (hs : s.size ≤ 100000000000) (hF : (U.fixS s).size ≤ 1000000000000) :
    Calls Tryz.prog 98 #[.string s] w (StrIs ⟨(rL (U.fixS s)).toArray⟩ w) := by
  obtain ⟨i0, hi, hz0, hz1, hz2⟩ := info_parts infoByte
  have hfix := refFix_any s w (by omega)
  generalize U.fixS s = F at *
  go_enter Tryz.func98, Tryz.ntmps98
  go_wp2_with fail
  refine hfix.mono ?_
  rintro e w0 ⟨rfl, hB0⟩
  clear hfix
  go_wp2_with fail
  have hown0 : (w0.alloc (.cells #[.int .u8 34] 5)).ownsRow w.heap.size 5 1 (.slice (some ⟨w0.heap.size, 0, none⟩) 1 1) [(34 : UInt8)].length (U.cellsOf [34]) :=
    ⟨rfl, .inr ⟨w0.heap.size, 1, #[.int .u8 34], rfl, hB0.size, heap_alloc_new _ _, Nat.le_refl _, by unfold maxLen; decide, rfl, rfl⟩⟩
  go_loopw [4, 5] (fun v q wr => ∃ (f pos : Nat) (l : List UInt8), q = .int .i64 pos ∧ pos ≤ F.size ∧ l.length ≤ 1 + 6 * pos ∧ wr.ownsRow w.heap.size 5 1 v l.length (U.cellsOf l) ∧ Hid (l ++ rF F f pos = [34] ++ rF F F.size 0 ∧ F.size ≤ pos + f) ∧ Below w.heap.size w wr) (fun _ q _ => F.size - (RowKit.intOf q).toNat)
  case atStart => exact ⟨F.size, 0, [34], rfl, Nat.zero_le _, by simp, hown0, Lib.hid ⟨rfl, by omega⟩, hB0.alloc hB0.size _⟩
  case round =>
    obtain ⟨f, pos, l, rfl, hp, hl, hown, HU, hbl⟩ := hrel
    by_cases hlt : pos < F.size
    · obtain ⟨f', rfl⟩ : ∃ f', f = f' + 1 := ⟨f - 1, by have := HU.out.2; omega⟩
      have HS := Lib.hid (rF_step F f' pos hlt)
      have hx := U.at_byte hlt
      have hc := (F.get! pos).toNat_lt
      have HLT := Lib.hid hlt
      generalize (F.get! pos).toNat = c at *
      by_cases hs1 : c < 32 ∨ c = 34 ∨ c = 92
      · have hcc : c = 0 ∨ c = 1 ∨ c = 2 ∨ c = 3 ∨ c = 4 ∨ c = 5 ∨ c = 6 ∨ c = 7 ∨ c = 8 ∨ c = 9 ∨ c = 10 ∨ c = 11 ∨ c = 12 ∨ c = 13 ∨ c = 14 ∨ c = 15 ∨ c = 16 ∨ c = 17 ∨ c = 18 ∨ c = 19 ∨ c = 20 ∨ c = 21 ∨ c = 22 ∨ c = 23 ∨ c = 24 ∨ c = 25 ∨ c = 26 ∨ c = 27 ∨ c = 28 ∨ c = 29 ∨ c = 30 ∨ c = 31 ∨ c = 34 ∨ c = 92 := by omega
        rcases hcc with rfl | rfl | rfl | rfl | rfl | rfl | rfl | rfl | rfl | rfl | rfl | rfl | rfl | rfl | rfl | rfl | rfl | rfl | rfl | rfl | rfl | rfl | rfl | rfl | rfl | rfl | rfl | rfl | rfl | rfl | rfl | rfl | rfl | rfl
        · rw [show rb 0 = [92, 117, 48, 48, 48, 48] from rfl] at HS
          clear hs1 hc
          go_wp2_with fail
          go_region_held3 (fun _ => True) (exact trivial)
            ((refine step_append_lies _ (by rfl) _ _ _ (by rfl) w.heap.size 5 i0 _ 1 1 Tryz.underlying81 hi hz0 hz1 hz2 rfl (by decide) _ l.length (U.cellsOf l) (by rfl) ((hown.alloc _).drew) ⟨wr.heap.size, 0, none⟩ 6 6 [.int .u8 92, .int .u8 117, .int .u8 48, .int .u8 48, .int .u8 48, .int .u8 48] (by rfl) (by rfl) (World.news_of_block (cs := #[.int .u8 92, .int .u8 117, .int .u8 48, .int .u8 48, .int .u8 48, .int .u8 48]) (t := 5) (fr := (0, 0)) (heap_alloc_new wr _)) (by simp [Value.oneCell']) (by decide) (by unfold maxLen; omega) (by omega) (by have := hbl.size; simp; omega) (wr.heap.size + 1) (by simp) ?_; intro gg cap w2 hown2 hgrow hat hlt2))
          all_goals go_wp2_with fail
          all_goals
            go_roundw
            case rel =>
              refine ⟨f', pos + 1, l ++ [92, 117, 48, 48, 48, 48], by go_num, HLT.out, by rw [List.length_append]; simp; omega, ?_, Lib.hid ⟨by rw [List.append_assoc, ← HS.out]; exact HU.out.1, by have := HU.out.2; omega⟩, grows_below hbl hbl.size (.inr ⟨_, .inr hgrow⟩) (fun k hk => (hown.lt k hk).1)⟩
              rw [List.length_append, ← U.cellsOf_append]
              exact hown2
            case measure => have := HLT.out; simp [RowKit.intOf]; omega
        · rw [show rb 1 = [92, 117, 48, 48, 48, 49] from rfl] at HS
          clear hs1 hc
          go_wp2_with fail
          go_region_held3 (fun _ => True) (exact trivial)
            ((refine step_append_lies _ (by rfl) _ _ _ (by rfl) w.heap.size 5 i0 _ 1 1 Tryz.underlying81 hi hz0 hz1 hz2 rfl (by decide) _ l.length (U.cellsOf l) (by rfl) ((hown.alloc _).drew) ⟨wr.heap.size, 0, none⟩ 6 6 [.int .u8 92, .int .u8 117, .int .u8 48, .int .u8 48, .int .u8 48, .int .u8 49] (by rfl) (by rfl) (World.news_of_block (cs := #[.int .u8 92, .int .u8 117, .int .u8 48, .int .u8 48, .int .u8 48, .int .u8 49]) (t := 5) (fr := (0, 0)) (heap_alloc_new wr _)) (by simp [Value.oneCell']) (by decide) (by unfold maxLen; omega) (by omega) (by have := hbl.size; simp; omega) (wr.heap.size + 1) (by simp) ?_; intro gg cap w2 hown2 hgrow hat hlt2))
          all_goals go_wp2_with fail
          all_goals
            go_roundw
            case rel =>
              refine ⟨f', pos + 1, l ++ [92, 117, 48, 48, 48, 49], by go_num, HLT.out, by rw [List.length_append]; simp; omega, ?_, Lib.hid ⟨by rw [List.append_assoc, ← HS.out]; exact HU.out.1, by have := HU.out.2; omega⟩, grows_below hbl hbl.size (.inr ⟨_, .inr hgrow⟩) (fun k hk => (hown.lt k hk).1)⟩
              rw [List.length_append, ← U.cellsOf_append]
              exact hown2
            case measure => have := HLT.out; simp [RowKit.intOf]; omega
        · rw [show rb 2 = [92, 117, 48, 48, 48, 50] from rfl] at HS
          clear hs1 hc
          go_wp2_with fail
          go_region_held3 (fun _ => True) (exact trivial)
            ((refine step_append_lies _ (by rfl) _ _ _ (by rfl) w.heap.size 5 i0 _ 1 1 Tryz.underlying81 hi hz0 hz1 hz2 rfl (by decide) _ l.length (U.cellsOf l) (by rfl) ((hown.alloc _).drew) ⟨wr.heap.size, 0, none⟩ 6 6 [.int .u8 92, .int .u8 117, .int .u8 48, .int .u8 48, .int .u8 48, .int .u8 50] (by rfl) (by rfl) (World.news_of_block (cs := #[.int .u8 92, .int .u8 117, .int .u8 48, .int .u8 48, .int .u8 48, .int .u8 50]) (t := 5) (fr := (0, 0)) (heap_alloc_new wr _)) (by simp [Value.oneCell']) (by decide) (by unfold maxLen; omega) (by omega) (by have := hbl.size; simp; omega) (wr.heap.size + 1) (by simp) ?_; intro gg cap w2 hown2 hgrow hat hlt2))
          all_goals go_wp2_with fail
          all_goals
            go_roundw
            case rel =>
              refine ⟨f', pos + 1, l ++ [92, 117, 48, 48, 48, 50], by go_num, HLT.out, by rw [List.length_append]; simp; omega, ?_, Lib.hid ⟨by rw [List.append_assoc, ← HS.out]; exact HU.out.1, by have := HU.out.2; omega⟩, grows_below hbl hbl.size (.inr ⟨_, .inr hgrow⟩) (fun k hk => (hown.lt k hk).1)⟩
              rw [List.length_append, ← U.cellsOf_append]
              exact hown2
            case measure => have := HLT.out; simp [RowKit.intOf]; omega
        · rw [show rb 3 = [92, 117, 48, 48, 48, 51] from rfl] at HS
          clear hs1 hc
          go_wp2_with fail
          go_region_held3 (fun _ => True) (exact trivial)
            ((refine step_append_lies _ (by rfl) _ _ _ (by rfl) w.heap.size 5 i0 _ 1 1 Tryz.underlying81 hi hz0 hz1 hz2 rfl (by decide) _ l.length (U.cellsOf l) (by rfl) ((hown.alloc _).drew) ⟨wr.heap.size, 0, none⟩ 6 6 [.int .u8 92, .int .u8 117, .int .u8 48, .int .u8 48, .int .u8 48, .int .u8 51] (by rfl) (by rfl) (World.news_of_block (cs := #[.int .u8 92, .int .u8 117, .int .u8 48, .int .u8 48, .int .u8 48, .int .u8 51]) (t := 5) (fr := (0, 0)) (heap_alloc_new wr _)) (by simp [Value.oneCell']) (by decide) (by unfold maxLen; omega) (by omega) (by have := hbl.size; simp; omega) (wr.heap.size + 1) (by simp) ?_; intro gg cap w2 hown2 hgrow hat hlt2))
          all_goals go_wp2_with fail
          all_goals
            go_roundw
            case rel =>
              refine ⟨f', pos + 1, l ++ [92, 117, 48, 48, 48, 51], by go_num, HLT.out, by rw [List.length_append]; simp; omega, ?_, Lib.hid ⟨by rw [List.append_assoc, ← HS.out]; exact HU.out.1, by have := HU.out.2; omega⟩, grows_below hbl hbl.size (.inr ⟨_, .inr hgrow⟩) (fun k hk => (hown.lt k hk).1)⟩
              rw [List.length_append, ← U.cellsOf_append]
              exact hown2
            case measure => have := HLT.out; simp [RowKit.intOf]; omega
        · rw [show rb 4 = [92, 117, 48, 48, 48, 52] from rfl] at HS
          clear hs1 hc
          go_wp2_with fail
          go_region_held3 (fun _ => True) (exact trivial)
            ((refine step_append_lies _ (by rfl) _ _ _ (by rfl) w.heap.size 5 i0 _ 1 1 Tryz.underlying81 hi hz0 hz1 hz2 rfl (by decide) _ l.length (U.cellsOf l) (by rfl) ((hown.alloc _).drew) ⟨wr.heap.size, 0, none⟩ 6 6 [.int .u8 92, .int .u8 117, .int .u8 48, .int .u8 48, .int .u8 48, .int .u8 52] (by rfl) (by rfl) (World.news_of_block (cs := #[.int .u8 92, .int .u8 117, .int .u8 48, .int .u8 48, .int .u8 48, .int .u8 52]) (t := 5) (fr := (0, 0)) (heap_alloc_new wr _)) (by simp [Value.oneCell']) (by decide) (by unfold maxLen; omega) (by omega) (by have := hbl.size; simp; omega) (wr.heap.size + 1) (by simp) ?_; intro gg cap w2 hown2 hgrow hat hlt2))
          all_goals go_wp2_with fail
          all_goals
            go_roundw
            case rel =>
              refine ⟨f', pos + 1, l ++ [92, 117, 48, 48, 48, 52], by go_num, HLT.out, by rw [List.length_append]; simp; omega, ?_, Lib.hid ⟨by rw [List.append_assoc, ← HS.out]; exact HU.out.1, by have := HU.out.2; omega⟩, grows_below hbl hbl.size (.inr ⟨_, .inr hgrow⟩) (fun k hk => (hown.lt k hk).1)⟩
              rw [List.length_append, ← U.cellsOf_append]
              exact hown2
            case measure => have := HLT.out; simp [RowKit.intOf]; omega
        · rw [show rb 5 = [92, 117, 48, 48, 48, 53] from rfl] at HS
          clear hs1 hc
          go_wp2_with fail
          go_region_held3 (fun _ => True) (exact trivial)
            ((refine step_append_lies _ (by rfl) _ _ _ (by rfl) w.heap.size 5 i0 _ 1 1 Tryz.underlying81 hi hz0 hz1 hz2 rfl (by decide) _ l.length (U.cellsOf l) (by rfl) ((hown.alloc _).drew) ⟨wr.heap.size, 0, none⟩ 6 6 [.int .u8 92, .int .u8 117, .int .u8 48, .int .u8 48, .int .u8 48, .int .u8 53] (by rfl) (by rfl) (World.news_of_block (cs := #[.int .u8 92, .int .u8 117, .int .u8 48, .int .u8 48, .int .u8 48, .int .u8 53]) (t := 5) (fr := (0, 0)) (heap_alloc_new wr _)) (by simp [Value.oneCell']) (by decide) (by unfold maxLen; omega) (by omega) (by have := hbl.size; simp; omega) (wr.heap.size + 1) (by simp) ?_; intro gg cap w2 hown2 hgrow hat hlt2))
          all_goals go_wp2_with fail
          all_goals
            go_roundw
            case rel =>
              refine ⟨f', pos + 1, l ++ [92, 117, 48, 48, 48, 53], by go_num, HLT.out, by rw [List.length_append]; simp; omega, ?_, Lib.hid ⟨by rw [List.append_assoc, ← HS.out]; exact HU.out.1, by have := HU.out.2; omega⟩, grows_below hbl hbl.size (.inr ⟨_, .inr hgrow⟩) (fun k hk => (hown.lt k hk).1)⟩
              rw [List.length_append, ← U.cellsOf_append]
              exact hown2
            case measure => have := HLT.out; simp [RowKit.intOf]; omega
        · rw [show rb 6 = [92, 117, 48, 48, 48, 54] from rfl] at HS
          clear hs1 hc
          go_wp2_with fail
          go_region_held3 (fun _ => True) (exact trivial)
            ((refine step_append_lies _ (by rfl) _ _ _ (by rfl) w.heap.size 5 i0 _ 1 1 Tryz.underlying81 hi hz0 hz1 hz2 rfl (by decide) _ l.length (U.cellsOf l) (by rfl) ((hown.alloc _).drew) ⟨wr.heap.size, 0, none⟩ 6 6 [.int .u8 92, .int .u8 117, .int .u8 48, .int .u8 48, .int .u8 48, .int .u8 54] (by rfl) (by rfl) (World.news_of_block (cs := #[.int .u8 92, .int .u8 117, .int .u8 48, .int .u8 48, .int .u8 48, .int .u8 54]) (t := 5) (fr := (0, 0)) (heap_alloc_new wr _)) (by simp [Value.oneCell']) (by decide) (by unfold maxLen; omega) (by omega) (by have := hbl.size; simp; omega) (wr.heap.size + 1) (by simp) ?_; intro gg cap w2 hown2 hgrow hat hlt2))
          all_goals go_wp2_with fail
          all_goals
            go_roundw
            case rel =>
              refine ⟨f', pos + 1, l ++ [92, 117, 48, 48, 48, 54], by go_num, HLT.out, by rw [List.length_append]; simp; omega, ?_, Lib.hid ⟨by rw [List.append_assoc, ← HS.out]; exact HU.out.1, by have := HU.out.2; omega⟩, grows_below hbl hbl.size (.inr ⟨_, .inr hgrow⟩) (fun k hk => (hown.lt k hk).1)⟩
              rw [List.length_append, ← U.cellsOf_append]
              exact hown2
            case measure => have := HLT.out; simp [RowKit.intOf]; omega
        · rw [show rb 7 = [92, 117, 48, 48, 48, 55] from rfl] at HS
          clear hs1 hc
          go_wp2_with fail
          go_region_held3 (fun _ => True) (exact trivial)
            ((refine step_append_lies _ (by rfl) _ _ _ (by rfl) w.heap.size 5 i0 _ 1 1 Tryz.underlying81 hi hz0 hz1 hz2 rfl (by decide) _ l.length (U.cellsOf l) (by rfl) ((hown.alloc _).drew) ⟨wr.heap.size, 0, none⟩ 6 6 [.int .u8 92, .int .u8 117, .int .u8 48, .int .u8 48, .int .u8 48, .int .u8 55] (by rfl) (by rfl) (World.news_of_block (cs := #[.int .u8 92, .int .u8 117, .int .u8 48, .int .u8 48, .int .u8 48, .int .u8 55]) (t := 5) (fr := (0, 0)) (heap_alloc_new wr _)) (by simp [Value.oneCell']) (by decide) (by unfold maxLen; omega) (by omega) (by have := hbl.size; simp; omega) (wr.heap.size + 1) (by simp) ?_; intro gg cap w2 hown2 hgrow hat hlt2))
          all_goals go_wp2_with fail
          all_goals
            go_roundw
            case rel =>
              refine ⟨f', pos + 1, l ++ [92, 117, 48, 48, 48, 55], by go_num, HLT.out, by rw [List.length_append]; simp; omega, ?_, Lib.hid ⟨by rw [List.append_assoc, ← HS.out]; exact HU.out.1, by have := HU.out.2; omega⟩, grows_below hbl hbl.size (.inr ⟨_, .inr hgrow⟩) (fun k hk => (hown.lt k hk).1)⟩
              rw [List.length_append, ← U.cellsOf_append]
              exact hown2
            case measure => have := HLT.out; simp [RowKit.intOf]; omega
        · rw [show rb 8 = [92, 98] from rfl] at HS
          clear hs1 hc
          go_wp2_with (at_builtin; refine wpList_append_own _ rfl _ _ 81 rfl w.heap.size 5 i0 (.int .u8 0) 1 1 Tryz.underlying81 hi hz0 hz1 hz2 rfl (by decide) _ l.length (U.cellsOf l) rfl (hown.alloc _) ⟨wr.heap.size, 0, none⟩ 2 2 [.int .u8 92, .int .u8 98] rfl rfl ?c1 ?c2 ?c3 ?c4 ?c5 ?_)
          case c1 => exact cells2
          case c2 => intro u hu; simp at hu; rcases hu with rfl | rfl <;> rfl
          case c3 => unfold maxLen; omega
          case c4 => omega
          case c5 => have := hbl.size; simp; omega
          intro v' w2 hown2 hgrow _
          go_wp2_with fail
          go_roundw
          case rel =>
            refine ⟨f', pos + 1, l ++ [92, 98], by go_num, HLT.out, by rw [List.length_append]; simp; omega, ?_, Lib.hid ⟨by rw [List.append_assoc, ← HS.out]; exact HU.out.1, by have := HU.out.2; omega⟩, grows_below hbl hbl.size (.inr ⟨_, .inl hgrow⟩) (fun k hk => (hown.lt k hk).1)⟩
            rw [List.length_append, ← U.cellsOf_append]
            exact hown2
          case measure => have := HLT.out; simp [RowKit.intOf]; omega
        · rw [show rb 9 = [92, 116] from rfl] at HS
          clear hs1 hc
          go_wp2_with (at_builtin; refine wpList_append_own _ rfl _ _ 81 rfl w.heap.size 5 i0 (.int .u8 0) 1 1 Tryz.underlying81 hi hz0 hz1 hz2 rfl (by decide) _ l.length (U.cellsOf l) rfl (hown.alloc _) ⟨wr.heap.size, 0, none⟩ 2 2 [.int .u8 92, .int .u8 116] rfl rfl ?c1 ?c2 ?c3 ?c4 ?c5 ?_)
          case c1 => exact cells2
          case c2 => intro u hu; simp at hu; rcases hu with rfl | rfl <;> rfl
          case c3 => unfold maxLen; omega
          case c4 => omega
          case c5 => have := hbl.size; simp; omega
          intro v' w2 hown2 hgrow _
          go_wp2_with fail
          go_roundw
          case rel =>
            refine ⟨f', pos + 1, l ++ [92, 116], by go_num, HLT.out, by rw [List.length_append]; simp; omega, ?_, Lib.hid ⟨by rw [List.append_assoc, ← HS.out]; exact HU.out.1, by have := HU.out.2; omega⟩, grows_below hbl hbl.size (.inr ⟨_, .inl hgrow⟩) (fun k hk => (hown.lt k hk).1)⟩
            rw [List.length_append, ← U.cellsOf_append]
            exact hown2
          case measure => have := HLT.out; simp [RowKit.intOf]; omega
        · rw [show rb 10 = [92, 110] from rfl] at HS
          clear hs1 hc
          go_wp2_with (at_builtin; refine wpList_append_own _ rfl _ _ 81 rfl w.heap.size 5 i0 (.int .u8 0) 1 1 Tryz.underlying81 hi hz0 hz1 hz2 rfl (by decide) _ l.length (U.cellsOf l) rfl (hown.alloc _) ⟨wr.heap.size, 0, none⟩ 2 2 [.int .u8 92, .int .u8 110] rfl rfl ?c1 ?c2 ?c3 ?c4 ?c5 ?_)
          case c1 => exact cells2
          case c2 => intro u hu; simp at hu; rcases hu with rfl | rfl <;> rfl
          case c3 => unfold maxLen; omega
          case c4 => omega
          case c5 => have := hbl.size; simp; omega
          intro v' w2 hown2 hgrow _
          go_wp2_with fail
          go_roundw
          case rel =>
            refine ⟨f', pos + 1, l ++ [92, 110], by go_num, HLT.out, by rw [List.length_append]; simp; omega, ?_, Lib.hid ⟨by rw [List.append_assoc, ← HS.out]; exact HU.out.1, by have := HU.out.2; omega⟩, grows_below hbl hbl.size (.inr ⟨_, .inl hgrow⟩) (fun k hk => (hown.lt k hk).1)⟩
            rw [List.length_append, ← U.cellsOf_append]
            exact hown2
          case measure => have := HLT.out; simp [RowKit.intOf]; omega
        · rw [show rb 11 = [92, 117, 48, 48, 48, 98] from rfl] at HS
          clear hs1 hc
          go_wp2_with fail
          go_region_held3 (fun _ => True) (exact trivial)
            ((refine step_append_lies _ (by rfl) _ _ _ (by rfl) w.heap.size 5 i0 _ 1 1 Tryz.underlying81 hi hz0 hz1 hz2 rfl (by decide) _ l.length (U.cellsOf l) (by rfl) ((hown.alloc _).drew) ⟨wr.heap.size, 0, none⟩ 6 6 [.int .u8 92, .int .u8 117, .int .u8 48, .int .u8 48, .int .u8 48, .int .u8 98] (by rfl) (by rfl) (World.news_of_block (cs := #[.int .u8 92, .int .u8 117, .int .u8 48, .int .u8 48, .int .u8 48, .int .u8 98]) (t := 5) (fr := (0, 0)) (heap_alloc_new wr _)) (by simp [Value.oneCell']) (by decide) (by unfold maxLen; omega) (by omega) (by have := hbl.size; simp; omega) (wr.heap.size + 1) (by simp) ?_; intro gg cap w2 hown2 hgrow hat hlt2))
          all_goals go_wp2_with fail
          all_goals
            go_roundw
            case rel =>
              refine ⟨f', pos + 1, l ++ [92, 117, 48, 48, 48, 98], by go_num, HLT.out, by rw [List.length_append]; simp; omega, ?_, Lib.hid ⟨by rw [List.append_assoc, ← HS.out]; exact HU.out.1, by have := HU.out.2; omega⟩, grows_below hbl hbl.size (.inr ⟨_, .inr hgrow⟩) (fun k hk => (hown.lt k hk).1)⟩
              rw [List.length_append, ← U.cellsOf_append]
              exact hown2
            case measure => have := HLT.out; simp [RowKit.intOf]; omega
        · rw [show rb 12 = [92, 102] from rfl] at HS
          clear hs1 hc
          go_wp2_with (at_builtin; refine wpList_append_own _ rfl _ _ 81 rfl w.heap.size 5 i0 (.int .u8 0) 1 1 Tryz.underlying81 hi hz0 hz1 hz2 rfl (by decide) _ l.length (U.cellsOf l) rfl (hown.alloc _) ⟨wr.heap.size, 0, none⟩ 2 2 [.int .u8 92, .int .u8 102] rfl rfl ?c1 ?c2 ?c3 ?c4 ?c5 ?_)
          case c1 => exact cells2
          case c2 => intro u hu; simp at hu; rcases hu with rfl | rfl <;> rfl
          case c3 => unfold maxLen; omega
          case c4 => omega
          case c5 => have := hbl.size; simp; omega
          intro v' w2 hown2 hgrow _
          go_wp2_with fail
          go_roundw
          case rel =>
            refine ⟨f', pos + 1, l ++ [92, 102], by go_num, HLT.out, by rw [List.length_append]; simp; omega, ?_, Lib.hid ⟨by rw [List.append_assoc, ← HS.out]; exact HU.out.1, by have := HU.out.2; omega⟩, grows_below hbl hbl.size (.inr ⟨_, .inl hgrow⟩) (fun k hk => (hown.lt k hk).1)⟩
            rw [List.length_append, ← U.cellsOf_append]
            exact hown2
          case measure => have := HLT.out; simp [RowKit.intOf]; omega
        · rw [show rb 13 = [92, 114] from rfl] at HS
          clear hs1 hc
          go_wp2_with (at_builtin; refine wpList_append_own _ rfl _ _ 81 rfl w.heap.size 5 i0 (.int .u8 0) 1 1 Tryz.underlying81 hi hz0 hz1 hz2 rfl (by decide) _ l.length (U.cellsOf l) rfl (hown.alloc _) ⟨wr.heap.size, 0, none⟩ 2 2 [.int .u8 92, .int .u8 114] rfl rfl ?c1 ?c2 ?c3 ?c4 ?c5 ?_)
          case c1 => exact cells2
          case c2 => intro u hu; simp at hu; rcases hu with rfl | rfl <;> rfl
          case c3 => unfold maxLen; omega
          case c4 => omega
          case c5 => have := hbl.size; simp; omega
          intro v' w2 hown2 hgrow _
          go_wp2_with fail
          go_roundw
          case rel =>
            refine ⟨f', pos + 1, l ++ [92, 114], by go_num, HLT.out, by rw [List.length_append]; simp; omega, ?_, Lib.hid ⟨by rw [List.append_assoc, ← HS.out]; exact HU.out.1, by have := HU.out.2; omega⟩, grows_below hbl hbl.size (.inr ⟨_, .inl hgrow⟩) (fun k hk => (hown.lt k hk).1)⟩
            rw [List.length_append, ← U.cellsOf_append]
            exact hown2
          case measure => have := HLT.out; simp [RowKit.intOf]; omega
        · rw [show rb 14 = [92, 117, 48, 48, 48, 101] from rfl] at HS
          clear hs1 hc
          go_wp2_with fail
          go_region_held3 (fun _ => True) (exact trivial)
            ((refine step_append_lies _ (by rfl) _ _ _ (by rfl) w.heap.size 5 i0 _ 1 1 Tryz.underlying81 hi hz0 hz1 hz2 rfl (by decide) _ l.length (U.cellsOf l) (by rfl) ((hown.alloc _).drew) ⟨wr.heap.size, 0, none⟩ 6 6 [.int .u8 92, .int .u8 117, .int .u8 48, .int .u8 48, .int .u8 48, .int .u8 101] (by rfl) (by rfl) (World.news_of_block (cs := #[.int .u8 92, .int .u8 117, .int .u8 48, .int .u8 48, .int .u8 48, .int .u8 101]) (t := 5) (fr := (0, 0)) (heap_alloc_new wr _)) (by simp [Value.oneCell']) (by decide) (by unfold maxLen; omega) (by omega) (by have := hbl.size; simp; omega) (wr.heap.size + 1) (by simp) ?_; intro gg cap w2 hown2 hgrow hat hlt2))
          all_goals go_wp2_with fail
          all_goals
            go_roundw
            case rel =>
              refine ⟨f', pos + 1, l ++ [92, 117, 48, 48, 48, 101], by go_num, HLT.out, by rw [List.length_append]; simp; omega, ?_, Lib.hid ⟨by rw [List.append_assoc, ← HS.out]; exact HU.out.1, by have := HU.out.2; omega⟩, grows_below hbl hbl.size (.inr ⟨_, .inr hgrow⟩) (fun k hk => (hown.lt k hk).1)⟩
              rw [List.length_append, ← U.cellsOf_append]
              exact hown2
            case measure => have := HLT.out; simp [RowKit.intOf]; omega
        · rw [show rb 15 = [92, 117, 48, 48, 48, 102] from rfl] at HS
          clear hs1 hc
          go_wp2_with fail
          go_region_held3 (fun _ => True) (exact trivial)
            ((refine step_append_lies _ (by rfl) _ _ _ (by rfl) w.heap.size 5 i0 _ 1 1 Tryz.underlying81 hi hz0 hz1 hz2 rfl (by decide) _ l.length (U.cellsOf l) (by rfl) ((hown.alloc _).drew) ⟨wr.heap.size, 0, none⟩ 6 6 [.int .u8 92, .int .u8 117, .int .u8 48, .int .u8 48, .int .u8 48, .int .u8 102] (by rfl) (by rfl) (World.news_of_block (cs := #[.int .u8 92, .int .u8 117, .int .u8 48, .int .u8 48, .int .u8 48, .int .u8 102]) (t := 5) (fr := (0, 0)) (heap_alloc_new wr _)) (by simp [Value.oneCell']) (by decide) (by unfold maxLen; omega) (by omega) (by have := hbl.size; simp; omega) (wr.heap.size + 1) (by simp) ?_; intro gg cap w2 hown2 hgrow hat hlt2))
          all_goals go_wp2_with fail
          all_goals
            go_roundw
            case rel =>
              refine ⟨f', pos + 1, l ++ [92, 117, 48, 48, 48, 102], by go_num, HLT.out, by rw [List.length_append]; simp; omega, ?_, Lib.hid ⟨by rw [List.append_assoc, ← HS.out]; exact HU.out.1, by have := HU.out.2; omega⟩, grows_below hbl hbl.size (.inr ⟨_, .inr hgrow⟩) (fun k hk => (hown.lt k hk).1)⟩
              rw [List.length_append, ← U.cellsOf_append]
              exact hown2
            case measure => have := HLT.out; simp [RowKit.intOf]; omega
        · rw [show rb 16 = [92, 117, 48, 48, 49, 48] from rfl] at HS
          clear hs1 hc
          go_wp2_with fail
          go_region_held3 (fun _ => True) (exact trivial)
            ((refine step_append_lies _ (by rfl) _ _ _ (by rfl) w.heap.size 5 i0 _ 1 1 Tryz.underlying81 hi hz0 hz1 hz2 rfl (by decide) _ l.length (U.cellsOf l) (by rfl) ((hown.alloc _).drew) ⟨wr.heap.size, 0, none⟩ 6 6 [.int .u8 92, .int .u8 117, .int .u8 48, .int .u8 48, .int .u8 49, .int .u8 48] (by rfl) (by rfl) (World.news_of_block (cs := #[.int .u8 92, .int .u8 117, .int .u8 48, .int .u8 48, .int .u8 49, .int .u8 48]) (t := 5) (fr := (0, 0)) (heap_alloc_new wr _)) (by simp [Value.oneCell']) (by decide) (by unfold maxLen; omega) (by omega) (by have := hbl.size; simp; omega) (wr.heap.size + 1) (by simp) ?_; intro gg cap w2 hown2 hgrow hat hlt2))
          all_goals go_wp2_with fail
          all_goals
            go_roundw
            case rel =>
              refine ⟨f', pos + 1, l ++ [92, 117, 48, 48, 49, 48], by go_num, HLT.out, by rw [List.length_append]; simp; omega, ?_, Lib.hid ⟨by rw [List.append_assoc, ← HS.out]; exact HU.out.1, by have := HU.out.2; omega⟩, grows_below hbl hbl.size (.inr ⟨_, .inr hgrow⟩) (fun k hk => (hown.lt k hk).1)⟩
              rw [List.length_append, ← U.cellsOf_append]
              exact hown2
            case measure => have := HLT.out; simp [RowKit.intOf]; omega
        · rw [show rb 17 = [92, 117, 48, 48, 49, 49] from rfl] at HS
          clear hs1 hc
          go_wp2_with fail
          go_region_held3 (fun _ => True) (exact trivial)
            ((refine step_append_lies _ (by rfl) _ _ _ (by rfl) w.heap.size 5 i0 _ 1 1 Tryz.underlying81 hi hz0 hz1 hz2 rfl (by decide) _ l.length (U.cellsOf l) (by rfl) ((hown.alloc _).drew) ⟨wr.heap.size, 0, none⟩ 6 6 [.int .u8 92, .int .u8 117, .int .u8 48, .int .u8 48, .int .u8 49, .int .u8 49] (by rfl) (by rfl) (World.news_of_block (cs := #[.int .u8 92, .int .u8 117, .int .u8 48, .int .u8 48, .int .u8 49, .int .u8 49]) (t := 5) (fr := (0, 0)) (heap_alloc_new wr _)) (by simp [Value.oneCell']) (by decide) (by unfold maxLen; omega) (by omega) (by have := hbl.size; simp; omega) (wr.heap.size + 1) (by simp) ?_; intro gg cap w2 hown2 hgrow hat hlt2))
          all_goals go_wp2_with fail
          all_goals
            go_roundw
            case rel =>
              refine ⟨f', pos + 1, l ++ [92, 117, 48, 48, 49, 49], by go_num, HLT.out, by rw [List.length_append]; simp; omega, ?_, Lib.hid ⟨by rw [List.append_assoc, ← HS.out]; exact HU.out.1, by have := HU.out.2; omega⟩, grows_below hbl hbl.size (.inr ⟨_, .inr hgrow⟩) (fun k hk => (hown.lt k hk).1)⟩
              rw [List.length_append, ← U.cellsOf_append]
              exact hown2
            case measure => have := HLT.out; simp [RowKit.intOf]; omega
        · rw [show rb 18 = [92, 117, 48, 48, 49, 50] from rfl] at HS
          clear hs1 hc
          go_wp2_with fail
          go_region_held3 (fun _ => True) (exact trivial)
            ((refine step_append_lies _ (by rfl) _ _ _ (by rfl) w.heap.size 5 i0 _ 1 1 Tryz.underlying81 hi hz0 hz1 hz2 rfl (by decide) _ l.length (U.cellsOf l) (by rfl) ((hown.alloc _).drew) ⟨wr.heap.size, 0, none⟩ 6 6 [.int .u8 92, .int .u8 117, .int .u8 48, .int .u8 48, .int .u8 49, .int .u8 50] (by rfl) (by rfl) (World.news_of_block (cs := #[.int .u8 92, .int .u8 117, .int .u8 48, .int .u8 48, .int .u8 49, .int .u8 50]) (t := 5) (fr := (0, 0)) (heap_alloc_new wr _)) (by simp [Value.oneCell']) (by decide) (by unfold maxLen; omega) (by omega) (by have := hbl.size; simp; omega) (wr.heap.size + 1) (by simp) ?_; intro gg cap w2 hown2 hgrow hat hlt2))
          all_goals go_wp2_with fail
          all_goals
            go_roundw
            case rel =>
              refine ⟨f', pos + 1, l ++ [92, 117, 48, 48, 49, 50], by go_num, HLT.out, by rw [List.length_append]; simp; omega, ?_, Lib.hid ⟨by rw [List.append_assoc, ← HS.out]; exact HU.out.1, by have := HU.out.2; omega⟩, grows_below hbl hbl.size (.inr ⟨_, .inr hgrow⟩) (fun k hk => (hown.lt k hk).1)⟩
              rw [List.length_append, ← U.cellsOf_append]
              exact hown2
            case measure => have := HLT.out; simp [RowKit.intOf]; omega
        · rw [show rb 19 = [92, 117, 48, 48, 49, 51] from rfl] at HS
          clear hs1 hc
          go_wp2_with fail
          go_region_held3 (fun _ => True) (exact trivial)
            ((refine step_append_lies _ (by rfl) _ _ _ (by rfl) w.heap.size 5 i0 _ 1 1 Tryz.underlying81 hi hz0 hz1 hz2 rfl (by decide) _ l.length (U.cellsOf l) (by rfl) ((hown.alloc _).drew) ⟨wr.heap.size, 0, none⟩ 6 6 [.int .u8 92, .int .u8 117, .int .u8 48, .int .u8 48, .int .u8 49, .int .u8 51] (by rfl) (by rfl) (World.news_of_block (cs := #[.int .u8 92, .int .u8 117, .int .u8 48, .int .u8 48, .int .u8 49, .int .u8 51]) (t := 5) (fr := (0, 0)) (heap_alloc_new wr _)) (by simp [Value.oneCell']) (by decide) (by unfold maxLen; omega) (by omega) (by have := hbl.size; simp; omega) (wr.heap.size + 1) (by simp) ?_; intro gg cap w2 hown2 hgrow hat hlt2))
          all_goals go_wp2_with fail
          all_goals
            go_roundw
            case rel =>
              refine ⟨f', pos + 1, l ++ [92, 117, 48, 48, 49, 51], by go_num, HLT.out, by rw [List.length_append]; simp; omega, ?_, Lib.hid ⟨by rw [List.append_assoc, ← HS.out]; exact HU.out.1, by have := HU.out.2; omega⟩, grows_below hbl hbl.size (.inr ⟨_, .inr hgrow⟩) (fun k hk => (hown.lt k hk).1)⟩
              rw [List.length_append, ← U.cellsOf_append]
              exact hown2
            case measure => have := HLT.out; simp [RowKit.intOf]; omega
        · rw [show rb 20 = [92, 117, 48, 48, 49, 52] from rfl] at HS
          clear hs1 hc
          go_wp2_with fail
          go_region_held3 (fun _ => True) (exact trivial)
            ((refine step_append_lies _ (by rfl) _ _ _ (by rfl) w.heap.size 5 i0 _ 1 1 Tryz.underlying81 hi hz0 hz1 hz2 rfl (by decide) _ l.length (U.cellsOf l) (by rfl) ((hown.alloc _).drew) ⟨wr.heap.size, 0, none⟩ 6 6 [.int .u8 92, .int .u8 117, .int .u8 48, .int .u8 48, .int .u8 49, .int .u8 52] (by rfl) (by rfl) (World.news_of_block (cs := #[.int .u8 92, .int .u8 117, .int .u8 48, .int .u8 48, .int .u8 49, .int .u8 52]) (t := 5) (fr := (0, 0)) (heap_alloc_new wr _)) (by simp [Value.oneCell']) (by decide) (by unfold maxLen; omega) (by omega) (by have := hbl.size; simp; omega) (wr.heap.size + 1) (by simp) ?_; intro gg cap w2 hown2 hgrow hat hlt2))
          all_goals go_wp2_with fail
          all_goals
            go_roundw
            case rel =>
              refine ⟨f', pos + 1, l ++ [92, 117, 48, 48, 49, 52], by go_num, HLT.out, by rw [List.length_append]; simp; omega, ?_, Lib.hid ⟨by rw [List.append_assoc, ← HS.out]; exact HU.out.1, by have := HU.out.2; omega⟩, grows_below hbl hbl.size (.inr ⟨_, .inr hgrow⟩) (fun k hk => (hown.lt k hk).1)⟩
              rw [List.length_append, ← U.cellsOf_append]
              exact hown2
            case measure => have := HLT.out; simp [RowKit.intOf]; omega
        · rw [show rb 21 = [92, 117, 48, 48, 49, 53] from rfl] at HS
          clear hs1 hc
          go_wp2_with fail
          go_region_held3 (fun _ => True) (exact trivial)
            ((refine step_append_lies _ (by rfl) _ _ _ (by rfl) w.heap.size 5 i0 _ 1 1 Tryz.underlying81 hi hz0 hz1 hz2 rfl (by decide) _ l.length (U.cellsOf l) (by rfl) ((hown.alloc _).drew) ⟨wr.heap.size, 0, none⟩ 6 6 [.int .u8 92, .int .u8 117, .int .u8 48, .int .u8 48, .int .u8 49, .int .u8 53] (by rfl) (by rfl) (World.news_of_block (cs := #[.int .u8 92, .int .u8 117, .int .u8 48, .int .u8 48, .int .u8 49, .int .u8 53]) (t := 5) (fr := (0, 0)) (heap_alloc_new wr _)) (by simp [Value.oneCell']) (by decide) (by unfold maxLen; omega) (by omega) (by have := hbl.size; simp; omega) (wr.heap.size + 1) (by simp) ?_; intro gg cap w2 hown2 hgrow hat hlt2))
          all_goals go_wp2_with fail
          all_goals
            go_roundw
            case rel =>
              refine ⟨f', pos + 1, l ++ [92, 117, 48, 48, 49, 53], by go_num, HLT.out, by rw [List.length_append]; simp; omega, ?_, Lib.hid ⟨by rw [List.append_assoc, ← HS.out]; exact HU.out.1, by have := HU.out.2; omega⟩, grows_below hbl hbl.size (.inr ⟨_, .inr hgrow⟩) (fun k hk => (hown.lt k hk).1)⟩
              rw [List.length_append, ← U.cellsOf_append]
              exact hown2
            case measure => have := HLT.out; simp [RowKit.intOf]; omega
        · rw [show rb 22 = [92, 117, 48, 48, 49, 54] from rfl] at HS
          clear hs1 hc
          go_wp2_with fail
          go_region_held3 (fun _ => True) (exact trivial)
            ((refine step_append_lies _ (by rfl) _ _ _ (by rfl) w.heap.size 5 i0 _ 1 1 Tryz.underlying81 hi hz0 hz1 hz2 rfl (by decide) _ l.length (U.cellsOf l) (by rfl) ((hown.alloc _).drew) ⟨wr.heap.size, 0, none⟩ 6 6 [.int .u8 92, .int .u8 117, .int .u8 48, .int .u8 48, .int .u8 49, .int .u8 54] (by rfl) (by rfl) (World.news_of_block (cs := #[.int .u8 92, .int .u8 117, .int .u8 48, .int .u8 48, .int .u8 49, .int .u8 54]) (t := 5) (fr := (0, 0)) (heap_alloc_new wr _)) (by simp [Value.oneCell']) (by decide) (by unfold maxLen; omega) (by omega) (by have := hbl.size; simp; omega) (wr.heap.size + 1) (by simp) ?_; intro gg cap w2 hown2 hgrow hat hlt2))
          all_goals go_wp2_with fail
          all_goals
            go_roundw
            case rel =>
              refine ⟨f', pos + 1, l ++ [92, 117, 48, 48, 49, 54], by go_num, HLT.out, by rw [List.length_append]; simp; omega, ?_, Lib.hid ⟨by rw [List.append_assoc, ← HS.out]; exact HU.out.1, by have := HU.out.2; omega⟩, grows_below hbl hbl.size (.inr ⟨_, .inr hgrow⟩) (fun k hk => (hown.lt k hk).1)⟩
              rw [List.length_append, ← U.cellsOf_append]
              exact hown2
            case measure => have := HLT.out; simp [RowKit.intOf]; omega
        · rw [show rb 23 = [92, 117, 48, 48, 49, 55] from rfl] at HS
          clear hs1 hc
          go_wp2_with fail
          go_region_held3 (fun _ => True) (exact trivial)
            ((refine step_append_lies _ (by rfl) _ _ _ (by rfl) w.heap.size 5 i0 _ 1 1 Tryz.underlying81 hi hz0 hz1 hz2 rfl (by decide) _ l.length (U.cellsOf l) (by rfl) ((hown.alloc _).drew) ⟨wr.heap.size, 0, none⟩ 6 6 [.int .u8 92, .int .u8 117, .int .u8 48, .int .u8 48, .int .u8 49, .int .u8 55] (by rfl) (by rfl) (World.news_of_block (cs := #[.int .u8 92, .int .u8 117, .int .u8 48, .int .u8 48, .int .u8 49, .int .u8 55]) (t := 5) (fr := (0, 0)) (heap_alloc_new wr _)) (by simp [Value.oneCell']) (by decide) (by unfold maxLen; omega) (by omega) (by have := hbl.size; simp; omega) (wr.heap.size + 1) (by simp) ?_; intro gg cap w2 hown2 hgrow hat hlt2))
          all_goals go_wp2_with fail
          all_goals
            go_roundw
            case rel =>
              refine ⟨f', pos + 1, l ++ [92, 117, 48, 48, 49, 55], by go_num, HLT.out, by rw [List.length_append]; simp; omega, ?_, Lib.hid ⟨by rw [List.append_assoc, ← HS.out]; exact HU.out.1, by have := HU.out.2; omega⟩, grows_below hbl hbl.size (.inr ⟨_, .inr hgrow⟩) (fun k hk => (hown.lt k hk).1)⟩
              rw [List.length_append, ← U.cellsOf_append]
              exact hown2
            case measure => have := HLT.out; simp [RowKit.intOf]; omega
        · rw [show rb 24 = [92, 117, 48, 48, 49, 56] from rfl] at HS
          clear hs1 hc
          go_wp2_with fail
          go_region_held3 (fun _ => True) (exact trivial)
            ((refine step_append_lies _ (by rfl) _ _ _ (by rfl) w.heap.size 5 i0 _ 1 1 Tryz.underlying81 hi hz0 hz1 hz2 rfl (by decide) _ l.length (U.cellsOf l) (by rfl) ((hown.alloc _).drew) ⟨wr.heap.size, 0, none⟩ 6 6 [.int .u8 92, .int .u8 117, .int .u8 48, .int .u8 48, .int .u8 49, .int .u8 56] (by rfl) (by rfl) (World.news_of_block (cs := #[.int .u8 92, .int .u8 117, .int .u8 48, .int .u8 48, .int .u8 49, .int .u8 56]) (t := 5) (fr := (0, 0)) (heap_alloc_new wr _)) (by simp [Value.oneCell']) (by decide) (by unfold maxLen; omega) (by omega) (by have := hbl.size; simp; omega) (wr.heap.size + 1) (by simp) ?_; intro gg cap w2 hown2 hgrow hat hlt2))
          all_goals go_wp2_with fail
          all_goals
            go_roundw
            case rel =>
              refine ⟨f', pos + 1, l ++ [92, 117, 48, 48, 49, 56], by go_num, HLT.out, by rw [List.length_append]; simp; omega, ?_, Lib.hid ⟨by rw [List.append_assoc, ← HS.out]; exact HU.out.1, by have := HU.out.2; omega⟩, grows_below hbl hbl.size (.inr ⟨_, .inr hgrow⟩) (fun k hk => (hown.lt k hk).1)⟩
              rw [List.length_append, ← U.cellsOf_append]
              exact hown2
            case measure => have := HLT.out; simp [RowKit.intOf]; omega
        · rw [show rb 25 = [92, 117, 48, 48, 49, 57] from rfl] at HS
          clear hs1 hc
          go_wp2_with fail
          go_region_held3 (fun _ => True) (exact trivial)
            ((refine step_append_lies _ (by rfl) _ _ _ (by rfl) w.heap.size 5 i0 _ 1 1 Tryz.underlying81 hi hz0 hz1 hz2 rfl (by decide) _ l.length (U.cellsOf l) (by rfl) ((hown.alloc _).drew) ⟨wr.heap.size, 0, none⟩ 6 6 [.int .u8 92, .int .u8 117, .int .u8 48, .int .u8 48, .int .u8 49, .int .u8 57] (by rfl) (by rfl) (World.news_of_block (cs := #[.int .u8 92, .int .u8 117, .int .u8 48, .int .u8 48, .int .u8 49, .int .u8 57]) (t := 5) (fr := (0, 0)) (heap_alloc_new wr _)) (by simp [Value.oneCell']) (by decide) (by unfold maxLen; omega) (by omega) (by have := hbl.size; simp; omega) (wr.heap.size + 1) (by simp) ?_; intro gg cap w2 hown2 hgrow hat hlt2))
          all_goals go_wp2_with fail
          all_goals
            go_roundw
            case rel =>
              refine ⟨f', pos + 1, l ++ [92, 117, 48, 48, 49, 57], by go_num, HLT.out, by rw [List.length_append]; simp; omega, ?_, Lib.hid ⟨by rw [List.append_assoc, ← HS.out]; exact HU.out.1, by have := HU.out.2; omega⟩, grows_below hbl hbl.size (.inr ⟨_, .inr hgrow⟩) (fun k hk => (hown.lt k hk).1)⟩
              rw [List.length_append, ← U.cellsOf_append]
              exact hown2
            case measure => have := HLT.out; simp [RowKit.intOf]; omega
        · rw [show rb 26 = [92, 117, 48, 48, 49, 97] from rfl] at HS
          clear hs1 hc
          go_wp2_with fail
          go_region_held3 (fun _ => True) (exact trivial)
            ((refine step_append_lies _ (by rfl) _ _ _ (by rfl) w.heap.size 5 i0 _ 1 1 Tryz.underlying81 hi hz0 hz1 hz2 rfl (by decide) _ l.length (U.cellsOf l) (by rfl) ((hown.alloc _).drew) ⟨wr.heap.size, 0, none⟩ 6 6 [.int .u8 92, .int .u8 117, .int .u8 48, .int .u8 48, .int .u8 49, .int .u8 97] (by rfl) (by rfl) (World.news_of_block (cs := #[.int .u8 92, .int .u8 117, .int .u8 48, .int .u8 48, .int .u8 49, .int .u8 97]) (t := 5) (fr := (0, 0)) (heap_alloc_new wr _)) (by simp [Value.oneCell']) (by decide) (by unfold maxLen; omega) (by omega) (by have := hbl.size; simp; omega) (wr.heap.size + 1) (by simp) ?_; intro gg cap w2 hown2 hgrow hat hlt2))
          all_goals go_wp2_with fail
          all_goals
            go_roundw
            case rel =>
              refine ⟨f', pos + 1, l ++ [92, 117, 48, 48, 49, 97], by go_num, HLT.out, by rw [List.length_append]; simp; omega, ?_, Lib.hid ⟨by rw [List.append_assoc, ← HS.out]; exact HU.out.1, by have := HU.out.2; omega⟩, grows_below hbl hbl.size (.inr ⟨_, .inr hgrow⟩) (fun k hk => (hown.lt k hk).1)⟩
              rw [List.length_append, ← U.cellsOf_append]
              exact hown2
            case measure => have := HLT.out; simp [RowKit.intOf]; omega
        · rw [show rb 27 = [92, 117, 48, 48, 49, 98] from rfl] at HS
          clear hs1 hc
          go_wp2_with fail
          go_region_held3 (fun _ => True) (exact trivial)
            ((refine step_append_lies _ (by rfl) _ _ _ (by rfl) w.heap.size 5 i0 _ 1 1 Tryz.underlying81 hi hz0 hz1 hz2 rfl (by decide) _ l.length (U.cellsOf l) (by rfl) ((hown.alloc _).drew) ⟨wr.heap.size, 0, none⟩ 6 6 [.int .u8 92, .int .u8 117, .int .u8 48, .int .u8 48, .int .u8 49, .int .u8 98] (by rfl) (by rfl) (World.news_of_block (cs := #[.int .u8 92, .int .u8 117, .int .u8 48, .int .u8 48, .int .u8 49, .int .u8 98]) (t := 5) (fr := (0, 0)) (heap_alloc_new wr _)) (by simp [Value.oneCell']) (by decide) (by unfold maxLen; omega) (by omega) (by have := hbl.size; simp; omega) (wr.heap.size + 1) (by simp) ?_; intro gg cap w2 hown2 hgrow hat hlt2))
          all_goals go_wp2_with fail
          all_goals
            go_roundw
            case rel =>
              refine ⟨f', pos + 1, l ++ [92, 117, 48, 48, 49, 98], by go_num, HLT.out, by rw [List.length_append]; simp; omega, ?_, Lib.hid ⟨by rw [List.append_assoc, ← HS.out]; exact HU.out.1, by have := HU.out.2; omega⟩, grows_below hbl hbl.size (.inr ⟨_, .inr hgrow⟩) (fun k hk => (hown.lt k hk).1)⟩
              rw [List.length_append, ← U.cellsOf_append]
              exact hown2
            case measure => have := HLT.out; simp [RowKit.intOf]; omega
        · rw [show rb 28 = [92, 117, 48, 48, 49, 99] from rfl] at HS
          clear hs1 hc
          go_wp2_with fail
          go_region_held3 (fun _ => True) (exact trivial)
            ((refine step_append_lies _ (by rfl) _ _ _ (by rfl) w.heap.size 5 i0 _ 1 1 Tryz.underlying81 hi hz0 hz1 hz2 rfl (by decide) _ l.length (U.cellsOf l) (by rfl) ((hown.alloc _).drew) ⟨wr.heap.size, 0, none⟩ 6 6 [.int .u8 92, .int .u8 117, .int .u8 48, .int .u8 48, .int .u8 49, .int .u8 99] (by rfl) (by rfl) (World.news_of_block (cs := #[.int .u8 92, .int .u8 117, .int .u8 48, .int .u8 48, .int .u8 49, .int .u8 99]) (t := 5) (fr := (0, 0)) (heap_alloc_new wr _)) (by simp [Value.oneCell']) (by decide) (by unfold maxLen; omega) (by omega) (by have := hbl.size; simp; omega) (wr.heap.size + 1) (by simp) ?_; intro gg cap w2 hown2 hgrow hat hlt2))
          all_goals go_wp2_with fail
          all_goals
            go_roundw
            case rel =>
              refine ⟨f', pos + 1, l ++ [92, 117, 48, 48, 49, 99], by go_num, HLT.out, by rw [List.length_append]; simp; omega, ?_, Lib.hid ⟨by rw [List.append_assoc, ← HS.out]; exact HU.out.1, by have := HU.out.2; omega⟩, grows_below hbl hbl.size (.inr ⟨_, .inr hgrow⟩) (fun k hk => (hown.lt k hk).1)⟩
              rw [List.length_append, ← U.cellsOf_append]
              exact hown2
            case measure => have := HLT.out; simp [RowKit.intOf]; omega
        · rw [show rb 29 = [92, 117, 48, 48, 49, 100] from rfl] at HS
          clear hs1 hc
          go_wp2_with fail
          go_region_held3 (fun _ => True) (exact trivial)
            ((refine step_append_lies _ (by rfl) _ _ _ (by rfl) w.heap.size 5 i0 _ 1 1 Tryz.underlying81 hi hz0 hz1 hz2 rfl (by decide) _ l.length (U.cellsOf l) (by rfl) ((hown.alloc _).drew) ⟨wr.heap.size, 0, none⟩ 6 6 [.int .u8 92, .int .u8 117, .int .u8 48, .int .u8 48, .int .u8 49, .int .u8 100] (by rfl) (by rfl) (World.news_of_block (cs := #[.int .u8 92, .int .u8 117, .int .u8 48, .int .u8 48, .int .u8 49, .int .u8 100]) (t := 5) (fr := (0, 0)) (heap_alloc_new wr _)) (by simp [Value.oneCell']) (by decide) (by unfold maxLen; omega) (by omega) (by have := hbl.size; simp; omega) (wr.heap.size + 1) (by simp) ?_; intro gg cap w2 hown2 hgrow hat hlt2))
          all_goals go_wp2_with fail
          all_goals
            go_roundw
            case rel =>
              refine ⟨f', pos + 1, l ++ [92, 117, 48, 48, 49, 100], by go_num, HLT.out, by rw [List.length_append]; simp; omega, ?_, Lib.hid ⟨by rw [List.append_assoc, ← HS.out]; exact HU.out.1, by have := HU.out.2; omega⟩, grows_below hbl hbl.size (.inr ⟨_, .inr hgrow⟩) (fun k hk => (hown.lt k hk).1)⟩
              rw [List.length_append, ← U.cellsOf_append]
              exact hown2
            case measure => have := HLT.out; simp [RowKit.intOf]; omega
        · rw [show rb 30 = [92, 117, 48, 48, 49, 101] from rfl] at HS
          clear hs1 hc
          go_wp2_with fail
          go_region_held3 (fun _ => True) (exact trivial)
            ((refine step_append_lies _ (by rfl) _ _ _ (by rfl) w.heap.size 5 i0 _ 1 1 Tryz.underlying81 hi hz0 hz1 hz2 rfl (by decide) _ l.length (U.cellsOf l) (by rfl) ((hown.alloc _).drew) ⟨wr.heap.size, 0, none⟩ 6 6 [.int .u8 92, .int .u8 117, .int .u8 48, .int .u8 48, .int .u8 49, .int .u8 101] (by rfl) (by rfl) (World.news_of_block (cs := #[.int .u8 92, .int .u8 117, .int .u8 48, .int .u8 48, .int .u8 49, .int .u8 101]) (t := 5) (fr := (0, 0)) (heap_alloc_new wr _)) (by simp [Value.oneCell']) (by decide) (by unfold maxLen; omega) (by omega) (by have := hbl.size; simp; omega) (wr.heap.size + 1) (by simp) ?_; intro gg cap w2 hown2 hgrow hat hlt2))
          all_goals go_wp2_with fail
          all_goals
            go_roundw
            case rel =>
              refine ⟨f', pos + 1, l ++ [92, 117, 48, 48, 49, 101], by go_num, HLT.out, by rw [List.length_append]; simp; omega, ?_, Lib.hid ⟨by rw [List.append_assoc, ← HS.out]; exact HU.out.1, by have := HU.out.2; omega⟩, grows_below hbl hbl.size (.inr ⟨_, .inr hgrow⟩) (fun k hk => (hown.lt k hk).1)⟩
              rw [List.length_append, ← U.cellsOf_append]
              exact hown2
            case measure => have := HLT.out; simp [RowKit.intOf]; omega
        · rw [show rb 31 = [92, 117, 48, 48, 49, 102] from rfl] at HS
          clear hs1 hc
          go_wp2_with fail
          go_region_held3 (fun _ => True) (exact trivial)
            ((refine step_append_lies _ (by rfl) _ _ _ (by rfl) w.heap.size 5 i0 _ 1 1 Tryz.underlying81 hi hz0 hz1 hz2 rfl (by decide) _ l.length (U.cellsOf l) (by rfl) ((hown.alloc _).drew) ⟨wr.heap.size, 0, none⟩ 6 6 [.int .u8 92, .int .u8 117, .int .u8 48, .int .u8 48, .int .u8 49, .int .u8 102] (by rfl) (by rfl) (World.news_of_block (cs := #[.int .u8 92, .int .u8 117, .int .u8 48, .int .u8 48, .int .u8 49, .int .u8 102]) (t := 5) (fr := (0, 0)) (heap_alloc_new wr _)) (by simp [Value.oneCell']) (by decide) (by unfold maxLen; omega) (by omega) (by have := hbl.size; simp; omega) (wr.heap.size + 1) (by simp) ?_; intro gg cap w2 hown2 hgrow hat hlt2))
          all_goals go_wp2_with fail
          all_goals
            go_roundw
            case rel =>
              refine ⟨f', pos + 1, l ++ [92, 117, 48, 48, 49, 102], by go_num, HLT.out, by rw [List.length_append]; simp; omega, ?_, Lib.hid ⟨by rw [List.append_assoc, ← HS.out]; exact HU.out.1, by have := HU.out.2; omega⟩, grows_below hbl hbl.size (.inr ⟨_, .inr hgrow⟩) (fun k hk => (hown.lt k hk).1)⟩
              rw [List.length_append, ← U.cellsOf_append]
              exact hown2
            case measure => have := HLT.out; simp [RowKit.intOf]; omega
        · rw [show rb 34 = [92, 34] from rfl] at HS
          clear hs1 hc
          go_wp2_with (at_builtin; refine wpList_append_own _ rfl _ _ 81 rfl w.heap.size 5 i0 (.int .u8 0) 1 1 Tryz.underlying81 hi hz0 hz1 hz2 rfl (by decide) _ l.length (U.cellsOf l) rfl (hown.alloc _) ⟨wr.heap.size, 0, none⟩ 2 2 [.int .u8 92, .int .u8 34] rfl rfl ?c1 ?c2 ?c3 ?c4 ?c5 ?_)
          case c1 => exact cells2
          case c2 => intro u hu; simp at hu; rcases hu with rfl | rfl <;> rfl
          case c3 => unfold maxLen; omega
          case c4 => omega
          case c5 => have := hbl.size; simp; omega
          intro v' w2 hown2 hgrow _
          go_wp2_with fail
          go_roundw
          case rel =>
            refine ⟨f', pos + 1, l ++ [92, 34], by go_num, HLT.out, by rw [List.length_append]; simp; omega, ?_, Lib.hid ⟨by rw [List.append_assoc, ← HS.out]; exact HU.out.1, by have := HU.out.2; omega⟩, grows_below hbl hbl.size (.inr ⟨_, .inl hgrow⟩) (fun k hk => (hown.lt k hk).1)⟩
            rw [List.length_append, ← U.cellsOf_append]
            exact hown2
          case measure => have := HLT.out; simp [RowKit.intOf]; omega
        · rw [show rb 92 = [92, 92] from rfl] at HS
          clear hs1 hc
          go_wp2_with (at_builtin; refine wpList_append_own _ rfl _ _ 81 rfl w.heap.size 5 i0 (.int .u8 0) 1 1 Tryz.underlying81 hi hz0 hz1 hz2 rfl (by decide) _ l.length (U.cellsOf l) rfl (hown.alloc _) ⟨wr.heap.size, 0, none⟩ 2 2 [.int .u8 92, .int .u8 92] rfl rfl ?c1 ?c2 ?c3 ?c4 ?c5 ?_)
          case c1 => exact cells2
          case c2 => intro u hu; simp at hu; rcases hu with rfl <;> rfl
          case c3 => unfold maxLen; omega
          case c4 => omega
          case c5 => have := hbl.size; simp; omega
          intro v' w2 hown2 hgrow _
          go_wp2_with fail
          go_roundw
          case rel =>
            refine ⟨f', pos + 1, l ++ [92, 92], by go_num, HLT.out, by rw [List.length_append]; simp; omega, ?_, Lib.hid ⟨by rw [List.append_assoc, ← HS.out]; exact HU.out.1, by have := HU.out.2; omega⟩, grows_below hbl hbl.size (.inr ⟨_, .inl hgrow⟩) (fun k hk => (hown.lt k hk).1)⟩
            rw [List.length_append, ← U.cellsOf_append]
            exact hown2
          case measure => have := HLT.out; simp [RowKit.intOf]; omega
      · have HR := Lib.hid (rb_else (c := c) (by omega) (by omega) (by omega))
        have t1 : ((c : Int) == 34) = false := by simp; omega
        have t2 : ((c : Int) == 92) = false := by simp; omega
        have t3 : ((c : Int) == 8) = false := by simp; omega
        have t4 : ((c : Int) == 9) = false := by simp; omega
        have t5 : ((c : Int) == 10) = false := by simp; omega
        have t6 : ((c : Int) == 12) = false := by simp; omega
        have t7 : ((c : Int) == 13) = false := by simp; omega
        have t8 : decide ((c : Int) < 32) = false := decide_eq_false (by omega)
        clear hs1
        go_wp2_with (at_builtin; refine wpList_append_own _ rfl _ _ 81 rfl w.heap.size 5 i0 (.int .u8 0) 1 1 Tryz.underlying81 hi hz0 hz1 hz2 rfl (by decide) _ l.length (U.cellsOf l) rfl (hown.alloc _) ⟨wr.heap.size, 0, none⟩ 1 1 [.int .u8 c] rfl rfl ?c1 ?c2 ?c3 ?c4 ?c5 ?_)
        case c1 => exact cells1
        case c2 => intro u hu; simp at hu; rcases hu with rfl; rfl
        case c3 => unfold maxLen; omega
        case c4 => omega
        case c5 => have := hbl.size; simp; omega
        intro v' w2 hown2 hgrow _
        go_wp2_with fail
        go_roundw
        case rel =>
          refine ⟨f', pos + 1, l ++ rb c, by go_num, HLT.out, by rw [List.length_append, HR.out]; simp; omega, ?_, Lib.hid ⟨by rw [List.append_assoc, ← HS.out]; exact HU.out.1, by have := HU.out.2; omega⟩, grows_below hbl hbl.size (.inr ⟨_, .inl hgrow⟩) (fun k hk => (hown.lt k hk).1)⟩
          rw [HR.out, List.length_append, ← U.cellsOf_append]
          have e : U.cellsOf [c.toUInt8] = [.int .u8 c] := by
            unfold U.cellsOf
            simp only [List.map_cons, List.map_nil]
            rw [show (c.toUInt8).toNat = c from Nat.mod_eq_of_lt hc]
          rw [e]
          exact hown2
        case measure => have := HLT.out; simp [RowKit.intOf]; omega
    · have HE := Lib.hid (rF_end F f pos hlt)
      go_wp2_with (at_builtin; refine wpList_append_own _ rfl _ _ 81 rfl w.heap.size 5 i0 (.int .u8 0) 1 1 Tryz.underlying81 hi hz0 hz1 hz2 rfl (by decide) _ l.length (U.cellsOf l) rfl (hown.alloc _) ⟨wr.heap.size, 0, none⟩ 1 1 [.int .u8 34] rfl rfl ?c1 ?c2 ?c3 ?c4 ?c5 ?_)
      case c1 => exact cells1
      case c2 => intro u hu; simp at hu; rcases hu with rfl; rfl
      case c3 => unfold maxLen; omega
      case c4 => omega
      case c5 => have := hbl.size; simp; omega
      intro v5 w5 hown5 hgrow5 _
      have hb5 : Below w.heap.size w w5 := grows_below hbl hbl.size (.inr ⟨_, .inl hgrow5⟩) (fun k hk => (hown.lt k hk).1)
      have hown6 : w5.ownsRow w.heap.size 5 1 v5 (l ++ [34]).length (U.cellsOf (l ++ [34])) := by
        rw [List.length_append, ← U.cellsOf_append]
        exact hown5
      have hconv := conv_own hown6
      clear hown5 hown6
      go_wp2_with fail
      go_ret
      refine ⟨?_, hb5⟩
      have h := HU.out.1
      rw [HE.out, List.append_nil] at h
      unfold rL
      rw [h]
      rfl
end Go.Proofs.YtoolkaahjmnjeaaGreatDoor
