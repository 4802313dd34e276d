/- FrameWrites, walked. Conditions: none on the string; the library's table of powers as its text lays it. -/
import Derived.Test.YtmaclplhphfkiaaDoorFrWrite
namespace Go.Proofs.YtmaclplhphfkiaaDoor
open Go Go.RowKit Go.Lib

def SaysYes (w : World) (e : Ending) (w' : World) : Prop := e = .returned (.bool true) ∧ Below w.heap.size w w'
set_option maxRecDepth 100000 in
set_option maxHeartbeats 1000000 in
theorem frameWrites_any (s : ByteArray) (b : Value) (w : World) (hP : ∀ w', Below w.heap.size w w' → FW.PowTab w') :
    Calls Tryd.prog 6 #[.string s, b] w (SaysYes w) := by
  by_cases hs : s.size ≤ 524288
  · have hw := fun W hB => write_any s W (by omega) (hP W hB)
    have hr := fun W => refWrite_any s W (by omega)
    generalize FW.wr s = X at *
    have e1 : (X.data.toList == X.data.toList) = true := by simp
    go_enter Tryd.func6, Tryd.ntmps6
    go_wp2_with fail
    have h0 : Rb (w.alloc (.cells #[.pointer none, .nilFunc, .slice none 0 0, .int .i64 0, .slice none 0 0, .int .i64 0] 54)) w.heap.size _ _ _ _ _ _ := heap_alloc_new _ _
    have h1 := h0.alloc (.cells #[.pointer none, .pointer (some ⟨w.heap.size, 0, none⟩)] 41)
    have hk := heap_alloc_new (w.alloc (.cells #[.pointer none, .nilFunc, .slice none 0 0, .int .i64 0, .slice none 0 0, .int .i64 0] 54)) (.cells #[.pointer none, .pointer (some ⟨w.heap.size, 0, none⟩)] 41)
    rw [World.size_alloc] at hk
    have hB := ((Below.refl w.heap.size w).alloc (Nat.le_refl _) (.cells #[.pointer none, .nilFunc, .slice none 0 0, .int .i64 0, .slice none 0 0, .int .i64 0] 54)).alloc (by simp) (.cells #[.pointer none, .pointer (some ⟨w.heap.size, 0, none⟩)] 41)
    generalize ((w.alloc (.cells #[.pointer none, .nilFunc, .slice none 0 0, .int .i64 0, .slice none 0 0, .int .i64 0] 54)).alloc (.cells #[.pointer none, .pointer (some ⟨w.heap.size, 0, none⟩)] 41)) = W at *
    have k0 : W.cell? ⟨w.heap.size + 1, 0, none⟩ = some (.pointer none) := (cell_of_row _ _ 0 _ _ (0, 0) hk).trans rfl
    have k1 : W.cell? ⟨w.heap.size + 1, 1, none⟩ = some (.pointer (some ⟨w.heap.size, 0, none⟩)) := (cell_of_row _ _ 1 _ _ (0, 0) hk).trans rfl
    have n0 : Nobody W none := .inl rfl
    have n1 : Nobody W (some ⟨w.heap.size, 0, none⟩) := .inr ⟨_, _, _, _, _, _, rfl, h1⟩
    have HB := Lib.hid hB
    have hw := hw W hB
    have hr := fun W' (hB' : Below w.heap.size w W') => hr W'
    clear h0 h1 hk hB
    go_loop [6] (fun i => ∃ k : Nat, k ≤ 2 ∧ i = .int .i64 k) (fun i => 2 - (RowKit.intOf i).toNat)
    case atStart => exact ⟨0, by decide, rfl⟩
    case round =>
      obtain ⟨k, hk, rfl⟩ := hrel
      have hc : k = 0 ∨ k = 1 ∨ k = 2 := by omega
      rcases hc with rfl | rfl | rfl
      · have a1 := next_no none W n0
        have a2 := feed_no none b W n0
        have a3 := dead_no none W n0
        go_wp2_with fail
        refine a1.mono ?_
        rintro e w' ⟨rfl, rfl⟩
        go_wp2_with fail
        refine a2.mono ?_
        rintro e w' ⟨rfl, rfl⟩
        go_wp2_with fail
        refine a3.mono ?_
        rintro e w' ⟨rfl, rfl⟩
        go_wp2_with fail
        go_round
        case rel => exact ⟨1, by decide, rfl⟩
        case measure => decide
      · have a1 := next_no _ W n1
        have a2 := feed_no _ b W n1
        have a3 := dead_no _ W n1
        go_wp2_with fail
        refine a1.mono ?_
        rintro e w' ⟨rfl, rfl⟩
        go_wp2_with fail
        refine a2.mono ?_
        rintro e w' ⟨rfl, rfl⟩
        go_wp2_with fail
        refine a3.mono ?_
        rintro e w' ⟨rfl, rfl⟩
        go_wp2_with fail
        go_round
        case rel => exact ⟨2, by decide, rfl⟩
        case measure => decide
      · go_wp2_with fail
        refine hw.mono ?_
        rintro e w1 ⟨rfl, hB1⟩
        have HB1 := Lib.hid (HB.out.trans (hB1.mono HB.out.size))
        clear hB1
        go_wp2_with fail
        refine (hr w1 HB1.out).mono ?_
        rintro e w2 ⟨rfl, hB2⟩
        have HB2 := Lib.hid (HB1.out.trans (hB2.mono HB1.out.size))
        clear hB2
        go_wp2_with fail
        go_ret
        exact ⟨rfl, HB2.out⟩
  · go_enter Tryd.func6, Tryd.ntmps6
    go_wp2_with fail
    go_ret
    exact ⟨rfl, Below.refl _ _⟩
theorem frameWritesLaw_any (s : ByteArray) (b : Value) (w : World) (_hs : s.size ≤ 9223372036854775807) (hP : FW.PowTab w) :
    Calls Tryd.prog 6 #[.string s, b] w (SaysYes w) :=
  frameWrites_any s b w fun w' hB => Lib.tabBelow_of_tabIs hP w' hB
end Go.Proofs.YtmaclplhphfkiaaDoor
