/- The program's Parse. Conditions: a string of at most 10^12 bytes; the library's tables of UTF-8 as its text lays them. -/
import Derived.Test.YtkehpmbafjelpaaDoorJpParse
namespace Go.Proofs.YtkehpmbafjelpaaDoor
open Go Go.RowKit Go.Lib

def prsAll (s : ByteArray) : VR := if 262144 < s.size then ((0, ⟨#[]⟩, .nil, .nil), 0, 3) else prs s

set_option maxRecDepth 100000 in
set_option maxHeartbeats 1000000 in
theorem Parse_any (s : ByteArray) (w : World) (hs : s.size ≤ 1000000000000) (hT : Tabs w) : Calls Tryd.prog 9 #[.string s] w (ParseIs (prsAll s) w) := by
  unfold prsAll
  have HB := Lib.hid (bx_box w)
  have HW := Lib.hid (bx_below w)
  have HZ := Lib.hid (bx_size w)
  have hp := fun h => parse_any s (Bx w) h (tabs_below hT (bx_below w))
  unfold Bx at hp HB HW HZ
  generalize hW0 : w.alloc (.cells #[.int .u8 0, .string ⟨#[]⟩, .slice none 0 0, .slice none 0 0] 25) = W0 at *
  by_cases h : 262144 < s.size
  · rw [if_pos h]
    obtain ⟨d0, d1, d2, d3⟩ := HB.out.box
    have f0 := HB.out.free 0
    have f1 := HB.out.free 1
    have f2 := HB.out.free 2
    have f3 := HB.out.free 3
    clear hp
    go_enter Tryd.func9, Tryd.ntmps9
    go_wp2_with fail
    obtain ⟨e1, e2, e3⟩ := HB.out.all (.int .u8 0) (.string ⟨#[]⟩) (.slice none 0 0) (.slice none 0 0)
    have hB := HW.out.trans (below_set (o := 3) (below_set (o := 2) (below_set (o := 1) (below_set (o := 0) (Below.refl w.heap.size W0) (Nat.le_refl _) (.int .u8 0)) (Nat.le_refl _) (.string ⟨#[]⟩)) (Nat.le_refl _) (.slice none 0 0)) (Nat.le_refl _) (.slice none 0 0))
    generalize (((W0.setCell ⟨w.heap.size, 0, none⟩ (.int .u8 0)).setCell ⟨w.heap.size, 1, none⟩ (.string ⟨#[]⟩)).setCell ⟨w.heap.size, 2, none⟩ (.slice none 0 0)).setCell ⟨w.heap.size, 3, none⟩ (.slice none 0 0) = W' at *
    obtain ⟨x0, x1, x2, x3⟩ := e1.box
    refine bodyPost_ret (v := .tuple #[.agg #[.int .u8 0, .string ⟨#[]⟩, .slice none 0 0, .slice none 0 0], .int .i64 0, .int .i64 3]) (by simp [results, Tryd.results9, go_sem, x0, x1, x2, x3]) rfl ?_
    exact died_is (s := s) (p := 0) (e := 3) (Below.refl _ _) hB
  · rw [if_neg h]
    have hp := hp (by omega)
    generalize prs s = r at *
    go_enter Tryd.func9, Tryd.ntmps9
    go_wp2_with fail
    refine hp.mono ?_
    rintro en w1 ⟨v, u, rfl, hl, hf, hfit, hB⟩
    obtain ⟨p3, c3, rfl, -⟩ := hl.len
    obtain ⟨p4, c4, rfl, -⟩ := hf.len
    have B1 := HB.out.same (hB.block _ (by have := HZ.out; omega))
    obtain ⟨d0, d1, d2, d3⟩ := B1.box
    have f0 := B1.free 0
    have f1 := B1.free 1
    have f2 := B1.free 2
    have f3 := B1.free 3
    have HL := Lib.hid (And.intro hl (And.intro hf hfit))
    have HN := Lib.hid (And.intro B1 hB)
    clear hl hf hfit hB B1 hp
    go_wp2_with fail
    obtain ⟨e1, e2, e3⟩ := HN.out.1.all (.int .u8 r.1.1) (.string r.1.2.1) (.slice p3 r.1.2.2.1.len c3) (.slice p4 r.1.2.2.2.len c4)
    have e4 := set4_else w1 w.heap.size (.int .u8 r.1.1) (.string r.1.2.1) (.slice p3 r.1.2.2.1.len c3) (.slice p4 r.1.2.2.2.len c4)
    have hB := HW.out.trans ((HN.out.2.mono (by have := HZ.out; omega)).trans (below_set (o := 3) (below_set (o := 2) (below_set (o := 1) (below_set (o := 0) (Below.refl w.heap.size w1) (Nat.le_refl _) (.int .u8 r.1.1)) (Nat.le_refl _) (.string r.1.2.1)) (Nat.le_refl _) (.slice p3 r.1.2.2.1.len c3)) (Nat.le_refl _) (.slice p4 r.1.2.2.2.len c4)))
    generalize (((w1.setCell ⟨w.heap.size, 0, none⟩ (.int .u8 r.1.1)).setCell ⟨w.heap.size, 1, none⟩ (.string r.1.2.1)).setCell ⟨w.heap.size, 2, none⟩ (.slice p3 r.1.2.2.1.len c3)).setCell ⟨w.heap.size, 3, none⟩ (.slice p4 r.1.2.2.2.len c4) = W' at *
    obtain ⟨x0, x1, x2, x3⟩ := e1.box
    refine bodyPost_ret (v := .tuple #[.agg #[.int .u8 r.1.1, .string r.1.2.1, .slice p3 r.1.2.2.1.len c3, .slice p4 r.1.2.2.2.len c4], .int .i64 r.2.1, .int .i64 r.2.2]) (by simp [results, Tryd.results9, go_sem, x0, x1, x2, x3]) rfl ?_
    exact ⟨_, _, rfl, HL.out.1.imp (fun b a _ => by have a : _ ≤ b := a; have := HZ.out; show w.heap.size ≤ b; omega) (fun b a _ => e4 b (by have a : _ ≤ b := a; have := HZ.out; omega)), HL.out.2.1.imp (fun b a _ => by have a : _ ≤ b := a; have := HZ.out; show w.heap.size ≤ b; omega) (fun b a _ => e4 b (by have a : _ ≤ b := a; have := HZ.out; omega)), HL.out.2.2, hB⟩
end Go.Proofs.YtkehpmbafjelpaaDoor
