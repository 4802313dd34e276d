/- Offsets, the program's and the document's own: the stretch between two places by lines. Conditions: a string of at most 10^11 bytes; numbers such as an int holds. -/
import Derived.Test.YtdhdemndeiipcaaDoorLinRefOffset
namespace Go.Proofs.YtdhdemndeiipcaaDoor
open Go Go.RowKit Go.Shelf Go.Lib

theorem ofs_le (s : ByteArray) (l c : Int) : ofs s l c ≤ s.size := by
  unfold ofs
  by_cases h : l.toNat < L.mny s
  · rw [if_pos h]
    have hto := L.to_le h
    have hge := L.to_ge h
    have hsz := content_size h
    obtain ⟨j, n, _, _, hc, _⟩ := U.cut_facts (content s l.toNat) c
    omega
  · rw [if_neg h]; exact Nat.le_refl _

def SpanIs (a b : Nat) (w : World) (e : Ending) (w' : World) : Prop := e = .returned (.agg #[.int .i64 (min (a : Int) (b : Int)), .int .i64 (max (a : Int) (b : Int))]) ∧ Below w.heap.size w w'

set_option maxRecDepth 100000 in
set_option maxHeartbeats 1000000 in
theorem offsets_any (s : ByteArray) (l1 c1 l2 c2 : Int) (w : World) (hs : s.size ≤ 100000000000) (hc1 : c1 ≤ 9223372036854775807) (hc2 : c2 ≤ 9223372036854775807) :
    Calls Tryd.prog 11 #[.string s, .agg #[.int .i64 l1, .int .i64 c1, .int .i64 l2, .int .i64 c2]] w (SpanIs (ofs s l1 c1) (ofs s l2 c2) w) := by
  have h1 := fun W => offset_any s l1 c1 W hs hc1
  have h2 := fun W => offset_any s l2 c2 W hs hc2
  have hl1 := ofs_le s l1 c1
  have hl2 := ofs_le s l2 c2
  generalize ofs s l1 c1 = a at *
  generalize ofs s l2 c2 = b at *
  have hz1 : w.heap.size < w.heap.size + 1 + 1 := by omega
  have hz2 : w.heap.size < w.heap.size + 2 := by omega
  go_enter Tryd.func11, Tryd.ntmps11
  go_wp2_with fail
  go_region_held3 (fun w' => w'.cell? ⟨w.heap.size, 0, none⟩ = some (.int .i64 l1) ∧ w'.cell? ⟨w.heap.size, 1, none⟩ = some (.int .i64 c1) ∧ w'.cell? ⟨w.heap.size, 2, none⟩ = some (.int .i64 l2) ∧ w'.cell? ⟨w.heap.size, 3, none⟩ = some (.int .i64 c2))
    (go_keep)
    (first
      | (go_at_call 7; (with_reducible refine (h1 _).mono ?_); rintro e w1 ⟨rfl, hB1⟩; have hs1 := hB1.size; simp at hs1; (have hs2 : w.heap.size < w1.heap.size := by omega); obtain ⟨hbc1, hbf1⟩ := bcell hB1)
      | (go_at_call 7; (with_reducible refine (h2 _).mono ?_); rintro e w2 ⟨rfl, hB2⟩; obtain ⟨hbc2, hbf2⟩ := bcell hB2))
  have b4 : Boxed2 w2 (w.heap.size + 1) 29 (.int .i64 0) (.int .i64 0) := by
    have b0 := Boxed2.new (w.alloc (Obj.cells #[.int .i64 l1, .int .i64 c1, .int .i64 l2, .int .i64 c2] 25)) 29 (.int .i64 0) (.int .i64 0)
    rw [World.size_alloc] at b0
    exact (b0.drew.below hB1).below hB2
  have HB := Lib.hid ((((((Below.refl _ w).alloc (Nat.le_refl _) _).alloc (by simp) _).drew).trans (hB1.mono (by simp; omega))).trans (hB2.mono (by omega)))
  clear hbc1 hbf1 hbc2 hbf2 hB1 hB2
  have x0 := b4.cell0
  have x1 := b4.cell1
  have y0 := b4.frozen0
  have y1 := b4.frozen1
  go_wp2_with fail
  exact bodyPost_ret (v := .agg #[.int .i64 (min (a : Int) (b : Int)), .int .i64 (max (a : Int) (b : Int))]) (by simp [results, Tryd.results11, go_sem, x0, x1]) rfl ⟨rfl, (HB.out.setCell (p := ⟨w.heap.size + 1, 0, none⟩) (by simp) _).setCell (p := ⟨w.heap.size + 1, 1, none⟩) (by simp) _⟩
set_option maxRecDepth 100000 in
set_option maxHeartbeats 1000000 in
theorem refOffsets_lt (s : ByteArray) (l1 c1 l2 c2 : Int) (w : World) (hs : s.size ≤ 100000000000) (hab : ofs s l2 c2 < ofs s l1 c1) :
    Calls Tryd.prog 12 #[.string s, .agg #[.int .i64 l1, .int .i64 c1, .int .i64 l2, .int .i64 c2]] w (SpanIs (ofs s l1 c1) (ofs s l2 c2) w) := by
  have h1 := fun W => refOffset_any s l1 c1 W hs
  have h2 := fun W => refOffset_any s l2 c2 W hs
  have hl1 := ofs_le s l1 c1
  have hl2 := ofs_le s l2 c2
  generalize ofs s l1 c1 = a at *
  generalize ofs s l2 c2 = b at *
  have hz1 : w.heap.size < w.heap.size + 1 + 1 := by omega
  have hz2 : w.heap.size < w.heap.size + 2 := by omega
  go_enter Tryd.func12, Tryd.ntmps12
  go_wp2_with fail
  go_region_held3 (fun w' => w'.cell? ⟨w.heap.size, 0, none⟩ = some (.int .i64 l1) ∧ w'.cell? ⟨w.heap.size, 1, none⟩ = some (.int .i64 c1) ∧ w'.cell? ⟨w.heap.size, 2, none⟩ = some (.int .i64 l2) ∧ w'.cell? ⟨w.heap.size, 3, none⟩ = some (.int .i64 c2))
    (go_keep)
    (first
      | (go_at_call 8; (with_reducible refine (h1 _).mono ?_); rintro e w1 ⟨rfl, hB1⟩; have hs1 := hB1.size; simp at hs1; (have hs2 : w.heap.size < w1.heap.size := by omega); obtain ⟨hbc1, hbf1⟩ := bcell hB1)
      | (go_at_call 8; (with_reducible refine (h2 _).mono ?_); rintro e w2 ⟨rfl, hB2⟩; obtain ⟨hbc2, hbf2⟩ := bcell hB2))
  have b4 : Boxed2 w2 (w.heap.size + 1) 29 (.int .i64 0) (.int .i64 0) := by
    have b0 := Boxed2.new (w.alloc (Obj.cells #[.int .i64 l1, .int .i64 c1, .int .i64 l2, .int .i64 c2] 25)) 29 (.int .i64 0) (.int .i64 0)
    rw [World.size_alloc] at b0
    exact (b0.drew.below hB1).below hB2
  have HB := Lib.hid ((((((Below.refl _ w).alloc (Nat.le_refl _) _).alloc (by simp) _).drew).trans (hB1.mono (by simp; omega))).trans (hB2.mono (by omega)))
  clear hbc1 hbf1 hbc2 hbf2 hB1 hB2
  have x0 := b4.cell0
  have x1 := b4.cell1
  have y0 := b4.frozen0
  have y1 := b4.frozen1
  go_wp2_with fail
  exact bodyPost_ret (v := .agg #[.int .i64 b, .int .i64 a]) (by simp [results, Tryd.results12, go_sem, x0, x1]) rfl ⟨by rw [show min (a : Int) (b : Int) = b by omega, show max (a : Int) (b : Int) = a by omega], (HB.out.setCell (p := ⟨w.heap.size + 1, 0, none⟩) (by simp) _).setCell (p := ⟨w.heap.size + 1, 1, none⟩) (by simp) _⟩
set_option maxRecDepth 100000 in
set_option maxHeartbeats 1000000 in
theorem refOffsets_ge (s : ByteArray) (l1 c1 l2 c2 : Int) (w : World) (hs : s.size ≤ 100000000000) (hab : ¬ ofs s l2 c2 < ofs s l1 c1) :
    Calls Tryd.prog 12 #[.string s, .agg #[.int .i64 l1, .int .i64 c1, .int .i64 l2, .int .i64 c2]] w (SpanIs (ofs s l1 c1) (ofs s l2 c2) w) := by
  have h1 := fun W => refOffset_any s l1 c1 W hs
  have h2 := fun W => refOffset_any s l2 c2 W hs
  have hl1 := ofs_le s l1 c1
  have hl2 := ofs_le s l2 c2
  generalize ofs s l1 c1 = a at *
  generalize ofs s l2 c2 = b at *
  have hz1 : w.heap.size < w.heap.size + 1 + 1 := by omega
  have hz2 : w.heap.size < w.heap.size + 2 := by omega
  go_enter Tryd.func12, Tryd.ntmps12
  go_wp2_with fail
  go_region_held3 (fun w' => w'.cell? ⟨w.heap.size, 0, none⟩ = some (.int .i64 l1) ∧ w'.cell? ⟨w.heap.size, 1, none⟩ = some (.int .i64 c1) ∧ w'.cell? ⟨w.heap.size, 2, none⟩ = some (.int .i64 l2) ∧ w'.cell? ⟨w.heap.size, 3, none⟩ = some (.int .i64 c2))
    (go_keep)
    (first
      | (go_at_call 8; (with_reducible refine (h1 _).mono ?_); rintro e w1 ⟨rfl, hB1⟩; have hs1 := hB1.size; simp at hs1; (have hs2 : w.heap.size < w1.heap.size := by omega); obtain ⟨hbc1, hbf1⟩ := bcell hB1)
      | (go_at_call 8; (with_reducible refine (h2 _).mono ?_); rintro e w2 ⟨rfl, hB2⟩; obtain ⟨hbc2, hbf2⟩ := bcell hB2))
  have b4 : Boxed2 w2 (w.heap.size + 1) 29 (.int .i64 0) (.int .i64 0) := by
    have b0 := Boxed2.new (w.alloc (Obj.cells #[.int .i64 l1, .int .i64 c1, .int .i64 l2, .int .i64 c2] 25)) 29 (.int .i64 0) (.int .i64 0)
    rw [World.size_alloc] at b0
    exact (b0.drew.below hB1).below hB2
  have HB := Lib.hid ((((((Below.refl _ w).alloc (Nat.le_refl _) _).alloc (by simp) _).drew).trans (hB1.mono (by simp; omega))).trans (hB2.mono (by omega)))
  clear hbc1 hbf1 hbc2 hbf2 hB1 hB2
  have x0 := b4.cell0
  have x1 := b4.cell1
  have y0 := b4.frozen0
  have y1 := b4.frozen1
  go_wp2_with fail
  exact bodyPost_ret (v := .agg #[.int .i64 a, .int .i64 b]) (by simp [results, Tryd.results12, go_sem, x0, x1]) rfl ⟨by rw [show min (a : Int) (b : Int) = a by omega, show max (a : Int) (b : Int) = b by omega], (HB.out.setCell (p := ⟨w.heap.size + 1, 0, none⟩) (by simp) _).setCell (p := ⟨w.heap.size + 1, 1, none⟩) (by simp) _⟩
theorem refOffsets_any (s : ByteArray) (l1 c1 l2 c2 : Int) (w : World) (hs : s.size ≤ 100000000000) :
    Calls Tryd.prog 12 #[.string s, .agg #[.int .i64 l1, .int .i64 c1, .int .i64 l2, .int .i64 c2]] w (SpanIs (ofs s l1 c1) (ofs s l2 c2) w) := by
  by_cases h : ofs s l2 c2 < ofs s l1 c1
  · exact refOffsets_lt s l1 c1 l2 c2 w hs h
  · exact refOffsets_ge s l1 c1 l2 c2 w hs h
end Go.Proofs.YtdhdemndeiipcaaDoor
