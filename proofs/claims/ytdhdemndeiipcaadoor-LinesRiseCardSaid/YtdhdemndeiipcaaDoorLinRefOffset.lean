/- The document's own Offset: the offset that a place by lines leads to. Conditions: a string of at most 10^11 bytes; numbers such as an int holds. -/
import Derived.Test.YtdhdemndeiipcaaDoorLinOffset
namespace Go.Proofs.YtdhdemndeiipcaaDoor
open Go Go.RowKit Go.Shelf Go.Lib

theorem cut_zero (s : ByteArray) : U.cut s 0 = 0 := by
  unfold U.cut
  by_cases hp : 0 < s.size
  · obtain ⟨f, hf⟩ : ∃ f, s.size = f + 1 := ⟨s.size - 1, by omega⟩
    rw [hf]
    exact U.cutFrom_stop s 0 f 0 0 hp (by have := U.un_le hp; omega)
  · exact U.cutFrom_end s 0 s.size 0 0 hp

set_option maxRecDepth 100000 in
set_option maxHeartbeats 1000000 in
theorem refOffset_yes00 (s : ByteArray) (l c : Int) (w : World) (hs : s.size ≤ 100000000000) (h0 : 0 ≤ l) (h1 : 0 ≤ c) (hk : l.toNat < L.mny s) :
    Calls Tryd.prog 8 #[.string s, .agg #[.int .i64 l, .int .i64 c]] w (IntIs (L.fr s l.toNat + U.cut (content s l.toNat) c) w) := by
  have hfr := L.fr_le hk
  have hge := L.to_ge hk
  have hto := L.to_le hk
  have hsz := content_size hk
  have hcl : U.cut (content s l.toNat) c ≤ L.to s l.toNat - L.fr s l.toNat := by obtain ⟨j, n, _, _, h, _⟩ := U.cut_facts (content s l.toNat) c; omega
  have hline := fun W => (refLine_is s (l.toNat : Nat) W (by omega)).mono fun e w' h => line_yes hk h
  have hcut := fun W => refCut_any (content s l.toNat) (c) W (by omega)
  unfold content at hcut hcl ⊢
  unfold LineYes at hline
  generalize L.fr s l.toNat = f at *
  generalize L.to s l.toNat = t at *
  generalize U.cut (s.extract f t) c = m at *
  clear hsz
  rw [show ((l.toNat : Nat) : Int) = l by omega] at hline
  go_enter Tryd.func8, Tryd.ntmps8
  go_wp2_with fail
  refine (hline _).mono ?_
  rintro e w1 ⟨rfl, hB1⟩
  have c3 := ((Boxed2.new w 23 (.int .i64 l) (.int .i64 c)).below hB1).cell1
  have hz1 := hB1.size
  simp only [World.size_alloc] at hz1
  have hz2 : w.heap.size < w1.heap.size + 1 := by omega
  have HB := Lib.hid ((((Below.refl _ w).alloc (Nat.le_refl _) (Obj.cells #[Value.int .i64 l, Value.int .i64 c] 23)).trans (hB1.mono (by simp))).alloc (by omega) (Obj.cells #[Value.int .i64 f, Value.int .i64 t] 29))
  clear hB1
  go_wp2_with fail
  go_region_held3 (fun w' => w'.cell? ⟨w1.heap.size, 0, none⟩ = some (.int .i64 f) ∧ w'.cell? ⟨w1.heap.size, 1, none⟩ = some (.int .i64 t) ∧ w'.cell? ⟨w.heap.size, 1, none⟩ = some (.int .i64 c))
    (go_keep)
    (first | (go_at_call 20; refine (hcut _).mono ?_; rintro e w2 ⟨rfl, hB2⟩; obtain ⟨hbc, hbf⟩ := bcell hB2))
  have hw : IntKind.i64.wrap ((f : Int) + (m : Int)) = ((f + m : Nat) : Int) := by rw [IntWalk.i64_in _ (by omega)]; rfl
  rw [hw]
  go_wp2_with fail
  go_ret
  exact ⟨rfl, (HB.out.drew).trans (hB2.mono (HB.out.drew).size)⟩

set_option maxRecDepth 100000 in
set_option maxHeartbeats 1000000 in
theorem refOffset_no00 (s : ByteArray) (l c : Int) (w : World) (hs : s.size ≤ 100000000000) (h0 : 0 ≤ l) (h1 : 0 ≤ c) (hk : ¬ l.toNat < L.mny s) :
    Calls Tryd.prog 8 #[.string s, .agg #[.int .i64 l, .int .i64 c]] w (IntIs s.size w) := by
  have hm := L.mny_pos s
  have hline := fun W => (refLine_is s (l.toNat : Nat) W (by omega)).mono fun e w' h => line_no (by omega) h
  unfold LineNo at hline
  rw [show ((l.toNat : Nat) : Int) = l by omega] at hline
  go_enter Tryd.func8, Tryd.ntmps8
  go_wp2_with fail
  refine (hline _).mono ?_
  rintro e w1 ⟨rfl, hB1⟩
  have HB := Lib.hid ((((Below.refl _ w).alloc (Nat.le_refl _) (Obj.cells #[Value.int .i64 l, Value.int .i64 c] 23)).trans (hB1.mono (by simp))).alloc (by have := hB1.size; simp at this; omega) (Obj.cells #[Value.int .i64 0, Value.int .i64 0] 29))
  clear hB1
  go_wp2_with fail
  go_ret
  exact ⟨rfl, HB.out⟩

set_option maxRecDepth 100000 in
set_option maxHeartbeats 1000000 in
theorem refOffset_yes01 (s : ByteArray) (l c : Int) (w : World) (hs : s.size ≤ 100000000000) (h0 : 0 ≤ l) (h1 : c < 0) (hk : l.toNat < L.mny s) :
    Calls Tryd.prog 8 #[.string s, .agg #[.int .i64 l, .int .i64 c]] w (IntIs (L.fr s l.toNat + U.cut (content s l.toNat) c) w) := by
  have hfr := L.fr_le hk
  have hge := L.to_ge hk
  have hto := L.to_le hk
  have hsz := content_size hk
  have hcl : U.cut (content s l.toNat) c ≤ L.to s l.toNat - L.fr s l.toNat := by obtain ⟨j, n, _, _, h, _⟩ := U.cut_facts (content s l.toNat) c; omega
  have hline := fun W => (refLine_is s (l.toNat : Nat) W (by omega)).mono fun e w' h => line_yes hk h
  have hcut := fun W => refCut_any (content s l.toNat) (0) W (by omega)
  rw [cut_zero, ← U.cut_below (content s l.toNat) c h1] at hcut
  unfold content at hcut hcl ⊢
  unfold LineYes at hline
  generalize L.fr s l.toNat = f at *
  generalize L.to s l.toNat = t at *
  generalize U.cut (s.extract f t) c = m at *
  clear hsz
  rw [show ((l.toNat : Nat) : Int) = l by omega] at hline
  go_enter Tryd.func8, Tryd.ntmps8
  go_wp2_with fail
  refine (hline _).mono ?_
  rintro e w1 ⟨rfl, hB1⟩
  have c3 := ((Boxed2.new w 23 (.int .i64 l) (.int .i64 0)).below hB1).cell1
  have hz1 := hB1.size
  simp only [World.size_alloc] at hz1
  have hz2 : w.heap.size < w1.heap.size + 1 := by omega
  have HB := Lib.hid ((((Below.refl _ w).alloc (Nat.le_refl _) (Obj.cells #[Value.int .i64 l, Value.int .i64 0] 23)).trans (hB1.mono (by simp))).alloc (by omega) (Obj.cells #[Value.int .i64 f, Value.int .i64 t] 29))
  clear hB1
  go_wp2_with fail
  go_region_held3 (fun w' => w'.cell? ⟨w1.heap.size, 0, none⟩ = some (.int .i64 f) ∧ w'.cell? ⟨w1.heap.size, 1, none⟩ = some (.int .i64 t) ∧ w'.cell? ⟨w.heap.size, 1, none⟩ = some (.int .i64 0))
    (go_keep)
    (first | (go_at_call 20; refine (hcut _).mono ?_; rintro e w2 ⟨rfl, hB2⟩; obtain ⟨hbc, hbf⟩ := bcell hB2))
  have hw : IntKind.i64.wrap ((f : Int) + (m : Int)) = ((f + m : Nat) : Int) := by rw [IntWalk.i64_in _ (by omega)]; rfl
  rw [hw]
  go_wp2_with fail
  go_ret
  exact ⟨rfl, (HB.out.drew).trans (hB2.mono (HB.out.drew).size)⟩

set_option maxRecDepth 100000 in
set_option maxHeartbeats 1000000 in
theorem refOffset_no01 (s : ByteArray) (l c : Int) (w : World) (hs : s.size ≤ 100000000000) (h0 : 0 ≤ l) (h1 : c < 0) (hk : ¬ l.toNat < L.mny s) :
    Calls Tryd.prog 8 #[.string s, .agg #[.int .i64 l, .int .i64 c]] w (IntIs s.size w) := by
  have hm := L.mny_pos s
  have hline := fun W => (refLine_is s (l.toNat : Nat) W (by omega)).mono fun e w' h => line_no (by omega) h
  unfold LineNo at hline
  rw [show ((l.toNat : Nat) : Int) = l by omega] at hline
  go_enter Tryd.func8, Tryd.ntmps8
  go_wp2_with fail
  refine (hline _).mono ?_
  rintro e w1 ⟨rfl, hB1⟩
  have HB := Lib.hid ((((Below.refl _ w).alloc (Nat.le_refl _) (Obj.cells #[Value.int .i64 l, Value.int .i64 0] 23)).trans (hB1.mono (by simp))).alloc (by have := hB1.size; simp at this; omega) (Obj.cells #[Value.int .i64 0, Value.int .i64 0] 29))
  clear hB1
  go_wp2_with fail
  go_ret
  exact ⟨rfl, HB.out⟩

set_option maxRecDepth 100000 in
set_option maxHeartbeats 1000000 in
theorem refOffset_yes10 (s : ByteArray) (l c : Int) (w : World) (hs : s.size ≤ 100000000000) (h0 : l < 0) (h1 : 0 ≤ c) (hk : l.toNat < L.mny s) :
    Calls Tryd.prog 8 #[.string s, .agg #[.int .i64 l, .int .i64 c]] w (IntIs (L.fr s l.toNat + U.cut (content s l.toNat) c) w) := by
  have hfr := L.fr_le hk
  have hge := L.to_ge hk
  have hto := L.to_le hk
  have hsz := content_size hk
  have hcl : U.cut (content s l.toNat) c ≤ L.to s l.toNat - L.fr s l.toNat := by obtain ⟨j, n, _, _, h, _⟩ := U.cut_facts (content s l.toNat) c; omega
  have hline := fun W => (refLine_is s (l.toNat : Nat) W (by omega)).mono fun e w' h => line_yes hk h
  have hcut := fun W => refCut_any (content s l.toNat) (c) W (by omega)
  unfold content at hcut hcl ⊢
  unfold LineYes at hline
  generalize L.fr s l.toNat = f at *
  generalize L.to s l.toNat = t at *
  generalize U.cut (s.extract f t) c = m at *
  clear hsz
  rw [show ((l.toNat : Nat) : Int) = 0 by omega] at hline
  go_enter Tryd.func8, Tryd.ntmps8
  go_wp2_with fail
  refine (hline _).mono ?_
  rintro e w1 ⟨rfl, hB1⟩
  have c3 := ((Boxed2.new w 23 (.int .i64 0) (.int .i64 c)).below hB1).cell1
  have hz1 := hB1.size
  simp only [World.size_alloc] at hz1
  have hz2 : w.heap.size < w1.heap.size + 1 := by omega
  have HB := Lib.hid ((((Below.refl _ w).alloc (Nat.le_refl _) (Obj.cells #[Value.int .i64 0, Value.int .i64 c] 23)).trans (hB1.mono (by simp))).alloc (by omega) (Obj.cells #[Value.int .i64 f, Value.int .i64 t] 29))
  clear hB1
  go_wp2_with fail
  go_region_held3 (fun w' => w'.cell? ⟨w1.heap.size, 0, none⟩ = some (.int .i64 f) ∧ w'.cell? ⟨w1.heap.size, 1, none⟩ = some (.int .i64 t) ∧ w'.cell? ⟨w.heap.size, 1, none⟩ = some (.int .i64 c))
    (go_keep)
    (first | (go_at_call 20; refine (hcut _).mono ?_; rintro e w2 ⟨rfl, hB2⟩; obtain ⟨hbc, hbf⟩ := bcell hB2))
  have hw : IntKind.i64.wrap ((f : Int) + (m : Int)) = ((f + m : Nat) : Int) := by rw [IntWalk.i64_in _ (by omega)]; rfl
  rw [hw]
  go_wp2_with fail
  go_ret
  exact ⟨rfl, (HB.out.drew).trans (hB2.mono (HB.out.drew).size)⟩

set_option maxRecDepth 100000 in
set_option maxHeartbeats 1000000 in
theorem refOffset_yes11 (s : ByteArray) (l c : Int) (w : World) (hs : s.size ≤ 100000000000) (h0 : l < 0) (h1 : c < 0) (hk : l.toNat < L.mny s) :
    Calls Tryd.prog 8 #[.string s, .agg #[.int .i64 l, .int .i64 c]] w (IntIs (L.fr s l.toNat + U.cut (content s l.toNat) c) w) := by
  have hfr := L.fr_le hk
  have hge := L.to_ge hk
  have hto := L.to_le hk
  have hsz := content_size hk
  have hcl : U.cut (content s l.toNat) c ≤ L.to s l.toNat - L.fr s l.toNat := by obtain ⟨j, n, _, _, h, _⟩ := U.cut_facts (content s l.toNat) c; omega
  have hline := fun W => (refLine_is s (l.toNat : Nat) W (by omega)).mono fun e w' h => line_yes hk h
  have hcut := fun W => refCut_any (content s l.toNat) (0) W (by omega)
  rw [cut_zero, ← U.cut_below (content s l.toNat) c h1] at hcut
  unfold content at hcut hcl ⊢
  unfold LineYes at hline
  generalize L.fr s l.toNat = f at *
  generalize L.to s l.toNat = t at *
  generalize U.cut (s.extract f t) c = m at *
  clear hsz
  rw [show ((l.toNat : Nat) : Int) = 0 by omega] at hline
  go_enter Tryd.func8, Tryd.ntmps8
  go_wp2_with fail
  refine (hline _).mono ?_
  rintro e w1 ⟨rfl, hB1⟩
  have c3 := ((Boxed2.new w 23 (.int .i64 0) (.int .i64 0)).below hB1).cell1
  have hz1 := hB1.size
  simp only [World.size_alloc] at hz1
  have hz2 : w.heap.size < w1.heap.size + 1 := by omega
  have HB := Lib.hid ((((Below.refl _ w).alloc (Nat.le_refl _) (Obj.cells #[Value.int .i64 0, Value.int .i64 0] 23)).trans (hB1.mono (by simp))).alloc (by omega) (Obj.cells #[Value.int .i64 f, Value.int .i64 t] 29))
  clear hB1
  go_wp2_with fail
  go_region_held3 (fun w' => w'.cell? ⟨w1.heap.size, 0, none⟩ = some (.int .i64 f) ∧ w'.cell? ⟨w1.heap.size, 1, none⟩ = some (.int .i64 t) ∧ w'.cell? ⟨w.heap.size, 1, none⟩ = some (.int .i64 0))
    (go_keep)
    (first | (go_at_call 20; refine (hcut _).mono ?_; rintro e w2 ⟨rfl, hB2⟩; obtain ⟨hbc, hbf⟩ := bcell hB2))
  have hw : IntKind.i64.wrap ((f : Int) + (m : Int)) = ((f + m : Nat) : Int) := by rw [IntWalk.i64_in _ (by omega)]; rfl
  rw [hw]
  go_wp2_with fail
  go_ret
  exact ⟨rfl, (HB.out.drew).trans (hB2.mono (HB.out.drew).size)⟩

theorem refOffset_any (s : ByteArray) (l c : Int) (w : World) (hs : s.size ≤ 100000000000) :
    Calls Tryd.prog 8 #[.string s, .agg #[.int .i64 l, .int .i64 c]] w (IntIs (ofs s l c) w) := by
  unfold ofs
  by_cases h : l.toNat < L.mny s
  · rw [if_pos h]
    by_cases h0 : l < 0
    · by_cases h1 : c < 0
      · exact refOffset_yes11 s l c w hs h0 h1 h
      · exact refOffset_yes10 s l c w hs h0 (by omega) h
    · by_cases h1 : c < 0
      · exact refOffset_yes01 s l c w hs (by omega) h1 h
      · exact refOffset_yes00 s l c w hs (by omega) (by omega) h
  · rw [if_neg h]
    have hm := L.mny_pos s
    by_cases h1 : c < 0
    · exact refOffset_no01 s l c w hs (by omega) h1 h
    · exact refOffset_no00 s l c w hs (by omega) (by omega) h
end Go.Proofs.YtdhdemndeiipcaaDoor
