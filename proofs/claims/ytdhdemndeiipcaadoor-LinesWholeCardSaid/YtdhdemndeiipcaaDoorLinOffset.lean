/- The program's Offset and the document's own: the offset that a place by lines leads to. Conditions: a string of at most 10^11 bytes; numbers such as an int holds. -/
import Derived.Test.YtdhdemndeiipcaaDoorLinRefLine
import Derived.Test.YtdhdemndeiipcaaDoorUtfAllB
import Derived.Test.YtdhdemndeiipcaaDoorUtfRefUC
import Derived.Deep.RegionHeld3
import Derived.IntWalk
namespace Go.Proofs.YtdhdemndeiipcaaDoor
open Go Go.RowKit Go.Shelf Go.Lib

/-- the content of line k -/
def content (s : ByteArray) (k : Nat) : ByteArray := s.extract (L.fr s k) (L.to s k)
/-- where a place by lines lies -/
def ofs (s : ByteArray) (l c : Int) : Nat := if l.toNat < L.mny s then L.fr s l.toNat + U.cut (content s l.toNat) c else s.size
theorem content_size {s : ByteArray} {k : Nat} (h : k < L.mny s) : (content s k).size = L.to s k - L.fr s k := by
  unfold content; rw [ByteArray.size_extract]; have := L.to_le h; omega

def LineYes (s : ByteArray) (k : Nat) (w : World) (e : Ending) (w' : World) : Prop := e = .returned (.tuple #[.agg #[.int .i64 (L.fr s k), .int .i64 (L.to s k)], .bool true]) ∧ Below w.heap.size w w'
theorem line_yes {s : ByteArray} {k : Nat} {w w' : World} {e : Ending} (hk : k < L.mny s) (h : LineIs s k w e w') : LineYes s k w e w' := by
  rcases h with ⟨⟨j, hj, _, rfl⟩ | ⟨hn, _⟩, hB⟩
  · obtain rfl : k = j := by omega
    exact ⟨rfl, hB⟩
  · omega
def LineNo (w : World) (e : Ending) (w' : World) : Prop := e = .returned (.tuple #[.agg #[.int .i64 0, .int .i64 0], .bool false]) ∧ Below w.heap.size w w'
theorem line_no {s : ByteArray} {n : Int} {w w' : World} {e : Ending} (hn : (L.mny s : Int) ≤ n) (h : LineIs s n w e w') : LineNo w e w' := by
  rcases h with ⟨⟨j, hj, hk, rfl⟩ | ⟨_, rfl⟩, hB⟩
  · omega
  · exact ⟨rfl, hB⟩

set_option maxRecDepth 100000 in
set_option maxHeartbeats 1000000 in
theorem offset_yes (s : ByteArray) (l c : Int) (w : World) (hs : s.size ≤ 100000000000) (hc : c ≤ 9223372036854775807) (hk : l.toNat < L.mny s) :
    Calls Tryd.prog 7 #[.string s, .agg #[.int .i64 l, .int .i64 c]] w (IntIs (L.fr s l.toNat + U.cut (content s l.toNat) c) w) := by
  have hfr := L.fr_le hk
  have hge := L.to_ge hk
  have hto := L.to_le hk
  have hsz := content_size hk
  have hcl : U.cut (content s l.toNat) c ≤ L.to s l.toNat - L.fr s l.toNat := by obtain ⟨j, n, _, _, h, _⟩ := U.cut_facts (content s l.toNat) c; omega
  have hline := fun W => (line_is s (l.toNat : Nat) W (by omega)).mono fun e w' h => line_yes hk h
  have hcut := fun W => utfCut_any (content s l.toNat) c W (by omega) hc
  unfold content at hcut hcl ⊢
  unfold LineYes at hline
  generalize L.fr s l.toNat = f at *
  generalize L.to s l.toNat = t at *
  generalize U.cut (s.extract f t) c = m at *
  clear hsz
  rw [show ((l.toNat : Nat) : Int) = max l 0 by omega] at hline
  go_enter Tryd.func7, Tryd.ntmps7
  go_wp2_with fail
  refine (hline _).mono ?_
  rintro e w1 ⟨rfl, hB1⟩
  have c3 := ((Boxed2.new w 23 (.int .i64 l) (.int .i64 c)).below hB1).cell1
  have hz1 := hB1.size
  simp only [World.size_alloc] at hz1
  have hz2 : w.heap.size < w1.heap.size + 1 := by omega
  have HB := Lib.hid ((((Below.refl _ w).alloc (Nat.le_refl _) _).trans (hB1.mono (by simp))).alloc (by omega) (Obj.cells #[Value.int .i64 f, Value.int .i64 t] 29))
  clear hB1
  go_wp2_with fail
  go_region_held3 (fun w' => w'.cell? ⟨w1.heap.size, 0, none⟩ = some (.int .i64 f) ∧ w'.cell? ⟨w1.heap.size, 1, none⟩ = some (.int .i64 t) ∧ w'.cell? ⟨w.heap.size, 1, none⟩ = some (.int .i64 c))
    (go_keep)
    (first | (go_at_call 18; refine (hcut _).mono ?_; rintro e w2 ⟨rfl, hB2⟩; obtain ⟨hbc, hbf⟩ := bcell hB2))
  have hw : IntKind.i64.wrap ((f : Int) + (m : Int)) = ((f + m : Nat) : Int) := by rw [IntWalk.i64_in _ (by omega)]; rfl
  rw [hw]
  go_wp2_with fail
  go_ret
  exact ⟨rfl, (HB.out.drew).trans (hB2.mono (HB.out.drew).size)⟩

set_option maxRecDepth 100000 in
set_option maxHeartbeats 1000000 in
theorem offset_no (s : ByteArray) (l c : Int) (w : World) (hs : s.size ≤ 100000000000) (hk : ¬ l.toNat < L.mny s) :
    Calls Tryd.prog 7 #[.string s, .agg #[.int .i64 l, .int .i64 c]] w (IntIs s.size w) := by
  have hm := L.mny_pos s
  have hline := fun W => (line_is s (l.toNat : Nat) W (by omega)).mono fun e w' h => line_no (by omega) h
  unfold LineNo at hline
  rw [show ((l.toNat : Nat) : Int) = max l 0 by omega] at hline
  go_enter Tryd.func7, Tryd.ntmps7
  go_wp2_with fail
  refine (hline _).mono ?_
  rintro e w1 ⟨rfl, hB1⟩
  have HB := Lib.hid ((((Below.refl _ w).alloc (Nat.le_refl _) _).trans (hB1.mono (by simp))).alloc (by have := hB1.size; simp at this; omega) (Obj.cells #[Value.int .i64 0, Value.int .i64 0] 29))
  clear hB1
  go_wp2_with fail
  go_ret
  exact ⟨rfl, HB.out⟩
theorem offset_any (s : ByteArray) (l c : Int) (w : World) (hs : s.size ≤ 100000000000) (hc : c ≤ 9223372036854775807) :
    Calls Tryd.prog 7 #[.string s, .agg #[.int .i64 l, .int .i64 c]] w (IntIs (ofs s l c) w) := by
  unfold ofs
  by_cases h : l.toNat < L.mny s
  · rw [if_pos h]; exact offset_yes s l c w hs hc h
  · rw [if_neg h]; exact offset_no s l c w hs h
end Go.Proofs.YtdhdemndeiipcaaDoor
