/- The document's own Next, at an offset within the string: it answers what the scan has there. Conditions: none but the offset's range. -/
import Derived.Test.YtbdpghmpdghnbaaDoorProg
import Derived.Test.YtbdpghmpdghnbaaDoorMJ12
import Derived.WalkKit
import Derived.WalkSpells
import Derived.WalkLawsBesides
import Derived.Lib.Hide
namespace Go.Proofs.YtbdpghmpdghnbaaDoor
open Go Go.RowKit Go.Lib

def NextIs (a : Int) (b : Int) (c : Bool) (w : World) (e : Ending) (w' : World) : Prop := e = .returned (.tuple #[.int .i32 a, .int .i64 b, .bool c]) ∧ Below w.heap.size w w'
theorem NextIs.of {a b a' b' : Int} {c c' : Bool} {w w' : World} (ha : a = a') (hb : b = b') (hc : c = c') (h : Below w.heap.size w w') : NextIs a b c w (.returned (.tuple #[.int .i32 a', .int .i64 b', .bool c'])) w' := by
  subst ha hb hc
  exact ⟨rfl, h⟩
namespace U
theorem nr_bad {s : ByteArray} {i : Nat} (h : bad s i = true) : nr s i = 0 := by unfold nr; rw [if_pos h]
theorem nk_bad {s : ByteArray} {i : Nat} (h : bad s i = true) : nk s i = 0 := by unfold nk; rw [if_pos h]
theorem nb_bad {s : ByteArray} {i : Nat} (h : bad s i = true) : nb s i = false := by unfold nb; rw [h]; rfl
theorem nr_good {s : ByteArray} {i : Nat} (h : bad s i = false) : nr s i = (ch s i : Int) := by unfold nr; rw [if_neg (by rw [h]; exact Bool.false_ne_true)]
theorem nk_good {s : ByteArray} {i : Nat} (h : bad s i = false) : nk s i = (wd s i : Int) := by unfold nk; rw [if_neg (by rw [h]; exact Bool.false_ne_true)]
theorem nb_good {s : ByteArray} {i : Nat} (h : bad s i = false) : nb s i = true := by unfold nb; rw [h]; rfl
end U

set_option maxHeartbeats 400000 in
set_option maxRecDepth 100000 in
theorem refNext_ascii (s : ByteArray) (i : Nat) (w : World) (hi : i < s.size) (_hs : s.size ≤ 1000000000000) (hb : (s[i].toNat : Int) < 128) :
    Calls Tryd.prog 23 #[.string s, .int .i64 i] w (NextIs (U.nr s i) (U.nk s i) (U.nb s i) w) := by
  have H := Lib.hid (U.next_ascii s i (by rw [← U.at_byte hi]; omega))
  have h1 : ¬ ((i : Int) < 0) := by omega
  have h2 : (i : Int) < (s.size : Int) := by omega
  go_enter Tryd.func23, Tryd.ntmps23
  go_wp2_with fail
  go_ret3
  obtain ⟨ha, hb, hc⟩ := H.out
  exact .of (by rw [U.nr_good hc, ha, U.at_byte hi]) (by rw [U.nk_good hc, hb]; rfl) (U.nb_good hc) (Below.refl _ _)

set_option maxHeartbeats 400000 in
set_option maxRecDepth 100000 in
theorem refNext_lone (s : ByteArray) (i : Nat) (w : World) (hi : i < s.size) (_hs : s.size ≤ 1000000000000) (hb : (128 ≤ (s[i].toNat : Int) ∧ (s[i].toNat : Int) < 192) ∨ 248 ≤ (s[i].toNat : Int)) :
    Calls Tryd.prog 23 #[.string s, .int .i64 i] w (NextIs (U.nr s i) (U.nk s i) (U.nb s i) w) := by
  have H := Lib.hid (U.next_lone s i (by rw [← U.at_byte hi]; omega))
  have h1 : ¬ ((i : Int) < 0) := by omega
  have h2 : (i : Int) < (s.size : Int) := by omega
  have h3 : (s[i].toNat : Int) < 256 := by have := s[i].toNat_lt; omega
  rcases hb with ⟨hb1, hb2⟩ | hb1
  all_goals
    go_enter Tryd.func23, Tryd.ntmps23
    go_wp2_with fail
    go_ret3
    exact .of (U.nr_bad H.out) (U.nk_bad H.out) (U.nb_bad H.out) (Below.refl _ _)
end Go.Proofs.YtbdpghmpdghnbaaDoor
