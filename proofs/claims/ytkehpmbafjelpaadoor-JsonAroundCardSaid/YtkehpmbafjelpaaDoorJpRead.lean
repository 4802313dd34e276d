/- The program's reader of JSON: the byte at hand, one of some is passed over, a run of such. Conditions: a string of at most 10^12 bytes. -/
import Derived.Test.YtkehpmbafjelpaaDoorProg
import Derived.Test.YtkehpmbafjelpaaDoorJpMath
import Derived.Test.YtkehpmbafjelpaaDoorJvLays
import Derived.Shelf.Small.Strs
import Derived.WalkKit
import Derived.WalkSpells
import Derived.WalkLawsBesides
import Derived.WalkSmall
import Derived.Lib.Hide
import Derived.ProofKit
import Derived.Deep.QuietTactic
import Derived.BigQuiet
import Derived.Laws.AppendOwn
import Derived.Outline
namespace Go.Proofs.YtkehpmbafjelpaaDoor
open Go Go.RowKit Go.Lib

/-- the reader's block: the string, the place, how many lists and objects are open -/
def Rd (s : ByteArray) (p d : Nat) (B : Nat) (W : World) : Prop := W.heap[B]? = some (.cells #[.string s, .int .i64 p, .int .i64 d] 62 (0, 0))
theorem Rd.lt {s : ByteArray} {p d B : Nat} {W : World} (h : Rd s p d B W) : B < W.heap.size := (Array.getElem?_eq_some_iff.1 h).1
theorem Rd.c0 {s : ByteArray} {p d B : Nat} {W : World} (h : Rd s p d B W) : W.cell? ⟨B, 0, none⟩ = some (.string s) := by simp [World.cell?, show W.heap[B]? = _ from h]
theorem Rd.c1 {s : ByteArray} {p d B : Nat} {W : World} (h : Rd s p d B W) : W.cell? ⟨B, 1, none⟩ = some (.int .i64 p) := by simp [World.cell?, show W.heap[B]? = _ from h]
theorem Rd.c2 {s : ByteArray} {p d B : Nat} {W : World} (h : Rd s p d B W) : W.cell? ⟨B, 2, none⟩ = some (.int .i64 d) := by simp [World.cell?, show W.heap[B]? = _ from h]
theorem Rd.f1 {s : ByteArray} {p d B : Nat} {W : World} (h : Rd s p d B W) : W.frozen? ⟨B, 1, none⟩ = false := by simp [World.frozen?, show W.heap[B]? = _ from h]
theorem Rd.f2 {s : ByteArray} {p d B : Nat} {W : World} (h : Rd s p d B W) : W.frozen? ⟨B, 2, none⟩ = false := by simp [World.frozen?, show W.heap[B]? = _ from h]
theorem Rd.drewN {s : ByteArray} {p d B : Nat} {W : World} (h : Rd s p d B W) (q : Nat) : Rd s p d B (W.drewN q) := h
theorem Rd.set1 {s : ByteArray} {p d B : Nat} {W : World} (h : Rd s p d B W) (x : Nat) : Rd s x d B (W.setCell ⟨B, 1, none⟩ (.int .i64 x)) := by
  obtain ⟨hlt, hk⟩ := Array.getElem?_eq_some_iff.1 h
  show (W.heap.modify B _)[B]? = _
  rw [Array.getElem?_eq_getElem (by rw [Array.size_modify]; exact hlt), Array.getElem_modify_self, hk]
  rfl
theorem Rd.set2 {s : ByteArray} {p d B : Nat} {W : World} (h : Rd s p d B W) (x : Nat) : Rd s p x B (W.setCell ⟨B, 2, none⟩ (.int .i64 x)) := by
  obtain ⟨hlt, hk⟩ := Array.getElem?_eq_some_iff.1 h
  show (W.heap.modify B _)[B]? = _
  rw [Array.getElem?_eq_getElem (by rw [Array.size_modify]; exact hlt), Array.getElem_modify_self, hk]
  rfl
theorem Rd.same {s : ByteArray} {p d B : Nat} {W W' : World} (h : Rd s p d B W) (hk : W'.heap[B]? = W.heap[B]?) : Rd s p d B W' := hk.trans h
theorem Rd.below {s : ByteArray} {p d B : Nat} {W W' : World} (h : Rd s p d B W) (hB : Below W.heap.size W W') : Rd s p d B W' := h.same (hB.block _ h.lt)
theorem Rd.alloc {s : ByteArray} {p d B : Nat} {W : World} (h : Rd s p d B W) (o : Obj) : Rd s p d B (W.alloc o) := h.below ((Below.refl _ _).alloc (Nat.le_refl _) o)
theorem grow_drewN (w : World) (q : Nat) (row : Option Nat) : w.grownBy (w.drewN q) row := ⟨rfl, rfl, rfl, Nat.le_refl _, fun _ _ _ => rfl⟩
theorem grow_set (W : World) (b o : Nat) (v : Value) : W.grownBy (W.setCell ⟨b, o, none⟩ v) (some b) := ⟨rfl, rfl, rfl, by simp, fun k _ hk => Below.heap_setCell W ⟨b, o, none⟩ v k (fun e => hk (by simp [e]))⟩
theorem grow_trans {a b c : World} {row : Option Nat} (h : a.grownBy b row) (k : b.grownBy c row) : a.grownBy c row :=
  ⟨k.os.trans h.os, k.tape.trans h.tape, k.output.trans h.output, Nat.le_trans h.size k.size, fun i hi hne => (k.block i (Nat.lt_of_lt_of_le hi h.size) hne).trans (h.block i hi hne)⟩
theorem grow_below {w w' : World} (h : Below w.heap.size w w') (row : Option Nat) : w.grownBy w' row := ⟨h.os, h.tape, h.output, h.size, fun k hk _ => h.block k hk⟩
theorem below_grow {w w' : World} {B C : Nat} (h : w.grownBy w' (some B)) (hC : C ≤ B) (hs : C ≤ w.heap.size) : Below C w w' := ⟨h.os, h.tape, h.output, h.size, fun k hk => h.block k (by omega) (fun e => by cases e; omega)⟩

def Quiet (v : Value) (w : World) (en : Ending) (w' : World) : Prop := en = .returned v ∧ ∃ q, w' = w.drewN q
/-- it is back, and the reader stands there -/
def Back (v : Value) (s : ByteArray) (p d B : Nat) (w : World) (en : Ending) (w' : World) : Prop := en = .returned v ∧ Rd s p d B w' ∧ w.grownBy w' (some B)
/-- an error was raised, and the reader stands there -/
def Died (e : Int) (s : ByteArray) (p B : Nat) (w : World) (en : Ending) (w' : World) : Prop :=
  en = .panicked [{ v := .iface 26 (.int .i64 e), recovered := false }] ∧ (∃ d, Rd s p d B w') ∧ w.grownBy w' (some B)

set_option maxRecDepth 100000 in
set_option maxHeartbeats 400000 in
theorem peek_any (s : ByteArray) (p d B : Nat) (w : World) (_hs : s.size ≤ 1000000000000) (hp : p ≤ s.size) (h : Rd s p d B w) :
    Calls Tryd.prog 92 #[.pointer (some ⟨B, 0, none⟩)] w (Quiet (.int .u8 (J.pk s p : Nat)) w) := by
  have c0 := h.c0
  have c1 := h.c1
  clear h
  by_cases hlt : p < s.size
  · have e1 : ((p : Int) == (s.size : Int)) = false := by simp; omega
    have HP := Lib.hid (show J.pk s p = s[p].toNat by unfold J.pk; rw [if_pos hlt, J.at_byte hlt])
    go_enter Tryd.func92, Tryd.ntmps92
    go_wp2_with fail
    go_quiet (fail)
    obtain ⟨nq_0, hq0⟩ : ∃ nq_0, nq_0 = nq := ⟨_, rfl⟩
    subst hq0
    go_wp2_with fail
    go_quiet (fail)
    go_wp2_with fail
    go_ret
    rw [HP.out]
    exact ⟨rfl, nq_0 + nq, by simp [World.drewN, Nat.add_assoc]⟩
  · obtain rfl : p = s.size := by omega
    have HP := Lib.hid (show J.pk s s.size = 0 by unfold J.pk; rw [if_neg hlt])
    clear hlt hp
    go_enter Tryd.func92, Tryd.ntmps92
    go_wp2_with fail
    go_quiet (fail)
    go_wp2_with fail
    go_ret
    rw [HP.out]
    exact ⟨rfl, _, rfl⟩

set_option maxRecDepth 100000 in
set_option maxHeartbeats 400000 in
theorem skip_no (s x : ByteArray) (p d B : Nat) (w : World) (hs : s.size ≤ 1000000000000) (hp : p ≤ s.size) (h : Rd s p d B w) (hb : J.sk s x p = false) :
    Calls Tryd.prog 91 #[.pointer (some ⟨B, 0, none⟩), .string x] w (Back (.bool false) s p d B w) := by
  have hk := peek_any s p d B w hs hp h
  have hi := fun W => Any.strings_IndexByte Tryd.laysIndexByte x (J.pk s p : Nat) W
  have he := J.am_index x (J.pk s p) (J.pk_lt s p)
  have c1 := h.c1
  have f1 := h.f1
  generalize Lib.indexByte x.data.toList (((J.pk s p : Nat) : Int).toNat.toUInt8) = z at *
  have e1 : decide (z < 0) = true := by rw [he, show J.am x (J.pk s p) = false from hb]; rfl
  clear he hb
  generalize J.pk s p = c at *
  go_enter Tryd.func91, Tryd.ntmps91
  go_wp2_with fail
  refine hk.mono ?_
  rintro en w' ⟨rfl, q, rfl⟩
  go_wp2_with fail
  refine (hi _).mono ?_
  rintro en w' ⟨rfl, rfl⟩
  go_wp2_with fail
  go_ret
  exact ⟨rfl, h, grow_drewN _ _ _⟩

set_option maxRecDepth 100000 in
set_option maxHeartbeats 400000 in
theorem skip_yes (s x : ByteArray) (p d B : Nat) (w : World) (hs : s.size ≤ 1000000000000) (hp : p ≤ s.size) (h : Rd s p d B w) (hb : J.sk s x p = true) :
    Calls Tryd.prog 91 #[.pointer (some ⟨B, 0, none⟩), .string x] w (Back (.bool true) s (p + 1) d B w) := by
  have hk := peek_any s p d B w hs hp h
  have hi := fun W => Any.strings_IndexByte Tryd.laysIndexByte x (J.pk s p : Nat) W
  have he := J.am_index x (J.pk s p) (J.pk_lt s p)
  have c1 := h.c1
  have f1 := h.f1
  generalize Lib.indexByte x.data.toList (((J.pk s p : Nat) : Int).toNat.toUInt8) = z at *
  have e1 : decide (z < 0) = false := by rw [he, show J.am x (J.pk s p) = true from hb]; rfl
  clear he hb
  generalize J.pk s p = c at *
  go_enter Tryd.func91, Tryd.ntmps91
  go_wp2_with fail
  refine hk.mono ?_
  rintro en w' ⟨rfl, q, rfl⟩
  go_wp2_with fail
  refine (hi _).mono ?_
  rintro en w' ⟨rfl, rfl⟩
  go_wp2_with fail
  go_ret
  exact ⟨rfl, (h.drewN q).set1 (p + 1), grow_trans (grow_drewN _ _ _) (grow_set _ _ _ _)⟩

set_option maxRecDepth 100000 in
set_option maxHeartbeats 400000 in
theorem take_yes (s x : ByteArray) (p d B : Nat) (w : World) (hs : s.size ≤ 1000000000000) (hp : p ≤ s.size) (h : Rd s p d B w) (hb : J.sk s x p = true) :
    Calls Tryd.prog 115 #[.pointer (some ⟨B, 0, none⟩), .string x] w (Back (.int .u8 (J.pk s p : Nat)) s (p + 1) d B w) := by
  have hk := peek_any s p d B w hs hp h
  have hi := fun q => skip_yes s x p d B (w.drewN q) hs hp (h.drewN q) hb
  clear hb
  generalize J.pk s p = c at *
  go_enter Tryd.func115, Tryd.ntmps115
  go_wp2_with fail
  refine hk.mono ?_
  rintro en w' ⟨rfl, q, rfl⟩
  go_wp2_with fail
  refine (hi q).mono ?_
  rintro en w' ⟨rfl, h2, g2⟩
  go_wp2_with fail
  go_ret
  exact ⟨rfl, h2, grow_trans (grow_drewN _ _ _) g2⟩

set_option maxRecDepth 100000 in
set_option maxHeartbeats 400000 in
theorem take_no (s x : ByteArray) (p d B : Nat) (w : World) (hs : s.size ≤ 1000000000000) (hp : p ≤ s.size) (h : Rd s p d B w) (hb : J.sk s x p = false) :
    Calls Tryd.prog 115 #[.pointer (some ⟨B, 0, none⟩), .string x] w (Died 30 s p B w) := by
  have hk := peek_any s p d B w hs hp h
  have hi := fun q => skip_no s x p d B (w.drewN q) hs hp (h.drewN q) hb
  clear hb
  generalize J.pk s p = c at *
  go_enter Tryd.func115, Tryd.ntmps115
  go_wp2_with fail
  refine hk.mono ?_
  rintro en w' ⟨rfl, q, rfl⟩
  go_wp2_with fail
  refine (hi q).mono ?_
  rintro en w' ⟨rfl, h2, g2⟩
  have HF := Lib.hid (show Died 30 s p B w (.panicked [{ v := .iface 26 (.int .i64 30), recovered := false }]) w' from ⟨rfl, ⟨_, h2⟩, grow_trans (grow_drewN _ _ _) g2⟩)
  clear h2 g2
  go_wp2_with fail
  exact ⟨rfl, HF.out⟩
end Go.Proofs.YtkehpmbafjelpaaDoor
