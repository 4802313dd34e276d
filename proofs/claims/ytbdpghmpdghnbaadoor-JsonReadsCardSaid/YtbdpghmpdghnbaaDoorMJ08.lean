/- The program's reader of JSON: the byte at hand, one of some is passed over, a run of such. Conditions: a string of at most 10^12 bytes. -/
import Derived.Test.YtbdpghmpdghnbaaDoorProg
import Derived.Test.YtbdpghmpdghnbaaDoorMJ02
import Derived.Test.YtbdpghmpdghnbaaDoorMJ03
import Derived.Shelf.Small.Strs
import Derived.WalkKit
import Derived.WalkSpells
import Derived.WalkLawsBesides
import Derived.WalkSmall
import Derived.Lib.Hide
import Derived.ProofKit
import Derived.Deep.QuietTactic
import Derived.BigQuiet
import Derived.Laws.AppendOwn
import Derived.Outline
import Derived.Test.YtbdpghmpdghnbaaDoorMJ07
import Derived.Deep.DeepCutAuto
namespace Go.Proofs.YtbdpghmpdghnbaaDoor
open Go Go.RowKit Go.Lib

/-- the reader's block: the string, the place, how many lists and objects are open -/
def Rd (s : ByteArray) (p d : Nat) (B : Nat) (W : World) : Prop := W.heap[B]? = some (.cells #[.string s, .int .i64 p, .int .i64 d] 40 (0, 0))
theorem Rd.lt {s : ByteArray} {p d B : Nat} {W : World} (h : Rd s p d B W) : B < W.heap.size := (Array.getElem?_eq_some_iff.1 h).1
theorem Rd.c0 {s : ByteArray} {p d B : Nat} {W : World} (h : Rd s p d B W) : W.cell? ⟨B, 0, none⟩ = some (.string s) := by simp [World.cell?, show W.heap[B]? = _ from h]
theorem Rd.c1 {s : ByteArray} {p d B : Nat} {W : World} (h : Rd s p d B W) : W.cell? ⟨B, 1, none⟩ = some (.int .i64 p) := by simp [World.cell?, show W.heap[B]? = _ from h]
theorem Rd.c2 {s : ByteArray} {p d B : Nat} {W : World} (h : Rd s p d B W) : W.cell? ⟨B, 2, none⟩ = some (.int .i64 d) := by simp [World.cell?, show W.heap[B]? = _ from h]
theorem Rd.f1 {s : ByteArray} {p d B : Nat} {W : World} (h : Rd s p d B W) : W.frozen? ⟨B, 1, none⟩ = false := by simp [World.frozen?, show W.heap[B]? = _ from h]
theorem Rd.f2 {s : ByteArray} {p d B : Nat} {W : World} (h : Rd s p d B W) : W.frozen? ⟨B, 2, none⟩ = false := by simp [World.frozen?, show W.heap[B]? = _ from h]
theorem Rd.drewN {s : ByteArray} {p d B : Nat} {W : World} (h : Rd s p d B W) (q : Nat) : Rd s p d B (W.drewN q) := h
theorem Rd.set1 {s : ByteArray} {p d B : Nat} {W : World} (h : Rd s p d B W) (x : Nat) : Rd s x d B (W.setCell ⟨B, 1, none⟩ (.int .i64 x)) := by
  obtain ⟨hlt, hk⟩ := Array.getElem?_eq_some_iff.1 h
  show (W.heap.modify B _)[B]? = _
  rw [Array.getElem?_eq_getElem (by rw [Array.size_modify]; exact hlt), Array.getElem_modify_self, hk]
  rfl
theorem Rd.set2 {s : ByteArray} {p d B : Nat} {W : World} (h : Rd s p d B W) (x : Nat) : Rd s p x B (W.setCell ⟨B, 2, none⟩ (.int .i64 x)) := by
  obtain ⟨hlt, hk⟩ := Array.getElem?_eq_some_iff.1 h
  show (W.heap.modify B _)[B]? = _
  rw [Array.getElem?_eq_getElem (by rw [Array.size_modify]; exact hlt), Array.getElem_modify_self, hk]
  rfl
theorem Rd.same {s : ByteArray} {p d B : Nat} {W W' : World} (h : Rd s p d B W) (hk : W'.heap[B]? = W.heap[B]?) : Rd s p d B W' := hk.trans h
theorem Rd.below {s : ByteArray} {p d B : Nat} {W W' : World} (h : Rd s p d B W) (hB : Below W.heap.size W W') : Rd s p d B W' := h.same (hB.block _ h.lt)
theorem Rd.alloc {s : ByteArray} {p d B : Nat} {W : World} (h : Rd s p d B W) (o : Obj) : Rd s p d B (W.alloc o) := h.below ((Below.refl _ _).alloc (Nat.le_refl _) o)
theorem grow_drewN (w : World) (q : Nat) (row : Option Nat) : w.grownBy (w.drewN q) row := ⟨rfl, rfl, rfl, Nat.le_refl _, fun _ _ _ => rfl⟩
theorem grow_set (W : World) (b o : Nat) (v : Value) : W.grownBy (W.setCell ⟨b, o, none⟩ v) (some b) := ⟨rfl, rfl, rfl, by simp, fun k _ hk => Below.heap_setCell W ⟨b, o, none⟩ v k (fun e => hk (by simp [e]))⟩
theorem grow_trans {a b c : World} {row : Option Nat} (h : a.grownBy b row) (k : b.grownBy c row) : a.grownBy c row :=
  ⟨k.os.trans h.os, k.tape.trans h.tape, k.output.trans h.output, Nat.le_trans h.size k.size, fun i hi hne => (k.block i (Nat.lt_of_lt_of_le hi h.size) hne).trans (h.block i hi hne)⟩
theorem grow_below {w w' : World} (h : Below w.heap.size w w') (row : Option Nat) : w.grownBy w' row := ⟨h.os, h.tape, h.output, h.size, fun k hk _ => h.block k hk⟩
theorem below_grow {w w' : World} {B C : Nat} (h : w.grownBy w' (some B)) (hC : C ≤ B) (hs : C ≤ w.heap.size) : Below C w w' := ⟨h.os, h.tape, h.output, h.size, fun k hk => h.block k (by omega) (fun e => by cases e; omega)⟩

def Quiet (v : Value) (w : World) (en : Ending) (w' : World) : Prop := en = .returned v ∧ ∃ q, w' = w.drewN q
/-- it is back, and the reader stands there -/
def Back (v : Value) (s : ByteArray) (p d B : Nat) (w : World) (en : Ending) (w' : World) : Prop := en = .returned v ∧ Rd s p d B w' ∧ w.grownBy w' (some B)
/-- an error was raised, and the reader stands there -/
def Died (e : Int) (s : ByteArray) (p B : Nat) (w : World) (en : Ending) (w' : World) : Prop :=
  en = .panicked [{ v := .iface 26 (.int .i64 e), recovered := false }] ∧ (∃ d, Rd s p d B w') ∧ w.grownBy w' (some B)

set_option maxRecDepth 100000 in
set_option maxHeartbeats 400000 in
theorem peek_any (s : ByteArray) (p d B : Nat) (w : World) (_hs : s.size ≤ 1000000000000) (hp : p ≤ s.size) (h : Rd s p d B w) :
    Calls Tryd.prog 27 #[.pointer (some ⟨B, 0, none⟩)] w (Quiet (.int .u8 (J.pk s p : Nat)) w) := by
  have c0 := h.c0
  have c1 := h.c1
  clear h
  by_cases hlt : p < s.size
  · have e1 : ((p : Int) == (s.size : Int)) = false := by simp; omega
    have HP := Lib.hid (show J.pk s p = s[p].toNat by unfold J.pk; rw [if_pos hlt, J.at_byte hlt])
    go_enter Tryd.func27, Tryd.ntmps27
    go_wp2_with fail
    go_quiet (fail)
    obtain ⟨nq_0, hq0⟩ : ∃ nq_0, nq_0 = nq := ⟨_, rfl⟩
    subst hq0
    go_wp2_with fail
    go_quiet (fail)
    go_wp2_with fail
    go_ret
    rw [HP.out]
    exact ⟨rfl, nq_0 + nq, by simp [World.drewN, Nat.add_assoc]⟩
  · obtain rfl : p = s.size := by omega
    have HP := Lib.hid (show J.pk s s.size = 0 by unfold J.pk; rw [if_neg hlt])
    clear hlt hp
    go_enter Tryd.func27, Tryd.ntmps27
    go_wp2_with fail
    go_quiet (fail)
    go_wp2_with fail
    go_ret
    rw [HP.out]
    exact ⟨rfl, _, rfl⟩

set_option maxRecDepth 100000 in
set_option maxHeartbeats 400000 in
theorem skip_no (s x : ByteArray) (p d B : Nat) (w : World) (hs : s.size ≤ 1000000000000) (hp : p ≤ s.size) (h : Rd s p d B w) (hb : J.sk s x p = false) :
    Calls Tryd.prog 26 #[.pointer (some ⟨B, 0, none⟩), .string x] w (Back (.bool false) s p d B w) := by
  have hk := peek_any s p d B w hs hp h
  have hi := fun W => Any.strings_IndexByte Tryd.laysIndexByte x (J.pk s p : Nat) W
  have he := J.am_index x (J.pk s p) (J.pk_lt s p)
  have c1 := h.c1
  have f1 := h.f1
  generalize Lib.indexByte x.data.toList (((J.pk s p : Nat) : Int).toNat.toUInt8) = z at *
  have e1 : decide (z < 0) = true := by rw [he, show J.am x (J.pk s p) = false from hb]; rfl
  clear he hb
  generalize J.pk s p = c at *
  go_enter Tryd.func26, Tryd.ntmps26
  go_wp2_with fail
  refine hk.mono ?_
  rintro en w' ⟨rfl, q, rfl⟩
  go_wp2_with fail
  refine (hi _).mono ?_
  rintro en w' ⟨rfl, rfl⟩
  go_wp2_with fail
  go_ret
  exact ⟨rfl, h, grow_drewN _ _ _⟩

set_option maxRecDepth 100000 in
set_option maxHeartbeats 400000 in
theorem skip_yes (s x : ByteArray) (p d B : Nat) (w : World) (hs : s.size ≤ 1000000000000) (hp : p ≤ s.size) (h : Rd s p d B w) (hb : J.sk s x p = true) :
    Calls Tryd.prog 26 #[.pointer (some ⟨B, 0, none⟩), .string x] w (Back (.bool true) s (p + 1) d B w) := by
  have hk := peek_any s p d B w hs hp h
  have hi := fun W => Any.strings_IndexByte Tryd.laysIndexByte x (J.pk s p : Nat) W
  have he := J.am_index x (J.pk s p) (J.pk_lt s p)
  have c1 := h.c1
  have f1 := h.f1
  generalize Lib.indexByte x.data.toList (((J.pk s p : Nat) : Int).toNat.toUInt8) = z at *
  have e1 : decide (z < 0) = false := by rw [he, show J.am x (J.pk s p) = true from hb]; rfl
  clear he hb
  generalize J.pk s p = c at *
  go_enter Tryd.func26, Tryd.ntmps26
  go_wp2_with fail
  refine hk.mono ?_
  rintro en w' ⟨rfl, q, rfl⟩
  go_wp2_with fail
  refine (hi _).mono ?_
  rintro en w' ⟨rfl, rfl⟩
  go_wp2_with fail
  go_ret
  exact ⟨rfl, (h.drewN q).set1 (p + 1), grow_trans (grow_drewN _ _ _) (grow_set _ _ _ _)⟩

set_option maxRecDepth 100000 in
set_option maxHeartbeats 400000 in
theorem take_yes (s x : ByteArray) (p d B : Nat) (w : World) (hs : s.size ≤ 1000000000000) (hp : p ≤ s.size) (h : Rd s p d B w) (hb : J.sk s x p = true) :
    Calls Tryd.prog 35 #[.pointer (some ⟨B, 0, none⟩), .string x] w (Back (.int .u8 (J.pk s p : Nat)) s (p + 1) d B w) := by
  have hk := peek_any s p d B w hs hp h
  have hi := fun q => skip_yes s x p d B (w.drewN q) hs hp (h.drewN q) hb
  clear hb
  generalize J.pk s p = c at *
  go_enter Tryd.func35, Tryd.ntmps35
  go_wp2_with fail
  refine hk.mono ?_
  rintro en w' ⟨rfl, q, rfl⟩
  go_wp2_with fail
  refine (hi q).mono ?_
  rintro en w' ⟨rfl, h2, g2⟩
  go_wp2_with fail
  go_ret
  exact ⟨rfl, h2, grow_trans (grow_drewN _ _ _) g2⟩

set_option maxRecDepth 100000 in
set_option maxHeartbeats 400000 in
theorem take_no (s x : ByteArray) (p d B : Nat) (w : World) (hs : s.size ≤ 1000000000000) (hp : p ≤ s.size) (h : Rd s p d B w) (hb : J.sk s x p = false) :
    Calls Tryd.prog 35 #[.pointer (some ⟨B, 0, none⟩), .string x] w (Died 30 s p B w) := by
  have hk := peek_any s p d B w hs hp h
  have hi := fun q => skip_no s x p d B (w.drewN q) hs hp (h.drewN q) hb
  clear hb
  generalize J.pk s p = c at *
  go_enter Tryd.func35, Tryd.ntmps35
  go_wp2_with fail
  refine hk.mono ?_
  rintro en w' ⟨rfl, q, rfl⟩
  go_wp2_with fail
  refine (hi q).mono ?_
  rintro en w' ⟨rfl, h2, g2⟩
  have HF := Lib.hid (show Died 30 s p B w (.panicked [{ v := .iface 26 (.int .i64 30), recovered := false }]) w' from ⟨rfl, ⟨_, h2⟩, grow_trans (grow_drewN _ _ _) g2⟩)
  clear h2 g2
  go_wp2_with fail
  exact ⟨rfl, HF.out⟩
end Go.Proofs.YtbdpghmpdghnbaaDoor

namespace Go.Proofs.YtbdpghmpdghnbaaDoor
open Go Go.RowKit Go.Lib

/-- where the reader stands, off the world -/
def stand (B : Nat) (W : World) : Nat := (RowKit.intOf ((W.cell? ⟨B, 1, none⟩).getD undef)).toNat
theorem stand_eq {s : ByteArray} {p d B : Nat} {W : World} (h : Rd s p d B W) : stand B W = p := by unfold stand; rw [h.c1]; simp [RowKit.intOf]
theorem skip_any (s x : ByteArray) (p d B : Nat) (w : World) (hs : s.size ≤ 1000000000000) (hp : p ≤ s.size) (h : Rd s p d B w) :
    Calls Tryd.prog 26 #[.pointer (some ⟨B, 0, none⟩), .string x] w (Back (.bool (J.sk s x p)) s (if J.sk s x p = true then p + 1 else p) d B w) := by
  cases hb : J.sk s x p
  · exact skip_no s x p d B w hs hp h hb
  · exact skip_yes s x p d B w hs hp h hb

set_option maxRecDepth 100000 in
set_option maxHeartbeats 400000 in
theorem skipAll_any (s x : ByteArray) (p d B : Nat) (w : World) (hs : s.size ≤ 1000000000000) (hp : p ≤ s.size) (h0 : J.am x 0 = false) (h : Rd s p d B w) :
    Calls Tryd.prog 19 #[.pointer (some ⟨B, 0, none⟩), .string x] w (Back (.tuple #[]) s (J.sa s x p) d B w) := by
  go_enter Tryd.func19, Tryd.ntmps19
  go_wp2_with fail
  go_loopw [] (fun wr => ∃ q : Nat, q ≤ s.size ∧ Hid (Rd s q d B wr ∧ w.grownBy wr (some B) ∧ J.sa s x q = J.sa s x p)) (fun wr => s.size - stand B wr)
  case atStart => exact ⟨p, hp, Lib.hid ⟨h, grow_drewN w 0 _, rfl⟩⟩
  case round =>
    obtain ⟨q, hq, HW⟩ := hrel
    cases hb : J.sk s x q
    · have hk := skip_no s x q d B wr hs hq HW.out.1 hb
      have HE := Lib.hid (HW.out.2.2.symm.trans (J.sa_stop hb))
      clear hb
      go_wp2_with fail
      refine hk.mono ?_
      rintro en w1 ⟨rfl, h1, g1⟩
      have HF := Lib.hid (And.intro h1 (grow_trans HW.out.2.1 g1))
      clear h1 g1
      go_wp2_with fail
      go_end0
      rw [HE.out]
      exact ⟨rfl, HF.out.1, HF.out.2⟩
    · have hk := skip_yes s x q d B wr hs hq HW.out.1 hb
      have HE := Lib.hid ((J.sa_step h0 hb).symm.trans HW.out.2.2)
      have hlt := J.sk_lt h0 hb
      clear hb
      go_wp2_with fail
      refine hk.mono ?_
      rintro en w1 ⟨rfl, h1, g1⟩
      have HF := Lib.hid (And.intro h1 (grow_trans HW.out.2.1 g1))
      clear h1 g1
      go_wp2_with fail
      refine ⟨⟨q + 1, hlt, Lib.hid ⟨HF.out.1, HF.out.2, HE.out⟩⟩, ?_⟩
      rw [stand_eq HF.out.1, stand_eq HW.out.1]; omega

theorem digits0 : J.am J.dgs 0 = false := by rw [J.am_dgs]; rfl
theorem blanks0 : J.am J.blk 0 = false := by rw [J.am_blk]; rfl
theorem dg_take {s : ByteArray} {p : Nat} (h : J.sk s J.dgs p = true) : J.sa s J.dgs (p + 1) = J.dg s p ∧ ¬ J.dg s p = p := by
  have h1 := J.sa_step digits0 h
  have h2 := J.sa_dg s p
  have h3 := (J.sa_le digits0 (J.sk_lt digits0 h) : p + 1 ≤ J.sa s J.dgs (p + 1) ∧ _)
  exact ⟨by rw [← h1, h2], by rw [← h2, h1]; omega⟩

set_option maxRecDepth 100000 in
set_option maxHeartbeats 400000 in
theorem some_yes (s : ByteArray) (p d B : Nat) (w : World) (hs : s.size ≤ 1000000000000) (hp : p ≤ s.size) (h : Rd s p d B w) (hb : J.sk s J.dgs p = true) :
    Calls Tryd.prog 42 #[.pointer (some ⟨B, 0, none⟩)] w (Back (.tuple #[]) s (J.dg s p) d B w) := by
  have ht := take_yes s J.dgs p d B w hs hp h hb
  have hk := fun W hW => skipAll_any s J.dgs (p + 1) d B W hs (J.sk_lt digits0 hb) digits0 hW
  rw [(dg_take hb).1] at hk
  clear hb
  generalize J.pk s p = c at *
  go_enter Tryd.func42, Tryd.ntmps42
  go_wp2_with fail
  refine ht.mono ?_
  rintro en w1 ⟨rfl, h1, g1⟩
  go_wp2_with fail
  refine (hk _ h1).mono ?_
  rintro en w2 ⟨rfl, h2, g2⟩
  go_wp2_with fail
  go_end0
  exact ⟨rfl, h2, grow_trans g1 g2⟩

set_option maxRecDepth 100000 in
set_option maxHeartbeats 400000 in
theorem some_no (s : ByteArray) (p d B : Nat) (w : World) (hs : s.size ≤ 1000000000000) (hp : p ≤ s.size) (h : Rd s p d B w) (hb : J.sk s J.dgs p = false) :
    Calls Tryd.prog 42 #[.pointer (some ⟨B, 0, none⟩)] w (Died 30 s p B w) := by
  have ht := take_no s J.dgs p d B w hs hp h hb
  go_enter Tryd.func42, Tryd.ntmps42
  go_wp2_with fail
  refine ht.mono ?_
  rintro en w1 ⟨rfl, h1, g1⟩
  exact ⟨rfl, rfl, h1, g1⟩
end Go.Proofs.YtbdpghmpdghnbaaDoor

namespace Go.Proofs.YtbdpghmpdghnbaaDoor
open Go Go.RowKit Go.Lib

/-- what comes of reading: (where the reader stands, 0) or (the wrong byte, the error) -/
def Out (v : Value) (s : ByteArray) (x : Nat × Nat) (d B : Nat) (w : World) (en : Ending) (w' : World) : Prop := if x.2 = 0 then Back v s x.1 d B w en w' else Died x.2 s x.1 B w en w'
theorem out_ok {v : Value} {s : ByteArray} {p d B : Nat} {w : World} {en : Ending} {w' : World} (h : Back v s p d B w en w') : Out v s (p, 0) d B w en w' := by unfold Out; rw [if_pos rfl]; exact h
theorem out_no {v : Value} {s : ByteArray} {p d B : Nat} {w : World} {en : Ending} {w' : World} (h : Died 30 s p B w en w') : Out v s (p, 30) d B w en w' := by unfold Out; rw [if_neg (show ¬ 30 = 0 by decide)]; exact h

theorem am45 (c : Nat) : J.am ⟨#[45]⟩ c = decide (c = 45) := J.am_one 45 c (by decide)
theorem am46 (c : Nat) : J.am ⟨#[46]⟩ c = decide (c = 46) := J.am_one 46 c (by decide)
theorem am_two (a b c : Nat) (ha : a < 256) (hb : b < 256) : J.am ⟨#[a.toUInt8, b.toUInt8]⟩ c = (decide (c = a) || decide (c = b)) := by
  unfold J.am
  simp only [List.any_cons, List.any_nil, Bool.or_false]
  have ea : a.toUInt8.toNat = a := Nat.mod_eq_of_lt (by omega)
  have eb : b.toUInt8.toNat = b := Nat.mod_eq_of_lt (by omega)
  rw [ea, eb]
  exact congr (congrArg _ (decide_eq_decide.2 eq_comm)) (decide_eq_decide.2 eq_comm)
theorem sk_two {s : ByteArray} {a b : Nat} (p : Nat) (ha : 0 < a) (ha2 : a < 256) (hb : 0 < b) (hb2 : b < 256) : J.sk s ⟨#[a.toUInt8, b.toUInt8]⟩ p = (J.is s p 0 a || J.is s p 0 b) := by
  unfold J.sk J.pk J.is
  rw [am_two a b _ ha2 hb2]
  by_cases h : p < s.size
  · simp [h]
  · simp [h]; omega
/-- the number's last part, from where it may begin -/
theorem nm_at (s : ByteArray) (p : Nat) : J.nm s p 0 = J.n4 s (J.n3 s (J.n2 s (if J.sk s ⟨#[45]⟩ p = true then p + 1 else p) 0)) := by
  unfold J.nm J.bp
  rw [J.sk_is p (by decide) am45]
theorem n_wrong (s : ByteArray) (p : Nat) : J.n4 s (J.n3 s (p, 30)) = (p, 30) := by
  unfold J.n3
  rw [if_neg (by rw [J.is_wrong p 46 (show ¬ 30 = 0 by decide)]; decide)]
  unfold J.n4
  rw [if_neg (by rw [J.is_wrong p 101 (show ¬ 30 = 0 by decide), J.is_wrong p 69 (show ¬ 30 = 0 by decide)]; decide)]
theorem n4_wrong (s : ByteArray) (p : Nat) : J.n4 s (p, 30) = (p, 30) := by
  unfold J.n4
  rw [if_neg (by rw [J.is_wrong p 101 (show ¬ 30 = 0 by decide), J.is_wrong p 69 (show ¬ 30 = 0 by decide)]; decide)]
theorem ds_at (s : ByteArray) (p : Nat) : J.ds s p 0 = if J.sk s J.dgs p = true then (J.dg s p, 0) else (p, 30) := by
  cases h : J.sk s J.dgs p
  · rw [if_neg (by decide)]
    refine J.ds_none ?_
    rw [← J.sa_dg, J.sa_stop h]
  · rw [if_pos rfl]
    exact J.ds_some (dg_take h).2

set_option maxRecDepth 100000 in
set_option maxHeartbeats 1000000 in
theorem number_any (s : ByteArray) (p d B : Nat) (w : World) (hs : s.size ≤ 1000000000000) (hp : p ≤ s.size) (h : Rd s p d B w) :
    Calls Tryd.prog 32 #[.pointer (some ⟨B, 0, none⟩)] w (Out (.string (s.extract p (J.nm s p 0).1)) s (J.nm s p 0) d B w) := by
  have hk0 := skip_any s ⟨#[45]⟩ p d B w hs hp h
  have hp1 : p ≤ (if J.sk s ⟨#[45]⟩ p = true then p + 1 else p) ∧ (if J.sk s ⟨#[45]⟩ p = true then p + 1 else p) ≤ s.size := by
    split
    · rename_i hh; exact ⟨Nat.le_succ _, J.sk_lt (by rw [am45]; rfl) hh⟩
    · exact ⟨Nat.le_refl _, hp⟩
  rw [nm_at]
  generalize J.sk s ⟨#[45]⟩ p = b0 at *
  generalize (if b0 = true then p + 1 else p) = p1 at *
  obtain ⟨hp1, hp2⟩ := hp1
  have HX : Hid (∃ x, J.n4 s (J.n3 s (J.n2 s p1 0)) = x) := Lib.hid ⟨_, rfl⟩
  obtain ⟨x, hx⟩ := HX.out
  rw [hx]
  have HX := Lib.hid hx
  have c1 := h.c1
  clear hx
  go_enter Tryd.func32, Tryd.ntmps32
  go_wp2_with fail
  refine hk0.mono ?_
  rintro en w1 ⟨rfl, h1, g1⟩
  have H1 := Lib.hid (And.intro h1 g1)
  clear h1 g1 c1 hk0
  cases hd : J.sk s J.dgs p1
  · have ht := take_no s J.dgs p1 d B w1 hs hp2 H1.out.1 hd
    have HE : Hid (x = (p1, 30)) := Lib.hid (by
      rw [← HX.out]
      unfold J.n2
      have h48 : J.is s p1 0 48 = false := by
        cases h : J.is s p1 0 48
        · rfl
        · have h2 := J.of_is h
          have : J.sk s J.dgs p1 = true := by rw [J.sk_dgt]; exact decide_eq_true ⟨h2.2.1, decide_eq_true (by omega)⟩
          rw [hd] at this; cases this
      rw [if_neg (by rw [h48]; decide), ds_at, hd, if_neg (by decide)]
      exact n_wrong s p1)
    clear hd
    go_wp2_with fail
    refine ht.mono ?_
    rintro en w2 ⟨rfl, h2, g2⟩
    rw [HE.out]
    exact ⟨rfl, out_no ⟨rfl, h2, grow_trans H1.out.2 g2⟩⟩
  · have ht := take_yes s J.dgs p1 d B w1 hs hp2 H1.out.1 hd
    have hlt := J.sk_lt digits0 hd
    have HD := Lib.hid hd
    have HC : Hid ((J.pk s p1 = 48) = (J.is s p1 0 48 = true)) := Lib.hid (by
      unfold J.pk
      rw [if_pos hlt]
      exact propext ⟨fun e => J.is_yes hlt e, fun e => (J.of_is e).2.2⟩)
    clear hd
    generalize J.pk s p1 = c at *
    go_wp2_with fail
    refine ht.mono ?_
    rintro en w2 ⟨rfl, h2, g2⟩
    have H2 := Lib.hid (And.intro h2 (grow_trans H1.out.2 g2))
    clear h2 g2 ht
    go_upto_if 12 with fail
    go_cut [3] (fun f wx => f = .int .i64 p ∧ ∃ p2 : Nat, p2 ≤ s.size ∧ p ≤ p2 ∧ Hid (Rd s p2 d B wx ∧ w.grownBy wx (some B) ∧ J.n4 s (J.n3 s (p2, 0)) = x))
    case first =>
      by_cases hc : c = 48
      · subst hc
        have HN : Hid (J.n2 s p1 0 = (p1 + 1, 0)) := Lib.hid (by unfold J.n2; rw [if_pos (by rw [← HC.out])])
        go_wp2_with fail
        go_meet
        exact ⟨rfl, p1 + 1, hlt, by omega, Lib.hid ⟨H2.out.1, H2.out.2, by rw [← HN.out]; exact HX.out⟩⟩
      · have t1 : ((c : Int) != 48) = true := by simp; omega
        have HN : Hid (J.n2 s p1 0 = (J.dg s p1, 0)) := Lib.hid (by
          unfold J.n2
          rw [if_neg (by rw [← HC.out]; exact hc), ds_at, HD.out, if_pos rfl])
        have hk := skipAll_any s J.dgs (p1 + 1) d B w2 hs hlt digits0 H2.out.1
        rw [(dg_take HD.out).1] at hk
        clear hc
        go_wp2_with fail
        refine hk.mono ?_
        rintro en w3 ⟨rfl, h3, g3⟩
        have hle := J.dg_le (s := s) (p := p1) hp2
        go_wp2_with fail
        go_meet
        exact ⟨rfl, J.dg s p1, hle.2, by omega, Lib.hid ⟨h3, grow_trans H2.out.2 g3, by rw [← HN.out]; exact HX.out⟩⟩
    case rest =>
    obtain ⟨rfl, p2, hp3, hp4, HY⟩ := hcut
    clear HX H1 H2 HD HC hlt hp1 hp2
    go_wp2_with fail
    have hk := skip_any s ⟨#[46]⟩ p2 d B wc hs hp3 HY.out.1
    have HB : Hid (∃ b, J.sk s ⟨#[46]⟩ p2 = b) := Lib.hid ⟨_, rfl⟩
    obtain ⟨b, hb⟩ := HB.out
    rw [hb] at hk
    have HB := Lib.hid hb
    clear hb
    refine hk.mono ?_
    rintro en w3 ⟨rfl, h3, g3⟩
    have H3 := Lib.hid (And.intro h3 (grow_trans HY.out.2.1 g3))
    clear h3 g3 hk
    go_upto_if 16 with fail
    go_cut [3] (fun f wx => f = .int .i64 p ∧ ∃ p3 : Nat, p3 ≤ s.size ∧ p ≤ p3 ∧ Hid (Rd s p3 d B wx ∧ w.grownBy wx (some B) ∧ J.n4 s (p3, 0) = x))
    case first =>
      cases b
      · have HZ : Hid (J.n4 s (p2, 0) = x) := Lib.hid (by
          rw [← HY.out.2.2]
          unfold J.n3
          rw [if_neg (by rw [← J.sk_is p2 (by decide) am46, HB.out]; decide)])
        go_wp2_with fail
        go_meet
        exact ⟨rfl, p2, hp3, hp4, Lib.hid ⟨H3.out.1, H3.out.2, HZ.out⟩⟩
      · have hlt := J.sk_lt (by rw [am46]; rfl) HB.out
        have HZ : Hid (J.n3 s (p2, 0) = J.ds s (p2 + 1) 0) := Lib.hid (by
          unfold J.n3
          rw [if_pos (by rw [← J.sk_is p2 (by decide) am46, HB.out])])
        cases hd : J.sk s J.dgs (p2 + 1)
        · have ht := some_no s (p2 + 1) d B w3 hs hlt H3.out.1 hd
          have HE : Hid (x = (p2 + 1, 30)) := Lib.hid (by
            rw [← HY.out.2.2, HZ.out, ds_at, hd, if_neg (by decide)]
            exact n4_wrong s (p2 + 1))
          clear hd
          go_wp2_with fail
          refine ht.mono ?_
          rintro en w4 ⟨rfl, h4, g4⟩
          rw [HE.out]
          exact ⟨rfl, out_no ⟨rfl, h4, grow_trans H3.out.2 g4⟩⟩
        · have ht := some_yes s (p2 + 1) d B w3 hs hlt H3.out.1 hd
          have HE : Hid (J.n4 s (J.dg s (p2 + 1), 0) = x) := Lib.hid (by rw [← HY.out.2.2, HZ.out, ds_at, hd, if_pos rfl])
          have hle := J.dg_le (s := s) (p := p2 + 1) hlt
          clear hd
          go_wp2_with fail
          refine ht.mono ?_
          rintro en w4 ⟨rfl, h4, g4⟩
          go_wp2_with fail
          go_meet
          exact ⟨rfl, J.dg s (p2 + 1), hle.2, by omega, Lib.hid ⟨h4, grow_trans H3.out.2 g4, HE.out⟩⟩
    case rest =>
    obtain ⟨rfl, p3, hp5, hp6, HZ⟩ := hcut
    clear HY H3 HB hp3 hp4
    go_wp2_with fail
    have hk := skip_any s ⟨#[101, 69]⟩ p3 d B wc hs hp5 HZ.out.1
    have HB : Hid (∃ b, J.sk s ⟨#[101, 69]⟩ p3 = b) := Lib.hid ⟨_, rfl⟩
    obtain ⟨b, hb⟩ := HB.out
    rw [hb] at hk
    have HB := Lib.hid hb
    clear hb
    refine hk.mono ?_
    rintro en w5 ⟨rfl, h5, g5⟩
    have H5 := Lib.hid (And.intro h5 (grow_trans HZ.out.2.1 g5))
    clear h5 g5 hk
    go_upto_if 20 with fail
    go_cut [3] (fun f wx => f = .int .i64 p ∧ ∃ p4 : Nat, p4 ≤ s.size ∧ p ≤ p4 ∧ Hid (Rd s p4 d B wx ∧ w.grownBy wx (some B) ∧ x = (p4, 0)))
    case first =>
      cases b
      · have HE : Hid (x = (p3, 0)) := Lib.hid (by
          rw [← HZ.out.2.2]
          unfold J.n4
          rw [if_neg (by rw [← sk_two p3 (by decide) (by decide) (by decide) (by decide)]; exact fun e => by cases HB.out.symm.trans e)])
        go_wp2_with fail
        go_meet
        exact ⟨rfl, p3, hp5, hp6, Lib.hid ⟨H5.out.1, H5.out.2, HE.out⟩⟩
      · have hlt := J.sk_lt (x := ⟨#[101, 69]⟩) (by rfl) HB.out
        have hk2 := fun W hW => skip_any s ⟨#[43, 45]⟩ (p3 + 1) d B W hs hlt hW
        have hp7 : p3 ≤ (if J.sk s ⟨#[43, 45]⟩ (p3 + 1) = true then p3 + 1 + 1 else p3 + 1) ∧ (if J.sk s ⟨#[43, 45]⟩ (p3 + 1) = true then p3 + 1 + 1 else p3 + 1) ≤ s.size := by
          split
          · rename_i hh; exact ⟨by omega, J.sk_lt (x := ⟨#[43, 45]⟩) (by rfl) hh⟩
          · exact ⟨Nat.le_succ _, hlt⟩
        have HE0 : Hid (x = J.ds s (if J.sk s ⟨#[43, 45]⟩ (p3 + 1) = true then p3 + 1 + 1 else p3 + 1) 0) := Lib.hid (by
          rw [← HZ.out.2.2]
          unfold J.n4
          rw [if_pos (by rw [← sk_two p3 (by decide) (by decide) (by decide) (by decide)]; exact HB.out)]
          unfold J.sg
          rw [← sk_two (p3 + 1) (by decide) (by decide) (by decide) (by decide)]
          rfl)
        generalize J.sk s ⟨#[43, 45]⟩ (p3 + 1) = b1 at *
        generalize (if b1 = true then p3 + 1 + 1 else p3 + 1) = p5 at *
        obtain ⟨hp7, hp8⟩ := hp7
        go_wp2_with fail
        refine (hk2 _ H5.out.1).mono ?_
        rintro en w6 ⟨rfl, h6, g6⟩
        have H6 := Lib.hid (And.intro h6 (grow_trans H5.out.2 g6))
        clear h6 g6 hk2
        cases hd : J.sk s J.dgs p5
        · have ht := some_no s p5 d B w6 hs hp8 H6.out.1 hd
          have HE : Hid (x = (p5, 30)) := Lib.hid (by rw [HE0.out, ds_at, hd, if_neg (by decide)])
          clear hd
          go_wp2_with fail
          refine ht.mono ?_
          rintro en w7 ⟨rfl, h7, g7⟩
          rw [HE.out]
          exact ⟨rfl, out_no ⟨rfl, h7, grow_trans H6.out.2 g7⟩⟩
        · have ht := some_yes s p5 d B w6 hs hp8 H6.out.1 hd
          have HE : Hid (x = (J.dg s p5, 0)) := Lib.hid (by rw [HE0.out, ds_at, hd, if_pos rfl])
          have hle := J.dg_le (s := s) (p := p5) hp8
          clear hd
          go_wp2_with fail
          refine ht.mono ?_
          rintro en w7 ⟨rfl, h7, g7⟩
          go_wp2_with fail
          go_meet
          exact ⟨rfl, J.dg s p5, hle.2, by omega, Lib.hid ⟨h7, grow_trans H6.out.2 g7, HE.out⟩⟩
    case rest =>
    obtain ⟨rfl, p4, hp9, hp10, HX⟩ := hcut
    clear HZ H5 HB hp5 hp6
    have c0 := HX.out.1.c0
    have c1 := HX.out.1.c1
    have hc := fun W => strClone_any (s.extract p p4) W (by rw [ByteArray.size_extract]; omega)
    have KEEP := Lib.hid (show ∀ w', Below wc.heap.size wc w' → w'.cell? ⟨B, 0, none⟩ = some (.string s) ∧ w'.cell? ⟨B, 1, none⟩ = some (.int .i64 p4) from fun w' hB => ⟨bcellv hB c0, bcellv hB c1⟩)
    go_wp2_with fail
    go_region_held3 (fun w' => w'.cell? ⟨B, 0, none⟩ = some (.string s) ∧ w'.cell? ⟨B, 1, none⟩ = some (.int .i64 p4))
      (first | exact KEEP.out _ hB2.out | exact KEEP.out _ (Below.refl _ _).drew | exact KEEP.out _ (Below.refl _ _))
      (first | (go_at_call 43; (with_reducible refine (hc _).mono ?_); rintro e w8 ⟨rfl, hB1⟩; have hB2 := Lib.hid ((Below.refl wc.heap.size wc).drew.trans hB1); clear hB1))
    go_wp2_with fail
    go_ret
    rw [HX.out.2.2]
    exact out_ok ⟨rfl, HX.out.1.below hB2.out, grow_trans HX.out.2.1 (grow_below hB2.out _)⟩
end Go.Proofs.YtbdpghmpdghnbaaDoor
