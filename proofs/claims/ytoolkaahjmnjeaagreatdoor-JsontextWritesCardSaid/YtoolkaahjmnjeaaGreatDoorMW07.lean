/- The program's May, its parts: nothing but zero; lists. Conditions: strings of at most 10^12 bytes. -/
import Derived.Test.YtoolkaahjmnjeaaGreatDoorMW06
import Derived.Test.YtoolkaahjmnjeaaGreatDoorProg
import Derived.Test.YtoolkaahjmnjeaaGreatDoorMW01
import Derived.Shelf.Small.Strs
import Derived.WalkKit
import Derived.WalkSpells
import Derived.WalkLawsBesides
import Derived.WalkSmall
import Derived.Lib.Hide
import Derived.ProofKit
import Derived.Deep.QuietTactic
import Derived.BigQuiet
import Derived.Laws.AppendOwn
import Derived.Outline
import Derived.Lib.ConvBytes
import Derived.Laws.Strings3
import Derived.BigCall
import Derived.BigGuard
import Derived.Test.YtoolkaahjmnjeaaGreatDoorMW05
import Derived.Test.YtoolkaahjmnjeaaGreatDoorMW04
import Derived.Shelf.Strconv.Clone
namespace Go.Proofs.YtoolkaahjmnjeaaGreatDoor
open Go Go.RowKit Go.Shelf Go.Lib

set_option maxRecDepth 100000 in
theorem noText_any (s : ByteArray) (w : World) : Calls Tryz.prog 134 #[.string s] w (Bools (decide (s.size = 0)) w) := by
  go_enter Tryz.func134, Tryz.ntmps134
  go_wp2_with fail
  go_ret
  refine ⟨?_, Below.refl _ _⟩
  first | (show Ending.returned (.bool s.toList.isEmpty) = _; rw [empty_isE]) | (show Ending.returned (.bool (decide (s = ByteArray.empty))) = _; rw [empty_dec])
set_option maxRecDepth 100000 in
theorem noList_any (p : Option Addr) (n c : Nat) (d : Int) (w : World) (h : n ≤ 2000000000000) (h2 : n ≤ c) (h3 : c ≤ 9223372036854775807) : Calls Tryz.prog 135 #[.slice p n c, .int .i64 d] w (Bools (decide (n = 0)) w) := by
  go_enter Tryz.func135, Tryz.ntmps135
  go_wp2_with fail
  go_ret
  refine ⟨?_, Below.refl _ _⟩
  by_cases h0 : n = 0
  · subst h0; rfl
  · show Ending.returned (.bool _) = _
    congr 2
    simp [h0]
set_option maxRecDepth 100000 in
theorem noFields_any (p : Option Addr) (n c : Nat) (d : Int) (w : World) (h : n ≤ 2000000000000) (h2 : n ≤ c) (h3 : c ≤ 9223372036854775807) : Calls Tryz.prog 136 #[.slice p n c, .int .i64 d] w (Bools (decide (n = 0)) w) := by
  go_enter Tryz.func136, Tryz.ntmps136
  go_wp2_with fail
  go_ret
  refine ⟨?_, Below.refl _ _⟩
  by_cases h0 : n = 0
  · subst h0; rfl
  · show Ending.returned (.bool _) = _
    congr 2
    simp [h0]
/-- a kind's text -/
def txk (k : Nat) (x : ByteArray) : Bool := if k = 3 then numS x else if k = 4 then U.valid x else decide (x.size = 0)
/-- a row of values, or of fields whose names are none of some -/
def mayT : V.T → Nat → List ByteArray → Nat → Bool
  | .nil, _, _, _ => true
  | .cons nm k x l f tl, d, seen, dep => (if d = 1 then !(seen.contains nm) && U.valid nm else true) &&
      (decide (k ≤ 6) && (txk k x && (if k = 5 then !(decide (dep = 64)) && mayT l 0 [] (dep + 1) else decide (l.len = 0)) && (if k = 6 then !(decide (dep = 64)) && mayT f 1 [] (dep + 1) else decide (f.len = 0)))) && mayT tl d (nm :: seen) dep
def mayV (k : Nat) (x : ByteArray) (l f : V.T) (dep : Nat) : Bool := decide (k ≤ 6) && (txk k x && (if k = 5 then !(decide (dep = 64)) && mayT l 0 [] (dep + 1) else decide (l.len = 0)) && (if k = 6 then !(decide (dep = 64)) && mayT f 1 [] (dep + 1) else decide (f.len = 0)))
theorem mayT_val {nm : ByteArray} {k : Nat} {x : ByteArray} {l f tl : V.T} {seen : List ByteArray} {dep : Nat} : mayT (.cons nm k x l f tl) 0 seen dep = (mayV k x l f dep && mayT tl 0 (nm :: seen) dep) := by
  unfold mayV
  conv => lhs; unfold mayT
  rw [if_neg (by decide), Bool.true_and]
theorem mayT_seen : ∀ (t : V.T) (a b : List ByteArray) (dep : Nat), mayT t 0 a dep = mayT t 0 b dep
  | .nil, _, _, _ => rfl
  | .cons nm k x l f tl, a, b, dep => by rw [mayT_val, mayT_val, mayT_seen tl (nm :: a) (nm :: b) dep]
/-- strings of a size that is gone through -/
def Sm : V.T → Prop
  | .nil => True
  | .cons nm _ x l f tl => nm.size ≤ 1000000000000 ∧ x.size ≤ 1000000000000 ∧ Sm l ∧ Sm f ∧ Sm tl
theorem Sm.drop {t : V.T} {i : Nat} {nm : ByteArray} {k : Nat} {x : ByteArray} {l f tl : V.T} (h : Sm t) (hd : t.drop i = .cons nm k x l f tl) : nm.size ≤ 1000000000000 ∧ x.size ≤ 1000000000000 ∧ Sm l ∧ Sm f ∧ Sm tl := by
  induction i generalizing t with
  | zero => rw [V.T.drop_zero] at hd; subst hd; exact h
  | succ i ih =>
    cases t with
    | nil => cases hd
    | cons a b c d e tl2 => exact ih (t := tl2) h.2.2.2.2 hd
/-- valid serves values of fewer than N elements -/
def MayOk (P : World → Prop) (N : Nat) : Prop := ∀ (k : Nat) (x : ByteArray) (va ua : Value) (l f : V.T) (A : Nat → Prop) (d : Nat) (w : World), l.size + f.size < N → k < 256 → x.size ≤ 1000000000000 → Sm l → Sm f → HS w A 0 va l → HS w A 1 ua f → d ≤ 64 → P w →
  Calls Tryz.prog 51 #[.agg #[.int .u8 k, .string x, va, ua], .int .i64 d] w (Bools (mayV k x l f d) w)

set_option maxHeartbeats 1000000 in
set_option maxRecDepth 100000 in
theorem validList_any (P : World → Prop) (hP : ∀ W W', P W → Below W.heap.size W W' → P W') (N : Nat) (ih : MayOk P N) (v : Value) (t : V.T) (A : Nat → Prop) (d : Nat) (w : World) (ht : t.size ≤ N) (hs : Sm t) (hv : HS w A 0 v t) (hd : d ≤ 64) (hPw : P w) :
    Calls Tryz.prog 143 #[v, .int .i64 d] w (Bools (!(decide (d = 64)) && mayT t 0 [] (d + 1)) w) := by
  obtain ⟨p, c, rfl, b0, b1, b2⟩ := hv.len
  by_cases h64 : d = 64
  · have td : ((d : Int) == 64) = true := by simp; omega
    rw [decide_eq_true h64]
    clear h64 hd
    go_enter Tryz.func143, Tryz.ntmps143
    go_wp2_with fail
    go_ret
    exact ⟨rfl, Below.refl _ _⟩
  · have td : ((d : Int) == 64) = false := by simp; omega
    rw [decide_eq_false h64]
    generalize hn : t.len = n at *
    have HN := Lib.hid hn
    have HA := Lib.hid hv
    have hd2 : d + 1 ≤ 64 := by omega
    have HH := Lib.hid (And.intro ht (And.intro hs hd2))
    have HP := Lib.hid (And.intro hP hPw)
    clear hn hv ht hs h64 hd hP hPw
    go_enter Tryz.func143, Tryz.ntmps143
    go_wp2_with fail
    go_loopw [11] (fun q wr => ∃ i : Nat, q = .int .i64 i ∧ i ≤ n ∧ Hid (mayT (t.drop i) 0 [] (d + 1) = mayT t 0 [] (d + 1)) ∧ Hid (Below w.heap.size w wr)) (fun q _ => n - (RowKit.intOf q).toNat)
    case atStart => exact ⟨0, rfl, Nat.zero_le _, Lib.hid (by rw [V.T.drop_zero]), Lib.hid (Below.refl _ _)⟩
    case round =>
      obtain ⟨i, rfl, hi, HR, HB⟩ := hrel
      by_cases hlt : i < n
      · obtain ⟨nm1, k1, x1, l1, f1, tl1, hd1⟩ := V.T.drop_some (t := t) (i := i) (by rw [HN.out]; exact hlt)
        obtain ⟨b1, o1, v1, u1, rfl, E1⟩ := (HA.out.below HB.out).elem (by rw [HN.out]; exact hlt) hd1
        obtain ⟨p1, c5, rfl, -⟩ := E1.hl.len
        obtain ⟨p2, c6, rfl, -⟩ := E1.hf.len
        have e1 := E1.kind
        have e2 := E1.text
        have e3 := E1.list
        have e4 := E1.fields
        simp only [Nat.add_zero] at e1 e2 e3 e4
        have hsz := V.T.drop_size hd1
        have hsm := HH.out.2.1.drop hd1
        have IH := fun W (hB : Below wr.heap.size wr W) => ih k1 x1 _ _ l1 f1 A (d + 1) W (by have := HH.out.1; omega) E1.small.1 hsm.2.1 hsm.2.2.1 hsm.2.2.2.1 (E1.hl.below hB) (E1.hf.below hB) HH.out.2.2 (HP.out.1 _ _ (HP.out.1 _ _ HP.out.2 HB.out) hB)
        have hcast : ((d + 1 : Nat) : Int) = (d : Int) + 1 := by omega
        simp only [hcast] at IH
        clear hcast
        have hstep : mayT (t.drop i) 0 [] (d + 1) = (mayV k1 x1 l1 f1 (d + 1) && mayT (t.drop (i + 1)) 0 [] (d + 1)) := by
          rw [hd1, V.T.drop_step hd1, mayT_val, mayT_seen tl1 [nm1] []]
        have HS := Lib.hid hstep
        have HL := Lib.hid hlt
        clear hstep hsz hsm E1 hd1
        cases hv : mayV k1 x1 l1 f1 (d + 1)
        · have hno : mayT t 0 [] (d + 1) = false := by rw [← HR.out, HS.out, hv]; rfl
          rw [hv] at IH
          have HNo := Lib.hid hno
          have hBa := Lib.hid ((Below.refl wr.heap.size wr).alloc (Nat.le_refl _) (.cells #[.int .u8 k1, .string x1, .slice p1 l1.len c5, .slice p2 f1.len c6] 25))
          clear hno hv
          go_wp2_with fail
          (with_reducible refine (IH _ hBa.out).mono ?_)
          rintro e w1 ⟨rfl, hB1⟩
          have HB2 := Lib.hid (HB.out.trans ((hBa.out.trans (hB1.mono hBa.out.size)).mono HB.out.size))
          clear hB1 IH e1 e2 e3 e4
          go_wp2_with fail
          go_ret
          refine ⟨?_, HB2.out⟩
          rw [HNo.out]
          rfl
        · have hyes : mayT (t.drop (i + 1)) 0 [] (d + 1) = mayT t 0 [] (d + 1) := by rw [← HR.out, HS.out, hv, Bool.true_and]
          rw [hv] at IH
          have HY := Lib.hid hyes
          have hBa := Lib.hid ((Below.refl wr.heap.size wr).alloc (Nat.le_refl _) (.cells #[.int .u8 k1, .string x1, .slice p1 l1.len c5, .slice p2 f1.len c6] 25))
          clear hyes hv
          go_wp2_with fail
          (with_reducible refine (IH _ hBa.out).mono ?_)
          rintro e w1 ⟨rfl, hB1⟩
          have HB2 := Lib.hid (HB.out.trans ((hBa.out.trans (hB1.mono hBa.out.size)).mono HB.out.size))
          clear hB1 IH e1 e2 e3 e4
          go_wp2_with fail
          go_roundw
          case rel => exact ⟨i + 1, by go_num, HL.out, HY, HB2⟩
          case measure => have := HL.out; simp [RowKit.intOf]; omega
      · obtain rfl : i = n := by omega
        have hyes : mayT t 0 [] (d + 1) = true := by rw [← HR.out, ← HN.out, V.T.drop_len]; rfl
        have HY := Lib.hid hyes
        clear hyes
        go_wp2_with fail
        go_ret
        refine ⟨?_, HB.out⟩
        rw [HY.out]
        rfl
end Go.Proofs.YtoolkaahjmnjeaaGreatDoor

namespace Go.Proofs.YtoolkaahjmnjeaaGreatDoor
open Go Go.RowKit Go.Lib

/-- the reader's block: the string, the place, how many lists and objects are open -/
def Rd (s : ByteArray) (p d : Nat) (B : Nat) (W : World) : Prop := W.heap[B]? = some (.cells #[.string s, .int .i64 p, .int .i64 d] 193 (0, 0))
theorem Rd.lt {s : ByteArray} {p d B : Nat} {W : World} (h : Rd s p d B W) : B < W.heap.size := (Array.getElem?_eq_some_iff.1 h).1
theorem Rd.c0 {s : ByteArray} {p d B : Nat} {W : World} (h : Rd s p d B W) : W.cell? ⟨B, 0, none⟩ = some (.string s) := by simp [World.cell?, show W.heap[B]? = _ from h]
theorem Rd.c1 {s : ByteArray} {p d B : Nat} {W : World} (h : Rd s p d B W) : W.cell? ⟨B, 1, none⟩ = some (.int .i64 p) := by simp [World.cell?, show W.heap[B]? = _ from h]
theorem Rd.c2 {s : ByteArray} {p d B : Nat} {W : World} (h : Rd s p d B W) : W.cell? ⟨B, 2, none⟩ = some (.int .i64 d) := by simp [World.cell?, show W.heap[B]? = _ from h]
theorem Rd.f1 {s : ByteArray} {p d B : Nat} {W : World} (h : Rd s p d B W) : W.frozen? ⟨B, 1, none⟩ = false := by simp [World.frozen?, show W.heap[B]? = _ from h]
theorem Rd.f2 {s : ByteArray} {p d B : Nat} {W : World} (h : Rd s p d B W) : W.frozen? ⟨B, 2, none⟩ = false := by simp [World.frozen?, show W.heap[B]? = _ from h]
theorem Rd.drewN {s : ByteArray} {p d B : Nat} {W : World} (h : Rd s p d B W) (q : Nat) : Rd s p d B (W.drewN q) := h
theorem Rd.set1 {s : ByteArray} {p d B : Nat} {W : World} (h : Rd s p d B W) (x : Nat) : Rd s x d B (W.setCell ⟨B, 1, none⟩ (.int .i64 x)) := by
  obtain ⟨hlt, hk⟩ := Array.getElem?_eq_some_iff.1 h
  show (W.heap.modify B _)[B]? = _
  rw [Array.getElem?_eq_getElem (by rw [Array.size_modify]; exact hlt), Array.getElem_modify_self, hk]
  rfl
theorem Rd.set2 {s : ByteArray} {p d B : Nat} {W : World} (h : Rd s p d B W) (x : Nat) : Rd s p x B (W.setCell ⟨B, 2, none⟩ (.int .i64 x)) := by
  obtain ⟨hlt, hk⟩ := Array.getElem?_eq_some_iff.1 h
  show (W.heap.modify B _)[B]? = _
  rw [Array.getElem?_eq_getElem (by rw [Array.size_modify]; exact hlt), Array.getElem_modify_self, hk]
  rfl
theorem Rd.same {s : ByteArray} {p d B : Nat} {W W' : World} (h : Rd s p d B W) (hk : W'.heap[B]? = W.heap[B]?) : Rd s p d B W' := hk.trans h
theorem Rd.below {s : ByteArray} {p d B : Nat} {W W' : World} (h : Rd s p d B W) (hB : Below W.heap.size W W') : Rd s p d B W' := h.same (hB.block _ h.lt)
theorem Rd.alloc {s : ByteArray} {p d B : Nat} {W : World} (h : Rd s p d B W) (o : Obj) : Rd s p d B (W.alloc o) := h.below ((Below.refl _ _).alloc (Nat.le_refl _) o)
theorem grow_drewN (w : World) (q : Nat) (row : Option Nat) : w.grownBy (w.drewN q) row := ⟨rfl, rfl, rfl, Nat.le_refl _, fun _ _ _ => rfl⟩
theorem grow_set (W : World) (b o : Nat) (v : Value) : W.grownBy (W.setCell ⟨b, o, none⟩ v) (some b) := ⟨rfl, rfl, rfl, by simp, fun k _ hk => Below.heap_setCell W ⟨b, o, none⟩ v k (fun e => hk (by simp [e]))⟩
theorem grow_trans {a b c : World} {row : Option Nat} (h : a.grownBy b row) (k : b.grownBy c row) : a.grownBy c row :=
  ⟨k.os.trans h.os, k.tape.trans h.tape, k.output.trans h.output, Nat.le_trans h.size k.size, fun i hi hne => (k.block i (Nat.lt_of_lt_of_le hi h.size) hne).trans (h.block i hi hne)⟩
theorem grow_below {w w' : World} (h : Below w.heap.size w w') (row : Option Nat) : w.grownBy w' row := ⟨h.os, h.tape, h.output, h.size, fun k hk _ => h.block k hk⟩
theorem below_grow {w w' : World} {B C : Nat} (h : w.grownBy w' (some B)) (hC : C ≤ B) (hs : C ≤ w.heap.size) : Below C w w' := ⟨h.os, h.tape, h.output, h.size, fun k hk => h.block k (by omega) (fun e => by cases e; omega)⟩

def Quiet (v : Value) (w : World) (en : Ending) (w' : World) : Prop := en = .returned v ∧ ∃ q, w' = w.drewN q
/-- it is back, and the reader stands there -/
def Back (v : Value) (s : ByteArray) (p d B : Nat) (w : World) (en : Ending) (w' : World) : Prop := en = .returned v ∧ Rd s p d B w' ∧ w.grownBy w' (some B)
/-- an error was raised, and the reader stands there -/
def Died (e : Int) (s : ByteArray) (p B : Nat) (w : World) (en : Ending) (w' : World) : Prop :=
  en = .panicked [{ v := .iface 28 (.int .i64 e), recovered := false }] ∧ (∃ d, Rd s p d B w') ∧ w.grownBy w' (some B)

set_option maxRecDepth 100000 in
set_option maxHeartbeats 400000 in
theorem peek_any (s : ByteArray) (p d B : Nat) (w : World) (_hs : s.size ≤ 1000000000000) (hp : p ≤ s.size) (h : Rd s p d B w) :
    Calls Tryz.prog 196 #[.pointer (some ⟨B, 0, none⟩)] w (Quiet (.int .u8 (J.pk s p : Nat)) w) := by
  have c0 := h.c0
  have c1 := h.c1
  clear h
  by_cases hlt : p < s.size
  · have e1 : ((p : Int) == (s.size : Int)) = false := by simp; omega
    have HP := Lib.hid (show J.pk s p = s[p].toNat by unfold J.pk; rw [if_pos hlt, J.at_byte hlt])
    go_enter Tryz.func196, Tryz.ntmps196
    go_wp2_with fail
    go_quiet (fail)
    obtain ⟨nq_0, hq0⟩ : ∃ nq_0, nq_0 = nq := ⟨_, rfl⟩
    subst hq0
    go_wp2_with fail
    go_quiet (fail)
    go_wp2_with fail
    go_ret
    rw [HP.out]
    exact ⟨rfl, nq_0 + nq, by simp [World.drewN, Nat.add_assoc]⟩
  · obtain rfl : p = s.size := by omega
    have HP := Lib.hid (show J.pk s s.size = 0 by unfold J.pk; rw [if_neg hlt])
    clear hlt hp
    go_enter Tryz.func196, Tryz.ntmps196
    go_wp2_with fail
    go_quiet (fail)
    go_wp2_with fail
    go_ret
    rw [HP.out]
    exact ⟨rfl, _, rfl⟩

set_option maxRecDepth 100000 in
set_option maxHeartbeats 400000 in
theorem skip_no (s x : ByteArray) (p d B : Nat) (w : World) (hs : s.size ≤ 1000000000000) (hp : p ≤ s.size) (h : Rd s p d B w) (hb : J.sk s x p = false) :
    Calls Tryz.prog 195 #[.pointer (some ⟨B, 0, none⟩), .string x] w (Back (.bool false) s p d B w) := by
  have hk := peek_any s p d B w hs hp h
  have hi := fun W => Any.strings_IndexByte Tryz.laysIndexByte x (J.pk s p : Nat) W
  have he := J.am_index x (J.pk s p) (J.pk_lt s p)
  have c1 := h.c1
  have f1 := h.f1
  generalize Lib.indexByte x.data.toList (((J.pk s p : Nat) : Int).toNat.toUInt8) = z at *
  have e1 : decide (z < 0) = true := by rw [he, show J.am x (J.pk s p) = false from hb]; rfl
  clear he hb
  generalize J.pk s p = c at *
  go_enter Tryz.func195, Tryz.ntmps195
  go_wp2_with fail
  refine hk.mono ?_
  rintro en w' ⟨rfl, q, rfl⟩
  go_wp2_with fail
  refine (hi _).mono ?_
  rintro en w' ⟨rfl, rfl⟩
  go_wp2_with fail
  go_ret
  exact ⟨rfl, h, grow_drewN _ _ _⟩

set_option maxRecDepth 100000 in
set_option maxHeartbeats 400000 in
theorem skip_yes (s x : ByteArray) (p d B : Nat) (w : World) (hs : s.size ≤ 1000000000000) (hp : p ≤ s.size) (h : Rd s p d B w) (hb : J.sk s x p = true) :
    Calls Tryz.prog 195 #[.pointer (some ⟨B, 0, none⟩), .string x] w (Back (.bool true) s (p + 1) d B w) := by
  have hk := peek_any s p d B w hs hp h
  have hi := fun W => Any.strings_IndexByte Tryz.laysIndexByte x (J.pk s p : Nat) W
  have he := J.am_index x (J.pk s p) (J.pk_lt s p)
  have c1 := h.c1
  have f1 := h.f1
  generalize Lib.indexByte x.data.toList (((J.pk s p : Nat) : Int).toNat.toUInt8) = z at *
  have e1 : decide (z < 0) = false := by rw [he, show J.am x (J.pk s p) = true from hb]; rfl
  clear he hb
  generalize J.pk s p = c at *
  go_enter Tryz.func195, Tryz.ntmps195
  go_wp2_with fail
  refine hk.mono ?_
  rintro en w' ⟨rfl, q, rfl⟩
  go_wp2_with fail
  refine (hi _).mono ?_
  rintro en w' ⟨rfl, rfl⟩
  go_wp2_with fail
  go_ret
  exact ⟨rfl, (h.drewN q).set1 (p + 1), grow_trans (grow_drewN _ _ _) (grow_set _ _ _ _)⟩

set_option maxRecDepth 100000 in
set_option maxHeartbeats 400000 in
theorem take_yes (s x : ByteArray) (p d B : Nat) (w : World) (hs : s.size ≤ 1000000000000) (hp : p ≤ s.size) (h : Rd s p d B w) (hb : J.sk s x p = true) :
    Calls Tryz.prog 210 #[.pointer (some ⟨B, 0, none⟩), .string x] w (Back (.int .u8 (J.pk s p : Nat)) s (p + 1) d B w) := by
  have hk := peek_any s p d B w hs hp h
  have hi := fun q => skip_yes s x p d B (w.drewN q) hs hp (h.drewN q) hb
  clear hb
  generalize J.pk s p = c at *
  go_enter Tryz.func210, Tryz.ntmps210
  go_wp2_with fail
  refine hk.mono ?_
  rintro en w' ⟨rfl, q, rfl⟩
  go_wp2_with fail
  refine (hi q).mono ?_
  rintro en w' ⟨rfl, h2, g2⟩
  go_wp2_with fail
  go_ret
  exact ⟨rfl, h2, grow_trans (grow_drewN _ _ _) g2⟩

set_option maxRecDepth 100000 in
set_option maxHeartbeats 400000 in
theorem take_no (s x : ByteArray) (p d B : Nat) (w : World) (hs : s.size ≤ 1000000000000) (hp : p ≤ s.size) (h : Rd s p d B w) (hb : J.sk s x p = false) :
    Calls Tryz.prog 210 #[.pointer (some ⟨B, 0, none⟩), .string x] w (Died 30 s p B w) := by
  have hk := peek_any s p d B w hs hp h
  have hi := fun q => skip_no s x p d B (w.drewN q) hs hp (h.drewN q) hb
  clear hb
  generalize J.pk s p = c at *
  go_enter Tryz.func210, Tryz.ntmps210
  go_wp2_with fail
  refine hk.mono ?_
  rintro en w' ⟨rfl, q, rfl⟩
  go_wp2_with fail
  refine (hi q).mono ?_
  rintro en w' ⟨rfl, h2, g2⟩
  have HF := Lib.hid (show Died 30 s p B w (.panicked [{ v := .iface 28 (.int .i64 30), recovered := false }]) w' from ⟨rfl, ⟨_, h2⟩, grow_trans (grow_drewN _ _ _) g2⟩)
  clear h2 g2
  go_wp2_with fail
  exact ⟨rfl, HF.out⟩
end Go.Proofs.YtoolkaahjmnjeaaGreatDoor

namespace Go.Proofs.YtoolkaahjmnjeaaGreatDoor
open Go Go.RowKit Go.Lib

/-- the number of the first k digits -/
def hn (t : ByteArray) : Nat → Nat
  | 0 => 0
  | k + 1 => hn t k * 16 + (J.hv (t.get! k).toNat).toNat
theorem hn_lt (t : ByteArray) : ∀ k, hn t k < 16 ^ k
  | 0 => Nat.lt_succ_self 0
  | k + 1 => by
    have h1 := hn_lt t k
    have h2 := J.hv_lt (t.get! k).toNat
    show hn t k * 16 + _ < 16 ^ k * 16
    omega
theorem lower_lo (c : Nat) (h1 : 97 ≤ c) (h2 : c ≤ 102) (w : World) : Calls Tryz.prog 193 #[.int .u8 c] w fun e w' => e = .returned (.int .u8 c) ∧ w' = w := by
  have : c = 97 ∨ c = 98 ∨ c = 99 ∨ c = 100 ∨ c = 101 ∨ c = 102 := by omega
  rcases this with rfl | rfl | rfl | rfl | rfl | rfl
  all_goals
    go_enter Tryz.func193, Tryz.ntmps193
    go_wp2
    go_ret
    exact ⟨rfl, rfl⟩
theorem lower_up (c : Nat) (h1 : 65 ≤ c) (h2 : c ≤ 70) (w : World) : Calls Tryz.prog 193 #[.int .u8 c] w fun e w' => e = .returned (.int .u8 ((c + 32 : Nat) : Int)) ∧ w' = w := by
  have : c = 65 ∨ c = 66 ∨ c = 67 ∨ c = 68 ∨ c = 69 ∨ c = 70 := by omega
  rcases this with rfl | rfl | rfl | rfl | rfl | rfl
  all_goals
    go_enter Tryz.func193, Tryz.ntmps193
    go_wp2
    go_ret
    exact ⟨rfl, rfl⟩

/-- a hexadecimal digit's three kinds -/
theorem hv_kinds {c : Nat} (h : 0 ≤ J.hv c) : (48 ≤ c ∧ c ≤ 57 ∧ J.hv c = (c : Int) - 48) ∨ (97 ≤ c ∧ c ≤ 102 ∧ J.hv c = (c : Int) - 87) ∨ (65 ≤ c ∧ c ≤ 70 ∧ J.hv c = (c : Int) - 55) := by
  unfold J.hv at *
  split at h <;> (try split at h) <;> (try split at h) <;> (try omega) <;> simp_all

set_option maxHeartbeats 4000000 in
set_option maxRecDepth 100000 in
/-- internal/strconv.ParseUint of four hexadecimal digits -/
theorem parse16_any (t : ByteArray) (h4 : t.size = 4) (hd : ∀ i, i < 4 → 0 ≤ J.hv (t.get! i).toNat) (w : World) :
    Calls Tryz.prog 177 #[.string t, .int .i64 16, .int .i64 16] w fun e w' => e = .returned (.tuple #[.int .u64 ((hn t 4 : Nat) : Int), .nilIface]) ∧ w' = Lib.bytesWorld w 5 t := by
  have hemp : t.toList.isEmpty = false := by
    rw [← decide_eq_emptyBytes]
    exact decide_eq_false (fun h => by rw [h] at h4; exact absurd h4 (by decide))
  have hcv := Lib.run_convert_string_bytes (P := Tryz.prog) w 9 81 5 t (u := .string) (by kernel_rfl) (by kernel_rfl) (by kernel_rfl)
  have hB : ∀ j, j < t.size → (Lib.bytesWorld w 5 t).cell? ⟨w.heap.size, j, none⟩ = some (.int .u8 (t.data.toList.getD j 0).toNat) := fun j hj => Lib.bytesWorld_cell w 5 t j hj
  have hG : ∀ j, j < t.size → t.data.toList.getD j 0 = t.get! j := by
    intro j hj
    rw [J.at_get hj]
    simp [List.getD, hj]
    rfl
  obtain ⟨W1, hW1⟩ : ∃ W1, W1 = Lib.bytesWorld w 5 t := ⟨_, rfl⟩
  rw [← hW1] at hcv hB ⊢
  clear hW1
  have hmv : IntKind.u64.wrap (IntKind.u64.wrap 65536 - 1) = 65535 := by
    rw [IntKind.wrap_u64, IntKind.wrap_u64]
    decide
  go_enter Tryz.func177, Tryz.ntmps177
  go_wp2
  go_loop [12, 13, 101] (fun vu vn vi => ∃ (k : Nat) (a : Int), vu = .bool false ∧ vn = .int .u64 a ∧ vi = .int .i64 k ∧ k ≤ t.size ∧ Hid (a = ((hn t k : Nat) : Int)))
    (fun _ _ vi => t.size - (RowKit.intOf vi).toNat)
  case atStart => exact ⟨0, 0, rfl, rfl, rfl, by omega, Lib.hid rfl⟩
  case round =>
    obtain ⟨k, a, rfl, rfl, rfl, hk, hh⟩ := hrel
    by_cases hkn : k < t.size
    · have hc := hB k hkn
      rw [hG k hkn] at hc
      have hv := hd k (by omega)
      have hlt := hn_lt t k
      have hlt2 : hn t k < 4096 := by
        have : k = 0 ∨ k = 1 ∨ k = 2 ∨ k = 3 := by omega
        rcases this with rfl | rfl | rfl | rfl <;> exact Nat.lt_of_lt_of_le hlt (by decide)
      have hstep : hn t (k + 1) = hn t k * 16 + (J.hv (t.get! k).toNat).toNat := rfl
      have ha := hh.out
      have a0 : 0 ≤ a := by omega
      have a1 : a < 4096 := by omega
      generalize (t.get! k).toNat = c at *
      clear hB hG hlt
      rcases hv_kinds hv with ⟨c0, c1, c2⟩ | ⟨c0, c1, c2⟩ | ⟨c0, c1, c2⟩
      · have HN : Hid (a * 16 + ((c : Int) - 48) = ((hn t (k + 1) : Nat) : Int)) := Lib.hid (by omega)
        clear hstep hlt2 c2 ha
        go_wp2
        refine ⟨⟨k + 1, a * 16 + ((c : Int) - 48), rfl, (by first | rfl | (congr 1; omega)), (by first | rfl | (congr 1; omega)), by omega, HN⟩, by simp [RowKit.intOf]; omega⟩
      · have HN : Hid (a * 16 + ((c : Int) - 87) = ((hn t (k + 1) : Nat) : Int)) := Lib.hid (by omega)
        clear hstep hlt2 c2 ha
        go_wp2_with fail
        refine (lower_lo c c0 c1 _).mono ?_
        rintro en w2 ⟨rfl, rfl⟩
        go_wp2_with fail
        refine (lower_lo c c0 c1 _).mono ?_
        rintro en w2 ⟨rfl, rfl⟩
        go_wp2_with fail
        refine (lower_lo c c0 c1 _).mono ?_
        rintro en w2 ⟨rfl, rfl⟩
        go_wp2_with fail
        refine ⟨⟨k + 1, a * 16 + ((c : Int) - 87), rfl, (by first | rfl | (congr 1; omega)), (by first | rfl | (congr 1; omega)), by omega, HN⟩, by simp [RowKit.intOf]; omega⟩
      · have HN : Hid (a * 16 + ((c : Int) - 55) = ((hn t (k + 1) : Nat) : Int)) := Lib.hid (by omega)
        clear hstep hlt2 c2 ha
        go_wp2_with fail
        refine (lower_up c c0 c1 _).mono ?_
        rintro en w2 ⟨rfl, rfl⟩
        go_wp2_with fail
        refine (lower_up c c0 c1 _).mono ?_
        rintro en w2 ⟨rfl, rfl⟩
        go_wp2_with fail
        refine (lower_up c c0 c1 _).mono ?_
        rintro en w2 ⟨rfl, rfl⟩
        go_wp2_with fail
        refine ⟨⟨k + 1, a * 16 + ((c : Int) - 55), rfl, (by first | rfl | (congr 1; omega)), (by first | rfl | (congr 1; omega)), by omega, HN⟩, by simp [RowKit.intOf]; omega⟩
    · have hkk : k = 4 := by omega
      subst hkk
      have ha := hh.out
      subst ha
      go_wp2
      go_ret2
      exact ⟨rfl, rfl⟩
end Go.Proofs.YtoolkaahjmnjeaaGreatDoor

namespace Go.Proofs.YtoolkaahjmnjeaaGreatDoor
open Go Go.RowKit Go.Lib

def StrB (x : ByteArray) (w : World) (en : Ending) (w' : World) : Prop := en = .returned (.string x) ∧ Below w.heap.size w w'
set_option maxRecDepth 100000 in
set_option maxHeartbeats 1000000 in
theorem strClone_any (x : ByteArray) (w : World) (hx : x.size ≤ 140737488355328) :
    Calls Tryz.prog 130 #[.string x] w (StrB x w) := by
  have h := fun W => Any.stringslite_Clone Tryz.laysClone x W (by omega)
  go_enter Tryz.func130, Tryz.ntmps130
  go_wp2_with fail
  refine (h _).mono ?_
  rintro en w' ⟨rfl, hB⟩
  go_wp2_with fail
  go_ret
  exact ⟨rfl, hB⟩
end Go.Proofs.YtoolkaahjmnjeaaGreatDoor
