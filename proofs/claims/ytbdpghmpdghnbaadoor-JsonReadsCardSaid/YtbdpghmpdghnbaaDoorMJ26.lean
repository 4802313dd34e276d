/- The document's own reader of JSON: is a byte at hand? Conditions: a string of at most 10^12 bytes. -/
import Derived.Test.YtbdpghmpdghnbaaDoorProg
import Derived.Test.YtbdpghmpdghnbaaDoorMJ01
import Derived.WalkKit
import Derived.WalkSpells
import Derived.WalkLawsBesides
import Derived.WalkSmall
import Derived.Lib.Hide
import Derived.ProofKit
import Derived.Deep.QuietTactic
import Derived.BigQuiet
import Derived.Laws.AppendOwn
namespace Go.Proofs.YtbdpghmpdghnbaaDoor
open Go Go.RowKit Go.Lib

/-- the reader's block: the string, the place, what is wrong -/
def St (s : ByteArray) (p e : Nat) (B : Nat) (W : World) : Prop := W.heap[B]? = some (.cells #[.string s, .int .i64 p, .int .i64 e] 35 (0, 0))
theorem St.c0 {s : ByteArray} {p e B : Nat} {W : World} (h : St s p e B W) : W.cell? ⟨B, 0, none⟩ = some (.string s) := by simp [World.cell?, show W.heap[B]? = _ from h]
theorem St.c1 {s : ByteArray} {p e B : Nat} {W : World} (h : St s p e B W) : W.cell? ⟨B, 1, none⟩ = some (.int .i64 p) := by simp [World.cell?, show W.heap[B]? = _ from h]
theorem St.c2 {s : ByteArray} {p e B : Nat} {W : World} (h : St s p e B W) : W.cell? ⟨B, 2, none⟩ = some (.int .i64 e) := by simp [World.cell?, show W.heap[B]? = _ from h]
theorem St.f1 {s : ByteArray} {p e B : Nat} {W : World} (h : St s p e B W) : W.frozen? ⟨B, 1, none⟩ = false := by simp [World.frozen?, show W.heap[B]? = _ from h]
theorem St.f2 {s : ByteArray} {p e B : Nat} {W : World} (h : St s p e B W) : W.frozen? ⟨B, 2, none⟩ = false := by simp [World.frozen?, show W.heap[B]? = _ from h]
theorem St.drewN {s : ByteArray} {p e B : Nat} {W : World} (h : St s p e B W) (q : Nat) : St s p e B (W.drewN q) := h

def QuietR (b : Bool) (w : World) (en : Ending) (w' : World) : Prop := en = .returned (.bool b) ∧ ∃ q, w' = w.drewN q

set_option maxRecDepth 100000 in
set_option maxHeartbeats 400000 in
theorem is_any (s : ByteArray) (p e c B : Nat) (w : World) (hs : s.size ≤ 1000000000000) (h : St s p e B w) :
    Calls Tryd.prog 13 #[.pointer (some ⟨B, 0, none⟩), .int .u8 c] w (QuietR (J.is s p e c) w) := by
  have c0 := h.c0
  have c1 := h.c1
  have c2 := h.c2
  clear h
  cases hi : J.is s p e c
  · have hn := J.of_nis hi
    clear hi
    by_cases he : e = 0
    · subst he
      by_cases hp : p < s.size
      · have hb : ¬ s[p].toNat = c := by rw [J.at_byte hp]; exact fun h => hn ⟨rfl, hp, h⟩
        have e1 : ((s[p].toNat : Int) == (c : Int)) = false := by simp; omega
        clear hn hb
        go_enter Tryd.func13, Tryd.ntmps13
        go_wp2_with fail
        go_quiet (fail)
        go_wp2_with fail
        go_ret
        exact ⟨rfl, _, rfl⟩
      · clear hn
        go_enter Tryd.func13, Tryd.ntmps13
        go_wp2_with fail
        go_quiet (fail)
        go_wp2_with fail
        go_ret
        exact ⟨rfl, _, rfl⟩
    · have e0 : ((e : Int) == 0) = false := by simp; omega
      clear hn he
      go_enter Tryd.func13, Tryd.ntmps13
      go_wp2_with fail
      go_quiet (fail)
      go_wp2_with fail
      go_ret
      exact ⟨rfl, _, rfl⟩
  · obtain ⟨rfl, hp, hb⟩ := J.of_is hi
    rw [← J.at_byte hp] at hb
    have e1 : ((s[p].toNat : Int) == (c : Int)) = true := by simp; omega
    clear hi hb
    go_enter Tryd.func13, Tryd.ntmps13
    go_wp2_with fail
    go_quiet (fail)
    go_wp2_with fail
    go_ret
    exact ⟨rfl, _, rfl⟩

theorem is_int (s : ByteArray) (p e B : Nat) (c : Int) (hc : 0 ≤ c) (w : World) (hs : s.size ≤ 1000000000000) (h : St s p e B w) :
    Calls Tryd.prog 13 #[.pointer (some ⟨B, 0, none⟩), .int .u8 c] w (QuietR (J.is s p e c.toNat) w) := by
  obtain ⟨n, rfl⟩ := Int.eq_ofNat_of_zero_le hc
  exact is_any s p e n B w hs h

/-- the reader has come to another place, or found something wrong; nothing else that lay has turned -/
def Moved (s : ByteArray) (p e B : Nat) (w : World) (en : Ending) (w' : World) : Prop := (∃ v, en = .returned v) ∧ St s p e B w' ∧ w.grownBy w' (some B)
theorem grownBy_drewN (w : World) (q : Nat) (row : Option Nat) : w.grownBy (w.drewN q) row := ⟨rfl, rfl, rfl, Nat.le_refl _, fun _ _ _ => rfl⟩
theorem grownBy_set (W : World) (b o : Nat) (v : Value) : W.grownBy (W.setCell ⟨b, o, none⟩ v) (some b) :=
  ⟨rfl, rfl, rfl, by simp, fun k _ hk => heap_setCell_other W ⟨b, o, none⟩ k v (fun e => hk (by simp [e]))⟩
theorem grown_trans {a b c : World} {row : Option Nat} (h : a.grownBy b row) (k : b.grownBy c row) : a.grownBy c row :=
  ⟨k.os.trans h.os, k.tape.trans h.tape, k.output.trans h.output, Nat.le_trans h.size k.size, fun i hi hne => (k.block i (Nat.lt_of_lt_of_le hi h.size) hne).trans (h.block i hi hne)⟩
theorem St.set1 {s : ByteArray} {p e B : Nat} {W : World} (h : St s p e B W) (x : Nat) : St s x e B (W.setCell ⟨B, 1, none⟩ (.int .i64 x)) := by
  obtain ⟨hlt, hk⟩ := Array.getElem?_eq_some_iff.1 h
  show (W.heap.modify B _)[B]? = _
  rw [Array.getElem?_eq_getElem (by rw [Array.size_modify]; exact hlt), Array.getElem_modify_self, hk]
  rfl
theorem St.set2 {s : ByteArray} {p e B : Nat} {W : World} (h : St s p e B W) (x : Nat) : St s p x B (W.setCell ⟨B, 2, none⟩ (.int .i64 x)) := by
  obtain ⟨hlt, hk⟩ := Array.getElem?_eq_some_iff.1 h
  show (W.heap.modify B _)[B]? = _
  rw [Array.getElem?_eq_getElem (by rw [Array.size_modify]; exact hlt), Array.getElem_modify_self, hk]
  rfl

set_option maxRecDepth 100000 in
set_option maxHeartbeats 400000 in
theorem take_any (s : ByteArray) (p e c B : Nat) (w : World) (hs : s.size ≤ 1000000000000) (hp : p ≤ s.size) (h : St s p e B w) :
    Calls Tryd.prog 21 #[.pointer (some ⟨B, 0, none⟩), .int .u8 c] w (Moved s (J.tk s p e c).1 (J.tk s p e c).2 B w) := by
  by_cases he : e = 0
  · subst he
    have hi := is_any s p 0 c B w hs h
    have c1 := h.c1
    have c2 := h.c2
    have f1 := h.f1
    have f2 := h.f2
    cases hb : J.is s p 0 c
    · rw [hb] at hi
      rw [J.tk_no hb]
      clear hb
      go_enter Tryd.func21, Tryd.ntmps21
      go_wp2_with fail
      refine hi.mono ?_
      rintro en w' ⟨rfl, q, rfl⟩
      go_wp2_with fail
      go_end0
      exact ⟨⟨_, rfl⟩, (h.drewN q).set2 30, grown_trans (grownBy_drewN w q _) (grownBy_set _ _ _ _)⟩
    · rw [hb] at hi
      rw [J.tk_yes hb]
      clear hb
      go_enter Tryd.func21, Tryd.ntmps21
      go_wp2_with fail
      refine hi.mono ?_
      rintro en w' ⟨rfl, q, rfl⟩
      go_wp2_with fail
      go_end0
      exact ⟨⟨_, rfl⟩, (h.drewN q).set1 (p + 1), grown_trans (grownBy_drewN w q _) (grownBy_set _ _ _ _)⟩
  · rw [J.tk_wrong c he]
    have c2 := h.c2
    have e0 : ((e : Int) == 0) = false := by simp; omega
    have e1 : ((e : Int) != 0) = true := by simp; omega
    clear he
    go_enter Tryd.func21, Tryd.ntmps21
    go_wp2_with fail
    go_end0
    exact ⟨⟨_, rfl⟩, h, grownBy_drewN w 0 _⟩
theorem take_int (s : ByteArray) (p e B : Nat) (c : Int) (hc : 0 ≤ c) (w : World) (hs : s.size ≤ 1000000000000) (hp : p ≤ s.size) (h : St s p e B w) :
    Calls Tryd.prog 21 #[.pointer (some ⟨B, 0, none⟩), .int .u8 c] w (Moved s (J.tk s p e c.toNat).1 (J.tk s p e c.toNat).2 B w) := by
  obtain ⟨n, rfl⟩ := Int.eq_ofNat_of_zero_le hc
  exact take_any s p e n B w hs hp h
end Go.Proofs.YtbdpghmpdghnbaaDoor

namespace Go.Proofs.YtbdpghmpdghnbaaDoor
open Go Go.RowKit Go.Lib

set_option maxRecDepth 100000 in
set_option maxHeartbeats 400000 in
theorem all_any (s x : ByteArray) (p e B : Nat) (w : World) (hs : s.size ≤ 1000000000000) (hx : x.size ≤ 1000000000000) (hp : p ≤ s.size) (h : St s p e B w) :
    Calls Tryd.prog 14 #[.pointer (some ⟨B, 0, none⟩), .string x] w (Moved s (J.al s x x.size (p, e)).1 (J.al s x x.size (p, e)).2 B w) := by
  go_enter Tryd.func14, Tryd.ntmps14
  go_wp2_with fail
  go_loopw [4] (fun i wr => ∃ k : Nat, i = .int .i64 k ∧ k ≤ x.size ∧ Hid (St s (J.al s x k (p, e)).1 (J.al s x k (p, e)).2 B wr ∧ w.grownBy wr (some B))) (fun i _ => x.size - (RowKit.intOf i).toNat)
  case atStart => exact ⟨0, rfl, Nat.zero_le _, Lib.hid ⟨h, grownBy_drewN w 0 _⟩⟩
  case round =>
    obtain ⟨k, rfl, hk, HW⟩ := hrel
    by_cases hlt : k < x.size
    · have ht := take_any s _ _ (x.get! k).toNat B wr hs (J.al_le e hp k).2 HW.out.1
      rw [← J.at_byte hlt] at ht
      have HX : Hid (J.tk s (J.al s x k (p, e)).1 (J.al s x k (p, e)).2 x[k].toNat = J.al s x (k + 1) (p, e)) := Lib.hid (by rw [J.at_byte hlt]; rfl)
      generalize J.tk s (J.al s x k (p, e)).1 (J.al s x k (p, e)).2 x[k].toNat = r at *
      go_wp2_with fail
      refine ht.mono ?_
      rintro en w1 ⟨⟨v, rfl⟩, h1, h2⟩
      go_wp2_with fail
      go_roundw
      case rel => exact ⟨k + 1, by go_num, by omega, Lib.hid ⟨by rw [← HX.out]; exact h1, grown_trans HW.out.2 h2⟩⟩
      case measure => simp [RowKit.intOf]; omega
    · obtain rfl : k = x.size := by omega
      go_wp2_with fail
      go_end0
      exact ⟨⟨_, rfl⟩, HW.out.1, HW.out.2⟩

/-- where the reader stands, off the world -/
def place (B : Nat) (W : World) : Nat := (RowKit.intOf ((W.cell? ⟨B, 1, none⟩).getD undef)).toNat
theorem place_eq {s : ByteArray} {p e B : Nat} {W : World} (h : St s p e B W) : place B W = p := by unfold place; rw [h.c1]; simp [RowKit.intOf]

set_option maxRecDepth 100000 in
set_option maxHeartbeats 1000000 in
theorem blanks_any (s : ByteArray) (p e B : Nat) (w : World) (hs : s.size ≤ 1000000000000) (hp : p ≤ s.size) (h : St s p e B w) :
    Calls Tryd.prog 8 #[.pointer (some ⟨B, 0, none⟩)] w (Moved s (J.bl s p e) e B w) := by
  go_enter Tryd.func8, Tryd.ntmps8
  go_wp2_with fail
  go_loopw [] (fun wr => ∃ q : Nat, q ≤ s.size ∧ Hid (St s q e B wr ∧ w.grownBy wr (some B) ∧ J.bl s q e = J.bl s p e)) (fun wr => s.size - place B wr)
  case atStart => exact ⟨p, hp, Lib.hid ⟨h, grownBy_drewN w 0 _, rfl⟩⟩
  case round =>
    obtain ⟨q, hq, HW⟩ := hrel
    have i0 := fun W (hW : St s q e B W) => is_int s q e B 32 (by decide) W hs hW
    have i1 := fun W (hW : St s q e B W) => is_int s q e B 9 (by decide) W hs hW
    have i2 := fun W (hW : St s q e B W) => is_int s q e B 10 (by decide) W hs hW
    have i3 := fun W (hW : St s q e B W) => is_int s q e B 13 (by decide) W hs hW
    have c1 := HW.out.1.c1
    have f1 := HW.out.1.f1
    have hst : J.is s q e (32 : Int).toNat = false → J.is s q e (9 : Int).toNat = false → J.is s q e (10 : Int).toNat = false → J.is s q e (13 : Int).toNat = false → J.bl s q e = q := fun a b c d => by
      by_cases he : e = 0
      · subst he
        refine J.bl_stop (fun hx => ?_)
        have hw := of_decide_eq_true hx.2
        rcases hw with h | h | h | h
        · rw [show J.is s q 0 (32 : Int).toNat = true from J.is_yes hx.1 h] at a; cases a
        · rw [show J.is s q 0 (9 : Int).toNat = true from J.is_yes hx.1 h] at b; cases b
        · rw [show J.is s q 0 (10 : Int).toNat = true from J.is_yes hx.1 h] at c; cases c
        · rw [show J.is s q 0 (13 : Int).toNat = true from J.is_yes hx.1 h] at d; cases d
      · exact J.bl_wrong s q he
    have hgo : ∀ c : Nat, (c = 32 ∨ c = 9 ∨ c = 10 ∨ c = 13) → J.is s q e c = true → q < s.size ∧ J.bl s q e = J.bl s (q + 1) e := fun c hc h => by
      obtain ⟨rfl, h2, h3⟩ := J.of_is h
      exact ⟨h2, J.bl_step h2 (decide_eq_true (by rw [h3]; exact hc))⟩
    cases b0 : J.is s q e (32 : Int).toNat
    rotate_left
    · obtain ⟨hlt, hg⟩ := hgo 32 (by decide) b0
      have HG := Lib.hid hg
      rw [b0] at i0
      clear hg hst hgo b0 i1 i2 i3
      go_wp2_with fail
      refine (i0 _ (by exact HW.out.1)).mono ?_
      rintro en w0 ⟨rfl, q0, rfl⟩
      go_wp2_with fail
      refine ⟨⟨q + 1, hlt, Lib.hid ⟨(((HW.out.1.drewN q0)).set1 (q + 1)), ?_, HG.out ▸ HW.out.2.2⟩⟩, ?_⟩
      · exact grown_trans HW.out.2.1 (grown_trans (grownBy_drewN _ q0 _) (grownBy_set _ _ _ _))
      · rw [place_eq HW.out.1]; exact Nat.lt_of_le_of_lt (Nat.le_of_eq (congrArg (s.size - ·) (place_eq ((HW.out.1.drewN q0).set1 (q + 1))))) (by omega)
    cases b1 : J.is s q e (9 : Int).toNat
    rotate_left
    · obtain ⟨hlt, hg⟩ := hgo 9 (by decide) b1
      have HG := Lib.hid hg
      rw [b0] at i0
      rw [b1] at i1
      clear hg hst hgo b0 b1 i2 i3
      go_wp2_with fail
      refine (i0 _ (by exact HW.out.1)).mono ?_
      rintro en w0 ⟨rfl, q0, rfl⟩
      go_wp2_with fail
      refine (i1 _ (by exact HW.out.1)).mono ?_
      rintro en w1 ⟨rfl, q1, rfl⟩
      go_wp2_with fail
      refine ⟨⟨q + 1, hlt, Lib.hid ⟨((((HW.out.1.drewN q0).drewN q1)).set1 (q + 1)), ?_, HG.out ▸ HW.out.2.2⟩⟩, ?_⟩
      · exact grown_trans HW.out.2.1 (grown_trans (grownBy_drewN _ (q0 + q1) _) (grownBy_set _ _ _ _))
      · rw [place_eq HW.out.1]; exact Nat.lt_of_le_of_lt (Nat.le_of_eq (congrArg (s.size - ·) (place_eq ((HW.out.1.drewN (q0 + q1)).set1 (q + 1))))) (by omega)
    cases b2 : J.is s q e (10 : Int).toNat
    rotate_left
    · obtain ⟨hlt, hg⟩ := hgo 10 (by decide) b2
      have HG := Lib.hid hg
      rw [b0] at i0
      rw [b1] at i1
      rw [b2] at i2
      clear hg hst hgo b0 b1 b2 i3
      go_wp2_with fail
      refine (i0 _ (by exact HW.out.1)).mono ?_
      rintro en w0 ⟨rfl, q0, rfl⟩
      go_wp2_with fail
      refine (i1 _ (by exact HW.out.1)).mono ?_
      rintro en w1 ⟨rfl, q1, rfl⟩
      go_wp2_with fail
      refine (i2 _ (by exact HW.out.1)).mono ?_
      rintro en w2 ⟨rfl, q2, rfl⟩
      go_wp2_with fail
      refine ⟨⟨q + 1, hlt, Lib.hid ⟨(((((HW.out.1.drewN q0).drewN q1).drewN q2)).set1 (q + 1)), ?_, HG.out ▸ HW.out.2.2⟩⟩, ?_⟩
      · exact grown_trans HW.out.2.1 (grown_trans (grownBy_drewN _ (q0 + q1 + q2) _) (grownBy_set _ _ _ _))
      · rw [place_eq HW.out.1]; exact Nat.lt_of_le_of_lt (Nat.le_of_eq (congrArg (s.size - ·) (place_eq ((HW.out.1.drewN (q0 + q1 + q2)).set1 (q + 1))))) (by omega)
    cases b3 : J.is s q e (13 : Int).toNat
    rotate_left
    · obtain ⟨hlt, hg⟩ := hgo 13 (by decide) b3
      have HG := Lib.hid hg
      rw [b0] at i0
      rw [b1] at i1
      rw [b2] at i2
      rw [b3] at i3
      clear hg hst hgo b0 b1 b2 b3
      go_wp2_with fail
      refine (i0 _ (by exact HW.out.1)).mono ?_
      rintro en w0 ⟨rfl, q0, rfl⟩
      go_wp2_with fail
      refine (i1 _ (by exact HW.out.1)).mono ?_
      rintro en w1 ⟨rfl, q1, rfl⟩
      go_wp2_with fail
      refine (i2 _ (by exact HW.out.1)).mono ?_
      rintro en w2 ⟨rfl, q2, rfl⟩
      go_wp2_with fail
      refine (i3 _ (by exact HW.out.1)).mono ?_
      rintro en w3 ⟨rfl, q3, rfl⟩
      go_wp2_with fail
      refine ⟨⟨q + 1, hlt, Lib.hid ⟨((((((HW.out.1.drewN q0).drewN q1).drewN q2).drewN q3)).set1 (q + 1)), ?_, HG.out ▸ HW.out.2.2⟩⟩, ?_⟩
      · exact grown_trans HW.out.2.1 (grown_trans (grownBy_drewN _ (q0 + q1 + q2 + q3) _) (grownBy_set _ _ _ _))
      · rw [place_eq HW.out.1]; exact Nat.lt_of_le_of_lt (Nat.le_of_eq (congrArg (s.size - ·) (place_eq ((HW.out.1.drewN (q0 + q1 + q2 + q3)).set1 (q + 1))))) (by omega)
    have HE := Lib.hid (hst b0 b1 b2 b3)
    rw [b0] at i0
    rw [b1] at i1
    rw [b2] at i2
    rw [b3] at i3
    clear hst hgo b0 b1 b2 b3
    go_wp2_with fail
    refine (i0 _ (by exact HW.out.1)).mono ?_
    rintro en w0 ⟨rfl, q0, rfl⟩
    go_wp2_with fail
    refine (i1 _ (by exact HW.out.1)).mono ?_
    rintro en w1 ⟨rfl, q1, rfl⟩
    go_wp2_with fail
    refine (i2 _ (by exact HW.out.1)).mono ?_
    rintro en w2 ⟨rfl, q2, rfl⟩
    go_wp2_with fail
    refine (i3 _ (by exact HW.out.1)).mono ?_
    rintro en w3 ⟨rfl, q3, rfl⟩
    go_wp2_with fail
    go_end0
    have hq' : J.bl s p e = q := HW.out.2.2.symm.trans HE.out
    rw [hq']
    exact ⟨⟨_, rfl⟩, ((((HW.out.1.drewN q0).drewN q1).drewN q2).drewN q3), grown_trans HW.out.2.1 (grownBy_drewN _ (q0 + q1 + q2 + q3) _)⟩
end Go.Proofs.YtbdpghmpdghnbaaDoor
