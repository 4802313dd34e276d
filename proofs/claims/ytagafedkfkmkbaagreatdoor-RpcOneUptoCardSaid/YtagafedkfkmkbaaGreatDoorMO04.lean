/- The library's functions that this seat's program holds are laid at its numbers, in plain words. Conditions: none. -/
import Derived.Test.YtagafedkfkmkbaaGreatDoorProg
import Derived.Shelf.Lays
import Derived.Shelf.LaysM
import Derived.Shelf.LaysC
import Derived.KernelRfl
import Derived.Test.YtagafedkfkmkbaaGreatDoorMO02
import Derived.Test.YtagafedkfkmkbaaGreatDoorMO03
import Derived.Shelf.Strconv.AtoiAll
import Derived.Lib.AtoiErrMem
import Derived.Test.YtagafedkfkmkbaaGreatDoorMO01
import Derived.Shelf.Small.Strs
import Derived.WalkKit
import Derived.WalkSpells
import Derived.WalkLawsBesides
import Derived.WalkSmall
import Derived.Lib.Hide
import Derived.ProofKit
import Derived.Deep.QuietTactic
import Derived.BigQuiet
import Derived.Laws.AppendOwn
import Derived.Outline
import Derived.Lib.ConvBytes
import Derived.Laws.Strings3
import Derived.BigCall
import Derived.BigGuard
namespace Go.Proofs
open Go.Shelf

def Tryz.laysAtoi_ren : Go.Shelf.Ren := ⟨fun | 129 => 266 | 171 => 146 | 172 => 71 | 205 => 236 | 243 => 213 | 244 => 141 | 245 => 142 | 246 => 237 | 247 => 207 | 279 => 208 | 280 => 209 | 281 => 210 | 282 => 211 | 283 => 250 | 284 => 251 | 285 => 252 | 286 => 253 | 287 => 235 | 316 => 226 | 317 => 265 | 318 => 267 | 319 => 268 | 320 => 269 | 321 => 248 | 322 => 249 | 337 => 280 | 338 => 281 | n => n, fun | 37 => 110 | 46 => 216 | 51 => 235 | 53 => 257 | 75 => 113 | 76 => 114 | 80 => 302 | 85 => 249 | 127 => 284 | 143 => 293 | 145 => 295 | 167 => 248 | 168 => 251 | 171 => 296 | 173 => 299 | 175 => 275 | 210 => 278 | 212 => 311 | 213 => 312 | 232 => 325 | 233 => 326 | n => n, fun | 15 => 2 | 16 => 3 | 17 => 4 | 18 => 6 | 19 => 7 | n => n⟩
theorem Tryz.laysAtoi : LaysC.n172 Tryz.prog Tryz.laysAtoi_ren := {
  mixed := by kernel_rfl,
  f129 := Tryz.func266.trans (congrArg some (by kernel_rfl)),
  f171 := Tryz.func146.trans (congrArg some (by kernel_rfl)),
  f172 := Tryz.func71.trans (congrArg some (by kernel_rfl)),
  f205 := Tryz.func236.trans (congrArg some (by kernel_rfl)),
  f243 := Tryz.func213.trans (congrArg some (by kernel_rfl)),
  f244 := Tryz.func141.trans (congrArg some (by kernel_rfl)),
  f245 := Tryz.func142.trans (congrArg some (by kernel_rfl)),
  f246 := Tryz.func237.trans (congrArg some (by kernel_rfl)),
  f247 := Tryz.func207.trans (congrArg some (by kernel_rfl)),
  f279 := Tryz.func208.trans (congrArg some (by kernel_rfl)),
  f280 := Tryz.func209.trans (congrArg some (by kernel_rfl)),
  f281 := Tryz.func210.trans (congrArg some (by kernel_rfl)),
  f282 := Tryz.func211.trans (congrArg some (by kernel_rfl)),
  f283 := Tryz.func250.trans (congrArg some (by kernel_rfl)),
  f284 := Tryz.func251.trans (congrArg some (by kernel_rfl)),
  f285 := Tryz.func252.trans (congrArg some (by kernel_rfl)),
  f286 := Tryz.func253.trans (congrArg some (by kernel_rfl)),
  f287 := Tryz.func235.trans (congrArg some (by kernel_rfl)),
  f316 := Tryz.func226.trans (congrArg some (by kernel_rfl)),
  f317 := Tryz.func265.trans (congrArg some (by kernel_rfl)),
  f318 := Tryz.func267.trans (congrArg some (by kernel_rfl)),
  f319 := Tryz.func268.trans (congrArg some (by kernel_rfl)),
  f320 := Tryz.func269.trans (congrArg some (by kernel_rfl)),
  f321 := Tryz.func248.trans (congrArg some (by kernel_rfl)),
  f322 := Tryz.func249.trans (congrArg some (by kernel_rfl)),
  f337 := Tryz.func280.trans (congrArg some (by kernel_rfl)),
  f338 := Tryz.func281.trans (congrArg some (by kernel_rfl)),
  t0 := Tryz.underlying0,
  a0 := Tryz.isAgg0,
  z0 := Tryz.sizeOf0,
  v0 := Tryz.zeroValue0,
  t2 := Tryz.underlying2,
  a2 := Tryz.isAgg2,
  z2 := Tryz.sizeOf2,
  v2 := Tryz.zeroValue2,
  t3 := Tryz.underlying3,
  a3 := Tryz.isAgg3,
  z3 := Tryz.sizeOf3,
  v3 := Tryz.zeroValue3,
  t4 := Tryz.underlying4,
  a4 := Tryz.isAgg4,
  z4 := Tryz.sizeOf4,
  v4 := Tryz.zeroValue4,
  t5 := Tryz.underlying5,
  a5 := Tryz.isAgg5,
  z5 := Tryz.sizeOf5,
  v5 := Tryz.zeroValue5,
  t9 := Tryz.underlying9,
  a9 := Tryz.isAgg9,
  z9 := Tryz.sizeOf9,
  v9 := Tryz.zeroValue9,
  t20 := Tryz.underlying20,
  a20 := Tryz.isAgg20,
  z20 := Tryz.sizeOf20,
  v20 := Tryz.zeroValue20,
  t21 := Tryz.underlying21,
  a21 := Tryz.isAgg21,
  z21 := Tryz.sizeOf21,
  v21 := Tryz.zeroValue21,
  t37 := Tryz.underlying110,
  a37 := Tryz.isAgg110,
  z37 := Tryz.sizeOf110,
  v37 := Tryz.zeroValue110,
  t46 := Tryz.underlying216,
  a46 := Tryz.isAgg216,
  z46 := Tryz.sizeOf216,
  v46 := Tryz.zeroValue216,
  t51 := Tryz.underlying235,
  a51 := Tryz.isAgg235,
  z51 := Tryz.sizeOf235,
  v51 := Tryz.zeroValue235,
  t53 := Tryz.underlying257,
  a53 := Tryz.isAgg257,
  z53 := Tryz.sizeOf257,
  v53 := Tryz.zeroValue257,
  t75 := Tryz.underlying113,
  a75 := Tryz.isAgg113,
  z75 := Tryz.sizeOf113,
  v75 := Tryz.zeroValue113,
  t76 := Tryz.underlying114,
  a76 := Tryz.isAgg114,
  z76 := Tryz.sizeOf114,
  v76 := Tryz.zeroValue114,
  t85 := Tryz.underlying249,
  a85 := Tryz.isAgg249,
  z85 := Tryz.sizeOf249,
  v85 := Tryz.zeroValue249,
  t127 := Tryz.underlying284,
  a127 := Tryz.isAgg284,
  z127 := Tryz.sizeOf284,
  v127 := Tryz.zeroValue284,
  t143 := Tryz.underlying293,
  a143 := Tryz.isAgg293,
  z143 := Tryz.sizeOf293,
  v143 := Tryz.zeroValue293,
  t145 := Tryz.underlying295,
  a145 := Tryz.isAgg295,
  z145 := Tryz.sizeOf295,
  v145 := Tryz.zeroValue295,
  t167 := Tryz.underlying248,
  a167 := Tryz.isAgg248,
  z167 := Tryz.sizeOf248,
  v167 := Tryz.zeroValue248,
  t168 := Tryz.underlying251,
  a168 := Tryz.isAgg251,
  z168 := Tryz.sizeOf251,
  v168 := Tryz.zeroValue251,
  t171 := Tryz.underlying296,
  a171 := Tryz.isAgg296,
  z171 := Tryz.sizeOf296,
  v171 := Tryz.zeroValue296,
  t173 := Tryz.underlying299,
  a173 := Tryz.isAgg299,
  z173 := Tryz.sizeOf299,
  v173 := Tryz.zeroValue299,
  t175 := Tryz.underlying275,
  a175 := Tryz.isAgg275,
  z175 := Tryz.sizeOf275,
  v175 := Tryz.zeroValue275,
  t210 := Tryz.underlying278,
  a210 := Tryz.isAgg278,
  z210 := Tryz.sizeOf278,
  v210 := Tryz.zeroValue278,
  t212 := Tryz.underlying311,
  a212 := Tryz.isAgg311,
  z212 := Tryz.sizeOf311,
  v212 := Tryz.zeroValue311,
  t213 := Tryz.underlying312,
  a213 := Tryz.isAgg312,
  z213 := Tryz.sizeOf312,
  t232 := Tryz.underlying325,
  a232 := Tryz.isAgg325,
  z232 := Tryz.sizeOf325,
  v232 := Tryz.zeroValue325,
  t233 := Tryz.underlying326,
  a233 := Tryz.isAgg326,
  z233 := Tryz.sizeOf326,
  v233 := Tryz.zeroValue326,
  g15 := by kernel_rfl,
  g16 := by kernel_rfl,
  g17 := by kernel_rfl,
  g18 := by kernel_rfl,
  g19 := by kernel_rfl,
  t80 := Tryz.underlying302,
  a80 := Tryz.isAgg302,
  z80 := Tryz.sizeOf302,
  v80 := Tryz.zeroValue302,
  i0 := by kernel_rfl,
  i2 := by kernel_rfl,
  i3 := by kernel_rfl,
  i4 := by kernel_rfl,
  i5 := by kernel_rfl,
  i9 := by kernel_rfl,
  i20 := by kernel_rfl,
  i21 := by kernel_rfl,
  i37 := by kernel_rfl,
  i46 := by kernel_rfl,
  i51 := by kernel_rfl,
  i53 := by kernel_rfl,
  i75 := by kernel_rfl,
  i76 := by kernel_rfl,
  i80 := by kernel_rfl,
  i85 := by kernel_rfl,
  i127 := by kernel_rfl,
  i143 := by kernel_rfl,
  i145 := by kernel_rfl,
  i167 := by kernel_rfl,
  i168 := by kernel_rfl,
  i171 := by kernel_rfl,
  i173 := by kernel_rfl,
  i175 := by kernel_rfl,
  i210 := by kernel_rfl,
  i212 := by kernel_rfl,
  i232 := by kernel_rfl,
  i233 := by kernel_rfl,
  m15 := by kernel_rfl,
  m16 := by kernel_rfl,
  m17 := by kernel_rfl,
  m18 := by kernel_rfl,
  m19 := by kernel_rfl,
  c0 := by kernel_rfl,
  c2 := by kernel_rfl,
  c3 := by kernel_rfl,
  c4 := by kernel_rfl,
  c5 := by kernel_rfl,
  c9 := by kernel_rfl,
  c20 := by kernel_rfl,
  c21 := by kernel_rfl,
  c37 := by kernel_rfl,
  c46 := by kernel_rfl,
  c51 := by kernel_rfl,
  c53 := by kernel_rfl,
  c75 := by kernel_rfl,
  c76 := by kernel_rfl,
  c80 := by kernel_rfl,
  c85 := by kernel_rfl,
  c127 := by kernel_rfl,
  c143 := by kernel_rfl,
  c145 := by kernel_rfl,
  c167 := by kernel_rfl,
  c168 := by kernel_rfl,
  c171 := by kernel_rfl,
  c173 := by kernel_rfl,
  c175 := by kernel_rfl,
  c210 := by kernel_rfl,
  c212 := by kernel_rfl,
  c213 := by kernel_rfl,
  c232 := by kernel_rfl,
  c233 := by kernel_rfl }
end Go.Proofs

namespace Go.Proofs
open Go Go.RowKit Go.Shelf Go.Lib

namespace YtagafedkfkmkbaaGreatDoor
def IntR (r : Int × Bool) (w : World) (e : Ending) (w' : World) : Prop := e = .returned (.tuple #[.int .i64 r.1, .bool r.2]) ∧ Below w.heap.size w w'
set_option maxHeartbeats 1000000 in
set_option maxRecDepth 100000 in
theorem int_kind (k : Nat) (x : ByteArray) (va ua : Value) (w : World) (hk : ¬ k = 3) : Calls Tryz.prog 14 #[.agg #[.int .u8 k, .string x, va, ua]] w (IntR (0, false) w) := by
  have t1 : ((k : Int) != 3) = true := by simp; omega
  have hB := (Below.refl w.heap.size w).alloc (Nat.le_refl _) (.cells #[.int .u8 k, .string x, va, ua] 25)
  clear hk
  go_enter Tryz.func14, Tryz.ntmps14
  go_wp2_with fail
  go_ret2
  exact ⟨rfl, hB⟩
set_option maxHeartbeats 1000000 in
set_option maxRecDepth 100000 in
theorem int_text (x : ByteArray) (va ua : Value) (w : World) (hx : x.size ≤ 140737488355328) (h : bothS (ciS x) = false) : Calls Tryz.prog 14 #[.agg #[.int .u8 3, .string x, va, ua]] w (IntR (0, false) w) := by
  have hB := Lib.hid ((Below.refl w.heap.size w).alloc (Nat.le_refl _) (.cells #[.int .u8 3, .string x, va, ua] 25))
  have hI := fun W => isInteger_any x W hx
  rw [h] at hI
  unfold BoolB at hI
  clear h
  go_enter Tryz.func14, Tryz.ntmps14
  go_wp2_with fail
  refine (hI _).mono ?_
  rintro e w1 ⟨rfl, hB1⟩
  have H1 := Lib.hid (hB.out.trans (hB1.mono hB.out.size))
  clear hB1 hI
  go_wp2_with fail
  go_ret2
  exact ⟨rfl, H1.out⟩
set_option maxHeartbeats 1000000 in
set_option maxRecDepth 100000 in
theorem int_some (x : ByteArray) (va ua : Value) (v : Int) (w : World) (hx : x.size ≤ 140737488355328) (h : bothS (ciS x) = true) (hv : Lib.atoiAll x.data.toList = .ok v) : Calls Tryz.prog 14 #[.agg #[.int .u8 3, .string x, va, ua]] w (IntR (v, true) w) := by
  have hB := Lib.hid ((Below.refl w.heap.size w).alloc (Nat.le_refl _) (.cells #[.int .u8 3, .string x, va, ua] 25))
  have hbk : Blk4 (w.alloc (.cells #[.int .u8 3, .string x, va, ua] 25)) w.heap.size 25 (.int .u8 3) (.string x) va ua := heap_alloc_new _ _
  have HBK := Lib.hid hbk
  have hI := fun W => isInteger_any x W hx
  rw [h] at hI
  unfold BoolB at hI
  have hA := fun W => Any.strconv_Atoi_ok Tryz.laysAtoi x (by omega) v hv W
  have HA := Lib.hid hA
  clear h hv hbk hA
  go_enter Tryz.func14, Tryz.ntmps14
  go_wp2_with fail
  refine (hI _).mono ?_
  rintro e w1 ⟨rfl, hB1⟩
  have H1 := Lib.hid (hB.out.trans (hB1.mono hB.out.size))
  have b1 := HBK.out.same (hB1.block _ HBK.out.lt)
  obtain ⟨d0, d1, d2, d3⟩ := b1.box
  clear hB1 hI b1
  go_wp2_with fail
  refine (HA.out _).mono ?_
  rintro e w2 ⟨rfl, hw2⟩
  have hB2 : Below w1.heap.size w1 w2 := by
    rcases hw2 with rfl | ⟨t, rfl⟩
    · exact Below.refl _ _
    · exact Lib.bytesWorld_below _ _ _
  have H2 := Lib.hid (H1.out.trans (hB2.mono H1.out.size))
  clear hB2 hw2 d0 d1 d2 d3
  go_wp2_with fail
  go_ret2
  exact ⟨rfl, H2.out⟩
end YtagafedkfkmkbaaGreatDoor
end Go.Proofs

namespace Go.Proofs.YtagafedkfkmkbaaGreatDoor
open Go Go.RowKit Go.Lib

/-- the reader's block: the string, the place, how many lists and objects are open -/
def Rd (s : ByteArray) (p d : Nat) (B : Nat) (W : World) : Prop := W.heap[B]? = some (.cells #[.string s, .int .i64 p, .int .i64 d] 263 (0, 0))
theorem Rd.lt {s : ByteArray} {p d B : Nat} {W : World} (h : Rd s p d B W) : B < W.heap.size := (Array.getElem?_eq_some_iff.1 h).1
theorem Rd.c0 {s : ByteArray} {p d B : Nat} {W : World} (h : Rd s p d B W) : W.cell? ⟨B, 0, none⟩ = some (.string s) := by simp [World.cell?, show W.heap[B]? = _ from h]
theorem Rd.c1 {s : ByteArray} {p d B : Nat} {W : World} (h : Rd s p d B W) : W.cell? ⟨B, 1, none⟩ = some (.int .i64 p) := by simp [World.cell?, show W.heap[B]? = _ from h]
theorem Rd.c2 {s : ByteArray} {p d B : Nat} {W : World} (h : Rd s p d B W) : W.cell? ⟨B, 2, none⟩ = some (.int .i64 d) := by simp [World.cell?, show W.heap[B]? = _ from h]
theorem Rd.f1 {s : ByteArray} {p d B : Nat} {W : World} (h : Rd s p d B W) : W.frozen? ⟨B, 1, none⟩ = false := by simp [World.frozen?, show W.heap[B]? = _ from h]
theorem Rd.f2 {s : ByteArray} {p d B : Nat} {W : World} (h : Rd s p d B W) : W.frozen? ⟨B, 2, none⟩ = false := by simp [World.frozen?, show W.heap[B]? = _ from h]
theorem Rd.drewN {s : ByteArray} {p d B : Nat} {W : World} (h : Rd s p d B W) (q : Nat) : Rd s p d B (W.drewN q) := h
theorem Rd.set1 {s : ByteArray} {p d B : Nat} {W : World} (h : Rd s p d B W) (x : Nat) : Rd s x d B (W.setCell ⟨B, 1, none⟩ (.int .i64 x)) := by
  obtain ⟨hlt, hk⟩ := Array.getElem?_eq_some_iff.1 h
  show (W.heap.modify B _)[B]? = _
  rw [Array.getElem?_eq_getElem (by rw [Array.size_modify]; exact hlt), Array.getElem_modify_self, hk]
  rfl
theorem Rd.set2 {s : ByteArray} {p d B : Nat} {W : World} (h : Rd s p d B W) (x : Nat) : Rd s p x B (W.setCell ⟨B, 2, none⟩ (.int .i64 x)) := by
  obtain ⟨hlt, hk⟩ := Array.getElem?_eq_some_iff.1 h
  show (W.heap.modify B _)[B]? = _
  rw [Array.getElem?_eq_getElem (by rw [Array.size_modify]; exact hlt), Array.getElem_modify_self, hk]
  rfl
theorem Rd.same {s : ByteArray} {p d B : Nat} {W W' : World} (h : Rd s p d B W) (hk : W'.heap[B]? = W.heap[B]?) : Rd s p d B W' := hk.trans h
theorem Rd.below {s : ByteArray} {p d B : Nat} {W W' : World} (h : Rd s p d B W) (hB : Below W.heap.size W W') : Rd s p d B W' := h.same (hB.block _ h.lt)
theorem Rd.alloc {s : ByteArray} {p d B : Nat} {W : World} (h : Rd s p d B W) (o : Obj) : Rd s p d B (W.alloc o) := h.below ((Below.refl _ _).alloc (Nat.le_refl _) o)
theorem grow_drewN (w : World) (q : Nat) (row : Option Nat) : w.grownBy (w.drewN q) row := ⟨rfl, rfl, rfl, Nat.le_refl _, fun _ _ _ => rfl⟩
theorem grow_set (W : World) (b o : Nat) (v : Value) : W.grownBy (W.setCell ⟨b, o, none⟩ v) (some b) := ⟨rfl, rfl, rfl, by simp, fun k _ hk => Below.heap_setCell W ⟨b, o, none⟩ v k (fun e => hk (by simp [e]))⟩
theorem grow_trans {a b c : World} {row : Option Nat} (h : a.grownBy b row) (k : b.grownBy c row) : a.grownBy c row :=
  ⟨k.os.trans h.os, k.tape.trans h.tape, k.output.trans h.output, Nat.le_trans h.size k.size, fun i hi hne => (k.block i (Nat.lt_of_lt_of_le hi h.size) hne).trans (h.block i hi hne)⟩
theorem grow_below {w w' : World} (h : Below w.heap.size w w') (row : Option Nat) : w.grownBy w' row := ⟨h.os, h.tape, h.output, h.size, fun k hk _ => h.block k hk⟩
theorem below_grow {w w' : World} {B C : Nat} (h : w.grownBy w' (some B)) (hC : C ≤ B) (hs : C ≤ w.heap.size) : Below C w w' := ⟨h.os, h.tape, h.output, h.size, fun k hk => h.block k (by omega) (fun e => by cases e; omega)⟩

def Quiet (v : Value) (w : World) (en : Ending) (w' : World) : Prop := en = .returned v ∧ ∃ q, w' = w.drewN q
/-- it is back, and the reader stands there -/
def Back (v : Value) (s : ByteArray) (p d B : Nat) (w : World) (en : Ending) (w' : World) : Prop := en = .returned v ∧ Rd s p d B w' ∧ w.grownBy w' (some B)
/-- an error was raised, and the reader stands there -/
def Died (e : Int) (s : ByteArray) (p B : Nat) (w : World) (en : Ending) (w' : World) : Prop :=
  en = .panicked [{ v := .iface 28 (.int .i64 e), recovered := false }] ∧ (∃ d, Rd s p d B w') ∧ w.grownBy w' (some B)

set_option maxRecDepth 100000 in
set_option maxHeartbeats 400000 in
theorem peek_any (s : ByteArray) (p d B : Nat) (w : World) (_hs : s.size ≤ 1000000000000) (hp : p ≤ s.size) (h : Rd s p d B w) :
    Calls Tryz.prog 255 #[.pointer (some ⟨B, 0, none⟩)] w (Quiet (.int .u8 (J.pk s p : Nat)) w) := by
  have c0 := h.c0
  have c1 := h.c1
  clear h
  by_cases hlt : p < s.size
  · have e1 : ((p : Int) == (s.size : Int)) = false := by simp; omega
    have HP := Lib.hid (show J.pk s p = s[p].toNat by unfold J.pk; rw [if_pos hlt, J.at_byte hlt])
    go_enter Tryz.func255, Tryz.ntmps255
    go_wp2_with fail
    go_quiet (fail)
    obtain ⟨nq_0, hq0⟩ : ∃ nq_0, nq_0 = nq := ⟨_, rfl⟩
    subst hq0
    go_wp2_with fail
    go_quiet (fail)
    go_wp2_with fail
    go_ret
    rw [HP.out]
    exact ⟨rfl, nq_0 + nq, by simp [World.drewN, Nat.add_assoc]⟩
  · obtain rfl : p = s.size := by omega
    have HP := Lib.hid (show J.pk s s.size = 0 by unfold J.pk; rw [if_neg hlt])
    clear hlt hp
    go_enter Tryz.func255, Tryz.ntmps255
    go_wp2_with fail
    go_quiet (fail)
    go_wp2_with fail
    go_ret
    rw [HP.out]
    exact ⟨rfl, _, rfl⟩

set_option maxRecDepth 100000 in
set_option maxHeartbeats 400000 in
theorem skip_no (s x : ByteArray) (p d B : Nat) (w : World) (hs : s.size ≤ 1000000000000) (hp : p ≤ s.size) (h : Rd s p d B w) (hb : J.sk s x p = false) :
    Calls Tryz.prog 254 #[.pointer (some ⟨B, 0, none⟩), .string x] w (Back (.bool false) s p d B w) := by
  have hk := peek_any s p d B w hs hp h
  have hi := fun W => Any.strings_IndexByte Tryz.laysIndexByte x (J.pk s p : Nat) W
  have he := J.am_index x (J.pk s p) (J.pk_lt s p)
  have c1 := h.c1
  have f1 := h.f1
  generalize Lib.indexByte x.data.toList (((J.pk s p : Nat) : Int).toNat.toUInt8) = z at *
  have e1 : decide (z < 0) = true := by rw [he, show J.am x (J.pk s p) = false from hb]; rfl
  clear he hb
  generalize J.pk s p = c at *
  go_enter Tryz.func254, Tryz.ntmps254
  go_wp2_with fail
  refine hk.mono ?_
  rintro en w' ⟨rfl, q, rfl⟩
  go_wp2_with fail
  refine (hi _).mono ?_
  rintro en w' ⟨rfl, rfl⟩
  go_wp2_with fail
  go_ret
  exact ⟨rfl, h, grow_drewN _ _ _⟩

set_option maxRecDepth 100000 in
set_option maxHeartbeats 400000 in
theorem skip_yes (s x : ByteArray) (p d B : Nat) (w : World) (hs : s.size ≤ 1000000000000) (hp : p ≤ s.size) (h : Rd s p d B w) (hb : J.sk s x p = true) :
    Calls Tryz.prog 254 #[.pointer (some ⟨B, 0, none⟩), .string x] w (Back (.bool true) s (p + 1) d B w) := by
  have hk := peek_any s p d B w hs hp h
  have hi := fun W => Any.strings_IndexByte Tryz.laysIndexByte x (J.pk s p : Nat) W
  have he := J.am_index x (J.pk s p) (J.pk_lt s p)
  have c1 := h.c1
  have f1 := h.f1
  generalize Lib.indexByte x.data.toList (((J.pk s p : Nat) : Int).toNat.toUInt8) = z at *
  have e1 : decide (z < 0) = false := by rw [he, show J.am x (J.pk s p) = true from hb]; rfl
  clear he hb
  generalize J.pk s p = c at *
  go_enter Tryz.func254, Tryz.ntmps254
  go_wp2_with fail
  refine hk.mono ?_
  rintro en w' ⟨rfl, q, rfl⟩
  go_wp2_with fail
  refine (hi _).mono ?_
  rintro en w' ⟨rfl, rfl⟩
  go_wp2_with fail
  go_ret
  exact ⟨rfl, (h.drewN q).set1 (p + 1), grow_trans (grow_drewN _ _ _) (grow_set _ _ _ _)⟩

set_option maxRecDepth 100000 in
set_option maxHeartbeats 400000 in
theorem take_yes (s x : ByteArray) (p d B : Nat) (w : World) (hs : s.size ≤ 1000000000000) (hp : p ≤ s.size) (h : Rd s p d B w) (hb : J.sk s x p = true) :
    Calls Tryz.prog 270 #[.pointer (some ⟨B, 0, none⟩), .string x] w (Back (.int .u8 (J.pk s p : Nat)) s (p + 1) d B w) := by
  have hk := peek_any s p d B w hs hp h
  have hi := fun q => skip_yes s x p d B (w.drewN q) hs hp (h.drewN q) hb
  clear hb
  generalize J.pk s p = c at *
  go_enter Tryz.func270, Tryz.ntmps270
  go_wp2_with fail
  refine hk.mono ?_
  rintro en w' ⟨rfl, q, rfl⟩
  go_wp2_with fail
  refine (hi q).mono ?_
  rintro en w' ⟨rfl, h2, g2⟩
  go_wp2_with fail
  go_ret
  exact ⟨rfl, h2, grow_trans (grow_drewN _ _ _) g2⟩

set_option maxRecDepth 100000 in
set_option maxHeartbeats 400000 in
theorem take_no (s x : ByteArray) (p d B : Nat) (w : World) (hs : s.size ≤ 1000000000000) (hp : p ≤ s.size) (h : Rd s p d B w) (hb : J.sk s x p = false) :
    Calls Tryz.prog 270 #[.pointer (some ⟨B, 0, none⟩), .string x] w (Died 30 s p B w) := by
  have hk := peek_any s p d B w hs hp h
  have hi := fun q => skip_no s x p d B (w.drewN q) hs hp (h.drewN q) hb
  clear hb
  generalize J.pk s p = c at *
  go_enter Tryz.func270, Tryz.ntmps270
  go_wp2_with fail
  refine hk.mono ?_
  rintro en w' ⟨rfl, q, rfl⟩
  go_wp2_with fail
  refine (hi q).mono ?_
  rintro en w' ⟨rfl, h2, g2⟩
  have HF := Lib.hid (show Died 30 s p B w (.panicked [{ v := .iface 28 (.int .i64 30), recovered := false }]) w' from ⟨rfl, ⟨_, h2⟩, grow_trans (grow_drewN _ _ _) g2⟩)
  clear h2 g2
  go_wp2_with fail
  exact ⟨rfl, HF.out⟩
end Go.Proofs.YtagafedkfkmkbaaGreatDoor

namespace Go.Proofs.YtagafedkfkmkbaaGreatDoor
open Go Go.RowKit Go.Lib

/-- the number of the first k digits -/
def hn (t : ByteArray) : Nat → Nat
  | 0 => 0
  | k + 1 => hn t k * 16 + (J.hv (t.get! k).toNat).toNat
theorem hn_lt (t : ByteArray) : ∀ k, hn t k < 16 ^ k
  | 0 => Nat.lt_succ_self 0
  | k + 1 => by
    have h1 := hn_lt t k
    have h2 := J.hv_lt (t.get! k).toNat
    show hn t k * 16 + _ < 16 ^ k * 16
    omega
theorem lower_lo (c : Nat) (h1 : 97 ≤ c) (h2 : c ≤ 102) (w : World) : Calls Tryz.prog 248 #[.int .u8 c] w fun e w' => e = .returned (.int .u8 c) ∧ w' = w := by
  have : c = 97 ∨ c = 98 ∨ c = 99 ∨ c = 100 ∨ c = 101 ∨ c = 102 := by omega
  rcases this with rfl | rfl | rfl | rfl | rfl | rfl
  all_goals
    go_enter Tryz.func248, Tryz.ntmps248
    go_wp2
    go_ret
    exact ⟨rfl, rfl⟩
theorem lower_up (c : Nat) (h1 : 65 ≤ c) (h2 : c ≤ 70) (w : World) : Calls Tryz.prog 248 #[.int .u8 c] w fun e w' => e = .returned (.int .u8 ((c + 32 : Nat) : Int)) ∧ w' = w := by
  have : c = 65 ∨ c = 66 ∨ c = 67 ∨ c = 68 ∨ c = 69 ∨ c = 70 := by omega
  rcases this with rfl | rfl | rfl | rfl | rfl | rfl
  all_goals
    go_enter Tryz.func248, Tryz.ntmps248
    go_wp2
    go_ret
    exact ⟨rfl, rfl⟩

/-- a hexadecimal digit's three kinds -/
theorem hv_kinds {c : Nat} (h : 0 ≤ J.hv c) : (48 ≤ c ∧ c ≤ 57 ∧ J.hv c = (c : Int) - 48) ∨ (97 ≤ c ∧ c ≤ 102 ∧ J.hv c = (c : Int) - 87) ∨ (65 ≤ c ∧ c ≤ 70 ∧ J.hv c = (c : Int) - 55) := by
  unfold J.hv at *
  split at h <;> (try split at h) <;> (try split at h) <;> (try omega) <;> simp_all

set_option maxHeartbeats 4000000 in
set_option maxRecDepth 100000 in
/-- internal/strconv.ParseUint of four hexadecimal digits -/
theorem parse16_any (t : ByteArray) (h4 : t.size = 4) (hd : ∀ i, i < 4 → 0 ≤ J.hv (t.get! i).toNat) (w : World) :
    Calls Tryz.prog 235 #[.string t, .int .i64 16, .int .i64 16] w fun e w' => e = .returned (.tuple #[.int .u64 ((hn t 4 : Nat) : Int), .nilIface]) ∧ w' = Lib.bytesWorld w 5 t := by
  have hemp : t.toList.isEmpty = false := by
    rw [← decide_eq_emptyBytes]
    exact decide_eq_false (fun h => by rw [h] at h4; exact absurd h4 (by decide))
  have hcv := Lib.run_convert_string_bytes (P := Tryz.prog) w 9 110 5 t (u := .string) (by kernel_rfl) (by kernel_rfl) (by kernel_rfl)
  have hB : ∀ j, j < t.size → (Lib.bytesWorld w 5 t).cell? ⟨w.heap.size, j, none⟩ = some (.int .u8 (t.data.toList.getD j 0).toNat) := fun j hj => Lib.bytesWorld_cell w 5 t j hj
  have hG : ∀ j, j < t.size → t.data.toList.getD j 0 = t.get! j := by
    intro j hj
    rw [J.at_get hj]
    simp [List.getD, hj]
    rfl
  obtain ⟨W1, hW1⟩ : ∃ W1, W1 = Lib.bytesWorld w 5 t := ⟨_, rfl⟩
  rw [← hW1] at hcv hB ⊢
  clear hW1
  have hmv : IntKind.u64.wrap (IntKind.u64.wrap 65536 - 1) = 65535 := by
    rw [IntKind.wrap_u64, IntKind.wrap_u64]
    decide
  go_enter Tryz.func235, Tryz.ntmps235
  go_wp2
  go_loop [12, 13, 101] (fun vu vn vi => ∃ (k : Nat) (a : Int), vu = .bool false ∧ vn = .int .u64 a ∧ vi = .int .i64 k ∧ k ≤ t.size ∧ Hid (a = ((hn t k : Nat) : Int)))
    (fun _ _ vi => t.size - (RowKit.intOf vi).toNat)
  case atStart => exact ⟨0, 0, rfl, rfl, rfl, by omega, Lib.hid rfl⟩
  case round =>
    obtain ⟨k, a, rfl, rfl, rfl, hk, hh⟩ := hrel
    by_cases hkn : k < t.size
    · have hc := hB k hkn
      rw [hG k hkn] at hc
      have hv := hd k (by omega)
      have hlt := hn_lt t k
      have hlt2 : hn t k < 4096 := by
        have : k = 0 ∨ k = 1 ∨ k = 2 ∨ k = 3 := by omega
        rcases this with rfl | rfl | rfl | rfl <;> exact Nat.lt_of_lt_of_le hlt (by decide)
      have hstep : hn t (k + 1) = hn t k * 16 + (J.hv (t.get! k).toNat).toNat := rfl
      have ha := hh.out
      have a0 : 0 ≤ a := by omega
      have a1 : a < 4096 := by omega
      generalize (t.get! k).toNat = c at *
      clear hB hG hlt
      rcases hv_kinds hv with ⟨c0, c1, c2⟩ | ⟨c0, c1, c2⟩ | ⟨c0, c1, c2⟩
      · have HN : Hid (a * 16 + ((c : Int) - 48) = ((hn t (k + 1) : Nat) : Int)) := Lib.hid (by omega)
        clear hstep hlt2 c2 ha
        go_wp2
        refine ⟨⟨k + 1, a * 16 + ((c : Int) - 48), rfl, (by first | rfl | (congr 1; omega)), (by first | rfl | (congr 1; omega)), by omega, HN⟩, by simp [RowKit.intOf]; omega⟩
      · have HN : Hid (a * 16 + ((c : Int) - 87) = ((hn t (k + 1) : Nat) : Int)) := Lib.hid (by omega)
        clear hstep hlt2 c2 ha
        go_wp2_with fail
        refine (lower_lo c c0 c1 _).mono ?_
        rintro en w2 ⟨rfl, rfl⟩
        go_wp2_with fail
        refine (lower_lo c c0 c1 _).mono ?_
        rintro en w2 ⟨rfl, rfl⟩
        go_wp2_with fail
        refine (lower_lo c c0 c1 _).mono ?_
        rintro en w2 ⟨rfl, rfl⟩
        go_wp2_with fail
        refine ⟨⟨k + 1, a * 16 + ((c : Int) - 87), rfl, (by first | rfl | (congr 1; omega)), (by first | rfl | (congr 1; omega)), by omega, HN⟩, by simp [RowKit.intOf]; omega⟩
      · have HN : Hid (a * 16 + ((c : Int) - 55) = ((hn t (k + 1) : Nat) : Int)) := Lib.hid (by omega)
        clear hstep hlt2 c2 ha
        go_wp2_with fail
        refine (lower_up c c0 c1 _).mono ?_
        rintro en w2 ⟨rfl, rfl⟩
        go_wp2_with fail
        refine (lower_up c c0 c1 _).mono ?_
        rintro en w2 ⟨rfl, rfl⟩
        go_wp2_with fail
        refine (lower_up c c0 c1 _).mono ?_
        rintro en w2 ⟨rfl, rfl⟩
        go_wp2_with fail
        refine ⟨⟨k + 1, a * 16 + ((c : Int) - 55), rfl, (by first | rfl | (congr 1; omega)), (by first | rfl | (congr 1; omega)), by omega, HN⟩, by simp [RowKit.intOf]; omega⟩
    · have hkk : k = 4 := by omega
      subst hkk
      have ha := hh.out
      subst ha
      go_wp2
      go_ret2
      exact ⟨rfl, rfl⟩
end Go.Proofs.YtagafedkfkmkbaaGreatDoor
