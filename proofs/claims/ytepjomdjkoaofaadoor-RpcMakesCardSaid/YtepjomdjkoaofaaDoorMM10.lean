/- Are two values greater than what is gone through? Conditions: none. -/
import Derived.Test.YtepjomdjkoaofaaDoorMM08
import Derived.Test.YtepjomdjkoaofaaDoorMM09
import Derived.Test.YtepjomdjkoaofaaDoorProg
import Derived.Shelf.Lays
import Derived.Shelf.LaysM
import Derived.KernelRfl
import Derived.Test.YtepjomdjkoaofaaDoorMM06
import Derived.Test.YtepjomdjkoaofaaDoorMM04
import Derived.Shelf.Strconv.Clone
namespace Go.Proofs.YtepjomdjkoaofaaDoor
open Go Go.RowKit Go.Lib

/-- two values, one behind the other -/
structure Two8 (b k : Nat) (x : ByteArray) (v u : Value) (k2 : Nat) (x2 : ByteArray) (v2 u2 : Value) (W : World) : Prop where
  lt : b < W.heap.size
  c : W.cell? ⟨b, 0, none⟩ = some (.int .u8 k) ∧ W.cell? ⟨b, 1, none⟩ = some (.string x) ∧ W.cell? ⟨b, 2, none⟩ = some v ∧ W.cell? ⟨b, 3, none⟩ = some u
  d : W.cell? ⟨b, 4, none⟩ = some (.int .u8 k2) ∧ W.cell? ⟨b, 5, none⟩ = some (.string x2) ∧ W.cell? ⟨b, 6, none⟩ = some v2 ∧ W.cell? ⟨b, 7, none⟩ = some u2
theorem Two8.on {b k : Nat} {x : ByteArray} {v u : Value} {k2 : Nat} {x2 : ByteArray} {v2 u2 : Value} {W W' : World} (h : Two8 b k x v u k2 x2 v2 u2 W) (hB : Below W.heap.size W W') : Two8 b k x v u k2 x2 v2 u2 W' := by
  have hc : ∀ j y, W.cell? ⟨b, j, none⟩ = some y → W'.cell? ⟨b, j, none⟩ = some y := fun j y hy => (hB.cell (p := ⟨b, j, none⟩) h.lt).trans hy
  obtain ⟨h1, ⟨c0, c1, c2, c3⟩, d0, d1, d2, d3⟩ := h
  exact ⟨Nat.lt_of_lt_of_le h1 hB.size, ⟨hc _ _ c0, hc _ _ c1, hc _ _ c2, hc _ _ c3⟩, hc _ _ d0, hc _ _ d1, hc _ _ d2, hc _ _ d3⟩
def GreatIs (n1 n2 : Nat) (w : World) (e : Ending) (w' : World) : Prop := ∃ r : Bool, e = .returned (.bool r) ∧ (r = false → n1 + 1 ≤ 1000 ∧ n2 + 1 ≤ 1000) ∧ Below w.heap.size w w'

set_option maxHeartbeats 1000000 in
set_option maxRecDepth 100000 in
theorem great6_any (b c k : Nat) (x : ByteArray) (v u : Value) (l f : V.T) (k2 : Nat) (x2 : ByteArray) (v2 u2 : Value) (l2 f2 : V.T) (A A2 : Nat → Prop) (w : World) (hc : 2 ≤ c ∧ c ≤ 9223372036854775807) (h8 : Two8 b k x v u k2 x2 v2 u2 w) (hl : HS w A 0 v l) (hf : HS w A 1 u f) (hl2 : HS w A2 0 v2 l2) (hf2 : HS w A2 1 u2 f2) :
    Calls Tryd.prog 9 #[.slice (some ⟨b, 0, none⟩) 2 c] w (GreatIs (l.size + f.size) (l2.size + f2.size) w) := by
  have HS1 := Lib.hid (fun W (h : Below w.heap.size w W) => smallG_any k x v u l f A 1000 120 W (by decide) (by decide) (hl.below h) (hf.below h))
  have HS2 := Lib.hid (fun W (h : Below w.heap.size w W) => smallG_any k2 x2 v2 u2 l2 f2 A2 1000 120 W (by decide) (by decide) (hl2.below h) (hf2.below h))
  obtain ⟨p, e1, rfl, -⟩ := hl.len
  obtain ⟨q, e2, rfl, -⟩ := hf.len
  obtain ⟨p', e3, rfl, -⟩ := hl2.len
  obtain ⟨q', e4, rfl, -⟩ := hf2.len
  have H0 := Lib.hid h8
  clear h8
  go_enter Tryd.func9, Tryd.ntmps9
  go_wp2_with fail
  go_loopw [3] (fun y wr => ∃ i : Nat, y = .int .i64 i ∧ i ≤ 2 ∧ Hid (Below w.heap.size w wr ∧ Two8 b k x (.slice p l.len e1) (.slice q f.len e2) k2 x2 (.slice p' l2.len e3) (.slice q' f2.len e4) wr ∧ (1 ≤ i → l.size + f.size + 1 ≤ 1000) ∧ (2 ≤ i → l2.size + f2.size + 1 ≤ 1000))) (fun y _ => 2 - (RowKit.intOf y).toNat)
  case atStart => exact ⟨0, rfl, by decide, Lib.hid ⟨Below.refl _ _, H0.out, fun h => by omega, fun h => by omega⟩⟩
  case round =>
    obtain ⟨i, rfl, hi, HR⟩ := hrel
    obtain rfl | rfl | rfl : i = 0 ∨ i = 1 ∨ i = 2 := by omega
    · obtain ⟨g0, g1, g2, g3⟩ := HR.out.2.1.c
      have HQ := Lib.hid HR.out
      clear HR
      go_wp2_with fail
      refine (HS1.out _ HQ.out.1).mono ?_
      rintro e w1 ⟨ok, rfl, hok, hB1⟩
      have H1 := Lib.hid (And.intro (HQ.out.1.trans (hB1.mono HQ.out.1.size)) (HQ.out.2.1.on hB1))
      have HO := Lib.hid hok
      clear hB1 hok g0 g1 g2 g3
      cases ok
      case false =>
        go_wp2_with fail
        go_ret
        exact ⟨true, rfl, (fun h => by cases h), H1.out.1⟩
      case true =>
        go_wp2_with fail
        go_roundw
        case rel => exact ⟨1, rfl, by decide, Lib.hid ⟨H1.out.1, H1.out.2, (fun _ => HO.out (by simp)), (fun h => by omega)⟩⟩
        case measure => simp [RowKit.intOf]
    · obtain ⟨g0, g1, g2, g3⟩ := HR.out.2.1.d
      have HQ := Lib.hid HR.out
      clear HR
      go_wp2_with fail
      refine (HS2.out _ HQ.out.1).mono ?_
      rintro e w1 ⟨ok, rfl, hok, hB1⟩
      have H1 := Lib.hid (And.intro (HQ.out.1.trans (hB1.mono HQ.out.1.size)) (HQ.out.2.1.on hB1))
      have HO := Lib.hid hok
      clear hB1 hok g0 g1 g2 g3
      cases ok
      case false =>
        go_wp2_with fail
        go_ret
        exact ⟨true, rfl, (fun h => by cases h), H1.out.1⟩
      case true =>
        go_wp2_with fail
        go_roundw
        case rel => exact ⟨2, rfl, by decide, Lib.hid ⟨H1.out.1, H1.out.2, (fun _ => HQ.out.2.2.1 (by decide)), (fun _ => HO.out (by simp))⟩⟩
        case measure => simp [RowKit.intOf]
    · have HQ := Lib.hid HR.out
      clear HR
      go_wp2_with fail
      go_ret
      exact ⟨false, rfl, fun _ => ⟨HQ.out.2.2.1 (by decide), HQ.out.2.2.2 (by decide)⟩, HQ.out.1⟩
end Go.Proofs.YtepjomdjkoaofaaDoor

namespace Go.Proofs
open Go.Shelf

def Tryd.laysClone_ren : Go.Shelf.Ren := ⟨fun | 316 => 81 | n => n, fun | 37 => 87 | 127 => 106 | n => n, fun | n => n⟩
theorem Tryd.laysClone : LaysM.n316 Tryd.prog Tryd.laysClone_ren := {
  mixed := by kernel_rfl,
  f316 := Tryd.func81.trans (congrArg some (by kernel_rfl)),
  t0 := Tryd.underlying0,
  a0 := Tryd.isAgg0,
  z0 := Tryd.sizeOf0,
  v0 := Tryd.zeroValue0,
  t3 := Tryd.underlying3,
  a3 := Tryd.isAgg3,
  z3 := Tryd.sizeOf3,
  v3 := Tryd.zeroValue3,
  t4 := Tryd.underlying4,
  a4 := Tryd.isAgg4,
  z4 := Tryd.sizeOf4,
  v4 := Tryd.zeroValue4,
  t9 := Tryd.underlying9,
  a9 := Tryd.isAgg9,
  z9 := Tryd.sizeOf9,
  v9 := Tryd.zeroValue9,
  t37 := Tryd.underlying87,
  a37 := Tryd.isAgg87,
  z37 := Tryd.sizeOf87,
  v37 := Tryd.zeroValue87,
  t127 := Tryd.underlying106,
  a127 := Tryd.isAgg106,
  z127 := Tryd.sizeOf106,
  v127 := Tryd.zeroValue106,
  t5 := Tryd.underlying5,
  a5 := Tryd.isAgg5,
  z5 := Tryd.sizeOf5,
  v5 := Tryd.zeroValue5,
  i0 := by kernel_rfl,
  i3 := by kernel_rfl,
  i4 := by kernel_rfl,
  i5 := by kernel_rfl,
  i9 := by kernel_rfl,
  i37 := by kernel_rfl,
  i127 := by kernel_rfl }

def Tryd.laysIndexByte_ren : Go.Shelf.Ren := ⟨fun | 137 => 100 | 217 => 114 | 266 => 123 | n => n, fun | n => n, fun | n => n⟩
theorem Tryd.laysIndexByte : Lays.n137 Tryd.prog Tryd.laysIndexByte_ren := {
  mixed := by kernel_rfl,
  f137 := Tryd.func100.trans (congrArg some (by kernel_rfl)),
  f217 := Tryd.func114.trans (congrArg some (by kernel_rfl)),
  f266 := Tryd.func123.trans (congrArg some (by kernel_rfl)),
  t3 := Tryd.underlying3,
  a3 := Tryd.isAgg3,
  z3 := Tryd.sizeOf3,
  v3 := Tryd.zeroValue3,
  t5 := Tryd.underlying5,
  a5 := Tryd.isAgg5,
  z5 := Tryd.sizeOf5,
  v5 := Tryd.zeroValue5,
  t9 := Tryd.underlying9,
  a9 := Tryd.isAgg9,
  z9 := Tryd.sizeOf9,
  v9 := Tryd.zeroValue9 }
end Go.Proofs

namespace Go.Proofs.YtepjomdjkoaofaaDoor
open Go Go.RowKit Go.Lib

def StrB (x : ByteArray) (w : World) (en : Ending) (w' : World) : Prop := en = .returned (.string x) ∧ Below w.heap.size w w'
set_option maxRecDepth 100000 in
set_option maxHeartbeats 1000000 in
theorem strClone_any (x : ByteArray) (w : World) (hx : x.size ≤ 140737488355328) :
    Calls Tryd.prog 68 #[.string x] w (StrB x w) := by
  have h := fun W => Any.stringslite_Clone Tryd.laysClone x W (by omega)
  go_enter Tryd.func68, Tryd.ntmps68
  go_wp2_with fail
  refine (h _).mono ?_
  rintro en w' ⟨rfl, hB⟩
  go_wp2_with fail
  go_ret
  exact ⟨rfl, hB⟩
end Go.Proofs.YtepjomdjkoaofaaDoor
