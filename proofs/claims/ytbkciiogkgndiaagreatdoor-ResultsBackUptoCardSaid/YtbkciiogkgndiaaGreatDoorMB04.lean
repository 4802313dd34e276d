/- The library's functions that this seat's program holds are laid at its numbers, in plain words. Conditions: none. -/
import Derived.Test.YtbkciiogkgndiaaGreatDoorProg
import Derived.Shelf.Lays
import Derived.Shelf.LaysM
import Derived.KernelRfl
import Derived.Test.YtbkciiogkgndiaaGreatDoorMB02
import Derived.Test.YtbkciiogkgndiaaGreatDoorMB03
import Derived.Shelf.Strconv.Clone
import Derived.Laws.MakeOwn
namespace Go.Proofs
open Go.Shelf

def Tryz.laysClone_ren : Go.Shelf.Ren := ⟨fun | 316 => 195 | n => n, fun | 37 => 101 | 127 => 257 | n => n, fun | n => n⟩
theorem Tryz.laysClone : LaysM.n316 Tryz.prog Tryz.laysClone_ren := {
  mixed := by kernel_rfl,
  f316 := Tryz.func195.trans (congrArg some (by kernel_rfl)),
  t0 := Tryz.underlying0,
  a0 := Tryz.isAgg0,
  z0 := Tryz.sizeOf0,
  v0 := Tryz.zeroValue0,
  t3 := Tryz.underlying3,
  a3 := Tryz.isAgg3,
  z3 := Tryz.sizeOf3,
  v3 := Tryz.zeroValue3,
  t4 := Tryz.underlying4,
  a4 := Tryz.isAgg4,
  z4 := Tryz.sizeOf4,
  v4 := Tryz.zeroValue4,
  t9 := Tryz.underlying9,
  a9 := Tryz.isAgg9,
  z9 := Tryz.sizeOf9,
  v9 := Tryz.zeroValue9,
  t37 := Tryz.underlying101,
  a37 := Tryz.isAgg101,
  z37 := Tryz.sizeOf101,
  v37 := Tryz.zeroValue101,
  t127 := Tryz.underlying257,
  a127 := Tryz.isAgg257,
  z127 := Tryz.sizeOf257,
  v127 := Tryz.zeroValue257,
  t5 := Tryz.underlying5,
  a5 := Tryz.isAgg5,
  z5 := Tryz.sizeOf5,
  v5 := Tryz.zeroValue5,
  i0 := by kernel_rfl,
  i3 := by kernel_rfl,
  i4 := by kernel_rfl,
  i5 := by kernel_rfl,
  i9 := by kernel_rfl,
  i37 := by kernel_rfl,
  i127 := by kernel_rfl }

def Tryz.laysIndexByte_ren : Go.Shelf.Ren := ⟨fun | 137 => 203 | 217 => 213 | 266 => 231 | n => n, fun | n => n, fun | n => n⟩
theorem Tryz.laysIndexByte : Lays.n137 Tryz.prog Tryz.laysIndexByte_ren := {
  mixed := by kernel_rfl,
  f137 := Tryz.func203.trans (congrArg some (by kernel_rfl)),
  f217 := Tryz.func213.trans (congrArg some (by kernel_rfl)),
  f266 := Tryz.func231.trans (congrArg some (by kernel_rfl)),
  t3 := Tryz.underlying3,
  a3 := Tryz.isAgg3,
  z3 := Tryz.sizeOf3,
  v3 := Tryz.zeroValue3,
  t5 := Tryz.underlying5,
  a5 := Tryz.isAgg5,
  z5 := Tryz.sizeOf5,
  v5 := Tryz.zeroValue5,
  t9 := Tryz.underlying9,
  a9 := Tryz.isAgg9,
  z9 := Tryz.sizeOf9,
  v9 := Tryz.zeroValue9 }
end Go.Proofs

namespace Go.Proofs.YtbkciiogkgndiaaGreatDoor
open Go Go.RowKit Go.Lib

def StrB (x : ByteArray) (w : World) (en : Ending) (w' : World) : Prop := en = .returned (.string x) ∧ Below w.heap.size w w'
set_option maxRecDepth 100000 in
set_option maxHeartbeats 1000000 in
theorem strClone_any (x : ByteArray) (w : World) (hx : x.size ≤ 140737488355328) :
    Calls Tryz.prog 151 #[.string x] w (StrB x w) := by
  have h := fun W => Any.stringslite_Clone Tryz.laysClone x W (by omega)
  go_enter Tryz.func151, Tryz.ntmps151
  go_wp2_with fail
  refine (h _).mono ?_
  rintro en w' ⟨rfl, hB⟩
  go_wp2_with fail
  go_ret
  exact ⟨rfl, hB⟩
end Go.Proofs.YtbkciiogkgndiaaGreatDoor

namespace Go.Proofs.YtbkciiogkgndiaaGreatDoor
open Go Go.RowKit Go.Lib

/-- a field's box -/
def ClS (s : Nat) (nm : ByteArray) (k : Nat) (x : ByteArray) (v u : Value) (W : World) : Prop :=
  W.cell? ⟨s, 0, none⟩ = some (.string nm) ∧ W.cell? ⟨s, 1, none⟩ = some (.int .u8 k) ∧ W.cell? ⟨s, 2, none⟩ = some (.string x) ∧ W.cell? ⟨s, 3, none⟩ = some v ∧ W.cell? ⟨s, 4, none⟩ = some u
theorem ClS.below {s : Nat} {nm : ByteArray} {k : Nat} {x : ByteArray} {v u : Value} {W W' : World} (h : ClS s nm k x v u W) (hB : Below W.heap.size W W') : ClS s nm k x v u W' :=
  ⟨bcellv hB h.1, bcellv hB h.2.1, bcellv hB h.2.2.1, bcellv hB h.2.2.2.1, bcellv hB h.2.2.2.2⟩
/-- clone serves values of fewer than n elements -/
def CloneOk (n : Nat) : Prop := ∀ (ka : Nat) (xa : ByteArray) (va ua : Value) (la fa : V.T) (A : Nat → Prop) (w : World),
  la.size + fa.size < n → xa.size ≤ 140737488355328 → HS w A 0 va la → HS w A 1 ua fa →
  Calls Tryz.prog 111 #[.agg #[.int .u8 ka, .string xa, va, ua]] w (Own4F ka xa la fa w)
/-- what the loop of cloneAll keeps -/
structure CaSt (w : World) (tv : TypeId) (d g : Nat) (t : V.T) (i : Nat) (cur : Array Value) (W : World) : Prop where
  below : Below w.heap.size w W
  row : Row W g tv cur
  size : cur.size = t.len * (4 + d)
  base : w.heap.size ≤ g
  fits : RP W (fun b => Fre w.heap.size W b ∧ b ≠ g) d t i (cur.toList.take (i * (4 + d)))
theorem CaSt.step0 {w wr w1 : World} {tv : TypeId} {g : Nat} {t : V.T} {i : Nat} {cur : Array Value} {nm : ByteArray} {k : Nat} {x : ByteArray} {l f tl : V.T} {v2 u2 : Value}
    (h : CaSt w tv 0 g t i cur wr) (hi : i < t.len) (hd : t.drop i = .cons nm k x l f tl) (hnm : nm = ⟨#[]⟩) (hk : Fit nm k x) (hB : Below wr.heap.size wr w1)
    (hl : HS w1 (Fre wr.heap.size w1) 0 v2 l) (hf : HS w1 (Fre wr.heap.size w1) 1 u2 f) :
    CaSt w tv 0 g t (i + 1) ((((cur.setIfInBounds (i * 4) (.int .u8 k)).setIfInBounds (i * 4 + 1) (.string x)).setIfInBounds (i * 4 + 2) v2).setIfInBounds (i * 4 + 3) u2)
      ((((w1.setCell ⟨g, i * 4, none⟩ (.int .u8 k)).setCell ⟨g, i * 4 + 1, none⟩ (.string x)).setCell ⟨g, i * 4 + 2, none⟩ v2).setCell ⟨g, i * 4 + 3, none⟩ u2) := by
  have hg := h.row.lt
  have hsz : cur.size = t.len * 4 := h.size
  have hle : (i + 1) * 4 ≤ t.len * 4 := Nat.mul_le_mul_right 4 hi
  have he : ∀ j, j ≠ g → ((((w1.setCell ⟨g, i * 4, none⟩ (.int .u8 k)).setCell ⟨g, i * 4 + 1, none⟩ (.string x)).setCell ⟨g, i * 4 + 2, none⟩ v2).setCell ⟨g, i * 4 + 3, none⟩ u2).heap[j]? = w1.heap[j]? := fun j hj =>
    (Below.heap_setCell _ _ _ j hj).trans ((Below.heap_setCell _ _ _ j hj).trans ((Below.heap_setCell _ _ _ j hj).trans (Below.heap_setCell _ _ _ j hj)))
  have hbs := h.base
  refine ⟨((((h.below.trans (hB.mono h.below.size)).setCell hbs _).setCell hbs _).setCell hbs _).setCell hbs _, ((((h.row.same (hB.block _ hg)).set _ _).set _ _).set _ _).set _ _, by simp [h.size], hbs, ?_⟩
  have r1 := (h.fits.imp (A' := fun b => Fre w.heap.size w1 b ∧ b ≠ g) (fun b a hb => ⟨a.1.imp a.1.1 (hB.block b hb), a.2⟩) (fun b _ hb => hB.block b hb)).snoc0 hd hnm (hl.mono fun b hb _ => ⟨hb.imp (Nat.le_trans h.below.size hb.1) rfl, by have := hb.1; omega⟩) (hf.mono fun b hb _ => ⟨hb.imp (Nat.le_trans h.below.size hb.1) rfl, by have := hb.1; omega⟩) hk
  have r2 := r1.imp (A' := fun b => Fre w.heap.size _ b ∧ b ≠ g) (fun b a _ => ⟨a.1.imp a.1.1 (he b a.2), a.2⟩) (fun b hb _ => he b hb.2)
  have e := take_set4 cur.toList (i * 4) (.int .u8 k) (.string x) v2 u2 (by rw [Array.length_toList]; omega)
  rw [Nat.add_zero] at r2
  rw [← e] at r2
  simp only [Array.toList_setIfInBounds]
  rw [show (i + 1) * (4 + 0) = i * 4 + 4 by omega]
  exact r2
theorem CaSt.step1 {w wr w1 : World} {tv : TypeId} {g : Nat} {t : V.T} {i : Nat} {cur : Array Value} {nm : ByteArray} {k : Nat} {x : ByteArray} {l f tl : V.T} {v2 u2 : Value}
    (h : CaSt w tv 1 g t i cur wr) (hi : i < t.len) (hd : t.drop i = .cons nm k x l f tl) (hk : Fit nm k x) (hB : Below wr.heap.size wr w1)
    (hl : HS w1 (Fre wr.heap.size w1) 0 v2 l) (hf : HS w1 (Fre wr.heap.size w1) 1 u2 f) :
    CaSt w tv 1 g t (i + 1) (((((cur.setIfInBounds (i * 5) (.string nm)).setIfInBounds (i * 5 + 1) (.int .u8 k)).setIfInBounds (i * 5 + 2) (.string x)).setIfInBounds (i * 5 + 3) v2).setIfInBounds (i * 5 + 4) u2)
      (((((w1.setCell ⟨g, i * 5, none⟩ (.string nm)).setCell ⟨g, i * 5 + 1, none⟩ (.int .u8 k)).setCell ⟨g, i * 5 + 2, none⟩ (.string x)).setCell ⟨g, i * 5 + 3, none⟩ v2).setCell ⟨g, i * 5 + 4, none⟩ u2) := by
  have hg := h.row.lt
  have hsz : cur.size = t.len * 5 := h.size
  have hle : (i + 1) * 5 ≤ t.len * 5 := Nat.mul_le_mul_right 5 hi
  have he : ∀ j, j ≠ g → (((((w1.setCell ⟨g, i * 5, none⟩ (.string nm)).setCell ⟨g, i * 5 + 1, none⟩ (.int .u8 k)).setCell ⟨g, i * 5 + 2, none⟩ (.string x)).setCell ⟨g, i * 5 + 3, none⟩ v2).setCell ⟨g, i * 5 + 4, none⟩ u2).heap[j]? = w1.heap[j]? := fun j hj =>
    (Below.heap_setCell _ _ _ j hj).trans ((Below.heap_setCell _ _ _ j hj).trans ((Below.heap_setCell _ _ _ j hj).trans ((Below.heap_setCell _ _ _ j hj).trans (Below.heap_setCell _ _ _ j hj))))
  have hbs := h.base
  refine ⟨(((((h.below.trans (hB.mono h.below.size)).setCell hbs _).setCell hbs _).setCell hbs _).setCell hbs _).setCell hbs _, (((((h.row.same (hB.block _ hg)).set _ _).set _ _).set _ _).set _ _).set _ _, by simp [h.size], hbs, ?_⟩
  have r1 := (h.fits.imp (A' := fun b => Fre w.heap.size w1 b ∧ b ≠ g) (fun b a hb => ⟨a.1.imp a.1.1 (hB.block b hb), a.2⟩) (fun b _ hb => hB.block b hb)).snoc1 hd (hl.mono fun b hb _ => ⟨hb.imp (Nat.le_trans h.below.size hb.1) rfl, by have := hb.1; omega⟩) (hf.mono fun b hb _ => ⟨hb.imp (Nat.le_trans h.below.size hb.1) rfl, by have := hb.1; omega⟩) hk
  have r2 := r1.imp (A' := fun b => Fre w.heap.size _ b ∧ b ≠ g) (fun b a _ => ⟨a.1.imp a.1.1 (he b a.2), a.2⟩) (fun b hb _ => he b hb.2)
  have e := take_set5 cur.toList (i * 5) (.string nm) (.int .u8 k) (.string x) v2 u2 (by rw [Array.length_toList]; omega)
  rw [show i * (4 + 1) = i * 5 by omega] at r2
  rw [← e] at r2
  simp only [Array.toList_setIfInBounds]
  rw [show (i + 1) * (4 + 1) = i * 5 + 5 by omega]
  exact r2
theorem CaSt.whole {w W : World} {tv : TypeId} {d g : Nat} {t : V.T} {cur : Array Value} (h : CaSt w tv d g t t.len cur W) (hl : t.len ≤ 2000000000000) : HS W (Fre w.heap.size W) d (.slice (some ⟨g, 0, none⟩) t.len t.len) t := by
  refine .inr (.inr ⟨g, 0, t.len, rfl, Nat.le_refl _, ⟨by unfold maxLen; omega, hl⟩, ?_⟩)
  have h5 : RP W (Fre w.heap.size W) d t t.len (cur.toList.take (t.len * (4 + d))) := h.fits.imp (fun b hb _ => hb.1) (fun _ _ _ => rfl)
  rw [← h.size, List.take_of_length_le (by simp)] at h5
  have h6 := RP.row h5 (g := g) ⟨h.base, h.row.free⟩ (fun j u hj => by
    rw [Array.getElem?_toList] at hj
    exact (cell_of_row W g j cur tv (0, 0) h.row).trans hj) t.len 0 (by omega)
  rw [V.T.drop_zero, Nat.zero_mul] at h6
  exact h6

set_option maxRecDepth 100000 in
set_option maxHeartbeats 1000000 in
theorem cloneList_any (n : Nat) (ih : CloneOk n) (v : Value) (t : V.T) (A : Nat → Prop) (w : World) (ht : t.size ≤ n) (hv : HS w A 0 v t) :
    Calls Tryz.prog 156 #[v, .func (.func 111) #[] #[]] w (OwnS 0 t w) := by
  rcases hv.shape with ⟨rfl, hn⟩ | ⟨a, c, rfl, hc, hc2, hl⟩
  · obtain rfl := V.T.len_nil hn
    have qT := Lib.run_eql_slice_nil (P := Tryz.prog) w _ _ none 0 0 0 0 Tryz.underlying22
    go_enter Tryz.func156, Tryz.ntmps156
    go_wp2_with fail
    go_ret
    exact ⟨_, rfl, HS.nil _ _ _, SlFree.nil _ _, Below.refl _ _⟩
  · generalize ea : t.len = na at *
    have HE := Lib.hid ea
    have HT := Lib.hid ht
    have HR0 := Lib.hid hv
    clear ea ht hv
    have qT := fun w => Lib.run_eql_slice_nil (P := Tryz.prog) w _ _ (some a) na c 0 0 Tryz.underlying22
    obtain ⟨i0, hi0, hz0, hz1, hz2⟩ := info_parts infoValue
    obtain ⟨M, hM⟩ : ∃ M, M = madeCells (Value.agg #[.int .u8 0, .string ⟨#[]⟩, .slice none 0 0, .slice none 0 0]).cells (((na : Nat) : Int).toNat * i0.size) := ⟨_, rfl⟩
    have hMs : M.size = na * 4 := by
      rw [hM, size_madeCells, hz1, Int.toNat_natCast]
    have hmk : ∀ W : World, (Instr.makeSlice 22 (.int .i64 (na : Int)) (.int .i64 (na : Int))).run Tryz.prog W = .ok (.slice (some ⟨W.heap.size, 0, none⟩) na na) (W.alloc (.cells M 25)) := fun W => by
      have h := run_make (P := Tryz.prog) W 22 25 i0 _ Tryz.underlying22 hi0 hz0 .i64 .i64 (na : Int) (na : Int) (by omega) (by omega) (by rw [hz2]; omega) (by omega)
      rw [← hM] at h
      simpa using h
    clear hM
    go_enter Tryz.func156, Tryz.ntmps156
    go_wp2_with fail
    have hrow : Row (w.alloc (.cells M 25)) w.heap.size 25 M := heap_alloc_new _ _
    have hc0 : CaSt w 25 0 w.heap.size t 0 M (w.alloc (.cells M 25)) :=
      ⟨(Below.refl _ _).alloc (Nat.le_refl _) _, hrow, by rw [hMs, HE.out], Nat.le_refl _, by rw [Nat.zero_mul, List.take_zero]; exact RP.nil _ _ _ _⟩
    generalize w.alloc (.cells M 25) = W0 at *
    have HC := Lib.hid hc0
    clear hrow hc0 hMs hmk
    go_loopw [15] (fun p wr => ∃ i : Nat, p = .int .i64 i ∧ i ≤ na ∧ Hid (∃ cur, CaSt w 25 0 w.heap.size t i cur wr)) (fun p _ => na - (RowKit.intOf p).toNat)
    case atStart => exact ⟨0, rfl, Nat.zero_le _, Lib.hid ⟨_, HC.out⟩⟩
    case round =>
      obtain ⟨i, rfl, hi, HR⟩ := hrel
      obtain ⟨cur, hR⟩ := HR.out
      by_cases hlt : i < na
      · have HQ := Lib.hid hR
        clear HR hR
        obtain ⟨nm1, k1, x1, l1, f1, tl1, hd1⟩ := V.T.drop_some (t := t) (i := i) (by rw [HE.out]; exact hlt)
        obtain ⟨b, o, v1, u1, hbo, E1⟩ := (HR0.out.below HQ.out.below).elem (by rw [HE.out]; exact hlt) hd1
        cases hbo
        obtain ⟨p1, c5, rfl, -⟩ := E1.hl.len
        obtain ⟨p2, c6, rfl, -⟩ := E1.hf.len
        have e1 := E1.kind
        have e2 := E1.text
        have e3 := E1.list
        have e4 := E1.fields
        simp only [Nat.add_zero, Nat.reduceAdd] at e1 e2 e3 e4
        have HL := Lib.hid hlt
        have D1 := Lib.hid hd1
        clear hd1
        have IH := fun W (hB : Below wr.heap.size wr W) => ih k1 x1 (.slice p1 l1.len c5) (.slice p2 f1.len c6) l1 f1 A W (by have := V.T.drop_size D1.out; have := HT.out; omega) E1.small.text (E1.hl.below hB) (E1.hf.below hB)
        have hrow := HQ.out.row
        have hgl := hrow.lt
        have hcs : i * 4 + 4 ≤ cur.size := by rw [HQ.out.size, HE.out]; have := HL.out; omega
        go_wp2_with fail
        go_at_call 111
        (with_reducible refine (IH _ ((Below.refl _ _).alloc (Nat.le_refl _) _)).mono ?_)
        rintro e w1 ⟨v2, u2, rfl, hl1, hf1, _, _, hB1⟩
        obtain ⟨p3, c7, rfl, -⟩ := hl1.len
        obtain ⟨p4, c8, rfl, -⟩ := hf1.len
        have hB2 := (((Below.refl wr.heap.size wr).alloc (Nat.le_refl _) (.cells #[.int .u8 k1, .string x1, .slice p1 l1.len c5, .slice p2 f1.len c6] 25)).trans (hB1.mono (by simp)))
        have hr1 := hrow.same (hB2.block _ hgl)
        have q0 := hr1.cell (j := i * 4) (by omega)
        have q1 := hr1.cell (j := i * 4 + 1) (by omega)
        have q2 := hr1.cell (j := i * 4 + 2) (by omega)
        have q3 := hr1.cell (j := i * 4 + 3) (by omega)
        have z0 := hr1.free (i * 4)
        have z1 := hr1.free (i * 4 + 1)
        have z2 := hr1.free (i * 4 + 2)
        have z3 := hr1.free (i * 4 + 3)
        have H1 := Lib.hid (And.intro hl1 hf1)
        have HB2 := Lib.hid hB2
        have HX := Lib.hid (World.size_alloc wr (.cells #[.int .u8 k1, .string x1, .slice p1 l1.len c5, .slice p2 f1.len c6] 25))
        clear hl1 hf1 hB1 hB2 hr1
        go_wp2_with fail
        go_roundw
        case rel => exact ⟨i + 1, by go_num, HL.out, Lib.hid ⟨_, HQ.out.step0 (by rw [HE.out]; exact HL.out) D1.out (E1.nil rfl) E1.small HB2.out (H1.out.1.mono fun b hb _ => hb.imp (by have := HX.out; have := hb.1; omega) rfl) (H1.out.2.mono fun b hb _ => hb.imp (by have := HX.out; have := hb.1; omega) rfl)⟩⟩
        case measure => have := HL.out; simp [RowKit.intOf]; omega
      · obtain rfl : i = na := by omega
        clear HR
        have hw := CaSt.whole (by rw [HE.out]; exact hR) (by rw [HE.out]; exact hl)
        rw [HE.out] at hw
        have HF := Lib.hid (And.intro hw (And.intro (show SlFree w.heap.size wr (.slice (some ⟨w.heap.size, 0, none⟩) i i) from fun b hb => by cases hb; exact ⟨Nat.le_refl _, hR.row.lt, hR.row.free⟩) hR.below))
        clear hw hR
        go_wp2_with fail
        go_ret
        exact ⟨_, rfl, HF.out.1, HF.out.2.1, HF.out.2.2⟩

set_option maxRecDepth 100000 in
set_option maxHeartbeats 1000000 in
theorem cloneField_any (n : Nat) (ih : CloneOk n) (nm : ByteArray) (k : Nat) (x : ByteArray) (v u : Value) (l f : V.T) (A : Nat → Prop) (w : World) (hn : l.size + f.size < n) (hk : Fit nm k x) (hl : HS w A 0 v l) (hf : HS w A 1 u f) :
    Calls Tryz.prog 158 #[.agg #[.string nm, .int .u8 k, .string x, v, u]] w (Own5 nm k x l f w) := by
  obtain ⟨p1, c1, rfl, -⟩ := hl.len
  obtain ⟨p2, c2, rfl, -⟩ := hf.len
  unfold CloneOk at ih
  go_enter Tryz.func158, Tryz.ntmps158
  go_wp2_with fail
  have hx := two_new w (.cells #[.string nm, .int .u8 k, .string x, .slice p1 l.len c1, .slice p2 f.len c2] 100) (.cells #[.string ⟨#[]⟩, .int .u8 0, .string ⟨#[]⟩, .slice none 0 0, .slice none 0 0] 100)
  have hw := two_below w (.cells #[.string nm, .int .u8 k, .string x, .slice p1 l.len c1, .slice p2 f.len c2] 100) (.cells #[.string ⟨#[]⟩, .int .u8 0, .string ⟨#[]⟩, .slice none 0 0, .slice none 0 0] 100)
  have hz := two_size w (.cells #[.string nm, .int .u8 k, .string x, .slice p1 l.len c1, .slice p2 f.len c2] 100) (.cells #[.string ⟨#[]⟩, .int .u8 0, .string ⟨#[]⟩, .slice none 0 0, .slice none 0 0] 100)
  generalize (w.alloc (.cells #[.string nm, .int .u8 k, .string x, .slice p1 l.len c1, .slice p2 f.len c2] 100)).alloc (.cells #[.string ⟨#[]⟩, .int .u8 0, .string ⟨#[]⟩, .slice none 0 0, .slice none 0 0] 100) = W0 at *
  have r1 : Row W0 w.heap.size 100 _ := hx.1
  have r2 : Row W0 (w.heap.size + 1) 100 _ := hx.2
  have HS0 := Lib.hid (show ClS w.heap.size nm k x (.slice p1 l.len c1) (.slice p2 f.len c2) W0.drew from ⟨r1.cell (j := 0) (by simp), r1.cell (j := 1) (by simp), r1.cell (j := 2) (by simp), r1.cell (j := 3) (by simp), r1.cell (j := 4) (by simp)⟩)
  have HR := Lib.hid r2
  have HW := Lib.hid hw
  have HZ := Lib.hid hz
  have HN := Lib.hid hn
  have HA := Lib.hid (And.intro hl hf)
  have HK := Lib.hid hk
  clear hx hw hz r1 r2 hn hl hf hk
  refine wp_region_last (S := ClS w.heap.size nm k x (.slice p1 l.len c1) (.slice p2 f.len c2)) (z := 7) (by kernel_rfl) ?_
  refine wpAnyZ_take (v := ?_) 0 rfl (by kernel_rfl) (by kernel_rfl) (by kernel_rfl) (fun _ _ _ h => h) (by kernel_rfl) (by kernel_rfl) (by decide) HS0.out (by rfl) (fun W hSW => ?_) ?_
  rotate_left
  · obtain ⟨s1, s2, s3, s4, s5⟩ := hSW
    go_simp
    try with_reducible rfl
  try simp only [Act.put, List.setIfInBounds_toArray, List.set_cons_zero, List.set_cons_succ]
  refine wpAnyZ_take (v := ?_) 1 rfl (by kernel_rfl) (by kernel_rfl) (by kernel_rfl) (fun _ _ _ h => h) (by kernel_rfl) (by kernel_rfl) (by decide) HS0.out (by rfl) (fun W hSW => ?_) ?_
  rotate_left
  · obtain ⟨s1, s2, s3, s4, s5⟩ := hSW
    go_simp
    try with_reducible rfl
  try simp only [Act.put, List.setIfInBounds_toArray, List.set_cons_zero, List.set_cons_succ]
  refine wpAnyZ_take (v := ?_) 3 rfl (by kernel_rfl) (by kernel_rfl) (by kernel_rfl) (fun _ _ _ h => h) (by kernel_rfl) (by kernel_rfl) (by decide) HS0.out (by rfl) (fun W hSW => ?_) ?_
  rotate_left
  · obtain ⟨s1, s2, s3, s4, s5⟩ := hSW
    go_simp
    try with_reducible rfl
  try simp only [Act.put, List.setIfInBounds_toArray, List.set_cons_zero, List.set_cons_succ]
  refine wpAnyZ_take (v := ?_) 4 rfl (by kernel_rfl) (by kernel_rfl) (by kernel_rfl) (fun _ _ _ h => h) (by kernel_rfl) (by kernel_rfl) (by decide) HS0.out (by rfl) (fun W hSW => ?_) ?_
  rotate_left
  · obtain ⟨s1, s2, s3, s4, s5⟩ := hSW
    go_simp
    try with_reducible rfl
  try simp only [Act.put, List.setIfInBounds_toArray, List.set_cons_zero, List.set_cons_succ]
  refine wpAnyZ_op 2 (by kernel_rfl) rfl (fun K hK => ?_)
  go_simp
  go_at_call 151
  (with_reducible refine (strClone_any _ _ HK.out.name).mono ?_)
  rintro e w1 ⟨rfl, hB1⟩
  have HB1 := Lib.hid ((Below.refl W0.heap.size W0).drew.trans hB1)
  have HS1 := Lib.hid (HS0.out.below hB1)
  clear hB1
  refine hK.out _ _ HS1.out ?_
  try simp only [Act.put, List.setIfInBounds_toArray, List.set_cons_zero, List.set_cons_succ]
  clear hK K
  refine wpAnyZ_op 5 (by kernel_rfl) rfl (fun K hK => ?_)
  go_simp
  go_at_call 111
  have HB3 := Lib.hid (HW.out.trans (HB1.out.mono HW.out.size))
  (with_reducible refine (ih k x _ _ l f A w1 HN.out HK.out.text (HA.out.1.below HB3.out) (HA.out.2.below HB3.out)).mono ?_)
  rintro e w2 ⟨v2, u2, rfl, hl2, hf2, _, _, hB2⟩
  obtain ⟨p3, c3, rfl, -⟩ := hl2.len
  obtain ⟨p4, c4, rfl, -⟩ := hf2.len
  have HB2 := Lib.hid hB2
  have HS2 := Lib.hid (HS1.out.below hB2)
  have H2 := Lib.hid (And.intro hl2 hf2)
  clear hB2 hl2 hf2
  refine hK.out _ _ HS2.out ?_
  try simp only [Act.put, List.setIfInBounds_toArray, List.set_cons_zero, List.set_cons_succ]
  clear hK K
  refine wpAnyZ_take (v := ?_) 6 rfl (by kernel_rfl) (by kernel_rfl) (by kernel_rfl) (fun _ _ _ h => h) (by kernel_rfl) (by kernel_rfl) (by decide) HS2.out (by rfl) (fun W hSW => ?_) ?_
  rotate_left
  · obtain ⟨s1, s2, s3, s4, s5⟩ := hSW
    go_simp
    try with_reducible rfl
  try simp only [Act.put, List.setIfInBounds_toArray, List.set_cons_zero, List.set_cons_succ]
  refine wpAnyZ_end (by kernel_rfl) rfl (by kernel_rfl) (fun K hK => ?_)
  have r3 : Row w2 (w.heap.size + 1) 100 _ := (HR.out.same (HB1.out.block _ HR.out.lt)).same (HB2.out.block _ (Nat.lt_of_lt_of_le HR.out.lt HB1.out.size))
  have q0 := r3.cell (j := 0) (by simp)
  have q1 := r3.cell (j := 1) (by simp)
  have q2 := r3.cell (j := 2) (by simp)
  have q3 := r3.cell (j := 3) (by simp)
  have q4 := r3.cell (j := 4) (by simp)
  have z0 := r3.free 0
  have z1 := r3.free 1
  have z2 := r3.free 2
  have z3 := r3.free 3
  have z4 := r3.free 4
  go_simp
  refine hK.out _ _ ?_
  clear hK K
  have r4 := ((((r3.set 0 (.string nm)).set 1 (.int .u8 k)).set 2 (.string x)).set 3 (.slice p3 l.len c3)).set 4 (.slice p4 f.len c4)
  have g4 : ∀ j, j ≠ w.heap.size + 1 → (((((w2.setCell ⟨w.heap.size + 1, 0, none⟩ (.string nm)).setCell ⟨w.heap.size + 1, 1, none⟩ (.int .u8 k)).setCell ⟨w.heap.size + 1, 2, none⟩ (.string x)).setCell ⟨w.heap.size + 1, 3, none⟩ (.slice p3 l.len c3)).setCell ⟨w.heap.size + 1, 4, none⟩ (.slice p4 f.len c4)).heap[j]? = w2.heap[j]? := fun j hj =>
    (Below.heap_setCell _ _ _ j hj).trans ((Below.heap_setCell _ _ _ j hj).trans ((Below.heap_setCell _ _ _ j hj).trans ((Below.heap_setCell _ _ _ j hj).trans (Below.heap_setCell _ _ _ j hj))))
  have g5 : Below w.heap.size w2 (((((w2.setCell ⟨w.heap.size + 1, 0, none⟩ (.string nm)).setCell ⟨w.heap.size + 1, 1, none⟩ (.int .u8 k)).setCell ⟨w.heap.size + 1, 2, none⟩ (.string x)).setCell ⟨w.heap.size + 1, 3, none⟩ (.slice p3 l.len c3)).setCell ⟨w.heap.size + 1, 4, none⟩ (.slice p4 f.len c4)) :=
    (((((Below.refl _ _).setCell (Nat.le_succ _) _).setCell (Nat.le_succ _) _).setCell (Nat.le_succ _) _).setCell (Nat.le_succ _) _).setCell (Nat.le_succ _) _
  generalize ((((w2.setCell ⟨w.heap.size + 1, 0, none⟩ (.string nm)).setCell ⟨w.heap.size + 1, 1, none⟩ (.int .u8 k)).setCell ⟨w.heap.size + 1, 2, none⟩ (.string x)).setCell ⟨w.heap.size + 1, 3, none⟩ (.slice p3 l.len c3)).setCell ⟨w.heap.size + 1, 4, none⟩ (.slice p4 f.len c4) = W3 at *
  simp only [List.setIfInBounds_toArray, List.set_cons_zero, List.set_cons_succ] at r4
  have y0 : W3.cell? ⟨w.heap.size + 1, 0, none⟩ = _ := r4.cell (j := 0) (by simp)
  have y1 : W3.cell? ⟨w.heap.size + 1, 1, none⟩ = _ := r4.cell (j := 1) (by simp)
  have y2 : W3.cell? ⟨w.heap.size + 1, 2, none⟩ = _ := r4.cell (j := 2) (by simp)
  have y3 : W3.cell? ⟨w.heap.size + 1, 3, none⟩ = _ := r4.cell (j := 3) (by simp)
  have y4 : W3.cell? ⟨w.heap.size + 1, 4, none⟩ = _ := r4.cell (j := 4) (by simp)
  go_wp2_with fail
  refine bodyPost_ret (v := .agg #[.string nm, .int .u8 k, .string x, .slice p3 l.len c3, .slice p4 f.len c4]) (by simp [results, Tryz.results158, go_sem, y0, y1, y2, y3, y4]) rfl ⟨_, _, rfl, ?_, ?_, ?_⟩
  · exact H2.out.1.fre (fun b hb => Nat.le_trans HB3.out.size hb) (fun b hb _ => g4 b (by have h1 := HB1.out.size; have h2 := HZ.out; omega))
  · exact H2.out.2.fre (fun b hb => Nat.le_trans HB3.out.size hb) (fun b hb _ => g4 b (by have h1 := HB1.out.size; have h2 := HZ.out; omega))
  · exact (HB3.out.trans (HB2.out.mono HB3.out.size)).trans g5
end Go.Proofs.YtbkciiogkgndiaaGreatDoor
