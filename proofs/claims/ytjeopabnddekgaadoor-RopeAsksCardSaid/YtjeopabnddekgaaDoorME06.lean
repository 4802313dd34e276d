/- Counts behind one another. Conditions: each at most 2^40. -/
import Derived.Test.YtjeopabnddekgaaDoorME05
import Derived.Test.YtjeopabnddekgaaDoorME04
import Derived.Test.YtjeopabnddekgaaDoorProg
import Derived.WalkKit
import Derived.WalkSpells
import Derived.WalkLawsBesides
import Derived.Lib.Hide
import Derived.ProofKit
namespace Go.Proofs.YtjeopabnddekgaaDoor
open Go Go.RowKit Go.Lib

namespace R
theorem bk_last : ∀ (l : List UInt8), l.getLast? = some 13 → 1 ≤ bk l
  | [], h => by cases h
  | [b], h => by
    have : b = 13 := by simpa using h
    subst this
    decide
  | b :: c :: l, h => by
    have h1 : (c :: l).getLast? = some 13 := by simpa using h
    have := bk_last (c :: l) h1
    show 1 ≤ _ + bk (c :: l)
    omega
theorem cn_e (s : ByteArray) (h : (cn s).e = true) : 1 ≤ (cn s).k := by
  have : s.data.toList.getLast? = some 13 := of_decide_eq_true h
  have h1 := bk_last _ this
  show 1 ≤ L.mny s - 1
  rw [mny_bk]
  omega
theorem bk_le : ∀ l : List UInt8, bk l ≤ l.length
  | [] => Nat.le_refl _
  | b :: l => by
    have := bk_le l
    simp only [bk, List.length_cons]
    split <;> (try split) <;> (try split) <;> omega
theorem cn_le (s : ByteArray) : (cn s).b = s.size ∧ (cn s).u ≤ s.size ∧ (cn s).k ≤ s.size := by
  refine ⟨rfl, U.units_le s, ?_⟩
  show L.mny s - 1 ≤ s.size
  rw [mny_bk]
  have := bk_le s.data.toList
  rw [list_len] at this
  omega
/-- counts of a text of at most so many bytes -/
structure Cn.Fits (c : Cn) : Prop where
  b : c.b ≤ 1099511627776
  u : c.u ≤ 1099511627776
  k : c.k ≤ 1099511627776
  e : c.e = true → 1 ≤ c.k
  z : c.b = 0 → c = Cn.none
theorem cn_fits (s : ByteArray) (h : s.size ≤ 1099511627776) : (cn s).Fits := by
  obtain ⟨h1, h2, h3⟩ := cn_le s
  exact ⟨by omega, by omega, by omega, cn_e s, fun h => cn_none s h⟩
theorem none_add (x : Cn) (hx : x.Fits) : Cn.none.add x = x := by
  unfold Cn.add
  by_cases h : x.b = 0
  · rw [if_pos h, if_pos (show Cn.none.b = 0 from rfl), hx.z h]
  · rw [if_neg h, if_pos (show Cn.none.b = 0 from rfl)]
theorem add_none (x y : Cn) (hx : x.Fits) : (Cn.none.add x).add y = x.add y := by rw [none_add x hx]
theorem none_fits : Cn.none.Fits := ⟨Nat.zero_le _, Nat.zero_le _, Nat.zero_le _, (fun h => by cases h), fun _ => rfl⟩
end R
/-- a slice of two counts -/
def Two (w : World) (b : Nat) (x y : R.Cn) : Prop := w.heap[b]? = some (.cells #[Value.int .i64 (x.b : Nat), Value.int .i64 (x.u : Nat), Value.int .i64 (x.k : Nat), Value.bool x.f, Value.bool x.e, Value.int .i64 (y.b : Nat), Value.int .i64 (y.u : Nat), Value.int .i64 (y.k : Nat), Value.bool y.f, Value.bool y.e] 96 (0, 0))
/-- the i-th one's cells -/
theorem Two.at {w : World} {b : Nat} {x y : R.Cn} (h : Two w b x y) (i : Nat) (hi : i < 2) : ∃ c, c = (if i = 0 then x else y) ∧ w.cell? ⟨b, i * 5, none⟩ = some (.int .i64 (c.b : Nat)) ∧ w.cell? ⟨b, i * 5 + 1, none⟩ = some (.int .i64 (c.u : Nat)) ∧ w.cell? ⟨b, i * 5 + 2, none⟩ = some (.int .i64 (c.k : Nat)) ∧ w.cell? ⟨b, i * 5 + 3, none⟩ = some (.bool c.f) ∧ w.cell? ⟨b, i * 5 + 4, none⟩ = some (.bool c.e) := by
  refine ⟨_, rfl, ?_⟩
  rcases (show i = 0 ∨ i = 1 by omega) with rfl | rfl
  · refine ⟨?_, ?_, ?_, ?_, ?_⟩ <;> (rw [Lib.cell_of_heap h]; rfl)
  · refine ⟨?_, ?_, ?_, ?_, ?_⟩ <;> (rw [Lib.cell_of_heap h]; rfl)
theorem CnRow.frz {w : World} {b : Nat} {c : R.Cn} (h : CnRow w b c) : w.frozen? ⟨b, 0, none⟩ = false ∧ w.frozen? ⟨b, 1, none⟩ = false ∧ w.frozen? ⟨b, 2, none⟩ = false ∧ w.frozen? ⟨b, 3, none⟩ = false ∧ w.frozen? ⟨b, 4, none⟩ = false :=
  ⟨Lib.frozen_of_heap h 0, Lib.frozen_of_heap h 1, Lib.frozen_of_heap h 2, Lib.frozen_of_heap h 3, Lib.frozen_of_heap h 4⟩
def acc (x y : R.Cn) : Nat → R.Cn
  | 0 => R.Cn.none
  | 1 => R.Cn.none.add x
  | _ => (R.Cn.none.add x).add y
theorem acc_fits (x y : R.Cn) (hx : x.Fits) (i : Nat) (hi : i < 2) : (acc x y i).Fits := by
  rcases (show i = 0 ∨ i = 1 by omega) with rfl | rfl
  · exact R.none_fits
  · show (R.Cn.none.add x).Fits
    rw [R.none_add x hx]; exact hx
theorem acc_step (x y : R.Cn) (i : Nat) (hi : i < 2) : acc x y (i + 1) = (acc x y i).add (if i = 0 then x else y) := by
  rcases (show i = 0 ∨ i = 1 by omega) with rfl | rfl <;> rfl
theorem CnRow.below {w w' : World} {b : Nat} {c : R.Cn} {N : Nat} (h : CnRow w b c) (hB : Below N w w') (hb : b < N) : CnRow w' b c := (hB.block b hb).trans h
/-- two boxes of counts: the result's, and what has been added up so far -/
def St3 (w W : World) (c : R.Cn) : Prop := CnRow W w.heap.size R.Cn.none ∧ CnRow W (w.heap.size + 1) c ∧ Below w.heap.size w W ∧ w.heap.size + 2 ≤ W.heap.size
theorem St3.s0 {w W : World} {c : R.Cn} (h : St3 w W c) (n : Nat) {z : Int} (hz : z = (n : Int)) : St3 w (W.setCell ⟨w.heap.size + 1, 0, none⟩ (.int .i64 z)) ⟨n, c.u, c.k, c.f, c.e⟩ := by
  subst hz
  obtain ⟨h1, h2, h3, h4⟩ := h
  refine ⟨?_, ?_, h3.setCell (p := ⟨w.heap.size + 1, 0, none⟩) (by show w.heap.size ≤ w.heap.size + 1; omega) _, by simpa [World.setCell] using h4⟩
  · unfold CnRow at *
    simp [World.setCell, Array.getElem?_modify, h1]
  · unfold CnRow at *
    simp [World.setCell, Array.getElem?_modify, h2]
theorem St3.s1 {w W : World} {c : R.Cn} (h : St3 w W c) (n : Nat) {z : Int} (hz : z = (n : Int)) : St3 w (W.setCell ⟨w.heap.size + 1, 1, none⟩ (.int .i64 z)) ⟨c.b, n, c.k, c.f, c.e⟩ := by
  subst hz
  obtain ⟨h1, h2, h3, h4⟩ := h
  refine ⟨?_, ?_, h3.setCell (p := ⟨w.heap.size + 1, 1, none⟩) (by show w.heap.size ≤ w.heap.size + 1; omega) _, by simpa [World.setCell] using h4⟩
  · unfold CnRow at *
    simp [World.setCell, Array.getElem?_modify, h1]
  · unfold CnRow at *
    simp [World.setCell, Array.getElem?_modify, h2]
theorem St3.s2 {w W : World} {c : R.Cn} (h : St3 w W c) (n : Nat) {z : Int} (hz : z = (n : Int)) : St3 w (W.setCell ⟨w.heap.size + 1, 2, none⟩ (.int .i64 z)) ⟨c.b, c.u, n, c.f, c.e⟩ := by
  subst hz
  obtain ⟨h1, h2, h3, h4⟩ := h
  refine ⟨?_, ?_, h3.setCell (p := ⟨w.heap.size + 1, 2, none⟩) (by show w.heap.size ≤ w.heap.size + 1; omega) _, by simpa [World.setCell] using h4⟩
  · unfold CnRow at *
    simp [World.setCell, Array.getElem?_modify, h1]
  · unfold CnRow at *
    simp [World.setCell, Array.getElem?_modify, h2]
theorem St3.s3 {w W : World} {c : R.Cn} (h : St3 w W c) (n : Bool) : St3 w (W.setCell ⟨w.heap.size + 1, 3, none⟩ (.bool n)) ⟨c.b, c.u, c.k, n, c.e⟩ := by
  obtain ⟨h1, h2, h3, h4⟩ := h
  refine ⟨?_, ?_, h3.setCell (p := ⟨w.heap.size + 1, 3, none⟩) (by show w.heap.size ≤ w.heap.size + 1; omega) _, by simpa [World.setCell] using h4⟩
  · unfold CnRow at *
    simp [World.setCell, Array.getElem?_modify, h1]
  · unfold CnRow at *
    simp [World.setCell, Array.getElem?_modify, h2]
theorem St3.s4 {w W : World} {c : R.Cn} (h : St3 w W c) (n : Bool) : St3 w (W.setCell ⟨w.heap.size + 1, 4, none⟩ (.bool n)) ⟨c.b, c.u, c.k, c.f, n⟩ := by
  obtain ⟨h1, h2, h3, h4⟩ := h
  refine ⟨?_, ?_, h3.setCell (p := ⟨w.heap.size + 1, 4, none⟩) (by show w.heap.size ≤ w.heap.size + 1; omega) _, by simpa [World.setCell] using h4⟩
  · unfold CnRow at *
    simp [World.setCell, Array.getElem?_modify, h1]
  · unfold CnRow at *
    simp [World.setCell, Array.getElem?_modify, h2]
theorem St3.alloc {w W : World} {c : R.Cn} (h : St3 w W c) (o : Obj) : St3 w (W.alloc o) c := by
  obtain ⟨h1, h2, h3, h4⟩ := h
  have hB := (Below.refl W.heap.size W).alloc (Nat.le_refl _) o
  exact ⟨h1.below hB (by omega), h2.below hB (by omega), h3.alloc (by omega) o, by rw [World.size_alloc]; omega⟩
set_option maxHeartbeats 4000000 in
set_option maxRecDepth 100000 in
theorem add_any (x y : R.Cn) (hx : x.Fits) (hy : y.Fits) (b : Nat) (w : World) (h : Two w b x y) :
    Calls Tryd.prog 78 #[.slice (some ⟨b, 0, none⟩) 2 2] w (CnIs (x.add y) w) := by
  have hb : b < w.heap.size := (Array.getElem?_eq_some_iff.1 h).1
  have HE := Lib.hid (fun i (hi : i < 2) W (hB : Below w.heap.size w W) => Two.at ((hB.block b hb).trans h) i hi)
  have hbo := (Below.refl w.heap.size w).alloc (Nat.le_refl _) (.cells #[Value.int .i64 0, Value.int .i64 0, Value.int .i64 0, .bool false, .bool false] 96)
  have hbp := hbo.alloc (by rw [World.size_alloc]; omega) (.cells #[Value.int .i64 0, Value.int .i64 0, Value.int .i64 0, .bool false, .bool false] 96)
  have z1 := World.size_alloc w (.cells #[Value.int .i64 0, Value.int .i64 0, Value.int .i64 0, .bool false, .bool false] 96)
  have z2 := World.size_alloc (w.alloc (.cells #[Value.int .i64 0, Value.int .i64 0, Value.int .i64 0, .bool false, .bool false] 96)) (.cells #[Value.int .i64 0, Value.int .i64 0, Value.int .i64 0, .bool false, .bool false] 96)
  have r0 : CnRow ((w.alloc (.cells #[Value.int .i64 0, Value.int .i64 0, Value.int .i64 0, .bool false, .bool false] 96)).alloc (.cells #[Value.int .i64 0, Value.int .i64 0, Value.int .i64 0, .bool false, .bool false] 96)) w.heap.size R.Cn.none := (Lib.alloc_old (w.alloc (.cells #[Value.int .i64 0, Value.int .i64 0, Value.int .i64 0, .bool false, .bool false] 96)) (.cells #[Value.int .i64 0, Value.int .i64 0, Value.int .i64 0, .bool false, .bool false] 96) w.heap.size (by omega)).trans (CnRow.new w R.Cn.none)
  have r1 : CnRow ((w.alloc (.cells #[Value.int .i64 0, Value.int .i64 0, Value.int .i64 0, .bool false, .bool false] 96)).alloc (.cells #[Value.int .i64 0, Value.int .i64 0, Value.int .i64 0, .bool false, .bool false] 96)) (w.heap.size + 1) R.Cn.none := CnRow.new2 w _ R.Cn.none
  have HX := Lib.hid (And.intro hx hy)
  rw [← R.add_none x y hx]
  clear hx hy h hbo
  have h2 : w.heap.size + 2 ≤ ((w.alloc (.cells #[Value.int .i64 0, Value.int .i64 0, Value.int .i64 0, .bool false, .bool false] 96)).alloc (.cells #[Value.int .i64 0, Value.int .i64 0, Value.int .i64 0, .bool false, .bool false] 96)).heap.size := by omega
  clear z1 z2
  go_enter Tryd.func78, Tryd.ntmps78
  go_wp2_with fail
  generalize (w.alloc (.cells #[Value.int .i64 0, Value.int .i64 0, Value.int .i64 0, .bool false, .bool false] 96)).alloc (.cells #[Value.int .i64 0, Value.int .i64 0, Value.int .i64 0, .bool false, .bool false] 96) = W0 at *
  go_loopw [8] (fun p wr => ∃ i : Nat, p = .int .i64 (i : Int) ∧ i ≤ 2 ∧ Hid (St3 w wr (acc x y i))) (fun p _ => 2 - (RowKit.intOf p).toNat)
  case atStart => exact ⟨0, rfl, by omega, Lib.hid ⟨r0, r1, hbp, h2⟩⟩
  case round =>
    obtain ⟨i, rfl, hi, HR⟩ := hrel
    by_cases hlt : i < 2
    · obtain ⟨c, hc, e0, e1, e2, e3, e4⟩ := HE.out i hlt wr HR.out.2.2.1
      obtain ⟨f0, f1, f2, f3, f4⟩ := HR.out.2.1.cnAt
      have hs := acc_step x y i hlt
      have ha := acc_fits x y HX.out.1 i hlt
      have hcf : c.Fits := by
        rw [hc]
        split
        · exact HX.out.1
        · exact HX.out.2
      rw [← hc] at hs
      have HS := Lib.hid hs
      clear hc hs
      generalize acc x y i = a at *
      have hi2 : (0 : Int) ≤ (i : Int) := Int.natCast_nonneg i
      have hi3 : (i : Int) < 2 := by omega
      obtain ⟨hab, hau, hak, hae, haz⟩ := ha
      obtain ⟨hcb, hcu, hck, hce, hcz⟩ := hcf
      obtain ⟨ab, au, ak, af, ae⟩ := a
      obtain ⟨cb, cu, ck, cf, ce⟩ := c
      dsimp only at *
      have hS := St3.alloc HR.out (.cells #[.int .i64 (cb : Nat), .int .i64 (cu : Nat), .int .i64 (ck : Nat), .bool cf, .bool ce] 96)
      have rr1 := hS.2.1
      have HSt := Lib.hid hS
      obtain ⟨g0, g1, g2, g3, g4⟩ := rr1.cnAt
      obtain ⟨z0, z1, z2, z3, z4⟩ := rr1.frz
      dsimp only at *
      have hne : ¬ wr.heap.size = w.heap.size + 1 := by have := HR.out.2.2.2; omega
      have hne' : ¬ w.heap.size + 1 = wr.heap.size := fun e => hne e.symm
      clear rr1 hS HR
      by_cases c0 : cb = 0
      · have k0 : (((cb : Nat) : Int) == 0) = true := by rw [c0]; rfl
        have hs' : acc x y (i + 1) = ⟨ab, au, ak, af, ae⟩ := by
          rw [HS.out]; unfold R.Cn.add; rw [if_pos c0]
          by_cases a0 : ab = 0
          · rw [if_pos a0, haz a0]
          · rw [if_neg a0]
        have HS' := Lib.hid hs'
        clear hs' HS hcz haz c0 hae hce
        go_wp2_with fail
        exact ⟨⟨i + 1, by go_num, by omega, Lib.hid (by rw [HS'.out]; exact HSt.out)⟩, by simp [RowKit.intOf]; omega⟩
      · have k0 : (((cb : Nat) : Int) == 0) = false := by simpa using c0
        by_cases a0 : ab = 0
        · have hz := haz a0
          cases hz
          have hs' : acc x y (i + 1) = ⟨cb, cu, ck, cf, ce⟩ := by
            rw [HS.out]; unfold R.Cn.add; rw [if_neg c0, if_pos a0]
          have HS' := Lib.hid hs'
          clear hs' HS hcz haz c0 hae hce a0
          go_wp2_with fail
          exact ⟨⟨i + 1, by go_num, by omega, Lib.hid (by rw [HS'.out]; exact ((((HSt.out.s3 cf).s0 cb (by go_num)).s1 cu (by go_num)).s2 ck (by go_num)).s4 ce)⟩, by simp [RowKit.intOf]; omega⟩
        · have k1 : (((ab : Nat) : Int) == 0) = false := by simpa using a0
          have hs' : acc x y (i + 1) = ⟨ab + cb, au + cu, ak + ck - (if (ae && cf) = true then 1 else 0), af, ce⟩ := by
            rw [HS.out]; unfold R.Cn.add; rw [if_neg c0, if_neg a0]
          cases ae
          · have HS' := Lib.hid hs'
            clear hs' HS hcz haz c0 hae hce a0
            go_wp2_with fail
            exact ⟨⟨i + 1, by go_num, by omega, Lib.hid (by rw [HS'.out]; exact (((HSt.out.s0 (ab + cb) (by go_num)).s1 (au + cu) (by go_num)).s2 (ak + ck) (by go_num)).s4 ce)⟩, by simp [RowKit.intOf]; omega⟩
          · cases cf
            · have HS' := Lib.hid hs'
              clear hs' HS hcz haz c0 hae hce a0
              go_wp2_with fail
              exact ⟨⟨i + 1, by go_num, by omega, Lib.hid (by rw [HS'.out]; exact (((HSt.out.s0 (ab + cb) (by go_num)).s1 (au + cu) (by go_num)).s2 (ak + ck) (by go_num)).s4 ce)⟩, by simp [RowKit.intOf]; omega⟩
            · have HS' := Lib.hid hs'
              have hk1 := hae rfl
              clear hs' HS hcz haz c0 hae hce a0
              go_wp2_with fail
              exact ⟨⟨i + 1, by go_num, by omega, Lib.hid (by rw [HS'.out]; exact ((((HSt.out.s2 (ak - 1) (by go_num)).s0 (ab + cb) (by go_num)).s1 (au + cu) (by go_num)).s2 (ak + ck - 1) (by go_num)).s4 ce)⟩, by simp [RowKit.intOf]; omega⟩
    · obtain rfl : i = 2 := by omega
      obtain ⟨f0, f1, f2, f3, f4⟩ := HR.out.2.1.cnAt
      have hr := HR.out.1
      have hB2 := below_setRow HR.out.2.2.1 (Nat.le_refl w.heap.size)
      have HB2 := Lib.hid hB2
      clear hB2
      go_wp2_with (refine wpList_store_row rfl 96 _ _ rfl (w.heap.size) #[Value.int .i64 (((acc x y 2).b : Nat) : Int), Value.int .i64 (((acc x y 2).u : Nat) : Int), Value.int .i64 (((acc x y 2).k : Nat) : Int), Value.bool (acc x y 2).f, Value.bool (acc x y 2).e] (by rfl) (by rfl) 96 _ hr info_counts rfl (one_counts _) ?_)
      exact cn_ret (by rfl) _ _ w.heap.size (acc x y 2) (by rfl) rfl (hr.set _) ⟨rfl, HB2.out _⟩
end Go.Proofs.YtjeopabnddekgaaDoor

namespace Go.Proofs.YtjeopabnddekgaaDoor
open Go Go.RowKit Go.Lib

theorem at_byte {s : ByteArray} {i : Nat} (h : i < s.size) : s[i].toNat = (s.get! i).toNat := by rw [L.at_get h]

set_option maxHeartbeats 400000 in
set_option maxRecDepth 100000 in
theorem contentEnd_any (s : ByteArray) (i : Nat) (w : World) (hi : i ≤ s.size) (hs : s.size ≤ 1000000000000) :
    Calls Tryd.prog 99 #[.string s, .int .i64 i] w fun e w' => e = .returned (.int .i64 (L.ce s i)) ∧ w = w' := by
  go_enter Tryd.func99, Tryd.ntmps99
  go_wp2_with fail
  go_loop [5] (fun p => ∃ q : Nat, p = .int .i64 q ∧ q ≤ s.size ∧ Hid (L.ce s q = L.ce s i)) (fun p => s.size - (RowKit.intOf p).toNat)
  case atStart => exact ⟨i, rfl, hi, Lib.hid rfl⟩
  case round =>
    obtain ⟨q, rfl, hq, HU⟩ := hrel
    by_cases hlt : q < s.size
    · have hb := at_byte hlt
      cases hk : L.brk s q
      · have HS := Lib.hid (L.ce_step hlt hk)
        obtain ⟨n1, n2⟩ := L.of_nbrk hk
        rw [← hb] at n1 n2
        have e1 : ((s[q].toNat : Int) != 10) = true := by simp; omega
        have e2 : ((s[q].toNat : Int) != 13) = true := by simp; omega
        clear hk hb n1 n2
        go_wp2_with fail
        go_round
        case rel => exact ⟨q + 1, by go_num, by omega, Lib.hid (by rw [← HS.out]; exact HU.out)⟩
        case measure => simp [RowKit.intOf]; omega
      · have HS := Lib.hid (L.ce_brk hlt hk)
        have HR : Hid (q = L.ce s i) := Lib.hid (by rw [← HU.out, HS.out])
        have hc := L.of_brk hk
        rw [← hb] at hc
        clear hk hb
        rcases hc with hc | hc
        · have e1 : ((s[q].toNat : Int) != 10) = false := by simp; omega
          clear hc
          go_wp2_with fail
          go_ret
          exact ⟨by rw [← HR.out]; rfl, rfl⟩
        · have e1 : ((s[q].toNat : Int) != 10) = true := by simp; omega
          have e2 : ((s[q].toNat : Int) != 13) = false := by simp; omega
          clear hc
          go_wp2_with fail
          go_ret
          exact ⟨by rw [← HR.out]; rfl, rfl⟩
    · have HR : Hid (q = L.ce s i) := Lib.hid (by rw [← HU.out, L.ce_end hlt])
      go_wp2_with fail
      go_ret
      exact ⟨by rw [← HR.out]; rfl, rfl⟩

set_option maxHeartbeats 400000 in
set_option maxRecDepth 100000 in
theorem nextStart_any (s : ByteArray) (i : Nat) (w : World) (hi : i < s.size) (hs : s.size ≤ 1000000000000) :
    Calls Tryd.prog 100 #[.string s, .int .i64 i] w fun e w' => e = .returned (.int .i64 (L.nx s i)) ∧ w = w' := by
  have hb := at_byte hi
  cases hp : L.pair s i
  · have hn := L.of_npair hp
    rw [L.nx_one hp]
    clear hp
    rw [← hb] at hn
    by_cases h1 : s[i].toNat = 13
    · have e1 : ((s[i].toNat : Int) == 13) = true := by simp; omega
      by_cases h2 : i + 1 < s.size
      · have hb2 := at_byte h2
        have h3 : ¬ s[i + 1].toNat = 10 := by rw [hb2]; omega
        have e2 : ((s[i + 1].toNat : Int) == 10) = false := by simp; omega
        clear hn h1 hb hb2 h3
        go_enter Tryd.func100, Tryd.ntmps100
        go_wp2_with fail
        go_ret
        exact ⟨by go_num, rfl⟩
      · clear hn h1 hb
        go_enter Tryd.func100, Tryd.ntmps100
        go_wp2_with fail
        go_ret
        exact ⟨by go_num, rfl⟩
    · have e1 : ((s[i].toNat : Int) == 13) = false := by simp; omega
      clear hn h1 hb
      go_enter Tryd.func100, Tryd.ntmps100
      go_wp2_with fail
      go_ret
      exact ⟨by go_num, rfl⟩
  · obtain ⟨h1, h2, h3⟩ := L.of_pair hp
    rw [L.nx_pair hp]
    clear hp
    have hb2 := at_byte h2
    rw [← hb] at h1
    rw [← hb2] at h3
    have e1 : ((s[i].toNat : Int) == 13) = true := by simp; omega
    have e2 : ((s[i + 1].toNat : Int) == 10) = true := by simp; omega
    clear h1 h3 hb hb2
    go_enter Tryd.func100, Tryd.ntmps100
    go_wp2_with fail
    go_ret
    exact ⟨by go_num, rfl⟩
end Go.Proofs.YtjeopabnddekgaaDoor
