/- LexPlaces: where tokens stand, which has a place, which one counts next, of any list. Conditions: the table of kinds as the program's text lays it. -/
import Derived.Test.YthglpfmbmmlbjaaDoorLxRefN
import Derived.Test.YthglpfmbmmlbjaaDoorLxCopy
import Derived.Test.YthglpfmbmmlbjaaDoorLxSame
import Derived.Test.YthglpfmbmmlbjaaDoorLxOpen
namespace Go.Proofs
open Go Go.RowKit Go.Lib
namespace YthglpfmbmmlbjaaDoor
def TrueIs (w : World) (e : Ending) (w' : World) : Prop := e = .returned (.bool true) ∧ Below w.heap.size w w'
def tiC (t : TkI) : List Value := [.int .u8 (t.k : Int), .int .i64 t.w, .int .i64 t.l]
def tiCells (ts : List TkI) : List Value := ts.flatMap tiC
theorem tiCells_len (ts : List TkI) : (tiCells ts).length = ts.length * 3 := by
  induction ts with
  | nil => rfl
  | cons t r ih => rw [show tiCells (t :: r) = tiC t ++ tiCells r by simp [tiCells], List.length_append, ih, List.length_cons]; show 3 + _ = _; omega
theorem tiCells_at (ts : List TkI) (j : Nat) (t : TkI) (h : ts[j]? = some t) : (tiCells ts)[j * 3]? = some (.int .u8 (t.k : Int)) ∧ (tiCells ts)[j * 3 + 1]? = some (.int .i64 t.w) ∧ (tiCells ts)[j * 3 + 2]? = some (.int .i64 t.l) := by
  induction ts generalizing j with
  | nil => cases h
  | cons x r ih =>
    have e : tiCells (x :: r) = .int .u8 (x.k : Int) :: .int .i64 x.w :: .int .i64 x.l :: tiCells r := by simp [tiCells, tiC]
    rw [e]
    cases j with
    | zero => cases h; exact ⟨rfl, rfl, rfl⟩
    | succ j =>
      have := ih j h
      rw [show (j + 1) * 3 = j * 3 + 3 by omega]
      exact this
theorem rd_tiCells {W : World} {z : Option Addr} {n cap : Nat} {ts : List TkI} (h : RdT W (.slice z n cap) ts) : ∀ (j : Nat) (u : Value), (tiCells ts)[j]? = some u → ∃ ad, z = some ad ∧ W.cell? (ad.add j) = some u := fun j u hu => by
  obtain ⟨z2, c2, hv, _, _, _, _, hr⟩ := h
  cases hv
  have hj := (List.getElem?_eq_some_iff.1 hu).1
  rw [tiCells_len] at hj
  obtain ⟨t, ht⟩ : ∃ t, ts[j / 3]? = some t := ⟨_, List.getElem?_eq_getElem (by omega)⟩
  obtain ⟨b, o, hz, _, c0, c1, c2⟩ := hr (j / 3) t ht
  have hc := tiCells_at ts (j / 3) t ht
  refine ⟨_, hz, ?_⟩
  have hadd : (⟨b, o, none⟩ : Addr).add j = ⟨b, o + j, none⟩ := by unfold Addr.add; split <;> simp_all
  rw [hadd]
  have h3 : j = j / 3 * 3 ∨ j = j / 3 * 3 + 1 ∨ j = j / 3 * 3 + 2 := by omega
  rcases h3 with e | e | e
  · rw [e] at hu ⊢; rw [hc.1] at hu; rw [← hu, ← c0]
  · rw [e] at hu ⊢; rw [hc.2.1] at hu; rw [← hu, ← c1, Nat.add_assoc]
  · rw [e] at hu ⊢; rw [hc.2.2] at hu; rw [← hu, ← c2, Nat.add_assoc]
theorem copy_rd {N : Nat} {W : World} {v : Value} {ts : List TkI} (h : CopyOf N W v ts.length (tiCells ts)) (hn : ts.length ≤ 1000000000) (hok : ∀ t ∈ ts, t.Ok) : RdT W v ts := by
  obtain ⟨z, c, rfl, g1, g2, hr⟩ := h
  refine ⟨z, c, rfl, g1, by unfold maxLen at g2; omega, by omega, hok, fun j t hj => ?_⟩
  have hc := tiCells_at ts j t hj
  obtain ⟨b, hz, _, hb, c0⟩ := hr _ _ hc.1
  obtain ⟨b1, hz1, _, _, c1⟩ := hr _ _ hc.2.1
  obtain ⟨b2, hz2, _, _, c2⟩ := hr _ _ hc.2.2
  rw [hz] at hz1 hz2
  cases hz1
  cases hz2
  exact ⟨b, 0, hz, hb, by rw [Nat.zero_add]; exact c0, by rw [Nat.zero_add]; exact c1, by rw [Nat.zero_add]; exact c2⟩
theorem infoTok9 : (Tryd.prog.info? 34).map (fun i => (i.zero, i.size, i.bytes)) = some (some (.agg #[.int .u8 0, .int .i64 0, .int .i64 0]), 3, 24) := by kernel_rfl
theorem below_dp {n : Nat} {a w : World} (h : Below n a w) (q : Nat) : Below n a (w.drewN q) := ⟨h.os, h.tape, h.output, h.size, h.block⟩
set_option maxHeartbeats 2000000 in
set_option maxRecDepth 100000 in
theorem placesLaw_any (v : Value) (ts : List TkI) (p n k9 : Int) (w : World) (hrd : RdT w v ts) (hp : -9223372036854775808 ≤ p ∧ p ≤ 9223372036854775807) (hn : -9223372036854775808 ≤ n ∧ n ≤ 9223372036854775807) (hk : 0 ≤ k9 ∧ k9 ≤ 255) (hT : Trv w) : Calls Tryd.prog 3 #[v, .int .i64 p, .int .i64 n, .int .u8 k9] w (TrueIs w) := by
  obtain ⟨k, rfl⟩ : ∃ k : Nat, k9 = (k : Int) := ⟨k9.toNat, by omega⟩
  have hk2 : k < 256 := by omega
  have HRd := Lib.hid hrd
  have HTv := Lib.hid hT
  obtain ⟨z, cap, rfl, q1, q2, q3, q4, _⟩ := hrd
  by_cases hbig : 20000 < ts.length
  · have i1 : (20000 : Int) < (ts.length : Int) := by omega
    clear hbig hT
    go_enter Tryd.func3, Tryd.ntmps3
    go_wp2_with fail
    go_ret
    exact ⟨rfl, Below.refl _ _⟩
  have i1 : ¬ (20000 : Int) < (ts.length : Int) := by omega
  have hl : ts.length ≤ 20000 := by omega
  obtain ⟨i0, hi0, hz0, hz1, hz2⟩ := info_parts infoTok9
  have HOk := Lib.hid q4
  have hb0 : Below w.heap.size w (w.alloc (.cells #[] 34)) := (Below.refl w.heap.size w).alloc (Nat.le_refl _) _
  have H0 := Lib.hid hb0
  have hnews := rd_tiCells (HRd.out.below hb0)
  have HNews := Lib.hid hnews
  have HLn := Lib.hid (tiCells_len ts)
  clear hbig hT hb0 hnews q4 hk
  go_enter Tryd.func3, Tryd.ntmps3
  go_wp2_with (refine wpList_append_copy (w := w.alloc (.cells #[] 34)) rfl _ _ 22 rfl 34 i0 _ 3 24 Tryd.underlying22 hi0 hz0 hz1 hz2 ⟨w.heap.size, 0, none⟩ (by rfl) z ts.length cap (by rfl) (tiCells ts) HLn.out (by decide) HNews.out (by omega) (by omega) ?_)
  intro v1 w1 hcp hB1
  have hr1 := copy_rd hcp (by omega) HOk.out
  have hBw := H0.out.trans (hB1.mono (Nat.le_succ _))
  have HR1 := Lib.hid hr1
  have HB1 := Lib.hid hBw
  have HRw := Lib.hid (HRd.out.below hBw)
  have hsp := spans_any v1 ts w1 hr1 (by omega)
  clear hcp hB1 hBw hz0 hz1 hz2 hi0 hr1
  go_wp2_with fail
  refine hsp.mono ?_
  rintro e w2 ⟨g, rfl, _, hrow, hB2⟩
  have hrs := refSpans_any (.slice z ts.length cap) ts w2 (HRw.out.below hB2) (by omega)
  have HSa := Lib.hid hrow.rd
  have HB2 := Lib.hid hB2
  clear hsp hrow hB2
  go_wp2_with fail
  refine hrs.mono ?_
  rintro e w3 ⟨v3, rfl, hs3, hB3⟩
  have hB13 := HB2.out.trans (hB3.mono HB2.out.size)
  have HSa3 := Lib.hid (HSa.out.below hB3)
  have HSb3 := Lib.hid hs3
  have HB3 := Lib.hid hB13
  obtain ⟨z3, c3, rfl, _⟩ := hs3
  have el : ((ts.length : Int) != (ts.length : Int)) = false := by simp
  clear hrs hB3 hB13
  go_wp2_with fail
  go_loopw [12] (fun q wr => ∃ i : Nat, q = .int .i64 i ∧ i ≤ ts.length ∧ Hid (Below w3.heap.size w3 wr)) (fun q _ => ts.length - (RowKit.intOf q).toNat)
  case atStart => exact ⟨0, rfl, Nat.zero_le _, Lib.hid (Below.refl _ _)⟩
  case round =>
    obtain ⟨i, rfl, hi, HW⟩ := hrel
    by_cases hlt : i < ts.length
    · obtain ⟨za, ca, he, hra⟩ := HSa3.out.below HW.out
      injection he with h1 h2 h3
      subst h1 h3
      obtain ⟨ba, oa, hz9, _, c0, c1⟩ := hra i hlt
      cases hz9
      obtain ⟨zb, cb, he, hrb⟩ := HSb3.out.below HW.out
      injection he with h1 h2 h3
      subst h1 h3
      obtain ⟨bb, ob, hz9, _, d0, d1⟩ := hrb i hlt
      subst hz9
      have i2 : (i : Int) < (ts.length : Int) := by omega
      have j0 : (0 : Int) ≤ (i : Int) := Int.natCast_nonneg i
      have HL := Lib.hid hlt
      generalize D.spAt ts i = x at *
      generalize D.spAt ts (i + 1) = y at *
      rw [Nat.zero_add] at c0 c1
      clear hra hrb hlt
      go_wp2_with fail
      go_quiet (fail)
      go_wp2_with fail
      go_roundw
      case rel => exact ⟨i + 1, by go_num, HL.out, Lib.hid (below_dp HW.out _)⟩
      case measure => have := HL.out; simp [RowKit.intOf]; omega
    · have i2 : ¬ (i : Int) < (ts.length : Int) := by omega
      have b4 := HB3.out.trans (HW.out.mono HB3.out.size)
      have bw := HB1.out.trans (b4.mono HB1.out.size)
      have hAt := at_any v1 ts p hp wr (HR1.out.below b4)
      have HB4 := Lib.hid (And.intro b4 bw)
      obtain ⟨b, hb⟩ : ∃ b : Bool, b = true := ⟨true, rfl⟩
      clear hlt b4 bw
      go_wp2_with fail
      refine hAt.mono ?_
      rintro e w5 ⟨rfl, hB5⟩
      have b5 := HB4.out.1.trans (hB5.mono HB4.out.1.size)
      have bw5 := HB4.out.2.trans (hB5.mono HB4.out.2.size)
      have hAt2 := refAt_any (.slice z ts.length cap) ts p hp w5 (HRd.out.below bw5) (by omega)
      have HB5 := Lib.hid (And.intro b5 bw5)
      generalize D.atI ts p = xa at *
      clear hAt b5 bw5 hB5
      go_wp2_with fail
      refine hAt2.mono ?_
      rintro e w6 ⟨rfl, hB6⟩
      have b6 := HB5.out.1.trans (hB6.mono HB5.out.1.size)
      have bw6 := HB5.out.2.trans (hB6.mono HB5.out.2.size)
      have hNx := next_any v1 ts n hn w6 (HR1.out.below b6) (HTv.out.below bw6)
      have HB6 := Lib.hid (And.intro b6 bw6)
      clear hAt2 b6 bw6 hB6
      go_wp2_with fail
      refine hNx.mono ?_
      rintro e w7 ⟨rfl, hS⟩
      obtain rfl : w7 = w6 := hS
      have hNx2 := refNext_list (.slice z ts.length cap) ts n hn w7 (HRd.out.below HB6.out.2)
      generalize D.nx ts n = xn at *
      clear hNx
      go_wp2_with fail
      refine hNx2.mono ?_
      rintro e w8 ⟨rfl, hS⟩
      obtain rfl : w8 = w7 := hS
      have hC := counts_any k hk2 w8 (HTv.out.below HB6.out.2)
      clear hNx2
      go_wp2_with fail
      refine hC.mono ?_
      rintro e w9 ⟨rfl, rfl⟩
      have hC2 := refCounts_any k hk2 w8
      generalize D.cnt k = ck at *
      clear hC
      go_wp2_with fail
      refine hC2.mono ?_
      rintro e w9 ⟨rfl, rfl⟩
      have hSm := same_any v1 (.slice z ts.length cap) ts ts true ⟨fun _ => rfl, fun _ => rfl⟩ w8 (HR1.out.below HB6.out.1) (HRd.out.below HB6.out.2)
      clear hC2
      go_wp2_with fail
      refine hSm.mono ?_
      rintro e w10 ⟨rfl, hB10⟩
      have hB10 : Below w8.heap.size w8 w10 := hB10
      go_wp2_with fail
      go_ret
      exact ⟨rfl, HB6.out.2.trans (hB10.mono HB6.out.2.size)⟩
end YthglpfmbmmlbjaaDoor
end Go.Proofs
