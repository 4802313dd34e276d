/- LexLooks: a token hangs on its own bytes, and those that were looked at. Conditions: the table of kinds as the program's text lays it. -/
import Derived.Test.YthglpfmbmmlbjaaDoorLxAwake
import Derived.Test.YthglpfmbmmlbjaaDoorLxSpans
import Derived.Test.YthglpfmbmmlbjaaDoorLxPureB
namespace Go.Proofs
open Go Go.RowKit Go.Lib
namespace YthglpfmbmmlbjaaDoor
def TrueIs (w : World) (e : Ending) (w' : World) : Prop := e = .returned (.bool true) ∧ Below w.heap.size w w'
theorem below_dq {a w : World} {n : Nat} (h : Below n a w) (q : Nat) : Below n a (w.drewN q) := ⟨h.os, h.tape, h.output, h.size, h.block⟩
theorem mod_is (n : Int) (L : Nat) (h : 0 < L) (hL : L ≤ 1000000000000) : ∃ m : Nat, m < L ∧ wrap64 ((IntKind.u64.wrap n).tmod (L : Int)) = (m : Int) := by
  have h0 : 0 ≤ IntKind.u64.wrap n := by rw [IntKind.wrap_u64]; omega
  obtain ⟨u, hu⟩ : ∃ u : Nat, IntKind.u64.wrap n = (u : Int) := ⟨(IntKind.u64.wrap n).toNat, by omega⟩
  refine ⟨u % L, Nat.mod_lt _ h, ?_⟩
  have h2 : u % L < L := Nat.mod_lt _ h
  rw [hu]
  show wrap64 (((u % L : Nat) : Int)) = _
  unfold wrap64
  omega
/-- a text's tokens, read -/
theorem rdT_all {s : ByteArray} {w w' : World} {v : Value} (hs : s.size ≤ 1000000000000) (hown : w'.ownsRow w.heap.size 34 3 v (D.toks s).length (tksCells (D.toks s))) : RdT w' v ((D.toks s).map D.Tk.i) :=
  rdT_own hown (by have := D.toks_len s; omega) (fun t ht => by have := D.tkF_mem s s.size 0 t ht; omega)
set_option maxHeartbeats 2000000 in
set_option maxRecDepth 100000 in
theorem looksLaw12_any (s m : ByteArray) (n : Int) (hs : s.size ≤ 1000000000000000) (hm : m.size ≤ 1000000000000000) (hn : -9223372036854775808 ≤ n ∧ n ≤ 9223372036854775807) (w : World) (hT : Trv w) : Calls Tryd.prog 5 #[.string s, .string m, .int .i64 n] w (TrueIs w) := by
  have HA := Lib.hid (fun W (hW : Below w.heap.size w W) => awake12_any W (hT.below hW))
  have HL := Lib.hid (fun (x : ByteArray) (h : x.size ≤ 1000000000000) W => all_any x W h)
  clear hT
  by_cases hbig : 4000 < s.size
  · have i1 : (4000 : Int) < (s.size : Int) := by omega
    clear hbig
    go_enter Tryd.func5, Tryd.ntmps5
    go_wp2_with fail
    refine (HA.out _ (Below.refl _ _)).mono ?_
    rintro e w1 ⟨rfl, hb1⟩
    go_wp2_with fail
    go_ret
    exact ⟨rfl, hb1⟩
  have i1 : ¬ (4000 : Int) < (s.size : Int) := by omega
  by_cases hbig2 : 4000 < m.size
  · have i2 : (4000 : Int) < (m.size : Int) := by omega
    clear hbig hbig2
    go_enter Tryd.func5, Tryd.ntmps5
    go_wp2_with fail
    refine (HA.out _ (Below.refl _ _)).mono ?_
    rintro e w1 ⟨rfl, hb1⟩
    go_wp2_with fail
    go_ret
    exact ⟨rfl, hb1⟩
  have i2 : ¬ (4000 : Int) < (m.size : Int) := by omega
  have i3 : s.size ≤ 4000 := by omega
  have i4 : m.size ≤ 4000 := by omega
  have hlen := D.toks_len s
  clear hbig hbig2 hs hm
  go_enter Tryd.func5, Tryd.ntmps5
  go_wp2_with fail
  refine (HL.out s (by omega) w).mono ?_
  rintro e w1 ⟨v, rfl, hown, hnil, hB⟩
  have hrd := rdT_all (by omega) hown
  have HRd := Lib.hid hrd
  have HB := Lib.hid hB
  obtain ⟨z, cap, rfl, q1, q2, q3, q4, _⟩ := hrd
  rw [List.length_map] at *
  clear hown hB q4 hnil
  by_cases h0 : (D.toks s).length = 0
  · have e0 : (((D.toks s).length : Int) == 0) = true := by rw [h0]; rfl
    clear h0
    go_wp2_with fail
    refine (HA.out _ HB.out).mono ?_
    rintro e w2 ⟨rfl, hb2⟩
    go_wp2_with fail
    go_ret
    exact ⟨rfl, HB.out.trans (hb2.mono HB.out.size)⟩
  have e0 : (((D.toks s).length : Int) == 0) = false := by rw [beq_eq_false_iff_ne]; omega
  have hpos : 0 < (D.toks s).length := by omega
  obtain ⟨j, hjL, hje⟩ := mod_is n (D.toks s).length hpos (by omega)
  obtain ⟨p, hAt, hsp⟩ := D.at_n s (by omega) j (by omega)
  have hjl : ((D.toks s).take j).length = j := by rw [List.length_take]; omega
  have hp : p < s.size := by
    refine Decidable.byContradiction fun hp => ?_
    have := congrArg List.length (hAt.done hp)
    omega
  have hnx := hAt.next hp
  rw [hjl] at hnx
  have hat := D.tok_at hp
  have hsp2 := D.spAt_succ (show ((D.toks s).map D.Tk.i)[j]? = some (D.tok (s.extract p s.size)).i by rw [List.getElem?_map, hnx.1]; rfl)
  have hto : D.spAt ((D.toks s).map D.Tk.i) (j + 1) = ((p + (D.tok (s.extract p s.size)).w : Nat) : Int) := by
    rw [hsp2, hsp]
    unfold D.enI
    show min ((p : Int) + min (max ((D.tok (s.extract p s.size)).w : Int) 0) 1099511627776) 1099511627776 = _
    omega
  have hz : (s.extract p s.size).size = s.size - p := by rw [ByteArray.size_extract]; omega
  have HLook := Lib.hid (D.tok_looks (s.extract p s.size) m (by omega))
  have hex : (s.extract p s.size).extract 0 ((D.tok (s.extract p s.size)).w + (D.tok (s.extract p s.size)).l) = s.extract p (min (p + ((D.tok (s.extract p s.size)).w + (D.tok (s.extract p s.size)).l)) s.size) := by
    rw [ByteArray.extract_extract, Nat.add_zero]
  have HSps := Lib.hid (fun W (hW : Below w1.heap.size w1 W) => spans_any (.slice z (D.toks s).length cap) ((D.toks s).map D.Tk.i) W (HRd.out.below hW) (by rw [List.length_map]; omega))
  have HEx := Lib.hid hex
  have HTp := Lib.hid (D.toks_pos (s := s.extract p s.size) (by omega))
  have HTq := Lib.hid (fun (x : ByteArray) (hx : 0 < x.size) => D.toks_pos hx)
  have HSP := Lib.hid (And.intro hsp (And.intro hto hnx.1))
  have HHL := Lib.hid (show ((D.toks s).map D.Tk.i).length = (D.toks s).length from List.length_map _)
  generalize htt : D.tok (s.extract p s.size) = t at *
  have HTT := Lib.hid htt
  obtain ⟨tk, tw, tl⟩ := t
  simp only at hat hto HLook HEx HSP
  have j1 : (j : Int) < ((D.toks s).length : Int) := by omega
  have j0 : (0 : Int) ≤ (j : Int) := Int.natCast_nonneg _
  have j2 : j < (D.toks s).length := hjL
  clear hnx hsp hto hsp2 hjl hex htt hAt hpos h0
  go_upto_region 7 with fail
  rw [hje]
  go_wp2_with fail
  refine (HSps.out _ (Below.refl _ _)).mono ?_
  rintro e w2 ⟨g, rfl, hg, hrow, hb2⟩
  rw [HHL.out] at hrow
  have hcs := hrow.cells hjL
  rw [HSP.out.1, HSP.out.2.1] at hcs
  obtain ⟨s0, s1⟩ := hcs
  have hlen2 : ((D.toks s).map D.Tk.i).length = (D.toks s).length := HHL.out
  go_upto_region 8 with fail
  have n0 : (w2.alloc (.cells #[.int .i64 (p : Int), .int .i64 ((p : Int) + (tw : Int))] 26)).heap[w2.heap.size]? = some (.cells #[.int .i64 (p : Int), .int .i64 ((p : Int) + (tw : Int))] 26 (0, 0)) := heap_alloc_new w2 _
  have b3 : Below w1.heap.size w1 (w2.alloc (.cells #[.int .i64 (p : Int), .int .i64 ((p : Int) + (tw : Int))] 26)) := hb2.alloc hb2.size _
  generalize w2.alloc _ = W3 at *
  generalize w2.heap.size = N3 at *
  have y0 : W3.cell? ⟨N3, 0, none⟩ = some (.int .i64 (p : Int)) := by rw [Lib.cell_of_heap n0]; rfl
  have y1 : W3.cell? ⟨N3, 1, none⟩ = some (.int .i64 ((p : Int) + (tw : Int))) := by rw [Lib.cell_of_heap n0]; rfl
  obtain ⟨z2, c2, hzz, _, _, _, _, hr3⟩ := HRd.out.below b3
  rw [List.length_map] at hzz
  injection hzz with hz1 hz2 hz3
  subst hz1 hz3
  obtain ⟨b, o, hzb, _, l0, l1, l2⟩ := hr3 j ⟨tk, tw, tl⟩ (by rw [List.getElem?_map, HSP.out.2.2]; rfl)
  subst hzb
  simp only at l0 l1 l2
  have HB3 := Lib.hid b3
  have p1 : p ≤ s.size := by omega
  clear hr3 n0 b3 hb2 hrow s0 s1 l0 l1
  by_cases hle : p + tw + tl ≤ s.size
  · have e1 : (p : Int) + (tw : Int) + (tl : Int) ≤ (s.size : Int) := by omega
    have p2 : p ≤ p + tw + tl := by omega
    have HX := Lib.hid (show ∃ ts, D.toks (s.extract p (p + tw + tl) ++ m) = ⟨tk, tw, tl⟩ :: ts by
      have hx := HEx.out
      rw [show min (p + (tw + tl)) s.size = p + tw + tl by omega] at hx
      have h := HLook.out (by omega)
      rw [hx] at h
      exact ⟨_, by rw [HTq.out _ (by rw [ByteArray.size_append, ByteArray.size_extract]; omega), h]⟩)
    have hxs : (s.extract p (p + tw + tl) ++ m).size ≤ 1000000000000 := by rw [ByteArray.size_append, ByteArray.size_extract]; omega
    clear hle
    go_wp2_with fail
    go_quiet (fail)
    go_wp2_with fail
    go_quiet (fail)
    go_wp2_with fail
    generalize s.extract p (p + tw + tl) ++ m = x at *
    generalize hW : W3.drewN _ = W4
    have HBq := Lib.hid (show Below w1.heap.size w1 W4 by rw [← hW]; exact below_dq HB3.out _)
    clear hW
    refine (HL.out _ hxs _).mono ?_
    rintro e w5 ⟨vm, rfl, hownm, _, hB5⟩
    have hrm := rdT_all hxs hownm
    have HB5 := Lib.hid hB5
    have hBw5 := HBq.out.trans (hB5.mono HBq.out.size)
    obtain ⟨z6, c6, hzz, _, _, _, _, hr6⟩ := HRd.out.below hBw5
    rw [List.length_map] at hzz
    injection hzz with h1 h2 h3
    subst h1 h3
    obtain ⟨b9, o9, he, _, k0, k1, k2⟩ := hr6 j ⟨tk, tw, tl⟩ (by rw [List.getElem?_map, HSP.out.2.2]; rfl)
    cases he
    simp only at k0 k1 k2
    obtain ⟨zm, cm, rfl, m1, m2, m3, _, hrm⟩ := hrm
    obtain ⟨ts, hts⟩ := HX.out
    have hlm : ((D.toks x).map D.Tk.i).length = ts.length + 1 := by rw [List.length_map, hts, List.length_cons]
    rw [hlm] at m1 m3 ⊢
    obtain ⟨bm, om, rfl, _, d0, d1, d2⟩ := hrm 0 ⟨tk, tw, tl⟩ (by rw [List.getElem?_map, hts]; rfl)
    have x0 : w5.cell? ⟨bm, om, none⟩ = some (.int .u8 tk) := d0
    have x1 : w5.cell? ⟨bm, om + 1, none⟩ = some (.int .i64 tw) := d1
    have x2 : w5.cell? ⟨bm, om + 2, none⟩ = some (.int .i64 tl) := d2
    have em : ((((ts.length + 1 : Nat)) : Int) == 0) = false := by rw [beq_eq_false_iff_ne]; omega
    have em2 : (0 : Int) < ((ts.length + 1 : Nat) : Int) := by omega
    have em3 : 0 < ts.length + 1 := by omega
    generalize ts.length + 1 = lm at *
    have HBW := Lib.hid (HB.out.trans (hBw5.mono HB.out.size))
    clear hr6 hrm hownm hB5 hBw5 d0 d1 d2 hts hlm
    go_wp2_with fail
    go_quiet (fail)
    go_wp2_with fail
    refine (HA.out _ (below_dq HBW.out _)).mono ?_
    rintro e w6 ⟨rfl, hb6⟩
    go_wp2_with fail
    go_ret
    exact ⟨rfl, (below_dq HBW.out _).trans (hb6.mono HBW.out.size)⟩
  · have e1 : ¬ (p : Int) + (tw : Int) + (tl : Int) ≤ (s.size : Int) := by omega
    have HX := Lib.hid (show ∃ ts, D.toks (s.extract p s.size) = ⟨tk, tw, tl⟩ :: ts by
      exact ⟨_, HTp.out⟩)
    have hxs : (s.extract p s.size).size ≤ 1000000000000 := by rw [ByteArray.size_extract]; omega
    clear hle
    go_wp2_with fail
    go_quiet (fail)
    go_wp2_with fail
    generalize s.extract p s.size = x at *
    generalize hW : W3.drewN _ = W4
    have HBq := Lib.hid (show Below w1.heap.size w1 W4 by rw [← hW]; exact below_dq HB3.out _)
    clear hW
    refine (HL.out _ hxs _).mono ?_
    rintro e w5 ⟨vm, rfl, hownm, _, hB5⟩
    have hrm := rdT_all hxs hownm
    have HB5 := Lib.hid hB5
    have hBw5 := HBq.out.trans (hB5.mono HBq.out.size)
    obtain ⟨z6, c6, hzz, _, _, _, _, hr6⟩ := HRd.out.below hBw5
    rw [List.length_map] at hzz
    injection hzz with h1 h2 h3
    subst h1 h3
    obtain ⟨b9, o9, he, _, k0, k1, k2⟩ := hr6 j ⟨tk, tw, tl⟩ (by rw [List.getElem?_map, HSP.out.2.2]; rfl)
    cases he
    simp only at k0 k1 k2
    obtain ⟨zm, cm, rfl, m1, m2, m3, _, hrm⟩ := hrm
    obtain ⟨ts, hts⟩ := HX.out
    have hlm : ((D.toks x).map D.Tk.i).length = ts.length + 1 := by rw [List.length_map, hts, List.length_cons]
    rw [hlm] at m1 m3 ⊢
    obtain ⟨bm, om, rfl, _, d0, d1, d2⟩ := hrm 0 ⟨tk, tw, tl⟩ (by rw [List.getElem?_map, hts]; rfl)
    have x0 : w5.cell? ⟨bm, om, none⟩ = some (.int .u8 tk) := d0
    have x1 : w5.cell? ⟨bm, om + 1, none⟩ = some (.int .i64 tw) := d1
    have x2 : w5.cell? ⟨bm, om + 2, none⟩ = some (.int .i64 tl) := d2
    have em : ((((ts.length + 1 : Nat)) : Int) == 0) = false := by rw [beq_eq_false_iff_ne]; omega
    have em2 : (0 : Int) < ((ts.length + 1 : Nat) : Int) := by omega
    have em3 : 0 < ts.length + 1 := by omega
    generalize ts.length + 1 = lm at *
    have HBW := Lib.hid (HB.out.trans (hBw5.mono HB.out.size))
    clear hr6 hrm hownm hB5 hBw5 d0 d1 d2 hts hlm
    go_wp2_with fail
    go_quiet (fail)
    go_wp2_with fail
    refine (HA.out _ (below_dq HBW.out _)).mono ?_
    rintro e w6 ⟨rfl, hb6⟩
    go_wp2_with fail
    go_ret
    exact ⟨rfl, (below_dq HBW.out _).trans (hb6.mono HBW.out.size)⟩
end YthglpfmbmmlbjaaDoor
end Go.Proofs
