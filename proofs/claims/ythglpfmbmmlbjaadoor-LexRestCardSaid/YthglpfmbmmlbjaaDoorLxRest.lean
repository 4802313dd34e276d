/- LexRest: what is left of a text, from where one of its tokens begins, has the tokens from that one on. Conditions: the table of kinds as the program's text lays it. -/
import Derived.Test.YthglpfmbmmlbjaaDoorLxLooks
import Derived.Test.YthglpfmbmmlbjaaDoorLxSame
import Derived.Test.YthglpfmbmmlbjaaDoorRegMonoG
namespace Go.Proofs
open Go Go.RowKit Go.Lib
namespace YthglpfmbmmlbjaaDoor
/-- the rest of a list, as it lies -/
theorem RdT.drop {W : World} {b o cap : Nat} {ts : List TkI} (h : RdT W (.slice (some ⟨b, o, none⟩) ts.length cap) ts) {j : Nat} (hj : j ≤ ts.length) : RdT W (.slice (some ⟨b, o + j * 3, none⟩) (ts.length - j) (cap - j)) (ts.drop j) := by
  obtain ⟨z, c, hv, h1, h2, h3, h4, h5⟩ := h
  cases hv
  refine ⟨some ⟨b, o + j * 3, none⟩, cap - j, by rw [List.length_drop], by rw [List.length_drop]; omega, by omega, by rw [List.length_drop]; omega, fun t ht => h4 t (List.mem_of_mem_drop ht), fun i t hi => ?_⟩
  rw [List.getElem?_drop] at hi
  obtain ⟨b2, o2, he, hb, c0, c1, c2⟩ := h5 (j + i) t hi
  cases he
  refine ⟨b, o + j * 3, rfl, hb, ?_, ?_, ?_⟩
  · rw [show o + j * 3 + i * 3 = o + (j + i) * 3 by omega]; exact c0
  · rw [show o + j * 3 + i * 3 + 1 = o + (j + i) * 3 + 1 by omega]; exact c1
  · rw [show o + j * 3 + i * 3 + 2 = o + (j + i) * 3 + 2 by omega]; exact c2
/-- what is told of each operation of the law's last statement -/
def FRest (s r : ByteArray) (L Ld : Value) (j p : Nat) (ts : List TkI) : Nat → Value → World → Prop
  | 0, v, _ => v = .string s
  | 1, v, _ => v = L
  | 9, v, _ => v = L
  | 3, v, _ => v = .int .i64 (j : Int)
  | 10, v, _ => v = .int .i64 (j : Int)
  | 2, v, W => ∃ g, v = .slice (some ⟨g, 0, none⟩) ts.length ts.length ∧ SpRow W g ts.length ts ts.length
  | 4, v, W => ∃ g, v = .pointer (some ⟨g, j * 2, none⟩) ∧ SpRow W g ts.length ts ts.length
  | 5, v, W => ∃ g, v = .pointer (some ⟨g, j * 2, none⟩) ∧ SpRow W g ts.length ts ts.length
  | 6, v, _ => v = .int .i64 (p : Int)
  | 7, v, _ => v = .string r
  | 8, v, W => RdT W v ((D.toks r).map D.Tk.i)
  | 11, v, _ => v = Ld
  | 16, _, _ => True
  | _, v, _ => v = .bool true
theorem FRest_on (s r : ByteArray) (L Ld : Value) (j p : Nat) (ts : List TkI) : ∀ i v W W', FRest s r L Ld j p ts i v W → Below W.heap.size W W' → FRest s r L Ld j p ts i v W' := by
  intro i v W W' h hB
  unfold FRest at *
  split at h <;> first | exact h | exact ⟨_, h.choose_spec.1, h.choose_spec.2.below hB⟩ | exact RdT.below h hB | trivial
set_option maxHeartbeats 4000000 in
set_option maxRecDepth 100000 in
theorem restLaw_any (s : ByteArray) (n : Int) (hs : s.size ≤ 1000000000000000) (hn : -9223372036854775808 ≤ n ∧ n ≤ 9223372036854775807) (w : World) (hT : Trv w) : Calls Tryd.prog 6 #[.string s, .int .i64 n] w (TrueIs w) := by
  have HA := Lib.hid (fun W (hW : Below w.heap.size w W) => awake12_any W (hT.below hW))
  have HL := Lib.hid (fun (x : ByteArray) (h : x.size ≤ 1000000000000) W => all_any x W h)
  clear hT
  by_cases hbig : 4000 < s.size
  · have i1 : (4000 : Int) < (s.size : Int) := by omega
    clear hbig
    go_enter Tryd.func6, Tryd.ntmps6
    go_wp2_with fail
    refine (HA.out _ (Below.refl _ _)).mono ?_
    rintro e w1 ⟨rfl, hb1⟩
    go_wp2_with fail
    go_ret
    exact ⟨rfl, hb1⟩
  have i1 : ¬ (4000 : Int) < (s.size : Int) := by omega
  have i3 : s.size ≤ 4000 := by omega
  have hlen := D.toks_len s
  clear hbig hs
  go_enter Tryd.func6, Tryd.ntmps6
  go_wp2_with fail
  refine (HL.out s (by omega) w).mono ?_
  rintro e w1 ⟨v, rfl, hown, hnil, hB⟩
  have hrd := rdT_all (by omega) hown
  have HRd := Lib.hid hrd
  have HB := Lib.hid hB
  obtain ⟨z, cap, rfl, q1, q2, q3, q4, hr0⟩ := hrd
  rw [List.length_map] at *
  clear hown hB q4 hnil
  by_cases h0 : (D.toks s).length = 0
  · have e0 : (((D.toks s).length : Int) == 0) = true := by rw [h0]; rfl
    clear h0 hr0
    go_wp2_with fail
    refine (HA.out _ HB.out).mono ?_
    rintro e w2 ⟨rfl, hb2⟩
    go_wp2_with fail
    go_ret
    exact ⟨rfl, HB.out.trans (hb2.mono HB.out.size)⟩
  have e0 : (((D.toks s).length : Int) == 0) = false := by rw [beq_eq_false_iff_ne]; omega
  have hpos : 0 < (D.toks s).length := by omega
  obtain ⟨j, hjL, hje⟩ := mod_is n (D.toks s).length hpos (by omega)
  obtain ⟨p, hAt, hsp⟩ := D.at_n s (by omega) j (by omega)
  have hjl : ((D.toks s).take j).length = j := by rw [List.length_take]; omega
  have hte := D.toks_ext hAt
  rw [hjl] at hte
  have hp := hAt.1
  obtain ⟨x0, hx0⟩ : ∃ x0, ((D.toks s).map D.Tk.i)[j]? = some x0 := ⟨_, List.getElem?_eq_getElem (by rw [List.length_map]; exact hjL)⟩
  obtain ⟨b, o, rfl, _, _, _, _⟩ := hr0 j x0 hx0
  have hdrop := fun W (hW : Below w1.heap.size w1 W) => RdT.drop (W := W) (b := b) (o := o) (cap := cap) (ts := (D.toks s).map D.Tk.i) (by rw [List.length_map]; exact HRd.out.below hW) (j := j) (by rw [List.length_map]; omega)
  have hsps := fun W (hW : Below w1.heap.size w1 W) => spans_any (.slice (some ⟨b, o, none⟩) (D.toks s).length cap) ((D.toks s).map D.Tk.i) W (HRd.out.below hW) (by rw [List.length_map]; omega)
  have hxs : (s.extract p s.size).size ≤ 1000000000000 := by rw [ByteArray.size_extract]; omega
  have HDrop := Lib.hid hdrop
  have HSps := Lib.hid hsps
  have HTe := Lib.hid hte
  have HSP := Lib.hid hsp
  have HJL := Lib.hid hjL
  have HHL := Lib.hid (show ((D.toks s).map D.Tk.i).length = (D.toks s).length from List.length_map _)
  have j1 : (j : Int) < ((D.toks s).length : Int) := by omega
  have j0 : (0 : Int) ≤ (j : Int) := Int.natCast_nonneg _
  have j2 : j < (D.toks s).length := hjL
  have j3 : j ≤ (D.toks s).length := by omega
  have hsame := fun W (hW : Below w1.heap.size w1 W) (v2 : Value) (h2 : RdT W v2 ((D.toks (s.extract p s.size)).map D.Tk.i)) => same_any v2 (.slice (some ⟨b, o + j * 3, none⟩) ((D.toks s).length - j) (cap - j)) ((D.toks (s.extract p s.size)).map D.Tk.i) (((D.toks s).map D.Tk.i).drop j) true ⟨fun _ => by rw [hte, List.map_drop], fun _ => rfl⟩ W h2 (by have := hdrop W hW; rwa [List.length_map] at this)
  have HSame := Lib.hid hsame
  clear hr0 hx0 hAt hsp hjl hte hpos h0 hdrop hsps hsame
  go_upto_region 7 with fail
  rw [hje]
  have hcj : ¬ cap = j := by omega
  have HB1 := Lib.hid HB.out
  refine wp_region_stepsF [some 23, some 24, some 25, some 26, some 27, some 28, some 29, some 30, some 31, some 32, some 33, some 34, some 35, some 36, some 37, some 38, some 4] _ _ (G := fun W => Below w1.heap.size w1 W) (F := FRest s (s.extract p s.size) (.slice (some ⟨b, o, none⟩) (D.toks s).length cap) (.slice (some ⟨b, o + j * 3, none⟩) ((D.toks s).length - j) (cap - j)) j p ((D.toks s).map D.Tk.i)) (z := 16) (by kernel_rfl) rfl (by decide +kernel) rfl (by decide +kernel) (by decide +kernel) rfl (fun W W' h hB => h.trans (hB.mono h.size)) (FRest_on _ _ _ _ _ _ _) ?step ?fin (Below.refl _ _).drew
  case step =>
    intro i o' ho hz a W hg hd hold K' hK
    have HG := Lib.hid hg
    have hlt : i < 17 := (Array.getElem?_eq_some_iff.1 ho).1
    clear hg
    obtain rfl | rfl | rfl | rfl | rfl | rfl | rfl | rfl | rfl | rfl | rfl | rfl | rfl | rfl | rfl | rfl | rfl : i = 0 ∨ i = 1 ∨ i = 2 ∨ i = 3 ∨ i = 4 ∨ i = 5 ∨ i = 6 ∨ i = 7 ∨ i = 8 ∨ i = 9 ∨ i = 10 ∨ i = 11 ∨ i = 12 ∨ i = 13 ∨ i = 14 ∨ i = 15 ∨ i = 16 := by omega
    · obtain rfl := Option.some.inj ho
      have o1 : a.tmps[0]? = _ := (hold 0 rfl).trans rfl
      clear hd hold
      go_simp
      exact hK.out _ _ (by rfl) (Below.refl _ _)
    · obtain rfl := Option.some.inj ho
      have o1 : a.tmps[5]? = _ := (hold 5 rfl).trans rfl
      clear hd hold
      go_simp
      exact hK.out _ _ (by rfl) (Below.refl _ _)
    · obtain rfl := Option.some.inj ho
      obtain ⟨y1, e1, h1⟩ := hd 1 24 rfl (by decide +kernel) (by decide)
      obtain rfl : y1 = _ := h1
      have HC := Lib.hid (HSps.out W HG.out)
      clear hd hold
      go_simp
      go_at_call 7
      (with_reducible refine HC.out.mono ?_)
      rintro e W1 ⟨g, rfl, hgg, hrow, hB⟩
      exact hK.out _ _ ⟨g, rfl, hrow⟩ hB
    · obtain rfl := Option.some.inj ho
      have o1 : a.tmps[1]? = _ := (hold 1 rfl).trans rfl
      clear hd hold
      go_simp
      exact hK.out _ _ (by rfl) (Below.refl _ _)
    · obtain rfl := Option.some.inj ho
      obtain ⟨y2, e2, h2⟩ := hd 2 25 rfl (by decide +kernel) (by decide)
      obtain ⟨y3, e3, h3⟩ := hd 3 26 rfl (by decide +kernel) (by decide)
      obtain ⟨g, rfl, hrow⟩ := h2
      obtain rfl : y3 = _ := h3
      rw [HHL.out] at e2
      clear hd hold
      go_simp
      exact hK.out _ _ ⟨g, rfl, hrow⟩ (Below.refl _ _)
    · obtain rfl := Option.some.inj ho
      obtain ⟨y4, e4, h4⟩ := hd 4 27 rfl (by decide +kernel) (by decide)
      obtain ⟨g, rfl, hrow⟩ := h4
      clear hd hold
      go_simp
      exact hK.out _ _ ⟨g, rfl, hrow⟩ (Below.refl _ _)
    · obtain rfl := Option.some.inj ho
      obtain ⟨y5, e5, h5⟩ := hd 5 28 rfl (by decide +kernel) (by decide)
      obtain ⟨g, rfl, hrow⟩ := h5
      have hc := (hrow.cells (j := j) (by rw [HHL.out]; exact HJL.out)).1
      rw [HSP.out] at hc
      clear hd hold
      go_simp
      exact hK.out _ _ (by rfl) (Below.refl _ _)
    · obtain rfl := Option.some.inj ho
      obtain ⟨y0, e0', h0⟩ := hd 0 23 rfl (by decide +kernel) (by decide)
      obtain ⟨y6, e6, h6⟩ := hd 6 29 rfl (by decide +kernel) (by decide)
      obtain rfl : y0 = _ := h0
      obtain rfl : y6 = _ := h6
      clear hd hold
      go_simp
      exact hK.out _ _ (by rfl) (Below.refl _ _)
    · obtain rfl := Option.some.inj ho
      obtain ⟨y7, e7, h7⟩ := hd 7 30 rfl (by decide +kernel) (by decide)
      obtain rfl : y7 = _ := h7
      have HC := Lib.hid (HL.out (s.extract p s.size) hxs W)
      clear hd hold
      go_simp
      go_at_call 17
      (with_reducible refine HC.out.mono ?_)
      rintro e W1 ⟨v2, rfl, hown2, _, hB⟩
      exact hK.out _ _ (rdT_all hxs hown2) hB
    · obtain rfl := Option.some.inj ho
      have o1 : a.tmps[5]? = _ := (hold 5 rfl).trans rfl
      clear hd hold
      go_simp
      exact hK.out _ _ (by rfl) (Below.refl _ _)
    · obtain rfl := Option.some.inj ho
      have o1 : a.tmps[1]? = _ := (hold 1 rfl).trans rfl
      clear hd hold
      go_simp
      exact hK.out _ _ (by rfl) (Below.refl _ _)
    · obtain rfl := Option.some.inj ho
      obtain ⟨y9, e9, h9⟩ := hd 9 32 rfl (by decide +kernel) (by decide)
      obtain ⟨y10, e10, h10⟩ := hd 10 33 rfl (by decide +kernel) (by decide)
      obtain rfl : y9 = _ := h9
      obtain rfl : y10 = _ := h10
      clear hd hold
      go_simp
      exact hK.out _ _ (by rfl) (Below.refl _ _)
    · obtain rfl := Option.some.inj ho
      obtain ⟨y8, e8, h8⟩ := hd 8 31 rfl (by decide +kernel) (by decide)
      obtain ⟨y11, e11, h11⟩ := hd 11 34 rfl (by decide +kernel) (by decide)
      have h8 : RdT W y8 ((D.toks (s.extract p s.size)).map D.Tk.i) := h8
      obtain rfl : y11 = _ := h11
      have HC := Lib.hid (HSame.out W HG.out y8 h8)
      clear hd hold
      go_simp
      go_at_call 15
      (with_reducible refine HC.out.mono ?_)
      rintro e W1 ⟨rfl, hB⟩
      exact hK.out _ _ (by rfl) hB
    · obtain rfl := Option.some.inj ho
      obtain ⟨y12, e12, h12⟩ := hd 12 35 rfl (by decide +kernel) (by decide)
      obtain rfl : y12 = _ := h12
      clear hd hold
      go_simp
      exact hK.out _ _ (by rfl) (Below.refl _ _)
    · obtain rfl := Option.some.inj ho
      obtain ⟨y13, e13, h13⟩ := hd 13 36 rfl (by decide +kernel) (by decide)
      obtain rfl : y13 = _ := h13
      have HC := Lib.hid (HA.out W (HB1.out.trans (HG.out.mono HB1.out.size)))
      clear hd hold
      go_simp
      go_at_call 16
      (with_reducible refine HC.out.mono ?_)
      rintro e W1 ⟨rfl, hB⟩
      exact hK.out _ _ (by rfl) hB
    · obtain rfl := Option.some.inj ho
      obtain ⟨y13, e13, h13⟩ := hd 13 36 rfl (by decide +kernel) (by decide)
      obtain ⟨y14, e14, h14⟩ := hd 14 37 rfl (by decide +kernel) (by decide)
      obtain rfl : y13 = _ := h13
      obtain rfl : y14 = _ := h14
      clear hd hold
      go_simp
      exact hK.out _ _ (by rfl) (Below.refl _ _)
    · exact absurd rfl hz
  case fin =>
    intro a W hg hf hold hdf hsz K' hK
    obtain ⟨y15, e15, h15⟩ := hf 15 38 rfl (by decide) (by decide)
    obtain rfl : y15 = _ := h15
    have o4 : (4 : Nat) < a.tmps.size := by rw [hsz]; show 4 < 39; decide
    have od : a.defers = [] := hdf.trans rfl
    have HG := Lib.hid (HB1.out.trans (hg.mono HB1.out.size))
    obtain ⟨o5, o6⟩ : ∃ x, a.tmps[4]? = some x := ⟨_, Array.getElem?_eq_getElem o4⟩
    clear hf hold hdf hsz hg
    go_simp
    refine hK.out _ _ ?_
    clear hK K'
    go_wp2_with fail
    refine bodyPost_ret (results_tmp Tryd.results6 _ _ _) rfl ⟨?_, HG.out⟩
    have : (a.tmps.setIfInBounds 4 (Value.bool true)).getD 4 undef = .bool true := by
      rw [Array.getD_eq_getD_getElem?, Array.getElem?_setIfInBounds_self_of_lt o4]; rfl
    exact congrArg Ending.returned this
end YthglpfmbmmlbjaaDoor
end Go.Proofs
