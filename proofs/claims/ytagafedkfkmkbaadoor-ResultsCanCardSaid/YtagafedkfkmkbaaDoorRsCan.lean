/- What the server can is told alike, each time anew: the given law, walked. Conditions: the library's tables. -/
import Derived.Test.YtagafedkfkmkbaaDoorRsCap
import Derived.Test.YtagafedkfkmkbaaDoorRsCapR
import Derived.Test.YtagafedkfkmkbaaDoorJvSame
import Derived.Deep.QuietTactic
import Derived.BigQuiet
import Derived.WalkSmall
namespace Go.Proofs.YtagafedkfkmkbaaDoor
open Go Go.RowKit Go.Lib

theorem StrsLie.below {w w' : World} {b : Nat} {l : List ByteArray} (h : StrsLie w b l) (hB : Below w.heap.size w w') : StrsLie w' b l := fun j s hs => by
  have := h j s hs
  exact (hB.cell (p := ⟨b, j, none⟩) (World.block_lt_of_cell? w _ this)).trans this
set_option maxRecDepth 100000 in
set_option maxHeartbeats 1000000 in
theorem sameStr_any (b1 c1 b2 c2 : Nat) (l : List ByteArray) (w : World) (hn : l.length ≤ 1000) (h1 : StrsLie w b1 l) (h2 : StrsLie w b2 l) :
    Calls Tryd.prog 36 #[.slice (some ⟨b1, 0, none⟩) l.length c1, .slice (some ⟨b2, 0, none⟩) l.length c2] w (Bools true w) := by
  have HEl := Lib.hid (fun i (hi : i < l.length) => (show ∃ s : ByteArray, ∀ W, Below w.heap.size w W → W.cell? ⟨b1, i, none⟩ = some (.string s) ∧ W.cell? ⟨b2, i, none⟩ = some (.string s) from
    ⟨l[i], fun W hB => ⟨h1.below hB i _ (List.getElem?_eq_getElem hi), h2.below hB i _ (List.getElem?_eq_getElem hi)⟩⟩))
  clear h1 h2
  generalize l.length = m at *
  go_enter Tryd.func36, Tryd.ntmps36
  go_wp2_with fail
  go_loopw [5] (fun p wr => ∃ j : Nat, p = .int .i64 j ∧ j ≤ m ∧ Hid (Below w.heap.size w wr)) (fun p _ => m - (RowKit.intOf p).toNat)
  case atStart => exact ⟨0, rfl, by omega, Lib.hid (Below.refl _ _)⟩
  case round =>
    obtain ⟨j, rfl, hj, HR⟩ := hrel
    by_cases hlt : j < m
    · obtain ⟨s, hs⟩ := HEl.out j hlt
      obtain ⟨ca, cb⟩ := hs _ HR.out
      clear hs
      go_wp2_with fail
      go_quiet (fail)
      have hq := Lib.hid (below_drewN HR.out nq)
      go_wp2_with fail
      go_roundw
      case rel => exact ⟨j + 1, by go_num, by omega, hq⟩
      case measure => simp [RowKit.intOf]; omega
    · obtain rfl : j = m := by omega
      have HQ := Lib.hid HR.out
      clear HR
      go_wp2_with fail
      go_ret
      exact ⟨rfl, HQ.out⟩

structure CnSt (w : World) (ba bb bv : Nat) (v u : Value) (W : World) : Prop where
  below : Below w.heap.size w W
  ga : w.heap.size ≤ ba
  gb : w.heap.size ≤ bb
  hab : ba ≠ bb
  ra : Row W ba 9 #[.string ⟨#[107, 101, 121, 119, 111, 114, 100]⟩, .string ⟨#[99, 111, 109, 109, 101, 110, 116]⟩, .string ⟨#[115, 116, 114, 105, 110, 103]⟩, .string ⟨#[110, 117, 109, 98, 101, 114]⟩, .string ⟨#[111, 112, 101, 114, 97, 116, 111, 114]⟩, .string ⟨#[118, 97, 114, 105, 97, 98, 108, 101]⟩, .string ⟨#[112, 97, 114, 97, 109, 101, 116, 101, 114]⟩, .string ⟨#[102, 117, 110, 99, 116, 105, 111, 110]⟩]
  rb : Row W bb 9 #[.string ⟨#[100, 101, 99, 108, 97, 114, 97, 116, 105, 111, 110]⟩, .string ⟨#[117, 110, 114, 101, 115, 111, 108, 118, 101, 100]⟩, .string ⟨#[114, 101, 100, 101, 99, 108, 97, 114, 101, 100]⟩]
  bv : Blk4 W bv 25 (.int .u8 6) (.string ⟨#[]⟩) v u
  l : HS W (Fre w.heap.size W) 0 v .nil
  f : HS W (Fre w.heap.size W) 1 u tCap
theorem CnSt.on {w : World} {ba bb bv : Nat} {v u : Value} {W W' : World} (h : CnSt w ba bb bv v u W) (hB : Below W.heap.size W W') : CnSt w ba bb bv v u W' :=
  ⟨h.below.trans (hB.mono h.below.size), h.ga, h.gb, h.hab, h.ra.same (hB.block _ h.ra.lt), h.rb.same (hB.block _ h.rb.lt), h.bv.same (hB.block _ h.bv.lt), h.l.freB hB, h.f.freB hB⟩
theorem row_lie {w : World} {b : Nat} {l : List ByteArray} {row : Array Value} (h : Row w b 9 row) (hl : row.toList = l.map Value.string) : StrsLie w b l := fun j s hs => by
  rw [cell_of_row _ _ j row _ (0, 0) h, ← Array.getElem?_toList, hl, List.getElem?_map, hs]
  rfl
theorem CnSt.liea {w : World} {ba bb bv : Nat} {v u : Value} {W : World} (h : CnSt w ba bb bv v u W) : StrsLie W ba tyL := row_lie h.ra rfl
theorem CnSt.lieb {w : World} {ba bb bv : Nat} {v u : Value} {W : World} (h : CnSt w ba bb bv v u W) : StrsLie W bb mdL := row_lie h.rb rfl
def FCan (ba bb : Nat) (v u : Value) : Nat → Value → World → Prop
  | 0, y, _ => y = .slice (some ⟨ba, 0, none⟩) 8 8
  | 1, y, W => ∃ b, y = .slice (some ⟨b, 0, none⟩) 8 8 ∧ b < W.heap.size ∧ StrsLie W b tyL
  | 2, y, _ => y = .bool true
  | 3, y, _ => y = .bool false
  | 4, y, _ => y = .bool false
  | 5, y, _ => y = .slice (some ⟨bb, 0, none⟩) 3 3
  | 6, y, W => ∃ b, y = .slice (some ⟨b, 0, none⟩) 3 3 ∧ b < W.heap.size ∧ StrsLie W b mdL
  | 7, y, _ => y = .bool true
  | 8, y, _ => y = .bool false
  | 9, y, _ => y = .bool false
  | 10, y, _ => y = .bool false
  | 11, y, _ => y = .agg #[.int .u8 6, .string ⟨#[]⟩, v, u]
  | 12, y, W => ∃ N, VF N 6 ⟨#[]⟩ .nil tCap y W
  | 13, y, _ => y = .bool true
  | 14, y, _ => y = .bool false
  | _, _, _ => True
theorem FCan.on {ba bb : Nat} {v u : Value} {i : Nat} {y : Value} {W W' : World} (h : FCan ba bb v u i y W) (hB : Below W.heap.size W W') : FCan ba bb v u i y W' := by
  unfold FCan at h ⊢
  split at h
  · exact h
  · obtain ⟨b, h1, h2, h3⟩ := h; exact ⟨b, h1, Nat.lt_of_lt_of_le h2 hB.size, h3.below hB⟩
  · exact h
  · exact h
  · exact h
  · exact h
  · obtain ⟨b, h1, h2, h3⟩ := h; exact ⟨b, h1, Nat.lt_of_lt_of_le h2 hB.size, h3.below hB⟩
  · exact h
  · exact h
  · exact h
  · exact h
  · exact h
  · obtain ⟨N, h⟩ := h; exact ⟨N, h.on hB⟩
  · exact h
  · exact h
  · trivial
/-- the cell that is spoilt last -/
theorem cap_name {w W : World} {u : Value} (h : HS W (Fre w.heap.size W) 1 u tCap) : ∃ g o c b' o' c', u = .slice (some ⟨g, o, none⟩) 2 c ∧ 2 ≤ c ∧ c ≤ 9223372036854775807 ∧ W.cell? ⟨g, o + 1 + 3, none⟩ = some (.slice (some ⟨b', o', none⟩) 5 c') ∧ 5 ≤ c' ∧ c' ≤ 9223372036854775807 ∧ (∃ z, W.cell? ⟨b', o', none⟩ = some (.string z)) ∧ w.heap.size ≤ b' ∧ W.frozen? ⟨b', o', none⟩ = false := by
  obtain ⟨g, o, c, rfl, h1, h2, h3⟩ := h.at (i := 0) (by decide)
  obtain ⟨_, _, _, _, _, _, ⟨u1, h4, h5⟩, _⟩ := h3
  rcases h5 with ⟨_, h6⟩ | ⟨h6, _⟩ | ⟨b', o', c', rfl, h7, h8, h9⟩
  · cases h6
  · cases h6
  · obtain ⟨ha, _, hn, _⟩ := h9
    exact ⟨g, o, c, b', o', c', rfl, h1, h2.1, h4, h7, h8.1, ⟨_, hn rfl⟩, ha.1, ha.2 _⟩
set_option maxHeartbeats 8000000 in
set_option maxRecDepth 100000 in
theorem canLaw_any (w : World) (hP : PowTab w) (hT : Tabs w) : Calls Tryd.prog 6 #[] w (Bools true w) := by
  have HCp := Lib.hid (fun W (h : Below w.heap.size w W) => cap_any W (pow_below hP h) (tabs_below hT h))
  clear hP hT
  go_enter Tryd.func6, Tryd.ntmps6
  go_wp2_with fail
  go_loopw [1] (fun p wr => ∃ i : Nat, p = .int .i64 i ∧ i ≤ 2 ∧ Hid (Below w.heap.size w wr)) (fun p _ => 2 - (RowKit.intOf p).toNat)
  case atStart => exact ⟨0, rfl, by decide, Lib.hid (Below.refl _ _)⟩
  case round =>
    obtain ⟨i, rfl, hi, HR⟩ := hrel
    by_cases hlt : i < 2
    · go_wp2_with fail
      refine (types_any wr).mono ?_
      rintro e _ ⟨rfl, rfl⟩
      have hB := (Below.refl wr.heap.size wr).alloc (Nat.le_refl _) (.cells #[.string ⟨#[107, 101, 121, 119, 111, 114, 100]⟩, .string ⟨#[99, 111, 109, 109, 101, 110, 116]⟩, .string ⟨#[115, 116, 114, 105, 110, 103]⟩, .string ⟨#[110, 117, 109, 98, 101, 114]⟩, .string ⟨#[111, 112, 101, 114, 97, 116, 111, 114]⟩, .string ⟨#[118, 97, 114, 105, 97, 98, 108, 101]⟩, .string ⟨#[112, 97, 114, 97, 109, 101, 116, 101, 114]⟩, .string ⟨#[102, 117, 110, 99, 116, 105, 111, 110]⟩] 9)
      have H1 := Lib.hid (And.intro (HR.out.trans (hB.mono HR.out.size)) (And.intro (heap_alloc_new wr (.cells #[.string ⟨#[107, 101, 121, 119, 111, 114, 100]⟩, .string ⟨#[99, 111, 109, 109, 101, 110, 116]⟩, .string ⟨#[115, 116, 114, 105, 110, 103]⟩, .string ⟨#[110, 117, 109, 98, 101, 114]⟩, .string ⟨#[111, 112, 101, 114, 97, 116, 111, 114]⟩, .string ⟨#[118, 97, 114, 105, 97, 98, 108, 101]⟩, .string ⟨#[112, 97, 114, 97, 109, 101, 116, 101, 114]⟩, .string ⟨#[102, 117, 110, 99, 116, 105, 111, 110]⟩] 9)) (World.size_alloc wr (.cells #[.string ⟨#[107, 101, 121, 119, 111, 114, 100]⟩, .string ⟨#[99, 111, 109, 109, 101, 110, 116]⟩, .string ⟨#[115, 116, 114, 105, 110, 103]⟩, .string ⟨#[110, 117, 109, 98, 101, 114]⟩, .string ⟨#[111, 112, 101, 114, 97, 116, 111, 114]⟩, .string ⟨#[118, 97, 114, 105, 97, 98, 108, 101]⟩, .string ⟨#[112, 97, 114, 97, 109, 101, 116, 101, 114]⟩, .string ⟨#[102, 117, 110, 99, 116, 105, 111, 110]⟩] 9))))
      clear hB
      generalize wr.alloc (.cells #[.string ⟨#[107, 101, 121, 119, 111, 114, 100]⟩, .string ⟨#[99, 111, 109, 109, 101, 110, 116]⟩, .string ⟨#[115, 116, 114, 105, 110, 103]⟩, .string ⟨#[110, 117, 109, 98, 101, 114]⟩, .string ⟨#[111, 112, 101, 114, 97, 116, 111, 114]⟩, .string ⟨#[118, 97, 114, 105, 97, 98, 108, 101]⟩, .string ⟨#[112, 97, 114, 97, 109, 101, 116, 101, 114]⟩, .string ⟨#[102, 117, 110, 99, 116, 105, 111, 110]⟩] 9) = w1 at *
      go_wp2_with fail
      refine (mods_any w1).mono ?_
      rintro e _ ⟨rfl, rfl⟩
      have hB := (Below.refl w1.heap.size w1).alloc (Nat.le_refl _) (.cells #[.string ⟨#[100, 101, 99, 108, 97, 114, 97, 116, 105, 111, 110]⟩, .string ⟨#[117, 110, 114, 101, 115, 111, 108, 118, 101, 100]⟩, .string ⟨#[114, 101, 100, 101, 99, 108, 97, 114, 101, 100]⟩] 9)
      have hra : Row w1 wr.heap.size 9 #[.string ⟨#[107, 101, 121, 119, 111, 114, 100]⟩, .string ⟨#[99, 111, 109, 109, 101, 110, 116]⟩, .string ⟨#[115, 116, 114, 105, 110, 103]⟩, .string ⟨#[110, 117, 109, 98, 101, 114]⟩, .string ⟨#[111, 112, 101, 114, 97, 116, 111, 114]⟩, .string ⟨#[118, 97, 114, 105, 97, 98, 108, 101]⟩, .string ⟨#[112, 97, 114, 97, 109, 101, 116, 101, 114]⟩, .string ⟨#[102, 117, 110, 99, 116, 105, 111, 110]⟩] := H1.out.2.1
      have H2 := Lib.hid (And.intro (H1.out.1.trans (hB.mono H1.out.1.size)) (And.intro (hra.same (hB.block _ hra.lt)) (And.intro (heap_alloc_new w1 (.cells #[.string ⟨#[100, 101, 99, 108, 97, 114, 97, 116, 105, 111, 110]⟩, .string ⟨#[117, 110, 114, 101, 115, 111, 108, 118, 101, 100]⟩, .string ⟨#[114, 101, 100, 101, 99, 108, 97, 114, 101, 100]⟩] 9)) (And.intro HR.out.size (And.intro H1.out.1.size H1.out.2.2)))))
      clear hB hra
      generalize w1.alloc (.cells #[.string ⟨#[100, 101, 99, 108, 97, 114, 97, 116, 105, 111, 110]⟩, .string ⟨#[117, 110, 114, 101, 115, 111, 108, 118, 101, 100]⟩, .string ⟨#[114, 101, 100, 101, 99, 108, 97, 114, 101, 100]⟩] 9) = w2 at *
      go_wp2_with fail
      refine (HCp.out w2 H2.out.1).mono ?_
      rintro e w3 ⟨y, rfl, ⟨pv, nv, cv, pu, nu, cu, rfl, hl, hf⟩, hB⟩
      have hB4 := (Below.refl w3.heap.size w3).alloc (Nat.le_refl _) (.cells #[.int .u8 6, .string ⟨#[]⟩, .slice pv nv cv, .slice pu nu cu] 25)
      have hBB := hB.trans (hB4.mono hB.size)
      have hra : Row w2 wr.heap.size 9 #[.string ⟨#[107, 101, 121, 119, 111, 114, 100]⟩, .string ⟨#[99, 111, 109, 109, 101, 110, 116]⟩, .string ⟨#[115, 116, 114, 105, 110, 103]⟩, .string ⟨#[110, 117, 109, 98, 101, 114]⟩, .string ⟨#[111, 112, 101, 114, 97, 116, 111, 114]⟩, .string ⟨#[118, 97, 114, 105, 97, 98, 108, 101]⟩, .string ⟨#[112, 97, 114, 97, 109, 101, 116, 101, 114]⟩, .string ⟨#[102, 117, 110, 99, 116, 105, 111, 110]⟩] := H2.out.2.1
      have hrb : Row w2 w1.heap.size 9 #[.string ⟨#[100, 101, 99, 108, 97, 114, 97, 116, 105, 111, 110]⟩, .string ⟨#[117, 110, 114, 101, 115, 111, 108, 118, 101, 100]⟩, .string ⟨#[114, 101, 100, 101, 99, 108, 97, 114, 101, 100]⟩] := H2.out.2.2.1
      have HG0 := Lib.hid (show CnSt w wr.heap.size w1.heap.size w3.heap.size (.slice pv nv cv) (.slice pu nu cu) (w3.alloc (.cells #[.int .u8 6, .string ⟨#[]⟩, .slice pv nv cv, .slice pu nu cu] 25)) from
        ⟨H2.out.1.trans (hBB.mono H2.out.1.size), H2.out.2.2.2.1, H2.out.2.2.2.2.1, by have := H2.out.2.2.2.2.2; omega, hra.same (hBB.block _ hra.lt), hrb.same (hBB.block _ hrb.lt), heap_alloc_new _ _, (hl.mono (A' := Fre w.heap.size w3) (fun b hb _ => ⟨Nat.le_trans H2.out.1.size hb.1, hb.2⟩)).freB hB4, (hf.mono (A' := Fre w.heap.size w3) (fun b hb _ => ⟨Nat.le_trans H2.out.1.size hb.1, hb.2⟩)).freB hB4⟩)
      clear hB hB4 hBB hra hrb hl hf H2 H1 HR
      have HL := Lib.hid hlt
      go_upto_region 5 with fail
      generalize w3.alloc (.cells #[.int .u8 6, .string ⟨#[]⟩, .slice pv nv cv, .slice pu nu cu] 25) = W4 at *
      generalize w3.heap.size = bv at *
      generalize w1.heap.size = bb at *
      generalize wr.heap.size = ba at *
      have HX := Lib.hid (HG0.out.on (Below.refl W4.heap.size W4).drew)
      refine wp_region_stepsP [some 12, some 13, some 14, some 15, some 16, some 17, some 18, some 19, some 20, some 21, some 22, some 23, some 24, some 25, some 26, some 27] _ _ (G := CnSt w ba bb bv (.slice pv nv cv) (.slice pu nu cu)) (F := FCan ba bb (.slice pv nv cv) (.slice pu nu cu)) (z := 15) (by kernel_rfl) rfl (by decide +kernel) rfl (by decide +kernel) (by decide +kernel) rfl (fun W W' h hB => h.on hB) (fun i y W W' h hB => h.on hB) ?_ ?_ HX.out
      · intro i' o ho hz a W hg hd hold K' hK
        have HG := Lib.hid hg
        have hlt' : i' < 16 := (Array.getElem?_eq_some_iff.1 ho).1
        clear hg
        obtain rfl | rfl | rfl | rfl | rfl | rfl | rfl | rfl | rfl | rfl | rfl | rfl | rfl | rfl | rfl | rfl : i' = 0 ∨ i' = 1 ∨ i' = 2 ∨ i' = 3 ∨ i' = 4 ∨ i' = 5 ∨ i' = 6 ∨ i' = 7 ∨ i' = 8 ∨ i' = 9 ∨ i' = 10 ∨ i' = 11 ∨ i' = 12 ∨ i' = 13 ∨ i' = 14 ∨ i' = 15 := by omega
        · obtain rfl := Option.some.inj ho
          have o2 : a.tmps[2]? = _ := (hold 2 rfl).trans rfl
          clear hd hold
          go_simp
          exact hK.out _ _ (by rfl) (Below.refl _ _)
        · obtain rfl := Option.some.inj ho
          clear hd hold
          go_simp
          go_at_call 37
          (with_reducible refine (refTypes_any W).mono ?_)
          rintro e W1 ⟨rfl, rfl⟩
          exact hK.out _ _ ⟨_, rfl, by simp, strs_lie W tyL rfl⟩ ((Below.refl W.heap.size W).alloc (Nat.le_refl _) _)
        · obtain rfl := Option.some.inj ho
          obtain ⟨y0, e0, h0⟩ := hd 0 12 rfl (by decide +kernel) (by decide)
          have h0 : y0 = _ := h0
          subst h0
          obtain ⟨y1, e1, h1⟩ := hd 1 13 rfl (by decide +kernel) (by decide)
          obtain ⟨b1, rfl, hb1, hs1⟩ := h1
          have hcall : Calls Tryd.prog 36 #[.slice (some ⟨ba, 0, none⟩) 8 8, .slice (some ⟨b1, 0, none⟩) 8 8] W (Bools true W) := sameStr_any ba 8 b1 8 tyL W (by decide) (HG.out.liea) hs1
          have HC := Lib.hid hcall
          clear hd hold hcall hs1
          go_simp
          go_at_call 36
          (with_reducible refine HC.out.mono ?_)
          rintro e W1 ⟨rfl, hB⟩
          exact hK.out _ _ (by rfl) hB
        · obtain rfl := Option.some.inj ho
          obtain ⟨y2, e2, h2⟩ := hd 2 14 rfl (by decide +kernel) (by decide)
          have h2 : y2 = _ := h2
          subst h2
          clear hd hold
          go_simp
          exact hK.out _ _ (by rfl) (Below.refl _ _)
        · obtain rfl := Option.some.inj ho
          obtain ⟨y3, e3, h3⟩ := hd 3 15 rfl (by decide +kernel) (by decide)
          have h3 : y3 = _ := h3
          subst h3
          clear hd hold
          go_simp
          exact hK.out _ _ (by rfl) (Below.refl _ _)
        · obtain rfl := Option.some.inj ho
          obtain ⟨y4, e4, h4⟩ := hd 4 16 rfl (by decide +kernel) (by decide)
          have h4 : y4 = _ := h4
          subst h4
          have o3 : a.tmps[3]? = _ := (hold 3 rfl).trans rfl
          clear hd hold
          go_simp
          exact hK.out _ _ (by rfl) (Below.refl _ _)
        · obtain rfl := Option.some.inj ho
          obtain ⟨y4, e4, h4⟩ := hd 4 16 rfl (by decide +kernel) (by decide)
          have h4 : y4 = _ := h4
          subst h4
          clear hd hold
          go_simp
          go_at_call 38
          (with_reducible refine (refMods_any W).mono ?_)
          rintro e W1 ⟨rfl, rfl⟩
          exact hK.out _ _ ⟨_, rfl, by simp, strs_lie W mdL rfl⟩ ((Below.refl W.heap.size W).alloc (Nat.le_refl _) _)
        · obtain rfl := Option.some.inj ho
          obtain ⟨y4, e4, h4⟩ := hd 4 16 rfl (by decide +kernel) (by decide)
          have h4 : y4 = _ := h4
          subst h4
          obtain ⟨y5, e5, h5⟩ := hd 5 17 rfl (by decide +kernel) (by decide)
          have h5 : y5 = _ := h5
          subst h5
          obtain ⟨y6, e6, h6⟩ := hd 6 18 rfl (by decide +kernel) (by decide)
          obtain ⟨b6, rfl, hb6, hs6⟩ := h6
          have hcall : Calls Tryd.prog 36 #[.slice (some ⟨bb, 0, none⟩) 3 3, .slice (some ⟨b6, 0, none⟩) 3 3] W (Bools true W) := sameStr_any bb 3 b6 3 mdL W (by decide) (HG.out.lieb) hs6
          have HC := Lib.hid hcall
          clear hd hold hcall hs6
          go_simp
          go_at_call 36
          (with_reducible refine HC.out.mono ?_)
          rintro e W1 ⟨rfl, hB⟩
          exact hK.out _ _ (by rfl) hB
        · obtain rfl := Option.some.inj ho
          obtain ⟨y4, e4, h4⟩ := hd 4 16 rfl (by decide +kernel) (by decide)
          have h4 : y4 = _ := h4
          subst h4
          obtain ⟨y7, e7, h7⟩ := hd 7 19 rfl (by decide +kernel) (by decide)
          have h7 : y7 = _ := h7
          subst h7
          clear hd hold
          go_simp
          exact hK.out _ _ (by rfl) (Below.refl _ _)
        · obtain rfl := Option.some.inj ho
          obtain ⟨y4, e4, h4⟩ := hd 4 16 rfl (by decide +kernel) (by decide)
          have h4 : y4 = _ := h4
          subst h4
          obtain ⟨y8, e8, h8⟩ := hd 8 20 rfl (by decide +kernel) (by decide)
          have h8 : y8 = _ := h8
          subst h8
          clear hd hold
          go_simp
          exact hK.out _ _ (by rfl) (Below.refl _ _)
        · obtain rfl := Option.some.inj ho
          obtain ⟨y9, e9, h9⟩ := hd 9 21 rfl (by decide +kernel) (by decide)
          have h9 : y9 = _ := h9
          subst h9
          clear hd hold
          go_simp
          exact hK.out _ _ (by rfl) (Below.refl _ _)
        · obtain rfl := Option.some.inj ho
          obtain ⟨y10, e10, h10⟩ := hd 10 22 rfl (by decide +kernel) (by decide)
          have h10 : y10 = _ := h10
          subst h10
          have o4 : a.tmps[4]? = _ := (hold 4 rfl).trans rfl
          obtain ⟨s0, s1, s2, s3⟩ := HG.out.bv.box
          clear hd hold
          go_simp
          exact hK.out _ _ (by rfl) (Below.refl _ _)
        · obtain rfl := Option.some.inj ho
          obtain ⟨y10, e10, h10⟩ := hd 10 22 rfl (by decide +kernel) (by decide)
          have h10 : y10 = _ := h10
          subst h10
          clear hd hold
          go_simp
          go_at_call 39
          (with_reducible refine (capR_any W).mono ?_)
          rintro e W1 ⟨y, rfl, hv, hB⟩
          exact hK.out _ _ ⟨_, hv⟩ hB
        · obtain rfl := Option.some.inj ho
          obtain ⟨y10, e10, h10⟩ := hd 10 22 rfl (by decide +kernel) (by decide)
          have h10 : y10 = _ := h10
          subst h10
          obtain ⟨y11, e11, h11⟩ := hd 11 23 rfl (by decide +kernel) (by decide)
          have h11 : y11 = _ := h11
          subst h11
          obtain ⟨y12, e12, h12⟩ := hd 12 24 rfl (by decide +kernel) (by decide)
          obtain ⟨N, p2, n2, c2, q2, m2, d2, rfl, l2, f2⟩ := h12
          have hcall := same_any (V.T.nil.size + tCap.size + 1) 6 ⟨#[]⟩ (.slice pv nv cv) (.slice pu nu cu) .nil tCap 6 ⟨#[]⟩ (.slice p2 n2 c2) (.slice q2 m2 d2) .nil tCap _ _ W (Nat.lt_succ_self _) HG.out.l HG.out.f l2 f2
          rw [V.veq_self] at hcall
          have HC := Lib.hid (show Calls Tryd.prog 10 #[.agg #[.int .u8 6, .string ⟨#[]⟩, .slice pv nv cv, .slice pu nu cu], .agg #[.int .u8 6, .string ⟨#[]⟩, .slice p2 n2 c2, .slice q2 m2 d2]] W (Bools true W) from hcall)
          clear hd hold hcall l2 f2
          go_simp
          go_at_call 10
          (with_reducible refine HC.out.mono ?_)
          rintro e W1 ⟨rfl, hB⟩
          exact hK.out _ _ (by rfl) hB
        · obtain rfl := Option.some.inj ho
          obtain ⟨y10, e10, h10⟩ := hd 10 22 rfl (by decide +kernel) (by decide)
          have h10 : y10 = _ := h10
          subst h10
          obtain ⟨y13, e13, h13⟩ := hd 13 25 rfl (by decide +kernel) (by decide)
          have h13 : y13 = _ := h13
          subst h13
          clear hd hold
          go_simp
          exact hK.out _ _ (by rfl) (Below.refl _ _)
        · exact absurd rfl hz
      intro a W hg hf hold hput K' hK
      obtain ⟨y22, o22, h22⟩ := hf 10 22 rfl (by decide) (by decide)
      have h22 : y22 = .bool false := h22
      subst h22
      obtain ⟨y26, o26, h26⟩ := hf 14 26 rfl (by decide) (by decide)
      have h26 : y26 = .bool false := h26
      subst h26
      have HG := Lib.hid hg
      clear hg hf hold
      go_simp
      refine hK.out _ _ ?_
      obtain ⟨rr, ha⟩ := hput.out
      clear hput o22 o26 hK
      subst ha
      simp only [putL, Act.put, List.setIfInBounds_toArray, List.set_cons_zero, List.set_cons_succ]
      obtain ⟨g, o, c, b', o', c', hu, c1, c2, h4, c3, c4, ⟨z, h5⟩, h6, h7⟩ := cap_name HG.out.f
      cases hu
      obtain ⟨s0, s1, s2, s3⟩ := HG.out.bv.box
      have ka : W.cell? ⟨ba, 0, none⟩ = some _ := HG.out.ra.cell (j := 0) (by decide)
      have kb : W.cell? ⟨bb, 0, none⟩ = some _ := HG.out.rb.cell (j := 0) (by decide)
      have fa := HG.out.ra.free 0
      have fb := HG.out.rb.free 0
      obtain ⟨y1, k1⟩ := cell?_setCell_some (w := W) (p := ⟨ba, 0, none⟩) (x := .string ⟨#[115, 112, 111, 105, 108, 116]⟩) kb
      obtain ⟨y2, k2⟩ := cell?_setCell_some (w := W) (p := ⟨ba, 0, none⟩) (x := .string ⟨#[115, 112, 111, 105, 108, 116]⟩) h5
      obtain ⟨y3, k3⟩ := cell?_setCell_some (w := W.setCell ⟨ba, 0, none⟩ (.string ⟨#[115, 112, 111, 105, 108, 116]⟩)) (p := ⟨bb, 0, none⟩) (x := .string ⟨#[115, 112, 111, 105, 108, 116]⟩) k2
      have HZ := Lib.hid (show Below w.heap.size w (((W.setCell ⟨ba, 0, none⟩ (.string ⟨#[115, 112, 111, 105, 108, 116]⟩)).setCell ⟨bb, 0, none⟩ (.string ⟨#[115, 112, 111, 105, 108, 116]⟩)).setCell ⟨b', o', none⟩ (.string ⟨#[115, 112, 111, 105, 108, 116]⟩)) from ((HG.out.below.setCell HG.out.ga _).setCell HG.out.gb _).setCell h6 _)
      clear h6 k2 HX HG0
      go_wp2_with fail
      go_roundw
      case rel => exact ⟨i + 1, by go_num, HL.out, HZ⟩
      case measure => have := HL.out; simp [RowKit.intOf]; omega
    · obtain rfl : i = 2 := by omega
      have HQ := Lib.hid HR.out
      clear HR
      go_wp2_with fail
      go_ret
      exact ⟨rfl, HQ.out⟩
end Go.Proofs.YtagafedkfkmkbaaDoor
