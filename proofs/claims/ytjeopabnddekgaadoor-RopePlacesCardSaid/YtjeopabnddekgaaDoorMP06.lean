/- Lines begin where Start says; places lead back: the law's walk. Conditions: strings of at most 2^48 bytes; the library's tables. -/
import Derived.Test.YtjeopabnddekgaaDoorMP05
import Derived.Test.YtjeopabnddekgaaDoorME38
namespace Go.Proofs.YtjeopabnddekgaaDoor
open Go Go.RowKit Go.Lib

/-- the rope under way -/
def RpU (B : Nat) (w : World) (v : Value) (t : R.T) (W : World) : Prop := RopeAt W v t ∧ t.tx.size ≤ 16384 ∧ Below B w W
theorem RpU.valid {B : Nat} {w W : World} {v : Value} {t : R.T} (h : RpU B w v t W) : U.valid t.tx = true := by
  obtain ⟨⟨b, rv, rfl, hb, hn, ht⟩, _, _⟩ := h; exact ht.valid

def Few61 (l : List OpE) : Prop := l.length ≤ 60 ∧ (∀ e' ∈ l, e'.s.size ≤ 70000)
set_option maxHeartbeats 8000000 in
set_option maxRecDepth 100000 in
theorem ropePlaces_any (s : ByteArray) (v : Value) (l : List OpE) (pl pc : Int) (w : World) (hs : s.size ≤ 281474976710656) (hl : ArgOp w v l) (hpl : I64 pl) (hpc : I64 pc) (hT : Tabs w) :
    Calls Tryd.prog 5 #[.string s, v, .agg #[.int .i64 pl, .int .i64 pc]] w (BoolIs true w) := by
  obtain ⟨z, cap, rfl, hc1, hc2, hr, hq⟩ := hl
  have hb0 := (Below.refl w.heap.size w).alloc (Nat.le_refl _) (.cells #[.int .i64 pl, .int .i64 pc] 38)
  have hn0 : PosRow (w.alloc (.cells #[.int .i64 pl, .int .i64 pc] 38)) w.heap.size pl pc := heap_alloc_new _ _
  have hz0 : (w.alloc (.cells #[.int .i64 pl, .int .i64 pc] 38)).heap.size = w.heap.size + 1 := World.size_alloc _ _
  have H0 := Lib.hid (And.intro hb0 (And.intro hz0 hn0))
  have HOp := Lib.hid (fun W (hB : Below w.heap.size w W) (j : Nat) (e : OpE) (hj : l[j]? = some e) => (show ∃ b o, z = some ⟨b, o, none⟩ ∧ W.cell? ⟨b, o + j * 3, none⟩ = some (.int .i64 e.f) ∧ W.cell? ⟨b, o + j * 3 + 1, none⟩ = some (.int .i64 e.k) ∧ W.cell? ⟨b, o + j * 3 + 2, none⟩ = some (.string e.s) from by
    obtain ⟨b, o, hz, hb, c0, c1, c2⟩ := hr j e hj
    exact ⟨b, o, hz, (hB.cell (p := ⟨b, _, none⟩) hb).trans c0, (hB.cell (p := ⟨b, _, none⟩) hb).trans c1, (hB.cell (p := ⟨b, _, none⟩) hb).trans c2⟩))
  have HQ := Lib.hid (And.intro hq (And.intro hpl hpc))
  have HGr := Lib.hid (great9_any s z l.length cap (fun j => ((l[j]?).getD ⟨0, 0, ByteArray.empty⟩).s) _ hs (by omega) (fun i hi => by
    obtain ⟨e, hj⟩ : ∃ e, l[i]? = some e := ⟨_, List.getElem?_eq_getElem hi⟩
    obtain ⟨b, o, hz, c0, c1, c2⟩ := HOp.out _ hb0 i e hj
    refine ⟨b, o, hz, ?_, ?_⟩
    · rw [hj]; exact c2
    · rw [hj]; exact (hq e (List.mem_of_getElem? hj)).2.2))
  have HAw := Lib.hid (fun W (hB : Below w.heap.size w W) => awake9_any W (tabs_below hT hB))
  have HTb := Lib.hid (fun W (hB : Below w.heap.size w W) => tabs_below hT hB)
  have HNw := Lib.hid (fun W (hB : Below w.heap.size w W) (h : s.size ≤ 70000) => new_any s W (by omega) (tabs_below hT hB))
  have HSp := Lib.hid (fun W (hB : Below w.heap.size w W) v t (f k : Int) (y : ByteArray) (hf : I64 f) (hk : I64 k) (h1 : t.tx.size ≤ 16384) (h2 : y.size ≤ 70000) (h : RopeAt W v t) => splice_any v t f k y W h (by omega) (by omega) hf hk (tabs_below hT hB))
  clear hb0 hn0 hz0 hr hq hs hT hpl hpc
  go_enter Tryd.func5, Tryd.ntmps5
  go_upto_region 1 with fail
  generalize w.alloc (.cells #[.int .i64 pl, .int .i64 pc] 38) = W0 at *
  go_wp2_with fail
  refine HGr.out.mono ?_
  rintro en w1 ⟨ok, rfl, rfl, hfew⟩
  cases ok
  rotate_left
  · clear hfew
    go_wp2_with fail
    refine (HAw.out w1 H0.out.1).mono ?_
    rintro en w2 ⟨rfl, hB⟩
    have H2 := Lib.hid (H0.out.1.trans (hB.mono H0.out.1.size))
    clear hB
    go_wp2_with fail
    go_ret
    exact ⟨rfl, H2.out⟩
  obtain ⟨hs7, hl6, hj7⟩ := hfew rfl
  by_cases hbig : (s.size : Int) > 3000
  · clear hfew hs7 hl6 hj7
    go_wp2_with fail
    refine (HAw.out w1 H0.out.1).mono ?_
    rintro en w2 ⟨rfl, hB⟩
    have H2 := Lib.hid (H0.out.1.trans (hB.mono H0.out.1.size))
    clear hB
    go_wp2_with fail
    go_ret
    exact ⟨rfl, H2.out⟩
  have HF := Lib.hid (show Few61 l from ⟨hl6, fun e hm => (by
    obtain ⟨j, hj, e1⟩ := List.getElem_of_mem hm
    have := hj7 j hj
    dsimp only at this
    rw [List.getElem?_eq_getElem hj, Option.getD_some, e1] at this
    exact this)⟩)
  have HN := HNw.out w1 H0.out.1 hs7
  have HN := Lib.hid HN
  have hE1 : newE s = 0 → s.size ≤ 16384 := newE_ok
  have HE1 := Lib.hid hE1
  clear hfew hs7 hl6 hj7 HNw HGr hE1
  go_wp2_with fail
  refine HN.out.mono ?_
  clear HN
  rintro en w2 ⟨v1, rfl, hB, hr⟩
  generalize newE s = E at *
  have hB2 := H0.out.1.trans (hB.mono H0.out.1.size)
  have H2 := Lib.hid (And.intro hB2 hB)
  clear hB hB2
  rcases hr with ⟨hE, t, hR, htx⟩ | ⟨hE, rfl⟩
  rotate_left
  · go_wp2_with fail
    refine (HAw.out w2 H2.out.1).mono ?_
    rintro en w3 ⟨rfl, hB⟩
    have H3 := Lib.hid (H2.out.1.trans (hB.mono H2.out.1.size))
    clear hB
    go_wp2_with fail
    go_ret
    exact ⟨rfl, H3.out⟩
  subst hE
  have HU := Lib.hid (show RpU w1.heap.size w1 v1 t w2 from ⟨hR, by rw [htx]; exact HE1.out rfl, H2.out.2⟩)
  clear hR htx HE1
  go_wp2_with fail
  go_loopw [7, 9] (fun p q wr => ∃ (i : Nat) (t' : R.T), q = .int .i64 (i : Int) ∧ i ≤ l.length ∧ Hid (RpU w1.heap.size w1 p t' wr)) (fun _ q _ => l.length - (RowKit.intOf q).toNat)
  case atStart => exact ⟨0, t, rfl, Nat.zero_le _, HU⟩
  case round =>
    obtain ⟨i, t', rfl, hi, HR⟩ := hrel
    by_cases hlt : i < l.length
    · obtain ⟨e, hj⟩ : ∃ e, l[i]? = some e := ⟨_, List.getElem?_eq_getElem hlt⟩
      have hm := List.mem_of_getElem? hj
      have heo := HQ.out.1 e hm
      have hes := HF.out.2 e hm
      have HJ := Lib.hid (fun W (hB : Below wr.heap.size wr W) => HOp.out W (H0.out.1.trans ((HR.out.2.2.trans (hB.mono HR.out.2.2.size)).mono H0.out.1.size)) i e hj)
      have HS := Lib.hid (fun W (hB : Below wr.heap.size wr W) => HSp.out W (H0.out.1.trans ((HR.out.2.2.trans (hB.mono HR.out.2.2.size)).mono H0.out.1.size)) _ t' e.f e.k e.s heo.1 heo.2.1 HR.out.2.1 hes (HR.out.1.below hB))
      have HX := Lib.hid (fun h => spT_le (f := e.f) (k := e.k) (s := e.s) HR.out.valid HR.out.2.1 h)
      obtain ⟨E, hE⟩ : ∃ E, spE t'.tx e.f e.k e.s = E := ⟨_, rfl⟩
      rw [hE] at HS HX
      obtain ⟨b, o, rfl, c0, c1, c2⟩ := HJ.out wr (Below.refl _ _)
      have KEEP := Lib.hid (fun w' (hB : Below wr.heap.size wr w') => (show w'.cell? ⟨b, o + i * 3, none⟩ = some (.int .i64 e.f) ∧ w'.cell? ⟨b, o + i * 3 + 1, none⟩ = some (.int .i64 e.k) ∧ w'.cell? ⟨b, o + i * 3 + 2, none⟩ = some (.string e.s) from by
        obtain ⟨b', o', hz, g0, g1, g2⟩ := HJ.out w' hB
        cases hz
        exact ⟨g0, g1, g2⟩))
      have HL := Lib.hid hlt
      have i1 : (0 : Int) ≤ (i : Int) := Int.natCast_nonneg i
      have i2 : (i : Int) < (l.length : Int) := by omega
      have i4 : (i : Int) ≤ 1000000000000000 := by omega
      clear hj hm heo hes hlt hi hE HJ
      go_upto_region 9 with fail
      go_region_held3 (fun w' => w'.cell? ⟨b, o + i * 3, none⟩ = some (.int .i64 e.f) ∧ w'.cell? ⟨b, o + i * 3 + 1, none⟩ = some (.int .i64 e.k) ∧ w'.cell? ⟨b, o + i * 3 + 2, none⟩ = some (.string e.s))
        (first | exact KEEP.out _ hC1 | exact KEEP.out _ (Below.refl _ _).drew | exact KEEP.out _ (Below.refl _ _))
        (first | (go_at_call 13; (with_reducible refine (HS.out _ ((Below.refl wr.heap.size wr).drew)).mono ?_); rintro en wk1 ⟨v2, rfl, hB, hr2⟩; have hC1 := (Below.refl wr.heap.size wr).drew.trans hB; clear hB))
      rename_i hHeld
      have HC := Lib.hid hC1
      clear hHeld KEEP c0 c1 c2 hC1 HS
      rcases hr2 with ⟨hE, t2, hR2, hx2⟩ | ⟨hE, rfl⟩
      · subst hE
        have HN := Lib.hid (show RpU w1.heap.size w1 v2 t2 wk1 from ⟨hR2, by rw [hx2]; exact HX.out rfl, HR.out.2.2.trans (HC.out.mono HR.out.2.2.size)⟩)
        clear hR2 hx2
        have HLn := Lib.hid (len_any v2 t2 wk1 HN.out.1)
        obtain ⟨N2, hN2⟩ : ∃ n, (R.cn t2.tx).b = n := ⟨_, rfl⟩
        rw [hN2] at HLn
        clear hN2
        have HO := Lib.hid (show RpU w1.heap.size w1 _ t' wk1 from ⟨HR.out.1.below HC.out, HR.out.2.1, HR.out.2.2.trans (HC.out.mono HR.out.2.2.size)⟩)
        go_wp2_with fail
        refine HLn.out.mono ?_
        rintro en wk2 ⟨rfl, hB⟩
        have HN' := Lib.hid (show RpU w1.heap.size w1 v2 t2 wk2 from ⟨HN.out.1.below hB, HN.out.2.1, HN.out.2.2.trans (hB.mono HN.out.2.2.size)⟩)
        have HO' := Lib.hid (show RpU w1.heap.size w1 _ t' wk2 from ⟨HO.out.1.below hB, HO.out.2.1, HO.out.2.2.trans (hB.mono HO.out.2.2.size)⟩)
        clear hB HN HO HLn HC
        by_cases h4 : (N2 : Int) < 4000
        · go_wp2_with fail
          go_roundw
          case rel => exact ⟨i + 1, t2, by go_num, by have := HL.out; omega, HN'⟩
          case measure => have := HL.out; simp [RowKit.intOf]; omega
        · go_wp2_with fail
          go_roundw
          case rel => exact ⟨i + 1, t', by go_num, by have := HL.out; omega, HO'⟩
          case measure => have := HL.out; simp [RowKit.intOf]; omega
      · have HN := Lib.hid (show RpU w1.heap.size w1 _ t' wk1 from ⟨HR.out.1.below HC.out, HR.out.2.1, HR.out.2.2.trans (HC.out.mono HR.out.2.2.size)⟩)
        go_wp2_with fail
        go_roundw
        case rel => exact ⟨i + 1, t', by go_num, by have := HL.out; omega, HN⟩
        case measure => have := HL.out; simp [RowKit.intOf]; omega
    · have ha : ¬ (i : Int) < (l.length : Int) := by omega
      obtain ⟨K, hK⟩ : ∃ K, L.mny t'.tx = K + 1 := ⟨L.mny t'.tx - 1, by have := L.mny_pos t'.tx; omega⟩
      have hm := L.mny_le t'.tx
      have HZ := Lib.hid (And.intro HR.out.2.1 (And.intro hK hm))
      have HC := Lib.hid (fun W (hB : Below wr.heap.size wr W) => PlC.all HR.out.1 HR.out.2.1 (HTb.out wr (H0.out.1.trans (HR.out.2.2.mono H0.out.1.size))) hK W hB)
      have HW := Lib.hid (fun W (hB : Below wr.heap.size wr W) => (show Below w1.heap.size w1 W ∧ Below w.heap.size w W from ⟨HR.out.2.2.trans (hB.mono HR.out.2.2.size), H0.out.1.trans ((HR.out.2.2.trans (hB.mono HR.out.2.2.size)).mono H0.out.1.size)⟩))
      have HNx := Lib.hid (fun k (h : k + 1 ≤ K) => pl_next (x := t'.tx) (k := k) (by omega))
      have HFr := Lib.hid (fun k (h : k ≤ K) => L.fr_le (s := t'.tx) (j := k) (by omega))
      have HBx := Lib.hid (fun W (hB : Below wr.heap.size wr W) => H0.out.2.2.below (HW.out W hB).1)
      clear hi hlt hK hm HSp HF HOp
      obtain ⟨wL, rfl⟩ : ∃ wL, wL = wr := ⟨_, rfl⟩
      go_wp2_with fail
      go_loopw [12, 13] (fun p q wr2 => ∃ (i : Nat) (a : Int), q = .int .i64 (i : Int) ∧ p = .int .i64 a ∧ i ≤ K + 1 ∧ (i ≤ K → a < L.fr t'.tx i) ∧ -1 ≤ a ∧ a ≤ 1000000000 ∧ Hid (Below wL.heap.size wL wr2)) (fun _ q _ => K + 1 - (RowKit.intOf q).toNat)
      case atStart => exact ⟨0, -1, rfl, rfl, by omega, fun _ => by omega, by omega, by omega, Lib.hid (Below.refl _ _)⟩
      case round =>
        obtain ⟨j, a, rfl, rfl, hj, hja, ha1, ha2, HB⟩ := hrel
        have j1 : (0 : Int) ≤ (j : Int) := Int.natCast_nonneg j
        have j2 : (j : Int) ≤ 1000000000 := by have := HZ.out.1; have := HZ.out.2.1; have := HZ.out.2.2; omega
        go_wp2_with fail
        refine ((HC.out wr HB.out).brk).mono ?_
        rintro en w3 ⟨rfl, hB⟩
        have H3 := Lib.hid (HB.out.trans (hB.mono HB.out.size))
        clear hB
        by_cases hle : (j : Int) ≤ (K : Int)
        · have hjK : j ≤ K := by omega
          have hf1 := HFr.out j hjK
          have hf2 := hja hjK
          have HO := Lib.hid (fun W (hB : Below wL.heap.size wL W) => And.intro ((HC.out W hB).st j hjK) (And.intro (HC.out W hB).len (And.intro ((HC.out W hB).off j hjK) ((HC.out W hB).pos j hjK))))
          have hn1 := HNx.out j
          obtain ⟨f, hf⟩ : ∃ f, L.fr t'.tx j = f := ⟨_, rfl⟩
          rw [hf] at HO hf1 hf2 hn1
          have hz := HZ.out.1
          generalize t'.tx.size = Z at *
          have hc1' : ¬ ((f : Int) ≤ a) := by omega
          have hc2' : ¬ ((f : Int) > (Z : Int)) := by omega
          have hf5 : (f : Int) ≤ 1000000000 := by omega
          have HN1 := Lib.hid hn1
          clear hn1 hja hz hf1 hf2
          go_wp2_with fail
          refine ((HO.out _ H3.out).1).mono ?_
          rintro en w4 ⟨rfl, hB⟩
          have H4 := Lib.hid (H3.out.trans (hB.mono H3.out.size))
          clear hB
          go_wp2_with fail
          refine ((HO.out _ H4.out).2.1).mono ?_
          rintro en w5 ⟨rfl, hB⟩
          have H5 := Lib.hid (H4.out.trans (hB.mono H4.out.size))
          clear hB
          go_wp2_with fail
          refine ((HO.out _ H5.out).2.2.1).mono ?_
          rintro en w6 ⟨rfl, hB⟩
          have H6 := Lib.hid (H5.out.trans (hB.mono H5.out.size))
          clear hB
          go_wp2_with fail
          refine ((HO.out _ H6.out).2.2.2).mono ?_
          rintro en w7 ⟨rfl, hB⟩
          have H7 := Lib.hid (H6.out.trans (hB.mono H6.out.size))
          clear hB
          go_wp2_with fail
          exact ⟨⟨j + 1, (f : Nat), by go_num, rfl, by omega, fun h => by have := HN1.out h; omega, by omega, by omega, H7⟩, by simp [RowKit.intOf]; omega⟩
        · clear hja
          have hK2 : (K : Int) ≤ 1000000000 := by omega
          have hP := ofs_at t'.tx pl pc
          have HO := Lib.hid (fun W (hB : Below wL.heap.size wL W) => And.intro (HC.out W hB).len (And.intro ((HC.out W hB).offP pl pc HQ.out.2.1 HQ.out.2.2) (And.intro ((HC.out W hB).posP pl pc) ((HC.out W hB).offQ pl pc))))
          obtain ⟨f, hf⟩ : ∃ f, ofs t'.tx pl pc = f := ⟨_, rfl⟩
          rw [hf] at HO hP
          have hz := HZ.out.1
          have hf2 := hP.2
          generalize t'.tx.size = Z at *
          have hc1' : (0 : Int) ≤ (f : Int) := by omega
          have hc2' : (f : Int) ≤ (Z : Int) := by omega
          clear hP hz hf2
          go_wp2_with fail
          refine ((HC.out _ H3.out).brk).mono ?_
          rintro en w4 ⟨rfl, hB⟩
          have H4 := Lib.hid (H3.out.trans (hB.mono H3.out.size))
          clear hB
          go_wp2_with fail
          refine ((HC.out _ H4.out).stE).mono ?_
          rintro en w5 ⟨rfl, hB⟩
          have H5 := Lib.hid (H4.out.trans (hB.mono H4.out.size))
          clear hB
          obtain ⟨p1, p2⟩ : w5.cell? ⟨w.heap.size, 0, none⟩ = some (.int .i64 pl) ∧ w5.cell? ⟨w.heap.size, 1, none⟩ = some (.int .i64 pc) := by
            have h := HBx.out _ H5.out
            refine ⟨?_, ?_⟩ <;> (rw [Lib.cell_of_heap h]; rfl)
          go_wp2_with fail
          refine ((HO.out _ H5.out).2.1).mono ?_
          rintro en w6 ⟨rfl, hB⟩
          have H6 := Lib.hid (H5.out.trans (hB.mono H5.out.size))
          clear hB
          go_wp2_with fail
          refine ((HO.out _ H6.out).1).mono ?_
          rintro en w7 ⟨rfl, hB⟩
          have H7 := Lib.hid (H6.out.trans (hB.mono H6.out.size))
          clear hB
          go_wp2_with fail
          refine ((HO.out _ H7.out).2.2.1).mono ?_
          rintro en w8 ⟨rfl, hB⟩
          have H8 := Lib.hid (H7.out.trans (hB.mono H7.out.size))
          clear hB
          go_wp2_with fail
          refine ((HO.out _ H8.out).2.2.2).mono ?_
          rintro en w9 ⟨rfl, hB⟩
          have H9 := Lib.hid (H8.out.trans (hB.mono H8.out.size))
          clear hB
          go_wp2_with fail
          refine (HAw.out _ (HW.out _ H9.out).2).mono ?_
          rintro en w10 ⟨rfl, hB⟩
          have HE := Lib.hid ((HW.out _ H9.out).2.trans (hB.mono (HW.out _ H9.out).2.size))
          clear hB
          go_wp2_with fail
          go_ret
          exact ⟨rfl, HE.out⟩
end Go.Proofs.YtjeopabnddekgaaDoor
