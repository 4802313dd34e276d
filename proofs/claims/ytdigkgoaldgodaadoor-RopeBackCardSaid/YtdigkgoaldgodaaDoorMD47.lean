/- What is spliced in and out again: the law's walk. Conditions: strings of at most 2^48 bytes; the library's tables. -/
import Derived.Test.YtdigkgoaldgodaaDoorMD46
namespace Go.Proofs.YtdigkgoaldgodaaDoor
open Go Go.RowKit Go.Lib

theorem newE_ok {s : ByteArray} (h : newE s = 0) : s.size ≤ 16384 := by
  unfold newE at h
  by_cases h1 : 16384 < s.size
  · rw [if_pos h1] at h; cases h
  · omega
theorem spT_le {x s : ByteArray} {f k : Int} (hx : U.valid x = true) (hz : x.size ≤ 16384) (h : spE x f k s = 0) : (spT x f k s).size ≤ 16384 := (sp_back hx hz h).2.2.2
theorem at_is (n : Int) (m : Nat) (hm : m ≤ 20000) : ∃ q : Nat, q ≤ m ∧ wrap64 ((IntKind.u64.wrap n).tmod ((m : Int) + 1)) = (q : Int) := by
  have h0 : 0 ≤ IntKind.u64.wrap n := Int.emod_nonneg _ (by decide)
  have e : (IntKind.u64.wrap n).tmod ((m : Int) + 1) = (IntKind.u64.wrap n) % ((m : Int) + 1) := Int.tmod_eq_emod_of_nonneg h0
  have l1 : 0 ≤ (IntKind.u64.wrap n) % ((m : Int) + 1) := Int.emod_nonneg _ (by omega)
  have l2 : (IntKind.u64.wrap n) % ((m : Int) + 1) < (m : Int) + 1 := Int.emod_lt_of_pos _ (by omega)
  rw [e]
  generalize (IntKind.u64.wrap n) % ((m : Int) + 1) = r at *
  refine ⟨r.toNat, by omega, ?_⟩
  rw [Int.toNat_of_nonneg l1]
  unfold wrap64
  omega
/-- the rope under way -/
def RpU (B : Nat) (w : World) (v : Value) (t : R.T) (W : World) : Prop := RopeAt W v t ∧ t.tx.size ≤ 16384 ∧ Below B w W
theorem RpU.valid {B : Nat} {w W : World} {v : Value} {t : R.T} (h : RpU B w v t W) : U.valid t.tx = true := by
  obtain ⟨⟨b, rv, rfl, hb, hn, ht⟩, _, _⟩ := h; exact ht.valid
def Few60 (l : List OpE) (e : OpE) : Prop := l.length ≤ 60 ∧ (∀ e' ∈ l, e'.s.size ≤ 70000) ∧ e.s.size ≤ 20000
set_option maxHeartbeats 8000000 in
set_option maxRecDepth 100000 in
theorem ropeBack_any (s : ByteArray) (v : Value) (l : List OpE) (x : OpE) (at0 : Int) (w : World) (hs : s.size ≤ 281474976710656) (hl : ArgOp w v l) (he : OpOk x) (ha : I64 at0) (hT : Tabs w) :
    Calls Tryd.prog 5 #[.string s, v, .agg #[.int .i64 x.f, .int .i64 x.k, .string x.s], .int .i64 at0] w (BoolIs true w) := by
  obtain ⟨z, cap, rfl, hc1, hc2, hr, hq⟩ := hl
  have hb0 := (Below.refl w.heap.size w).alloc (Nat.le_refl _) (.cells #[.int .i64 x.f, .int .i64 x.k, .string x.s] 34)
  have hn0 : (w.alloc (.cells #[.int .i64 x.f, .int .i64 x.k, .string x.s] 34)).heap[w.heap.size]? = some (.cells #[.int .i64 x.f, .int .i64 x.k, .string x.s] 34 (0, 0)) := heap_alloc_new _ _
  have hz0 : (w.alloc (.cells #[.int .i64 x.f, .int .i64 x.k, .string x.s] 34)).heap.size = w.heap.size + 1 := World.size_alloc _ _
  have H0 := Lib.hid (And.intro hb0 hz0)
  have HBx := Lib.hid (fun W (hB : Below (w.alloc (.cells #[.int .i64 x.f, .int .i64 x.k, .string x.s] 34)).heap.size (w.alloc (.cells #[.int .i64 x.f, .int .i64 x.k, .string x.s] 34)) W) => (show W.cell? ⟨w.heap.size, 0, none⟩ = some (.int .i64 x.f) ∧ W.cell? ⟨w.heap.size, 1, none⟩ = some (.int .i64 x.k) ∧ W.cell? ⟨w.heap.size, 2, none⟩ = some (.string x.s) from by
    have h := (hB.block w.heap.size (by omega)).trans hn0
    refine ⟨?_, ?_, ?_⟩ <;> (rw [Lib.cell_of_heap h]; rfl)))
  have HOp := Lib.hid (fun W (hB : Below w.heap.size w W) (j : Nat) (e : OpE) (hj : l[j]? = some e) => (show ∃ b o, z = some ⟨b, o, none⟩ ∧ W.cell? ⟨b, o + j * 3, none⟩ = some (.int .i64 e.f) ∧ W.cell? ⟨b, o + j * 3 + 1, none⟩ = some (.int .i64 e.k) ∧ W.cell? ⟨b, o + j * 3 + 2, none⟩ = some (.string e.s) from by
    obtain ⟨b, o, hz, hb, c0, c1, c2⟩ := hr j e hj
    exact ⟨b, o, hz, (hB.cell (p := ⟨b, _, none⟩) hb).trans c0, (hB.cell (p := ⟨b, _, none⟩) hb).trans c1, (hB.cell (p := ⟨b, _, none⟩) hb).trans c2⟩))
  have HQ := Lib.hid (And.intro hq (And.intro he ha))
  have HGr := Lib.hid (great9_any s z l.length cap (fun j => ((l[j]?).getD ⟨0, 0, ByteArray.empty⟩).s) _ hs (by omega) (fun i hi => by
    obtain ⟨e, hj⟩ : ∃ e, l[i]? = some e := ⟨_, List.getElem?_eq_getElem hi⟩
    obtain ⟨b, o, hz, c0, c1, c2⟩ := HOp.out _ hb0 i e hj
    refine ⟨b, o, hz, ?_, ?_⟩
    · rw [hj]; exact c2
    · rw [hj]; exact (hq e (List.mem_of_getElem? hj)).2.2))
  have HAw := Lib.hid (fun W (hB : Below w.heap.size w W) => awake9_any W (tabs_below hT hB))
  have HTb := Lib.hid (fun W (hB : Below w.heap.size w W) => tabs_below hT hB)
  have HNw := Lib.hid (fun W (hB : Below w.heap.size w W) (h : s.size ≤ 70000) => new_any s W (by omega) (tabs_below hT hB))
  have HSp := Lib.hid (fun W (hB : Below w.heap.size w W) v t (f k : Int) (y : ByteArray) (hf : I64 f) (hk : I64 k) (h1 : t.tx.size ≤ 16384) (h2 : y.size ≤ 70000) (h : RopeAt W v t) => splice_any v t f k y W h (by omega) (by omega) hf hk (tabs_below hT hB))
  clear hb0 hn0 hz0 hr hq he ha hs hT
  go_enter Tryd.func5, Tryd.ntmps5
  go_upto_region 1 with fail
  generalize w.alloc (.cells #[.int .i64 x.f, .int .i64 x.k, .string x.s] 34) = W0 at *
  go_wp2_with fail
  refine HGr.out.mono ?_
  rintro en w1 ⟨ok, rfl, rfl, hfew⟩
  cases ok
  rotate_left
  · clear hfew
    go_wp2_with fail
    refine (HAw.out w1 H0.out.1).mono ?_
    rintro en w2 ⟨rfl, hB⟩
    have H2 := Lib.hid (H0.out.1.trans (hB.mono H0.out.1.size))
    clear hB
    go_wp2_with fail
    go_ret
    exact ⟨rfl, H2.out⟩
  obtain ⟨hs7, hl6, hj7⟩ := hfew rfl
  obtain ⟨x0, x1, x2⟩ := HBx.out w1 (Below.refl _ _)
  by_cases hbig : (x.s.size : Int) > 20000
  · clear hfew hs7 hl6 hj7
    go_wp2_with fail
    refine (HAw.out w1 H0.out.1).mono ?_
    rintro en w2 ⟨rfl, hB⟩
    have H2 := Lib.hid (H0.out.1.trans (hB.mono H0.out.1.size))
    clear hB
    go_wp2_with fail
    go_ret
    exact ⟨rfl, H2.out⟩
  have HF := Lib.hid (show Few60 l x from ⟨hl6, fun e hm => (by
    obtain ⟨j, hj, e1⟩ := List.getElem_of_mem hm
    have := hj7 j hj
    dsimp only at this
    rw [List.getElem?_eq_getElem hj, Option.getD_some, e1] at this
    exact this), by omega⟩)
  have HN := HNw.out w1 H0.out.1 hs7
  have HN := Lib.hid HN
  have hE1 : newE s = 0 → s.size ≤ 16384 := newE_ok
  have HE1 := Lib.hid hE1
  clear hfew hs7 hl6 hj7 HNw HGr hE1
  go_wp2_with fail
  refine HN.out.mono ?_
  clear HN
  rintro en w2 ⟨v1, rfl, hB, hr⟩
  generalize newE s = E at *
  have hB2 := H0.out.1.trans (hB.mono H0.out.1.size)
  have H2 := Lib.hid (And.intro hB2 hB)
  clear hB hB2 x0 x1 x2
  rcases hr with ⟨hE, t, hR, htx⟩ | ⟨hE, rfl⟩
  rotate_left
  · go_wp2_with fail
    refine (HAw.out w2 H2.out.1).mono ?_
    rintro en w3 ⟨rfl, hB⟩
    have H3 := Lib.hid (H2.out.1.trans (hB.mono H2.out.1.size))
    clear hB
    go_wp2_with fail
    go_ret
    exact ⟨rfl, H3.out⟩
  subst hE
  have HU := Lib.hid (show RpU w1.heap.size w1 v1 t w2 from ⟨hR, by rw [htx]; exact HE1.out rfl, H2.out.2⟩)
  clear hR htx HE1
  go_wp2_with fail
  go_loopw [9, 11] (fun p q wr => ∃ (i : Nat) (t' : R.T), q = .int .i64 (i : Int) ∧ i ≤ l.length ∧ Hid (RpU w1.heap.size w1 p t' wr)) (fun _ q _ => l.length - (RowKit.intOf q).toNat)
  case atStart => exact ⟨0, t, rfl, Nat.zero_le _, HU⟩
  case round =>
    obtain ⟨i, t', rfl, hi, HR⟩ := hrel
    by_cases hlt : i < l.length
    · obtain ⟨e, hj⟩ : ∃ e, l[i]? = some e := ⟨_, List.getElem?_eq_getElem hlt⟩
      have hm := List.mem_of_getElem? hj
      have heo := HQ.out.1 e hm
      have hes := HF.out.2.1 e hm
      have HJ := Lib.hid (fun W (hB : Below wr.heap.size wr W) => HOp.out W (H0.out.1.trans ((HR.out.2.2.trans (hB.mono HR.out.2.2.size)).mono H0.out.1.size)) i e hj)
      have HS := Lib.hid (fun W (hB : Below wr.heap.size wr W) => HSp.out W (H0.out.1.trans ((HR.out.2.2.trans (hB.mono HR.out.2.2.size)).mono H0.out.1.size)) _ t' e.f e.k e.s heo.1 heo.2.1 HR.out.2.1 hes (HR.out.1.below hB))
      have HX := Lib.hid (fun h => spT_le (f := e.f) (k := e.k) (s := e.s) HR.out.valid HR.out.2.1 h)
      obtain ⟨E, hE⟩ : ∃ E, spE t'.tx e.f e.k e.s = E := ⟨_, rfl⟩
      rw [hE] at HS HX
      obtain ⟨b, o, rfl, c0, c1, c2⟩ := HJ.out wr (Below.refl _ _)
      have KEEP := Lib.hid (fun w' (hB : Below wr.heap.size wr w') => (show w'.cell? ⟨b, o + i * 3, none⟩ = some (.int .i64 e.f) ∧ w'.cell? ⟨b, o + i * 3 + 1, none⟩ = some (.int .i64 e.k) ∧ w'.cell? ⟨b, o + i * 3 + 2, none⟩ = some (.string e.s) from by
        obtain ⟨b', o', hz, g0, g1, g2⟩ := HJ.out w' hB
        cases hz
        exact ⟨g0, g1, g2⟩))
      have HL := Lib.hid hlt
      have i1 : (0 : Int) ≤ (i : Int) := Int.natCast_nonneg i
      have i2 : (i : Int) < (l.length : Int) := by omega
      have i4 : (i : Int) ≤ 1000000000000000 := by omega
      clear hj hm heo hes hlt hi hE HJ
      go_upto_region 9 with fail
      go_region_held3 (fun w' => w'.cell? ⟨b, o + i * 3, none⟩ = some (.int .i64 e.f) ∧ w'.cell? ⟨b, o + i * 3 + 1, none⟩ = some (.int .i64 e.k) ∧ w'.cell? ⟨b, o + i * 3 + 2, none⟩ = some (.string e.s))
        (first | exact KEEP.out _ hC1 | exact KEEP.out _ (Below.refl _ _).drew | exact KEEP.out _ (Below.refl _ _))
        (first | (go_at_call 10; (with_reducible refine (HS.out _ ((Below.refl wr.heap.size wr).drew)).mono ?_); rintro en wk1 ⟨v2, rfl, hB, hr2⟩; have hC1 := (Below.refl wr.heap.size wr).drew.trans hB; clear hB))
      rename_i hHeld
      have HC := Lib.hid hC1
      clear hHeld KEEP c0 c1 c2 hC1 HS
      rcases hr2 with ⟨hE, t2, hR2, hx2⟩ | ⟨hE, rfl⟩
      · subst hE
        have HN := Lib.hid (show RpU w1.heap.size w1 v2 t2 wk1 from ⟨hR2, by rw [hx2]; exact HX.out rfl, HR.out.2.2.trans (HC.out.mono HR.out.2.2.size)⟩)
        clear hR2 hx2
        go_wp2_with fail
        go_roundw
        case rel => exact ⟨i + 1, t2, by go_num, by have := HL.out; omega, HN⟩
        case measure => have := HL.out; simp [RowKit.intOf]; omega
      · have HN := Lib.hid (show RpU w1.heap.size w1 _ t' wk1 from ⟨HR.out.1.below HC.out, HR.out.2.1, HR.out.2.2.trans (HC.out.mono HR.out.2.2.size)⟩)
        go_wp2_with fail
        go_roundw
        case rel => exact ⟨i + 1, t', by go_num, by have := HL.out; omega, HN⟩
        case measure => have := HL.out; simp [RowKit.intOf]; omega
    · have ha : ¬ (i : Int) < (l.length : Int) := by omega
      have HW := Lib.hid (fun W (hB : Below wr.heap.size wr W) => (show Below w1.heap.size w1 W ∧ Below w.heap.size w W from ⟨HR.out.2.2.trans (hB.mono HR.out.2.2.size), H0.out.1.trans ((HR.out.2.2.trans (hB.mono HR.out.2.2.size)).mono H0.out.1.size)⟩))
      have HSl := Lib.hid (fun W (hB : Below wr.heap.size wr W) => slice_any _ t' x.f x.k W (HR.out.1.below hB) (by have := HR.out.2.1; omega) HQ.out.2.1.1 HQ.out.2.1.2.1 (HTb.out W (HW.out W hB).2))
      clear hi hlt
      obtain ⟨x0, x1, x2⟩ := HBx.out wr HR.out.2.2
      go_wp2_with fail
      refine (HSl.out wr (Below.refl _ _)).mono ?_
      rintro en w3 ⟨⟨y, ne, rfl, hy1, hy2⟩, hB⟩
      have H3 := Lib.hid hB
      have HY := Lib.hid hy1
      clear hB hy1 hy2 x0 x1 x2 HSl
      obtain ⟨x0, x1, x2⟩ := HBx.out w3 (HW.out _ H3.out).1
      go_wp2_with fail
      have hsp := HSp.out w3 (HW.out _ H3.out).2 _ t' x.f x.k x.s HQ.out.2.1.1 HQ.out.2.1.2.1 HR.out.2.1 (by have := HF.out.2.2; omega) (HR.out.1.below H3.out)
      refine hsp.mono ?_
      clear hsp
      rintro en w4 ⟨v4, rfl, hB, hr⟩
      have H4 := Lib.hid (H3.out.trans (hB.mono H3.out.size))
      clear hB x0 x1 x2
      obtain ⟨E, hE⟩ : ∃ E, spE t'.tx x.f x.k x.s = E := ⟨_, rfl⟩
      rw [hE] at hr ⊢
      have HE := Lib.hid hE
      clear hE
      rcases hr with ⟨hE, t4, hR4, hx4⟩ | ⟨hE, rfl⟩
      rotate_left
      · go_wp2_with fail
        refine (HAw.out w4 (HW.out _ H4.out).2).mono ?_
        rintro en w5 ⟨rfl, hB⟩
        have H5 := Lib.hid ((HW.out _ H4.out).2.trans (hB.mono (HW.out _ H4.out).2.size))
        clear hB
        go_wp2_with fail
        go_ret
        exact ⟨rfl, H5.out⟩
      subst hE
      have hm := (sp_ok HE.out).1
      obtain ⟨hye, rfl⟩ := HY.out hm
      have hp := sp_back HR.out.valid HR.out.2.1 HE.out
      rw [← hye] at hp
      have hyl : y.size ≤ t'.tx.size := by rw [hye, ByteArray.size_extract]; omega
      have HR4 := Lib.hid (And.intro hR4 hx4)
      have HP := Lib.hid hp
      have HM := Lib.hid (And.intro hm (sp_ok HE.out).2)
      obtain ⟨f1, f2⟩ : 0 ≤ x.f ∧ x.f ≤ 16384 := by
        obtain ⟨a, b, e1, e2, hab, hb, -, -⟩ := mayR_spec hm
        have := HR.out.2.1
        omega
      obtain ⟨A, hA⟩ : ∃ A : Int, A = (t'.tx.size : Int) := ⟨_, rfl⟩
      have a1 : A ≤ 16384 := by have := HR.out.2.1; omega
      have a2 : (y.size : Int) ≤ A := by omega
      have a3 : (x.s.size : Int) ≤ 20000 := by omega
      have a4 : 0 ≤ A - (y.size : Int) := by omega
      have a5 : (y.size : Int) ≤ 16384 := by omega
      have wr1 : IntKind.i64.wrap (A - (y.size : Int)) = A - (y.size : Int) := wrapI _ (by omega) (by omega)
      have wr2 : IntKind.i64.wrap (A - (y.size : Int) + (x.s.size : Int)) = A - (y.size : Int) + (x.s.size : Int) := wrapI _ (by omega) (by omega)
      have HLr := Lib.hid (fun W (hB : Below w4.heap.size w4 W) => (show Calls Tryd.prog 22 #[_, ] W (fun e w' => e = .returned (.int .i64 A) ∧ Below W.heap.size W w') from by
        have k := len_any _ t' W (HR.out.1.below (H4.out.trans (hB.mono H4.out.size)))
        unfold IntR at k
        rw [show ((R.cn t'.tx).b : Int) = A from hA.symm] at k
        exact k))
      have HLn := Lib.hid (fun W (hB : Below w4.heap.size w4 W) => (show Calls Tryd.prog 22 #[v4] W (fun e w' => e = .returned (.int .i64 (A - (y.size : Int) + (x.s.size : Int))) ∧ Below W.heap.size W w') from by
        have k := len_any v4 t4 W (HR4.out.1.below hB)
        unfold IntR at k
        rw [hx4, show ((R.cn (spT t'.tx x.f x.k x.s)).b : Int) = A - (y.size : Int) + (x.s.size : Int) from by rw [hA]; exact hp.1] at k
        exact k))
      have HB4 := Lib.hid (fun W (hB : Below w4.heap.size w4 W) => HBx.out W (HW.out W (H4.out.trans (hB.mono H4.out.size))).1)
      have KEEP := Lib.hid (fun w' (hB : Below w4.heap.size w4 w') => (HB4.out w' hB).2.2)
      have HYL := Lib.hid (And.intro hyl hye)
      clear hR4 hx4 hm HY hp hye hyl hA
      have x2 := KEEP.out w4 (Below.refl _ _)
      go_upto_region 16 with fail
      go_region_held3 (fun w' => w'.cell? ⟨w.heap.size, 2, none⟩ = some (.string x.s))
        (first | exact KEEP.out _ hC2 | exact KEEP.out _ hC1 | exact KEEP.out _ (Below.refl _ _).drew | exact KEEP.out _ (Below.refl _ _))
        (first
          | (go_at_call 22; (with_reducible refine (HLr.out _ hC1).mono ?_); rintro en wk2 ⟨rfl, hB⟩; have hC2 := hC1.trans (hB.mono hC1.size); clear hB)
          | (go_at_call 22; (with_reducible refine (HLn.out _ ((Below.refl w4.heap.size w4).drew)).mono ?_); rintro en wk1 ⟨rfl, hB⟩; have hC1 := (Below.refl w4.heap.size w4).drew.trans hB; clear hB))
      rename_i hHeld
      have HC := Lib.hid hC2
      clear hHeld KEEP x2 hC1 hC2 HLr HLn
      generalize wk2 = w5 at *
      obtain ⟨x0, x1, x2⟩ := HB4.out w5 HC.out
      go_wp2_with fail
      have hsp := HSp.out w5 (HW.out _ (H4.out.trans (HC.out.mono H4.out.size))).2 v4 t4 x.f (x.f + (x.s.size : Int)) y HQ.out.2.1.1 ⟨by omega, by omega⟩ (by rw [HR4.out.2]; exact HP.out.2.2.2) (by omega) (HR4.out.1.below HC.out)
      rw [HR4.out.2, HP.out.2.1, HP.out.2.2.1] at hsp
      refine hsp.mono ?_
      clear hsp
      rintro en w6 ⟨v5, rfl, hB, hr⟩
      have H6 := Lib.hid (HC.out.trans (hB.mono HC.out.size))
      rcases hr with ⟨-, t5, hR5, hx5⟩ | ⟨hE, -⟩
      rotate_left
      · exact absurd rfl hE
      have HAll := Lib.hid (fun W (hB : Below w6.heap.size w6 W) => (show (Calls Tryd.prog 23 #[v5] W (StrR t'.tx W) ∧ Calls Tryd.prog 24 #[v5] W (IntR (R.cn t'.tx).u W) ∧ Calls Tryd.prog 25 #[v5] W (IntR (R.cn t'.tx).k W)) ∧ (Calls Tryd.prog 23 #[_] W (StrR t'.tx W) ∧ Calls Tryd.prog 24 #[_] W (IntR (R.cn t'.tx).u W) ∧ Calls Tryd.prog 25 #[_] W (IntR (R.cn t'.tx).k W)) from by
        have r5 := hR5.below hB
        have r1 := HR.out.1.below (H4.out.trans ((H6.out.trans (hB.mono H6.out.size)).mono H4.out.size))
        refine ⟨?_, text_any _ t' W r1 (by have := HR.out.2.1; omega), unitsR_any _ t' W r1, breaks_any _ t' W r1⟩
        rw [← hx5]
        exact ⟨text_any _ t5 W r5 (by have := HR.out.2.1; rw [hx5]; omega), unitsR_any _ t5 W r5, breaks_any _ t5 W r5⟩))
      clear hB hR5 hx5 x0 x1 x2 wr1 wr2
      have HD := Lib.hid (Below.refl w6.heap.size w6)
      go_wp2_with fail
      refine ((HAll.out _ HD.out).1.1).mono ?_
      rintro en wk1 ⟨rfl, hB⟩
      have HD' := Lib.hid (HD.out.trans (hB.mono HD.out.size))
      clear hB HD
      have HD := HD'
      clear HD'
      go_wp2_with fail
      refine ((HAll.out _ HD.out).2.1).mono ?_
      rintro en wk2 ⟨rfl, hB⟩
      have HD' := Lib.hid (HD.out.trans (hB.mono HD.out.size))
      clear hB HD
      have HD := HD'
      clear HD'
      go_wp2_with fail
      refine ((HAll.out _ HD.out).1.2.1).mono ?_
      rintro en wk3 ⟨rfl, hB⟩
      have HD' := Lib.hid (HD.out.trans (hB.mono HD.out.size))
      clear hB HD
      have HD := HD'
      clear HD'
      go_wp2_with fail
      refine ((HAll.out _ HD.out).2.2.1).mono ?_
      rintro en wk4 ⟨rfl, hB⟩
      have HD' := Lib.hid (HD.out.trans (hB.mono HD.out.size))
      clear hB HD
      have HD := HD'
      clear HD'
      go_wp2_with fail
      refine ((HAll.out _ HD.out).1.2.2).mono ?_
      rintro en wk5 ⟨rfl, hB⟩
      have HD' := Lib.hid (HD.out.trans (hB.mono HD.out.size))
      clear hB HD
      have HD := HD'
      clear HD'
      go_wp2_with fail
      refine ((HAll.out _ HD.out).2.2.2).mono ?_
      rintro en wk6 ⟨rfl, hB⟩
      have HD' := Lib.hid (HD.out.trans (hB.mono HD.out.size))
      clear hB HD
      have HD := HD'
      clear HD'
      clear HAll
      generalize wk6 = w7 at *
      obtain ⟨x0, x1, x2⟩ := HB4.out w7 (H6.out.trans (HD.out.mono H6.out.size))
      go_upto_region 22 with fail
      obtain ⟨q, hq, hqe⟩ := at_is at0 x.s.size (by omega)
      rw [hqe]
      have c1 : (0 : Int) ≤ (q : Int) := Int.natCast_nonneg q
      have c2 : (q : Int) ≤ (x.s.size : Int) := by omega
      have c3 : (q : Int) ≤ 20000 := by omega
      have HQ3 := Lib.hid hq
      have H7 := Lib.hid (fun W (hB : Below w7.heap.size w7 W) => (show Below w4.heap.size w4 W from H6.out.trans ((HD.out.trans (hB.mono HD.out.size)).mono H6.out.size)))
      have z1 : (x.s.extract 0 q).size ≤ 70000 := by rw [ByteArray.size_extract]; omega
      have z2 : (x.s.extract q x.s.size).size ≤ 70000 := by rw [ByteArray.size_extract]; omega
      have HZ := Lib.hid (And.intro z1 z2)
      have HS1 := Lib.hid (fun W (hB : Below w7.heap.size w7 W) => HSp.out W (HW.out _ (H4.out.trans ((H7.out W hB).mono H4.out.size))).2 _ t' x.f x.k (x.s.extract 0 q) HQ.out.2.1.1 HQ.out.2.1.2.1 HR.out.2.1 HZ.out.1 (HR.out.1.below (H4.out.trans ((H7.out W hB).mono H4.out.size))))
      have HT2 := Lib.hid (fun h => sp_two HR.out.valid HQ3.out HE.out h)
      have HX1 := Lib.hid (fun h => spT_le (f := x.f) (k := x.k) (s := x.s.extract 0 q) HR.out.valid HR.out.2.1 h)
      obtain ⟨E1, hE1⟩ : ∃ E1, spE t'.tx x.f x.k (x.s.extract 0 q) = E1 := ⟨_, rfl⟩
      rw [hE1] at HS1 HT2 HX1
      have KEEP := Lib.hid (fun w' (hB : Below w7.heap.size w7 w') => HB4.out w' (H7.out w' hB))
      clear hq hqe hE1 z1 z2
      go_region_held3 (fun w' => w'.cell? ⟨w.heap.size, 0, none⟩ = some (.int .i64 x.f) ∧ w'.cell? ⟨w.heap.size, 1, none⟩ = some (.int .i64 x.k) ∧ w'.cell? ⟨w.heap.size, 2, none⟩ = some (.string x.s))
        (first | exact KEEP.out _ hC1 | exact KEEP.out _ (Below.refl _ _).drew | exact KEEP.out _ (Below.refl _ _))
        (first
          | (go_at_call 10; (with_reducible refine (HS1.out _ ((Below.refl w7.heap.size w7).drew)).mono ?_); rintro en wk1 ⟨v6, rfl, hB, hr6⟩; have hC1 := (Below.refl w7.heap.size w7).drew.trans hB; clear hB))
      rename_i hHeld
      have H8 := Lib.hid (And.intro hC1 (fun W (hB : Below wk1.heap.size wk1 W) => H7.out W (hC1.trans (hB.mono hC1.size))))
      clear hHeld KEEP x0 x1 x2 hC1 HS1
      generalize wk1 = w8 at *
      rcases hr6 with ⟨hE, t6, hR6, hx6⟩ | ⟨hE, rfl⟩
      rotate_left
      · go_wp2_with fail
        have hb8 := (HW.out _ (H4.out.trans ((H8.out.2 w8 (Below.refl _ _)).mono H4.out.size))).2
        refine (HAw.out w8 hb8).mono ?_
        rintro en w9 ⟨rfl, hB⟩
        have H9 := Lib.hid (hb8.trans (hB.mono hb8.size))
        clear hB hb8
        go_wp2_with fail
        go_ret
        exact ⟨rfl, H9.out⟩
      subst hE
      have h2 := HT2.out rfl
      have HS2 := Lib.hid (fun W (hB : Below w8.heap.size w8 W) => (show Calls Tryd.prog 10 #[v6, .int .i64 (x.f + (q : Int)), .int .i64 (x.f + (q : Int)), .string (x.s.extract q x.s.size)] W (NewR 0 (spT t'.tx x.f x.k x.s) W) from by
        have k := HSp.out W (HW.out _ (H4.out.trans ((H8.out.2 W hB).mono H4.out.size))).2 v6 t6 (x.f + (q : Int)) (x.f + (q : Int)) (x.s.extract q x.s.size) ⟨by omega, by omega⟩ ⟨by omega, by omega⟩ (by rw [hx6]; exact HX1.out rfl) HZ.out.2 (hR6.below hB)
        rw [hx6, h2.1, h2.2] at k
        exact k))
      have KEEP := Lib.hid (fun w' (hB : Below w8.heap.size w8 w') => HB4.out w' (H8.out.2 w' hB))
      have wr3 : IntKind.i64.wrap (x.f + (q : Int)) = x.f + (q : Int) := wrapI _ (by omega) (by omega)
      clear h2 hR6 hx6 HT2 HX1
      obtain ⟨x0, x1, x2⟩ := KEEP.out w8 (Below.refl _ _)
      go_upto_region 25 with fail
      go_region_held3 (fun w' => w'.cell? ⟨w.heap.size, 0, none⟩ = some (.int .i64 x.f) ∧ w'.cell? ⟨w.heap.size, 1, none⟩ = some (.int .i64 x.k) ∧ w'.cell? ⟨w.heap.size, 2, none⟩ = some (.string x.s))
        (first | exact KEEP.out _ hC1 | exact KEEP.out _ (Below.refl _ _).drew | exact KEEP.out _ (Below.refl _ _))
        (first
          | (go_at_call 10; (with_reducible refine (HS2.out _ ((Below.refl w8.heap.size w8).drew)).mono ?_); rintro en wk1 ⟨v7, rfl, hB, hr7⟩; have hC1 := (Below.refl w8.heap.size w8).drew.trans hB; clear hB))
      rename_i hHeld
      have H9 := Lib.hid (H8.out.2 _ hC1)
      clear hHeld KEEP x0 x1 x2 hC1 HS2
      generalize wk1 = w9 at *
      rcases hr7 with ⟨-, t7, hR7, hx7⟩ | ⟨hE, -⟩
      rotate_left
      · exact (hE trivial).elim
      have H10 := Lib.hid (fun W (hB : Below w9.heap.size w9 W) => (show Calls Tryd.prog 23 #[v7] W (StrR (spT t'.tx x.f x.k x.s) W) ∧ Calls Tryd.prog 23 #[v4] W (StrR (spT t'.tx x.f x.k x.s) W) ∧ Below w.heap.size w W from by
        have b4 := H9.out.trans (hB.mono H9.out.size)
        refine ⟨?_, ?_, (HW.out _ (H4.out.trans (b4.mono H4.out.size))).2⟩
        · rw [← hx7]; exact text_any v7 t7 W (hR7.below hB) (by rw [hx7]; have := HP.out.2.2.2; omega)
        · rw [← HR4.out.2]; exact text_any v4 t4 W (HR4.out.1.below b4) (by rw [HR4.out.2]; have := HP.out.2.2.2; omega)))
      clear hR7 hx7
      go_wp2_with fail
      refine ((H10.out _ (Below.refl _ _)).1).mono ?_
      rintro en wa ⟨rfl, hB⟩
      have HA := Lib.hid hB
      clear hB
      go_wp2_with fail
      refine ((H10.out _ HA.out).2.1).mono ?_
      rintro en wb ⟨rfl, hB⟩
      have HB := Lib.hid (HA.out.trans (hB.mono HA.out.size))
      clear hB
      go_wp2_with fail
      refine (HAw.out wb (H10.out _ HB.out).2.2).mono ?_
      rintro en wc ⟨rfl, hB⟩
      have HC9 := Lib.hid ((H10.out _ HB.out).2.2.trans (hB.mono (H10.out _ HB.out).2.2.size))
      clear hB
      go_wp2_with fail
      go_ret
      exact ⟨rfl, HC9.out⟩
end Go.Proofs.YtdigkgoaldgodaaDoor
