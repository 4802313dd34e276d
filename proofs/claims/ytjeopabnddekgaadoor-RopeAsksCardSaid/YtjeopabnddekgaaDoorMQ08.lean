/- What a rope is asked, it answers of its text: the law's walk. Conditions: strings of at most 2^48 bytes; the library's tables. -/
import Derived.Test.YtjeopabnddekgaaDoorMQ03
import Derived.Test.YtjeopabnddekgaaDoorMQ07
import Derived.Test.YtjeopabnddekgaaDoorME39
import Derived.Test.YtjeopabnddekgaaDoorME38
import Derived.Test.YtjeopabnddekgaaDoorME54
namespace Go.Proofs.YtjeopabnddekgaaDoor
open Go Go.RowKit Go.Lib

/-- what is asked, and what both answer -/
structure AsC (v : Value) (x : ByteArray) (f k l c : Int) (y : ByteArray) (n : Int) (a : Nat) (b : Bool) (W : World) : Prop where
  sl : Calls Tryd.prog 16 #[v, .int .i64 f, .int .i64 k] W (fun e w' => e = .returned (.tuple #[.string y, .int .i64 n]) ∧ Below W.heap.size W w')
  slR : Calls Tryd.prog 17 #[.string x, .int .i64 f, .int .i64 k] W (fun e w' => e = .returned (.tuple #[.string y, .int .i64 n]) ∧ Below W.heap.size W w')
  st : Calls Tryd.prog 18 #[v, .int .i64 f] W (fun e w' => e = .returned (.tuple #[.int .i64 (a : Nat), .bool b]) ∧ Below W.heap.size W w')
  stR : Calls Tryd.prog 19 #[.string x, .int .i64 f] W (fun e w' => e = .returned (.tuple #[.int .i64 (a : Nat), .bool b]) ∧ Below W.heap.size W w')
  off : Calls Tryd.prog 20 #[v, .agg #[.int .i64 l, .int .i64 c]] W (IntR (ofs x l c) W)
  offR : Calls Tryd.prog 21 #[.string x, .agg #[.int .i64 l, .int .i64 c]] W (IntR (ofs x l c) W)
  pos : Calls Tryd.prog 22 #[v, .int .i64 k] W (Pos9Is x (U.bga x k) W)
  posR : Calls Tryd.prog 23 #[.string x, .int .i64 k] W (Pos9Is x (U.bga x k) W)
theorem asks_all {v : Value} {t : R.T} {w : World} (h : RopeAt w v t) (hs : t.tx.size ≤ 16384) (hT : Tabs w) {f k l c : Int} (hf : I64 f) (hk : I64 k) (hl : I64 l) (hc : I64 c) : ∃ y n a b, ∀ W, Below w.heap.size w W → AsC v t.tx f k l c y n a b W := by
  have hfit : t.Fit := by obtain ⟨b, rv, rfl, hb, hn, ht⟩ := h; exact ht
  have hv := hfit.valid
  have hsl : ∃ y n, ∀ W, Below w.heap.size w W → (Calls Tryd.prog 16 #[v, .int .i64 f, .int .i64 k] W (fun e w' => e = .returned (.tuple #[.string y, .int .i64 n]) ∧ Below W.heap.size W w') ∧ Calls Tryd.prog 17 #[.string t.tx, .int .i64 f, .int .i64 k] W (fun e w' => e = .returned (.tuple #[.string y, .int .i64 n]) ∧ Below W.heap.size W w')) := by
    by_cases hm : mayR t.tx f k = true
    · refine ⟨t.tx.extract f.toNat k.toNat, 0, fun W hB => ⟨?_, ?_⟩⟩
      · refine (slice_any v t f k W (h.below hB) (by omega) hf hk (tabs_below hT hB)).mono ?_
        rintro e w' ⟨⟨y, n, rfl, h1, _⟩, hb⟩
        obtain ⟨rfl, rfl⟩ := h1 hm
        exact ⟨rfl, hb⟩
      · refine (refSlice_any t.tx f k W hv (by omega)).mono ?_
        rintro e w' ⟨⟨y, n, rfl, h1, _⟩, hb⟩
        obtain ⟨rfl, rfl⟩ := h1 hm
        exact ⟨rfl, hb⟩
    · have hm' : mayR t.tx f k = false := by simpa using hm
      refine ⟨ByteArray.empty, 90, fun W hB => ⟨?_, ?_⟩⟩
      · refine (slice_any v t f k W (h.below hB) (by omega) hf hk (tabs_below hT hB)).mono ?_
        rintro e w' ⟨⟨y, n, rfl, _, h1⟩, hb⟩
        obtain ⟨rfl, rfl⟩ := h1 hm'
        exact ⟨rfl, hb⟩
      · refine (refSlice_any t.tx f k W hv (by omega)).mono ?_
        rintro e w' ⟨⟨y, n, rfl, _, h1⟩, hb⟩
        obtain ⟨rfl, rfl⟩ := h1 hm'
        exact ⟨rfl, hb⟩
  have hst : ∃ a b, ∀ W, Below w.heap.size w W → (Calls Tryd.prog 18 #[v, .int .i64 f] W (fun e w' => e = .returned (.tuple #[.int .i64 (a : Nat), .bool b]) ∧ Below W.heap.size W w') ∧ Calls Tryd.prog 19 #[.string t.tx, .int .i64 f] W (fun e w' => e = .returned (.tuple #[.int .i64 (a : Nat), .bool b]) ∧ Below W.heap.size W w')) := by
    by_cases hm : 0 ≤ f ∧ f < (L.mny t.tx : Int)
    · refine ⟨L.fr t.tx f.toNat, true, fun W hB => ⟨?_, ?_⟩⟩
      · have k1 := start_any f v t W (h.below hB) (by omega) hf
        rw [R.start_spec t hfit, if_pos hm] at k1
        exact k1
      · have k1 := refStart_any t.tx f W (by omega)
        unfold StRef at k1
        rw [if_pos hm, decide_eq_true hm] at k1
        exact k1
    · refine ⟨0, false, fun W hB => ⟨?_, ?_⟩⟩
      · have k1 := start_any f v t W (h.below hB) (by omega) hf
        rw [R.start_spec t hfit, if_neg hm] at k1
        exact k1
      · have k1 := refStart_any t.tx f W (by omega)
        unfold StRef at k1
        rw [if_neg hm, decide_eq_false hm] at k1
        exact k1
  obtain ⟨y, n, h1⟩ := hsl
  obtain ⟨a, b, h2⟩ := hst
  refine ⟨y, n, a, b, fun W hB => ⟨(h1 W hB).1, (h1 W hB).2, (h2 W hB).1, (h2 W hB).2, ?_, refOff9_any t.tx l c W (by omega), pos9_any k v t W (h.below hB) (by omega) hk (tabs_below hT hB), refPos9_any t.tx k W (by omega)⟩⟩
  have k1 := offset_any l c v t W (h.below hB) (by omega) hl hc
  rw [Ed.offX_is t hfit, offX_ofs hv] at k1
  exact k1
/-- the rope under way -/
def RpV (B : Nat) (w : World) (v : Value) (t : R.T) (W : World) : Prop := RopeAt W v t ∧ t.tx.size ≤ 16384 ∧ Below B w W
theorem RpV.valid {B : Nat} {w W : World} {v : Value} {t : R.T} (h : RpV B w v t W) : U.valid t.tx = true := by
  obtain ⟨⟨b, rv, rfl, hb, hn, ht⟩, _, _⟩ := h; exact ht.valid

def Few62 (l : List OpE) : Prop := l.length ≤ 60 ∧ (∀ e' ∈ l, e'.s.size ≤ 70000)
set_option maxHeartbeats 8000000 in
set_option maxRecDepth 100000 in
theorem ropeAsks_any (s : ByteArray) (v : Value) (l : List OpE) (f0 k0 pl pc : Int) (w : World) (hs : s.size ≤ 281474976710656) (hl : ArgOp w v l) (hf0 : I64 f0) (hk0 : I64 k0) (hpl : I64 pl) (hpc : I64 pc) (hT : Tabs w) :
    Calls Tryd.prog 4 #[.string s, v, .int .i64 f0, .int .i64 k0, .agg #[.int .i64 pl, .int .i64 pc]] w (BoolIs true w) := by
  obtain ⟨z, cap, rfl, hc1, hc2, hr, hq⟩ := hl
  have hb0 := (Below.refl w.heap.size w).alloc (Nat.le_refl _) (.cells #[.int .i64 pl, .int .i64 pc] 38)
  have hn0 : PosRow (w.alloc (.cells #[.int .i64 pl, .int .i64 pc] 38)) w.heap.size pl pc := heap_alloc_new _ _
  have hz0 : (w.alloc (.cells #[.int .i64 pl, .int .i64 pc] 38)).heap.size = w.heap.size + 1 := World.size_alloc _ _
  have H0 := Lib.hid (And.intro hb0 (And.intro hz0 hn0))
  have HOp := Lib.hid (fun W (hB : Below w.heap.size w W) (j : Nat) (e : OpE) (hj : l[j]? = some e) => (show ∃ b o, z = some ⟨b, o, none⟩ ∧ W.cell? ⟨b, o + j * 3, none⟩ = some (.int .i64 e.f) ∧ W.cell? ⟨b, o + j * 3 + 1, none⟩ = some (.int .i64 e.k) ∧ W.cell? ⟨b, o + j * 3 + 2, none⟩ = some (.string e.s) from by
    obtain ⟨b, o, hz, hb, c0, c1, c2⟩ := hr j e hj
    exact ⟨b, o, hz, (hB.cell (p := ⟨b, _, none⟩) hb).trans c0, (hB.cell (p := ⟨b, _, none⟩) hb).trans c1, (hB.cell (p := ⟨b, _, none⟩) hb).trans c2⟩))
  have HQ := Lib.hid (And.intro hq (And.intro hf0 (And.intro hk0 (And.intro hpl hpc))))
  have HGr := Lib.hid (great9_any s z l.length cap (fun j => ((l[j]?).getD ⟨0, 0, ByteArray.empty⟩).s) _ hs (by omega) (fun i hi => by
    obtain ⟨e, hj⟩ : ∃ e, l[i]? = some e := ⟨_, List.getElem?_eq_getElem hi⟩
    obtain ⟨b, o, hz, c0, c1, c2⟩ := HOp.out _ hb0 i e hj
    refine ⟨b, o, hz, ?_, ?_⟩
    · rw [hj]; exact c2
    · rw [hj]; exact (hq e (List.mem_of_getElem? hj)).2.2))
  have HTb := Lib.hid (fun W (hB : Below w.heap.size w W) => tabs_below hT hB)
  have HNw := Lib.hid (fun W (hB : Below w.heap.size w W) (h : s.size ≤ 70000) => new_any s W (by omega) (tabs_below hT hB))
  have HSp := Lib.hid (fun W (hB : Below w.heap.size w W) v t (f k : Int) (y : ByteArray) (hf : I64 f) (hk : I64 k) (h1 : t.tx.size ≤ 16384) (h2 : y.size ≤ 70000) (h : RopeAt W v t) => splice_any v t f k y W h (by omega) (by omega) hf hk (tabs_below hT hB))
  clear hb0 hn0 hz0 hr hq hs hT hf0 hk0 hpl hpc
  go_enter Tryd.func4, Tryd.ntmps4
  go_upto_region 1 with fail
  generalize w.alloc (.cells #[.int .i64 pl, .int .i64 pc] 38) = W0 at *
  go_wp2_with fail
  refine HGr.out.mono ?_
  rintro en w1 ⟨ok, rfl, rfl, hfew⟩
  cases ok
  rotate_left
  · clear hfew
    go_wp2_with fail
    go_ret
    exact ⟨rfl, H0.out.1⟩
  obtain ⟨hs7, hl6, hj7⟩ := hfew rfl
  have HF := Lib.hid (show Few62 l from ⟨hl6, fun e hm => (by
    obtain ⟨j, hj, e1⟩ := List.getElem_of_mem hm
    have := hj7 j hj
    dsimp only at this
    rw [List.getElem?_eq_getElem hj, Option.getD_some, e1] at this
    exact this)⟩)
  have HN := HNw.out w1 H0.out.1 hs7
  have HN := Lib.hid HN
  have hE1 : newE s = 0 → s.size ≤ 16384 := newE_ok
  have HE1 := Lib.hid hE1
  clear hfew hs7 hl6 hj7 HNw HGr hE1
  go_wp2_with fail
  refine HN.out.mono ?_
  clear HN
  rintro en w2 ⟨v1, rfl, hB, hr⟩
  generalize newE s = E at *
  have hB2 := H0.out.1.trans (hB.mono H0.out.1.size)
  have H2 := Lib.hid (And.intro hB2 hB)
  clear hB hB2
  rcases hr with ⟨hE, t, hR, htx⟩ | ⟨hE, rfl⟩
  rotate_left
  · go_wp2_with fail
    go_ret
    exact ⟨rfl, H2.out.1⟩
  subst hE
  have HTX := Lib.hid htx
  have HU := Lib.hid (show RpV w1.heap.size w1 v1 t w2 from ⟨hR, by rw [htx]; exact HE1.out rfl, H2.out.2⟩)
  clear hR htx HE1
  go_wp2_with fail
  go_loopw [11, 13, 14] (fun p tt q wr => ∃ (i : Nat) (t' : R.T), q = .int .i64 (i : Int) ∧ tt = .string t'.tx ∧ i ≤ l.length ∧ Hid (RpV w1.heap.size w1 p t' wr)) (fun _ _ q _ => l.length - (RowKit.intOf q).toNat)
  case atStart => exact ⟨0, t, rfl, by rw [HTX.out], Nat.zero_le _, HU⟩
  case round =>
    obtain ⟨i, t', rfl, rfl, hi, HR⟩ := hrel
    by_cases hlt : i < l.length
    · obtain ⟨e, hj⟩ : ∃ e, l[i]? = some e := ⟨_, List.getElem?_eq_getElem hlt⟩
      have hm := List.mem_of_getElem? hj
      have heo := HQ.out.1 e hm
      have hes := HF.out.2 e hm
      have HJ := Lib.hid (fun W (hB : Below wr.heap.size wr W) => HOp.out W (H0.out.1.trans ((HR.out.2.2.trans (hB.mono HR.out.2.2.size)).mono H0.out.1.size)) i e hj)
      have HS := Lib.hid (fun W (hB : Below wr.heap.size wr W) => HSp.out W (H0.out.1.trans ((HR.out.2.2.trans (hB.mono HR.out.2.2.size)).mono H0.out.1.size)) _ t' e.f e.k e.s heo.1 heo.2.1 HR.out.2.1 hes (HR.out.1.below hB))
      have HX := Lib.hid (fun h => spT_le (f := e.f) (k := e.k) (s := e.s) HR.out.valid HR.out.2.1 h)
      have HES := Lib.hid hes
      obtain ⟨E, hE⟩ : ∃ E, spE t'.tx e.f e.k e.s = E := ⟨_, rfl⟩
      have HE0 := Lib.hid hE
      clear hE
      rw [HE0.out] at HS HX
      obtain ⟨b, o, rfl, c0, c1, c2⟩ := HJ.out wr (Below.refl _ _)
      have KEEP := Lib.hid (fun w' (hB : Below wr.heap.size wr w') => (show w'.cell? ⟨b, o + i * 3, none⟩ = some (.int .i64 e.f) ∧ w'.cell? ⟨b, o + i * 3 + 1, none⟩ = some (.int .i64 e.k) ∧ w'.cell? ⟨b, o + i * 3 + 2, none⟩ = some (.string e.s) from by
        obtain ⟨b', o', hz, g0, g1, g2⟩ := HJ.out w' hB
        cases hz
        exact ⟨g0, g1, g2⟩))
      have HL := Lib.hid hlt
      have i1 : (0 : Int) ≤ (i : Int) := Int.natCast_nonneg i
      have i2 : (i : Int) < (l.length : Int) := by omega
      have i4 : (i : Int) ≤ 1000000000000000 := by omega
      clear hj hm heo hes hlt hi
      go_upto_region 10 with fail
      go_region_held3 (fun w' => w'.cell? ⟨b, o + i * 3, none⟩ = some (.int .i64 e.f) ∧ w'.cell? ⟨b, o + i * 3 + 1, none⟩ = some (.int .i64 e.k) ∧ w'.cell? ⟨b, o + i * 3 + 2, none⟩ = some (.string e.s))
        (first | exact KEEP.out _ hC1 | exact KEEP.out _ (Below.refl _ _).drew | exact KEEP.out _ (Below.refl _ _))
        (first | (go_at_call 13; (with_reducible refine (HS.out _ ((Below.refl wr.heap.size wr).drew)).mono ?_); rintro en wk1 ⟨v2, rfl, hB, hr2⟩; have hC1 := (Below.refl wr.heap.size wr).drew.trans hB; clear hB))
      rename_i hHeld
      have HC := Lib.hid hC1
      clear hHeld KEEP c0 c1 c2 hC1 HS
      rcases hr2 with ⟨hE, t2, hR2, hx2⟩ | ⟨hE, rfl⟩
      · subst hE
        have HX2 := Lib.hid hx2
        have HN := Lib.hid (show RpV w1.heap.size w1 v2 t2 wk1 from ⟨hR2, by rw [hx2]; exact HX.out rfl, HR.out.2.2.trans (HC.out.mono HR.out.2.2.size)⟩)
        clear hR2 hx2
        have HS2 := Lib.hid (fun W => refSplice_ok t'.tx e.f e.k e.s W HR.out.valid HR.out.2.1 HES.out HE0.out)
        have KEEP := Lib.hid (fun w' (hB : Below wk1.heap.size wk1 w') => HJ.out w' (HC.out.trans (hB.mono HC.out.size)))
        obtain ⟨c0, c1, c2⟩ : wk1.cell? ⟨b, o + i * 3, none⟩ = some (.int .i64 e.f) ∧ wk1.cell? ⟨b, o + i * 3 + 1, none⟩ = some (.int .i64 e.k) ∧ wk1.cell? ⟨b, o + i * 3 + 2, none⟩ = some (.string e.s) := by
          obtain ⟨b', o', hz, g0, g1, g2⟩ := KEEP.out wk1 (Below.refl _ _)
          cases hz
          exact ⟨g0, g1, g2⟩
        have KEEP2 := Lib.hid (fun w' (hB : Below wk1.heap.size wk1 w') => (show w'.cell? ⟨b, o + i * 3, none⟩ = some (.int .i64 e.f) ∧ w'.cell? ⟨b, o + i * 3 + 1, none⟩ = some (.int .i64 e.k) ∧ w'.cell? ⟨b, o + i * 3 + 2, none⟩ = some (.string e.s) from by
          obtain ⟨b', o', hz, g0, g1, g2⟩ := KEEP.out w' hB
          cases hz
          exact ⟨g0, g1, g2⟩))
        go_upto_region 13 with fail
        go_region_held3 (fun w' => w'.cell? ⟨b, o + i * 3, none⟩ = some (.int .i64 e.f) ∧ w'.cell? ⟨b, o + i * 3 + 1, none⟩ = some (.int .i64 e.k) ∧ w'.cell? ⟨b, o + i * 3 + 2, none⟩ = some (.string e.s))
          (first | exact KEEP2.out _ hC3 | exact KEEP2.out _ (Below.refl _ _).drew | exact KEEP2.out _ (Below.refl _ _))
          (first | (go_at_call 14; (with_reducible refine (HS2.out _).mono ?_); rintro en wk2 ⟨rfl, hB⟩; have hC3 := (Below.refl wk1.heap.size wk1).drew.trans hB; clear hB))
        rename_i hHeld2
        have HN' := Lib.hid (show RpV w1.heap.size w1 v2 t2 wk2 from ⟨HN.out.1.below hC3, HN.out.2.1, HN.out.2.2.trans (hC3.mono HN.out.2.2.size)⟩)
        clear hHeld2 KEEP KEEP2 c0 c1 c2 hC3 HS2 HN HC
        go_wp2_with fail
        go_roundw
        case rel => exact ⟨i + 1, t2, by go_num, by rw [HX2.out], by have := HL.out; omega, HN'⟩
        case measure => have := HL.out; simp [RowKit.intOf]; omega
      · have HN := Lib.hid (show RpV w1.heap.size w1 _ t' wk1 from ⟨HR.out.1.below HC.out, HR.out.2.1, HR.out.2.2.trans (HC.out.mono HR.out.2.2.size)⟩)
        go_wp2_with fail
        go_roundw
        case rel => exact ⟨i + 1, t', by go_num, rfl, by have := HL.out; omega, HN⟩
        case measure => have := HL.out; simp [RowKit.intOf]; omega
    · have ha : ¬ (i : Int) < (l.length : Int) := by omega
      obtain ⟨y, n, a, bb, hc⟩ := asks_all HR.out.1 HR.out.2.1 (HTb.out wr (H0.out.1.trans (HR.out.2.2.mono H0.out.1.size))) HQ.out.2.1 HQ.out.2.2.1 HQ.out.2.2.2.1 HQ.out.2.2.2.2
      have HC := Lib.hid hc
      have HW := Lib.hid (fun W (hB : Below wr.heap.size wr W) => (show Below w1.heap.size w1 W ∧ Below w.heap.size w W from ⟨HR.out.2.2.trans (hB.mono HR.out.2.2.size), H0.out.1.trans ((HR.out.2.2.trans (hB.mono HR.out.2.2.size)).mono H0.out.1.size)⟩))
      have HBx := Lib.hid (fun W (hB : Below wr.heap.size wr W) => H0.out.2.2.below (HW.out W hB).1)
      clear hi hlt hc HSp HF HOp
      go_wp2_with fail
      refine (HC.out wr (Below.refl _ _)).sl.mono ?_
      rintro en w3 ⟨rfl, hB⟩
      have H3 := Lib.hid hB
      clear hB
      go_wp2_with fail
      refine (HC.out _ H3.out).slR.mono ?_
      rintro en w4 ⟨rfl, hB⟩
      have H4 := Lib.hid (H3.out.trans (hB.mono H3.out.size))
      clear hB
      go_wp2_with fail
      refine (HC.out _ H4.out).st.mono ?_
      rintro en w5 ⟨rfl, hB⟩
      have H5 := Lib.hid (H4.out.trans (hB.mono H4.out.size))
      clear hB
      go_wp2_with fail
      refine (HC.out _ H5.out).stR.mono ?_
      rintro en w6 ⟨rfl, hB⟩
      have H6 := Lib.hid (H5.out.trans (hB.mono H5.out.size))
      clear hB
      go_upto_region 18 with fail
      have KEEP := Lib.hid (fun w' (hB : Below w6.heap.size w6 w') => (show w'.cell? ⟨w.heap.size, 0, none⟩ = some (.int .i64 pl) ∧ w'.cell? ⟨w.heap.size, 1, none⟩ = some (.int .i64 pc) from by
        have h := HBx.out w' (H6.out.trans (hB.mono H6.out.size))
        refine ⟨?_, ?_⟩ <;> (rw [Lib.cell_of_heap h]; rfl)))
      obtain ⟨p1, p2⟩ := KEEP.out w6 (Below.refl _ _)
      have HO := Lib.hid (fun W (hB : Below w6.heap.size w6 W) => HC.out W (H6.out.trans (hB.mono H6.out.size)))
      go_region_held3 (fun w' => w'.cell? ⟨w.heap.size, 0, none⟩ = some (.int .i64 pl) ∧ w'.cell? ⟨w.heap.size, 1, none⟩ = some (.int .i64 pc))
        (first | exact KEEP.out _ hC4 | exact KEEP.out _ hC3 | exact KEEP.out _ hC2 | exact KEEP.out _ hC1 | exact KEEP.out _ (Below.refl _ _).drew | exact KEEP.out _ (Below.refl _ _))
        (first
          | (go_at_call 23; (with_reducible refine ((HO.out _ hC3).posR).mono ?_); rintro en wk4 ⟨rfl, hB⟩; have hC4 := hC3.trans (hB.mono hC3.size); clear hB)
          | (go_at_call 22; (with_reducible refine ((HO.out _ hC2).pos).mono ?_); rintro en wk3 ⟨rfl, hB⟩; have hC3 := hC2.trans (hB.mono hC2.size); clear hB)
          | (go_at_call 21; (with_reducible refine ((HO.out _ hC1).offR).mono ?_); rintro en wk2 ⟨rfl, hB⟩; have hC2 := hC1.trans (hB.mono hC1.size); clear hB)
          | (go_at_call 20; (with_reducible refine ((HO.out _ ((Below.refl w6.heap.size w6).drew)).off).mono ?_); rintro en wk1 ⟨rfl, hB⟩; have hC1 := (Below.refl w6.heap.size w6).drew.trans hB; clear hB))
      rename_i hHeld
      have HE := Lib.hid ((HW.out _ (H6.out.trans (hC4.mono H6.out.size))).2)
      clear hHeld KEEP p1 p2 hC1 hC2 hC3 hC4
      go_wp2_with fail
      go_ret
      exact ⟨rfl, HE.out⟩
end Go.Proofs.YtjeopabnddekgaaDoor

namespace Go.Proofs.YtjeopabnddekgaaDoor
open Go Go.ChangeShapes Go.WideShapes Go.ChangeAt Go.RowKit Go.Joins

theorem str9_le {H : Type} {x : ByteArray} (h : OReach ((DataW.lit (H := H) (.string x.data.toList)).weights Tryd.prog 9)) : x.size ≤ 281474976710656 := by
  have := h x.data.toList.length (by unfold DataW.weights; exact List.mem_singleton_self _)
  rw [Array.length_toList] at this
  exact Nat.le_trans this (by decide)
theorem cellsPosP : Tryd.prog.cellsOf 38 = 2 := by kernel_rfl
theorem twoP {α : Type} {l : List α} (h : l.length = 2) : ∃ a b, l = [a, b] := by
  match l, h with
  | [a, b], _ => exact ⟨a, b, rfl⟩
section
variable {H : Type} {enc : TypeId × Value → H} {W : World} {base : Nat} {v : Value} {d : DataW H} {p : List MemPlace} {spare : Nat → Bool}
theorem posP_is {fuel : Nat} {cs : List Value} {x : DataW H × List MemPlace} (h : DataW.trod enc Tryd.prog W 0 spare true fuel 38 cs = some x) : ∃ a b : Int, cs = [.int .i64 a, .int .i64 b] ∧ I64 a ∧ I64 b := by
  obtain ⟨xs, n, rfl, rfl, hl, hxl, hp⟩ := DataW.trod_struct Tryd.underlying38 h
  rw [cellsPosP] at hl
  obtain ⟨c0, c1, rfl⟩ := twoP hl
  have hxl : xs.length = 2 := hxl
  obtain ⟨x0, x1, rfl⟩ := twoP hxl
  have h0 := hp 0 _ rfl
  have h1 := hp 1 _ rfl
  change DataW.trod enc Tryd.prog W 0 spare true n 3 (List.take (Tryd.prog.cellsOf 3) (List.drop 0 [c0, c1])) = some x0 at h0
  change DataW.trod enc Tryd.prog W 0 spare true n 3 (List.take (Tryd.prog.cellsOf 3) (List.drop 1 [c0, c1])) = some x1 at h1
  rw [cellsIntE] at h0 h1
  obtain ⟨a, e0, ha⟩ := intE_is h0
  obtain ⟨b, e1, hb⟩ := intE_is h1
  simp at e0 e1
  subst e0 e1
  exact ⟨a, b, rfl, ha, hb⟩
set_option maxRecDepth 100000 in
theorem openPosP (hval : Value.okWide Tryd.prog W .any base 38 v) (h : DataW.Trod enc Tryd.prog W 0 (fun _ => true) true 38 v d p) : ∃ a b : Int, v = .agg #[.int .i64 a, .int .i64 b] ∧ I64 a ∧ I64 b := by
  obtain ⟨cs, rfl, hsz⟩ := okWide_struct Tryd.underlying38 hval
  obtain ⟨fuel, hf⟩ := h
  obtain ⟨a, b, e, ha, hb⟩ := posP_is hf
  refine ⟨a, b, ?_, ha, hb⟩
  have e' : cs.toList = [.int .i64 a, .int .i64 b] := by simpa [Value.cells] using e
  congr 1
  exact Array.ext' e'
end
end Go.Proofs.YtjeopabnddekgaaDoor
