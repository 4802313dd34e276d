/- A rope is like its text. Conditions: a text of at most 16384 bytes. -/
import Derived.Test.YtjeopabnddekgaaDoorMS05
import Derived.Test.YtjeopabnddekgaaDoorME44
import Derived.Test.YtjeopabnddekgaaDoorME39
namespace Go.Proofs.YtjeopabnddekgaaDoor
open Go Go.RowKit Go.Lib

theorem dep_le {t : R.T} (ht : t.Fit) {d : Nat} (h : t.tx.size < 2 ^ d) : t.dep ≤ 4 + 2 * d := by
  rcases ht with rfl | ht
  · exact Nat.zero_le _
  · have h1 := ht.many
    have h2 : 2 ^ (t.dep / 2) < 2 ^ d := Nat.lt_of_le_of_lt h1 h
    have h3 : t.dep / 2 < d := (Nat.pow_lt_pow_iff_right (by decide)).1 h2
    omega
set_option maxHeartbeats 4000000 in
set_option maxRecDepth 100000 in
theorem alike_any (v : Value) (t : R.T) (w : World) (h : RopeAt w v t) (hs : t.tx.size ≤ 16384) : Calls Tryd.prog 15 #[v, .string t.tx] w (BoolIs true w) := by
  have hfit : t.Fit := by obtain ⟨b, rv, rfl, hb, hn, ht⟩ := h; exact ht
  have HC := Lib.hid (fun W (hB : Below w.heap.size w W) => And.intro (text_any v t W (h.below hB) (by omega)) (And.intro (show Calls Tryd.prog 25 #[v] W (IntR t.tx.size W) from len_any v t W (h.below hB)) (And.intro (unitsR_any v t W (h.below hB)) (And.intro (breaks_any v t W (h.below hB)) (depthR_any v t W (h.below hB))))))
  have HR := Lib.hid (fun W => And.intro (show Calls Tryd.prog 43 #[.string t.tx] W (IntR (R.cn t.tx).u W) from refUnits_any t.tx W (by omega)) (And.intro (refBreaks_any t.tx W (by omega)) (refMost_any t.tx.size W (by omega))))
  have HD := Lib.hid (fun d (h : t.tx.size < 2 ^ d) => dep_le hfit h)
  obtain ⟨b, rfl⟩ : ∃ b, v = .pointer (some ⟨b, 0, none⟩) := by obtain ⟨b, rv, rfl, hb, hn, ht⟩ := h; exact ⟨b, rfl⟩
  have hn0 : ∃ e : Nat, t.dep = e := ⟨_, rfl⟩
  obtain ⟨e, he⟩ := hn0
  rw [he] at HC HD
  have j0 : (0 : Int) ≤ (e : Int) := Int.natCast_nonneg e
  generalize (R.cn t.tx).u = u at *
  generalize (R.cn t.tx).k = k at *
  clear h hfit he
  go_enter Tryd.func15, Tryd.ntmps15
  go_wp2_with fail
  refine ((HC.out _ (Below.refl _ _)).1).mono ?_
  rintro en w1 ⟨rfl, hB⟩
  have H1 := Lib.hid hB
  clear hB
  go_wp2_with fail
  refine ((HC.out _ H1.out).2.1).mono ?_
  rintro en w2 ⟨rfl, hB⟩
  have H2 := Lib.hid (H1.out.trans (hB.mono H1.out.size))
  clear hB
  go_wp2_with fail
  refine ((HC.out _ H2.out).2.2.1).mono ?_
  rintro en w3 ⟨rfl, hB⟩
  have H3 := Lib.hid (H2.out.trans (hB.mono H2.out.size))
  clear hB
  go_wp2_with fail
  refine ((HR.out _).1).mono ?_
  rintro en w4 ⟨rfl, hB⟩
  have H4 := Lib.hid (H3.out.trans (hB.mono H3.out.size))
  clear hB
  go_wp2_with fail
  refine ((HC.out _ H4.out).2.2.2.1).mono ?_
  rintro en w5 ⟨rfl, hB⟩
  have H5 := Lib.hid (H4.out.trans (hB.mono H4.out.size))
  clear hB
  go_wp2_with fail
  refine ((HR.out _).2.1).mono ?_
  rintro en w6 ⟨rfl, hB⟩
  have H6 := Lib.hid (H5.out.trans (hB.mono H5.out.size))
  clear hB
  go_wp2_with fail
  refine ((HC.out _ H6.out).2.2.2.2).mono ?_
  rintro en w7 ⟨rfl, hB⟩
  have H7 := Lib.hid (H6.out.trans (hB.mono H6.out.size))
  clear hB
  go_wp2_with fail
  refine ((HR.out _).2.2).mono ?_
  rintro en w8 ⟨d, rfl, hd, hd40, hB⟩
  have H8 := Lib.hid (H7.out.trans (hB.mono H7.out.size))
  have hle : (e : Int) ≤ 4 + 2 * (d : Int) := by have := HD.out d hd; omega
  clear hB hd
  go_wp2_with fail
  refine ((HC.out _ H8.out).2.2.2.2).mono ?_
  rintro en w9 ⟨rfl, hB⟩
  have H9 := Lib.hid (H8.out.trans (hB.mono H8.out.size))
  clear hB
  go_wp2_with fail
  go_ret
  exact ⟨rfl, H9.out⟩
end Go.Proofs.YtjeopabnddekgaaDoor

namespace Go.Proofs.YtjeopabnddekgaaDoor
open Go Go.RowKit Go.Shelf Go.Lib

/-- the text, or an error -/
def SpR (x : ByteArray) (f k : Int) (s : ByteArray) (w : World) (e : Ending) (w' : World) : Prop := (∃ y, e = .returned (.tuple #[.string y, .int .i64 (spE x f k s)]) ∧ (spE x f k s = 0 → y = spT x f k s)) ∧ Below w.heap.size w w'
set_option maxHeartbeats 1000000 in
set_option maxRecDepth 100000 in
theorem refSplice_any (x : ByteArray) (f k : Int) (s : ByteArray) (w : World) (hv : U.valid x = true) (hs : x.size ≤ 16384) (hss : s.size ≤ 70000) : Calls Tryd.prog 14 #[.string x, .int .i64 f, .int .i64 k, .string s] w (SpR x f k s w) := by
  by_cases h0 : spE x f k s = 0
  · refine (refSplice_ok x f k s w hv hs hss h0).mono ?_
    rintro e w' ⟨rfl, hB⟩
    exact ⟨⟨_, by rw [h0], fun _ => rfl⟩, hB⟩
  have HM := Lib.hid (fun W => refMay_any x f k W hv (by omega))
  have HV := Lib.hid (fun W => refValid_any s W (by omega))
  by_cases hm : mayR x f k = true
  · rw [hm] at HM
    obtain ⟨a, c, rfl, rfl, hac, hc, -, -⟩ := mayR_spec hm
    have j1 : (a : Int) ≤ (c : Int) := by omega
    have j2 : (c : Int) ≤ (x.size : Int) := by omega
    have j3 : (0 : Int) ≤ (a : Int) := by omega
    have j4 : (0 : Int) ≤ (c : Int) := by omega
    have j5 : (x.size : Int) ≤ 16384 := by omega
    have j6 : (s.size : Int) ≤ 70000 := by omega
    have j7 : (a : Int) ≤ (x.size : Int) := by omega
    by_cases hvs : U.valid s = true
    · rw [hvs] at HV
      by_cases hl : 16384 - ((x.size : Int) - ((c : Int) - (a : Int))) < (s.size : Int)
      · have HE := Lib.hid (show spE x (a : Nat) (c : Nat) s = 3 from by unfold spE; rw [if_pos hm, if_pos hvs, if_pos hl])
        have hl2 : (x.size : Int) - (c : Int) + (a : Int) + (s.size : Int) > 16384 := by omega
        clear hm hvs hac hc h0 hl
        go_enter Tryd.func14, Tryd.ntmps14
        go_wp2_with fail
        refine (HM.out _).mono ?_
        rintro e w1 ⟨rfl, hB⟩
        have H1 := Lib.hid hB
        clear hB
        go_wp2_with fail
        refine (HV.out _).mono ?_
        rintro e w2 ⟨rfl, hB⟩
        have H2 := Lib.hid (H1.out.trans (hB.mono H1.out.size))
        clear hB
        go_wp2_with fail
        go_ret2
        exact ⟨⟨_, by rw [HE.out]; rfl, fun h => by rw [HE.out] at h; cases h⟩, H2.out⟩
      · exact absurd (by unfold spE; rw [if_pos hm, if_pos hvs, if_neg hl]) h0
    · have hvs' : U.valid s = false := by simpa using hvs
      rw [hvs'] at HV
      have HE := Lib.hid (show spE x (a : Nat) (c : Nat) s = 10 from by unfold spE; rw [if_pos hm, if_neg hvs])
      clear hm hvs hvs' hac hc h0
      go_enter Tryd.func14, Tryd.ntmps14
      go_wp2_with fail
      refine (HM.out _).mono ?_
      rintro e w1 ⟨rfl, hB⟩
      have H1 := Lib.hid hB
      clear hB
      go_wp2_with fail
      refine (HV.out _).mono ?_
      rintro e w2 ⟨rfl, hB⟩
      have H2 := Lib.hid (H1.out.trans (hB.mono H1.out.size))
      clear hB
      go_wp2_with fail
      go_ret2
      exact ⟨⟨_, by rw [HE.out]; rfl, fun h => by rw [HE.out] at h; cases h⟩, H2.out⟩
  · have hm' : mayR x f k = false := by simpa using hm
    rw [hm'] at HM
    have HE := Lib.hid (show spE x f k s = 90 from by unfold spE; rw [if_neg hm])
    clear hm hm' h0 HV
    go_enter Tryd.func14, Tryd.ntmps14
    go_wp2_with fail
    refine (HM.out _).mono ?_
    rintro e w1 ⟨rfl, hB⟩
    have H1 := Lib.hid hB
    clear hB
    go_wp2_with fail
    go_ret2
    exact ⟨⟨_, by rw [HE.out]; rfl, fun h => by rw [HE.out] at h; cases h⟩, H1.out⟩
end Go.Proofs.YtjeopabnddekgaaDoor

namespace Go.Proofs.YtjeopabnddekgaaDoor
open Go Go.RowKit Go.Lib

theorem owns_block {W : World} {base : Nat} {e : TypeId} {size : Nat} {v : Value} {k : Nat} {xs : List Value} (h : W.ownsRow base e size v k xs) : ∀ r, v.ownBlock = some r → base ≤ r ∧ ∃ c, W.heap[r]? = some (.cells c e (0, 0)) := by
  intro r hr
  rcases h with ⟨hl, ⟨rfl, h0⟩ | ⟨g, cap, cur, rfl, hbg, hg, rest⟩⟩
  · cases hr
  · cases hr
    exact ⟨hbg, cur, hg⟩
theorem owns_grown {W W' : World} {base : Nat} {e : TypeId} {size : Nat} {v : Value} {k : Nat} {xs : List Value} {row : Option Nat} (h : W.ownsRow base e size v k xs) (hg : W.grownBy W' row) (hr : ∀ r, row = some r → ∃ c t, W.heap[r]? = some (.cells c t (0, 0)) ∧ t ≠ e) : W'.ownsRow base e size v k xs := by
  rcases h with ⟨hl, ⟨rfl, h0⟩ | ⟨g, cap, cur, rfl, hbg, hgg, rest⟩⟩
  · exact ⟨hl, .inl ⟨rfl, h0⟩⟩
  · refine ⟨hl, .inr ⟨g, cap, cur, rfl, hbg, (hg.block g (Array.getElem?_eq_some_iff.1 hgg).1 (fun e' => ?_)).trans hgg, rest⟩⟩
    obtain ⟨c, t, h1, h2⟩ := hr g e'.symm
    rw [hgg] at h1
    cases h1
    exact h2 rfl
/-- the ropes and the texts so far -/
structure PlI (w : World) (W : World) (u9 u10 : Value) (l9 l10 : List Value) (ts : List (Value × R.T)) : Prop where
  bel : Below w.heap.size w W
  r9 : W.ownsRow w.heap.size 24 1 u9 l9.length l9
  r10 : W.ownsRow w.heap.size 9 1 u10 l10.length l10
  all : ∀ p ∈ ts, RopeAt W p.1 p.2 ∧ p.2.tx.size ≤ 16384
theorem owns_bel {W W' : World} {base : Nat} {e : TypeId} {size : Nat} {v : Value} {k : Nat} {xs : List Value} (h : W.ownsRow base e size v k xs) (hB : Below W.heap.size W W') : W'.ownsRow base e size v k xs := owns_ck h (CK.below hB)
theorem PlI.below {w W W' : World} {u9 u10 : Value} {l9 l10 : List Value} {ts : List (Value × R.T)} (h : PlI w W u9 u10 l9 l10 ts) (hB : Below W.heap.size W W') : PlI w W' u9 u10 l9 l10 ts :=
  ⟨h.bel.trans (hB.mono h.bel.size), owns_bel h.r9 hB, owns_bel h.r10 hB, fun p hp => ⟨(h.all p hp).1.below hB, (h.all p hp).2⟩⟩
theorem PlI.grow9 {w W W' : World} {u9 u10 u' : Value} {l9 l10 : List Value} {ts : List (Value × R.T)} (h : PlI w W u9 u10 l9 l10 ts) (hg : W.grownBy W' u9.ownBlock) (x : Value) (ho : W'.ownsRow w.heap.size 24 1 u' (l9.length + 1) (l9 ++ [x])) : PlI w W' u' u10 (l9 ++ [x]) l10 ts := by
  have hb := owns_block h.r9
  refine ⟨h.bel.grown hg h.bel.size (fun k hk => (hb k hk).1), by rw [List.length_append]; exact ho, owns_grown h.r10 hg (fun r hr => ?_), fun p hp => ⟨(h.all p hp).1.rk (RK.grown hg (fun r hr => ?_)), (h.all p hp).2⟩⟩
  · obtain ⟨_, c, hc⟩ := hb r hr
    exact ⟨c, _, hc, by decide⟩
  · obtain ⟨_, c, hc⟩ := hb r hr
    exact ⟨c, _, hc, by decide, by decide, by decide⟩
theorem PlI.grow10 {w W W' : World} {u9 u10 u' : Value} {l9 l10 : List Value} {ts : List (Value × R.T)} (h : PlI w W u9 u10 l9 l10 ts) (hg : W.grownBy W' u10.ownBlock) (x : Value) (ho : W'.ownsRow w.heap.size 9 1 u' (l10.length + 1) (l10 ++ [x])) : PlI w W' u9 u' l9 (l10 ++ [x]) ts := by
  have hb := owns_block h.r10
  refine ⟨h.bel.grown hg h.bel.size (fun k hk => (hb k hk).1), owns_grown h.r9 hg (fun r hr => ?_), by rw [List.length_append]; exact ho, fun p hp => ⟨(h.all p hp).1.rk (RK.grown hg (fun r hr => ?_)), (h.all p hp).2⟩⟩
  · obtain ⟨_, c, hc⟩ := hb r hr
    exact ⟨c, _, hc, by decide⟩
  · obtain ⟨_, c, hc⟩ := hb r hr
    exact ⟨c, _, hc, by decide, by decide, by decide⟩
theorem PlI.more {w W : World} {u9 u10 : Value} {l9 l10 : List Value} {ts : List (Value × R.T)} (h : PlI w W u9 u10 l9 l10 ts) {v : Value} {t : R.T} (hv : RopeAt W v t) (ht : t.tx.size ≤ 16384) : PlI w W u9 u10 l9 l10 (ts ++ [(v, t)]) :=
  ⟨h.bel, h.r9, h.r10, fun p hp => by
    rcases List.mem_append.1 hp with hp | hp
    · exact h.all p hp
    · rw [List.mem_singleton.1 hp]; exact ⟨hv, ht⟩⟩
theorem owned_slice9 {w : World} {base : Nat} {e : TypeId} {size n : Nat} {u : Value} {xs : List Value} (h : w.ownsRow base e size u n xs) : ∃ p c, u = .slice p n c := by
  rcases h.2 with ⟨e, h0⟩ | ⟨g, cap, cur, e, _⟩
  · exact ⟨none, 0, by rw [e, h0]⟩
  · exact ⟨_, _, e⟩
def tx10 (ts : List (Value × R.T)) : List Value := ts.map fun p => .string p.2.tx
def vl9 (ts : List (Value × R.T)) : List Value := ts.map (·.1)
/-- the cells of both slices -/
theorem PlI.cells {w W : World} {u9 u10 : Value} {ts : List (Value × R.T)} (h : PlI w W u9 u10 (vl9 ts) (tx10 ts) ts) : ∃ p9 c9 p10 c10, u9 = .slice p9 ts.length c9 ∧ u10 = .slice p10 ts.length c10 ∧ ∀ (j : Nat) (p : Value × R.T), ts[j]? = some p → ∃ g9 g10, p9 = some ⟨g9, 0, none⟩ ∧ p10 = some ⟨g10, 0, none⟩ ∧ W.cell? ⟨g9, j, none⟩ = some p.1 ∧ W.cell? ⟨g10, j, none⟩ = some (.string p.2.tx) ∧ RopeAt W p.1 p.2 ∧ p.2.tx.size ≤ 16384 := by
  have e9 : (vl9 ts).length = ts.length := by simp [vl9]
  have e10 : (tx10 ts).length = ts.length := by simp [tx10]
  have h9 := h.r9
  have h10 := h.r10
  rw [e9] at h9
  rw [e10] at h10
  obtain ⟨p9, c9, rfl⟩ := owned_slice9 h9
  obtain ⟨p10, c10, rfl⟩ := owned_slice9 h10
  refine ⟨p9, c9, p10, c10, rfl, rfl, fun j p hj => ?_⟩
  have hjl := (List.getElem?_eq_some_iff.1 hj).1
  have x9 : (vl9 ts)[j]? = some p.1 := by simp [vl9, hj]
  have x10 : (tx10 ts)[j]? = some (.string p.2.tx) := by simp [tx10, hj]
  have hp := h.all p (List.mem_of_getElem? hj)
  rcases h9.2 with ⟨e, h0⟩ | ⟨g9, _, _, e, _⟩
  · omega
  rcases h10.2 with ⟨e', h0⟩ | ⟨g10, _, _, e', _⟩
  · omega
  cases e
  cases e'
  exact ⟨g9, g10, rfl, rfl, by have := World.ownsRow.cellAt h9 j (by omega); rw [this]; exact x9, by have := World.ownsRow.cellAt h10 j (by omega); rw [this]; exact x10, hp⟩
end Go.Proofs.YtjeopabnddekgaaDoor
