/- A tree is divided between two leaves: its ways. Conditions: a text of at most 10^12 bytes. -/
import Derived.Test.YtdigkgoaldgodaaDoorMD31
namespace Go.Proofs.YtdigkgoaldgodaaDoor
open Go Go.RowKit Go.Lib

set_option maxHeartbeats 4000000 in
set_option maxRecDepth 100000 in
theorem split_R (d : Nat) (l r : R.T) (v : Value) (o : Nat) (w : World) (h : NT w w.heap.size v (.inner d l r)) (ht : (R.T.inner d l r).Fit) (hs : l.tx.size + r.tx.size ≤ 1000000000000) (h0 : ¬ o = 0) (h1 : ¬ o = l.tx.size + r.tx.size) (h2 : ¬ o < l.tx.size) (ho : o ≤ l.tx.size + r.tx.size)
    (ih : ∀ W, Below w.heap.size w W → ∀ vr, NT W W.heap.size vr r → Calls Tryd.prog 59 #[vr, .int .i64 ((o - l.tx.size : Nat) : Int)] W (SplitR r (o - l.tx.size) W)) :
    Calls Tryd.prog 59 #[v, .int .i64 (o : Nat)] w (SplitR (.inner d l r) o w) := by
  have htx : (R.T.inner d l r).tx = l.tx ++ r.tx := rfl
  have k0 : (((o : Nat) : Int) == 0) = false := by simpa using h0
  have ok : (R.T.inner d l r).Ok := ht.resolve_left (fun e => by cases e)
  obtain ⟨b, vl, vr, hbw, rfl, hi, hl, hr⟩ := h
  have t1 := fun W => ta_inner_inner W (.pointer (some ⟨b, 0, none⟩))
  have HI := Lib.hid (fun W (hB : Below w.heap.size w W) => (show InnerAt W b _ d _ _ from (hB.block b hbw).trans hi))
  have hcb : (R.cn (l.tx ++ r.tx)).b = l.tx.size + r.tx.size := U.app_size _ _
  obtain ⟨f0, -⟩ := hi.cnAt
  rw [hcb] at f0
  obtain ⟨c5, c6, c7⟩ := hi.rest
  have k1 : (((o : Nat) : Int) == (((l.tx.size + r.tx.size : Nat)) : Int)) = false := by simpa using (by omega : ¬ (o : Int) = ((l.tx.size + r.tx.size : Nat) : Int))
  obtain ⟨Tl, xl, rfl, hm⟩ := hl.meth (fun e => by subst e; exact ok.1)
  have HM := Lib.hid hm
  have m1 : (method 247 Tl xl "glossator/rope.whole").run Tryd.prog w = _ := HM.out 246 w (Below.refl _ _)
  have fc := field_cn (R.cn l.tx)
  have hcl : (R.cn l.tx).b = l.tx.size := rfl
  have HC := Lib.hid hcl
  have HNl := Lib.hid (fun W (hB : Below w.heap.size w W) => hl.below hB)
  have HNr := Lib.hid (fun W (hB : Below w.heap.size w W) => hr.below hB)
  have HOk := Lib.hid ok
  have HZ := Lib.hid (show l.tx.size ≤ 1000000000000 ∧ r.tx.size ≤ 1000000000000 - l.tx.size by omega)
  have HTx := Lib.hid htx
  have k2 : ¬ (o : Int) < (l.tx.size : Int) := by omega
  have e3 : (o : Int) - (l.tx.size : Int) = ((o - l.tx.size : Nat) : Int) := by omega
  have HO := Lib.hid (show l.tx.size ≤ o by omega)
  have HIH := Lib.hid (fun W (hB : Below w.heap.size w W) => ih W hB vr (hr.below hB))
  obtain ⟨oo, hoo⟩ : ∃ oo, oo = o - l.tx.size := ⟨_, rfl⟩
  rw [← hoo] at HIH e3
  have b1 : (oo : Int) ≤ 1000000000000 := by omega
  have b2 : (0 : Int) ≤ (oo : Int) := by omega
  have HE := Lib.hid hoo
  clear hoo
  clear ht hs h0 h1 h2 ho hi hl hr ok hm hcl hcb htx ih
  generalize l.tx.size + r.tx.size = nn at *
  go_enter Tryd.func59, Tryd.ntmps59
  go_wp2_with (refine (whole_any _ _).mono ?_)
  rintro e w1 ⟨rfl, hB1⟩
  have H1 := Lib.hid hB1
  clear c5 c6 c7 f0 m1 hB1
  obtain ⟨c5, c6, c7⟩ := (HI.out w1 H1.out).rest
  generalize (R.cn l.tx).b = nl at *
  obtain rfl := HC.out
  go_wp2_with fail
  refine (HIH.out w1 H1.out).mono ?_
  rintro e w2 ⟨va, vb, ta, tb, rfl, na, nb, fa, fb, hab, hoa, hB2⟩
  have H2 := Lib.hid (H1.out.trans (hB2.mono H1.out.size))
  have HA := Lib.hid (And.intro na (And.intro nb (And.intro fa (And.intro fb (And.intro hab hoa)))))
  clear c5 c6 c7 hB2 H1 na nb fa fb hab hoa
  obtain ⟨c5, c6, c7⟩ := (HI.out w2 H2.out).rest
  go_wp2_with fail
  refine (join_any _ va l ta w2 (HNl.out _ H2.out) HA.out.1 HOk.out.1.fit HA.out.2.2.1 (by have h6 := size_two HA.out.2.2.2.2.1; have := HZ.out; omega)).mono ?_
  rintro e w3 ⟨tc, vc, rfl, nc, fcc, hc, hB3⟩
  have HY := Lib.hid (And.intro nc (And.intro fcc (And.intro hc hB3)))
  clear nc fcc hc hB3
  go_wp2_with fail
  go_ret2
  exact ⟨vc, vb, tc, tb, rfl, HY.out.1, HA.out.2.1.below HY.out.2.2.2, HY.out.2.1, HA.out.2.2.2.1, by rw [HTx.out, HY.out.2.2.1, HA.out.2.2.2.2.1, ByteArray.append_assoc], by rw [HY.out.2.2.1, U.app_size, HA.out.2.2.2.2.2]; have := HO.out; have := HE.out; omega, H2.out.trans (HY.out.2.2.2.mono H2.out.size)⟩
end Go.Proofs.YtdigkgoaldgodaaDoor

namespace Go.Proofs.YtdigkgoaldgodaaDoor
open Go Go.RowKit Go.Lib

set_option maxHeartbeats 4000000 in
set_option maxRecDepth 100000 in
theorem split_whole (d : Nat) (l r : R.T) (v : Value) (w : World) (h : NT w w.heap.size v (.inner d l r)) (ht : (R.T.inner d l r).Fit) (h0 : ¬ l.tx.size + r.tx.size = 0) :
    Calls Tryd.prog 59 #[v, .int .i64 ((l.tx.size + r.tx.size : Nat) : Int)] w (SplitR (.inner d l r) (l.tx.size + r.tx.size) w) := by
  have htx : (R.T.inner d l r).tx = l.tx ++ r.tx := rfl
  have k0 : (((l.tx.size + r.tx.size : Nat) : Int) == 0) = false := by simpa using (by omega : ¬ ((l.tx.size + r.tx.size : Nat) : Int) = 0)
  have HX := Lib.hid (And.intro h ht)
  obtain ⟨b, vl, vr, hbw, rfl, hi, hl, hr⟩ := h
  have t1 := fun W => ta_inner_inner W (.pointer (some ⟨b, 0, none⟩))
  have hcb : (R.cn (l.tx ++ r.tx)).b = l.tx.size + r.tx.size := U.app_size _ _
  obtain ⟨f0, -⟩ := hi.cnAt
  rw [hcb] at f0
  have k1 : (((l.tx.size + r.tx.size : Nat) : Int) == (((l.tx.size + r.tx.size : Nat)) : Int)) = true := by simp
  have HZ := Lib.hid (show (l.tx ++ r.tx).size = l.tx.size + r.tx.size from U.app_size _ _)
  clear ht h0 hi hl hr hcb
  generalize l.tx.size + r.tx.size = nn at *
  go_enter Tryd.func59, Tryd.ntmps59
  go_wp2_with fail
  go_ret2
  exact ⟨_, _, _, .none, rfl, HX.out.1, nt_none _ _, HX.out.2, .inl rfl, (R.app_none _ _ rfl).symm, by rw [htx, HZ.out], Below.refl _ _⟩
end Go.Proofs.YtdigkgoaldgodaaDoor

namespace Go.Proofs.YtdigkgoaldgodaaDoor
open Go Go.RowKit Go.Lib

set_option maxHeartbeats 2000000 in
set_option maxRecDepth 100000 in
theorem split_any : ∀ (t : R.T) (v : Value) (o : Nat) (w : World), NT w w.heap.size v t → t.Fit → R.Bd t o → t.tx.size ≤ 1000000000000 →
    Calls Tryd.prog 59 #[v, .int .i64 (o : Nat)] w (SplitR t o w)
  | .none, v, o, w, h, ht, hb, hs => by
    obtain rfl : o = 0 := hb
    exact split_zero v .none w h ht
  | .leaf s, v, o, w, h, ht, hb, hs => by
    by_cases h0 : o = 0
    · subst h0; exact split_zero v _ w h ht
    · obtain rfl : o = s.size := hb.resolve_left h0
      have HX := Lib.hid (And.intro h ht)
      obtain ⟨b, hb', rfl, -⟩ := h
      have t1 := fun W => ta_leaf_inner W (.pointer (some ⟨b, 0, none⟩))
      have k0 : (((s.size : Nat) : Int) == 0) = false := by simpa using h0
      clear ht hb hs h0
      go_enter Tryd.func59, Tryd.ntmps59
      go_wp2_with fail
      go_ret2
      exact ⟨_, _, .leaf s, .none, rfl, HX.out.1, nt_none _ _, HX.out.2, .inl rfl, (R.app_none _ _ rfl).symm, rfl, Below.refl _ _⟩
  | .inner d l r, v, o, w, h, ht, hb, hs => by
    have hz : (R.T.inner d l r).tx.size = l.tx.size + r.tx.size := U.app_size _ _
    have ok : (R.T.inner d l r).Ok := ht.resolve_left (fun e => by cases e)
    by_cases h0 : o = 0
    · subst h0; exact split_zero v _ w h ht
    · by_cases h1 : o = l.tx.size + r.tx.size
      · subst h1; exact split_whole d l r v w h ht h0
      · by_cases h2 : o < l.tx.size
        · exact split_L d l r v o w h ht (by omega) h0 h1 h2 (fun vl W _ hl => split_any l vl o W hl ok.1.fit (hb.elim id (fun h => by omega)) (by omega))
        · have hbr : R.Bd r (o - l.tx.size) := by
            rcases hb with hb | ⟨-, hb⟩
            · have := hb.le
              rw [show o - l.tx.size = 0 by omega]; exact R.Bd.zero r
            · exact hb
          exact split_R d l r v o w h ht (by omega) h0 h1 h2 (by have := hb.le; omega) (fun W _ vr hr => split_any r vr _ W hr ok.2.1.fit hbr (by omega))
end Go.Proofs.YtdigkgoaldgodaaDoor
