/- A tree's bytes are written into a builder. Conditions: a text of at most 10^12 bytes. -/
import Derived.Test.YtjeopabnddekgaaDoorME19
import Derived.Test.YtjeopabnddekgaaDoorME27
import Derived.Shelf.Strings.Builder1
namespace Go.Proofs.YtjeopabnddekgaaDoor
open Go Go.RowKit Go.Lib

namespace R
theorem ext_app (l r : ByteArray) (f t : Nat) : (l ++ r).extract f t = l.extract f t ++ r.extract (f - l.size) (t - l.size) := ByteArray.extract_append
theorem ext_none (l : ByteArray) (f t : Nat) (h : t ≤ f ∨ l.size ≤ f) : l.extract f t = ByteArray.empty := U.empty_of _ (by rw [ByteArray.size_extract]; omega)
theorem ext_all (l : ByteArray) (t : Nat) (h : l.size ≤ t) : l.extract 0 t = l := by
  apply ByteArray.ext
  rw [ByteArray.data_extract]
  exact Array.extract_eq_self_of_le (by simpa using h)
theorem ext_cap (l : ByteArray) (f t : Nat) (h : l.size ≤ t) : l.extract f t = l.extract f l.size := by
  apply ByteArray.ext
  rw [ByteArray.data_extract, ByteArray.data_extract]
  apply Array.ext
  · simp; omega
  · intro i h1 h2; simp
end R
theorem strCells_app (x y : ByteArray) : Lib.strCells (x ++ y) = Lib.strCells x ++ Lib.strCells y := by
  unfold Lib.strCells
  simp [ByteArray.data_append]
theorem strCells_none (x : ByteArray) (h : x.size = 0) : Lib.strCells x = [] := by
  rw [U.empty_of x h]; rfl
def IsB (N b : Nat) (bs : List Value) (w : World) : Prop := Lib.IsBuilder 93 5 N b bs w
theorem IsB.below {N b : Nat} {bs : List Value} {w w' : World} (h : IsB N b bs w) (hB : Below w.heap.size w w') : IsB N b bs w' := by
  have key : ∀ p, Lib.BuilderAt 93 5 N b p bs w → Lib.BuilderAt 93 5 N b p bs w' := by
    rintro p ⟨h1, v, h2, h3, h4⟩
    exact ⟨h1, v, (hB.block b (Array.getElem?_eq_some_iff.1 h2).1).trans h2, h3.kept (row := none) ⟨hB.os, hB.tape, hB.output, hB.size, fun k hk _ => hB.block k hk⟩ (by cases v.ownBlock <;> simp), h4⟩
  exact h.elim (fun h => .inl (key _ h)) (fun h => .inr (key _ h))
def WroteB (N b : Nat) (bs : List Value) (x : ByteArray) (w : World) (e : Ending) (w' : World) : Prop := e = .returned (.tuple #[]) ∧ IsB N b (bs ++ Lib.strCells x) w' ∧ Below N w w'
theorem writeString_any (N b : Nat) (bs : List Value) (s : ByteArray) (w : World) (h : IsB N b bs w) (hl : bs.length + s.size ≤ 140737488355328) (hN : N ≤ w.heap.size) :
    Calls Tryd.prog 73 #[.pointer (some ⟨b, 0, none⟩), .string s] w fun e w' => e = .returned (.tuple #[.int .i64 s.size, .nilIface]) ∧ IsB N b (bs ++ Lib.strCells s) w' ∧ Below N w w' := by
  refine (Any.Builder_WriteString Tryd.laysWriteString Tryd.X_laysWriteString_ren N b bs s w h hl hN).mono ?_
  rintro e w' ⟨rfl, h1, h2⟩
  exact ⟨rfl, .inr h1, h2⟩
theorem field_cn (c : R.Cn) (W : World) : (Instr.field 96 (.agg #[Value.int .i64 (((c).b : Nat) : Int), Value.int .i64 (((c).u : Nat) : Int), Value.int .i64 (((c).k : Nat) : Int), Value.bool (c).f, Value.bool (c).e]) 0).run Tryd.prog W = .ok (.int .i64 (c.b : Nat)) W := by kernel_rfl
set_option maxHeartbeats 4000000 in
set_option maxRecDepth 100000 in
theorem write_any (N b : Nat) : ∀ (t : R.T) (v : Value) (f k : Nat) (bs : List Value) (w : World), t.Fit → NT w N v t → f ≤ k → k ≤ t.tx.size → bs.length + t.tx.size ≤ 1000000000000 → IsB N b bs w → N ≤ w.heap.size →
    Calls Tryd.prog 47 #[.pointer (some ⟨b, 0, none⟩), v, .int .i64 (f : Nat), .int .i64 (k : Nat)] w (WroteB N b bs (t.tx.extract f k) w)
  | .none, v, f, k, bs, w, ht, h, hf, hk, hb, hB, hN => by
    obtain rfl : v = .nilIface := h
    have t1 := ta_nil_leaf
    have t2 := ta_nil_inner
    have hx : bs ++ Lib.strCells (R.T.none.tx.extract f k) = bs := by
      rw [strCells_none _ (by have h0 : R.T.none.tx.size = 0 := rfl; rw [ByteArray.size_extract]; omega), List.append_nil]
    unfold WroteB
    rw [hx]
    go_enter Tryd.func47, Tryd.ntmps47
    go_wp2_with fail
    exact bodyPost_end (results_none rfl _ _ _) rfl ⟨rfl, hB, Below.refl _ _⟩
  | .leaf s, v, f, k, bs, w, ht, h, hf, hk, hb, hB, hN => by
    obtain ⟨g, hg, rfl, h⟩ := h
    have t1 := fun W => ta_leaf_leaf W (.pointer (some ⟨g, 0, none⟩))
    have c5 := h.text
    have hk' : k ≤ s.size := hk
    have hb' : bs.length + s.size ≤ 1000000000000 := hb
    go_enter Tryd.func47, Tryd.ntmps47
    go_wp2_with fail
    refine (writeString_any N b bs (s.extract f k) w hB (by rw [ByteArray.size_extract]; omega) hN).mono ?_
    rintro e w' ⟨rfl, h1, h2⟩
    go_wp2_with fail
    exact bodyPost_end (results_none rfl _ _ _) rfl ⟨rfl, h1, h2⟩
  | .inner d l r, v, f, k, bs, w, ht, h, hf, hk, hb, hB, hN => by
    obtain ⟨g, vl, vr, hg, rfl, hi, hl, hr⟩ := h
    have hok : (R.T.inner d l r).Ok := ht.resolve_left (fun e => by cases e)
    obtain ⟨Tl, xl, rfl, hm⟩ := hl.meth (fun e => by subst e; exact hok.1)
    have t1 := fun W => ta_inner_leaf W (.pointer (some ⟨g, 0, none⟩))
    have t2 := fun W => ta_inner_inner W (.pointer (some ⟨g, 0, none⟩))
    have htx : (R.T.inner d l r).tx = l.tx ++ r.tx := rfl
    rw [htx] at hk hb ⊢
    rw [U.app_size] at hk hb
    have HI := Lib.hid (fun W (hB : Below N w W) => (show InnerAt W g _ d _ vr from (hB.block g hg).trans hi).rest)
    have hW := fun f k bs W hf hk hb hB hN (hBw : Below N w W) => write_any N b l _ f k bs W hok.1.fit (hl.on hBw (Nat.le_refl _)) hf hk hb hB hN
    have hR := fun f k bs W hf hk hb hB hN (hBw : Below N w W) => write_any N b r _ f k bs W hok.2.1.fit (hr.on hBw (Nat.le_refl _)) hf hk hb hB hN
    have HW := Lib.hid hW
    have HR := Lib.hid hR
    have HM := Lib.hid hm
    have HBu := Lib.hid hB
    have fc := field_cn (R.cn l.tx)
    rw [R.ext_app]
    have hcb : (R.cn l.tx).b = l.tx.size := rfl
    have HC := Lib.hid hcb
    clear hW hR hm hi hl hr hok ht hB htx hcb
    obtain ⟨c5, c6, c7⟩ := HI.out w (Below.refl _ _)
    have m1 : (method 274 Tl xl "glossator/rope.whole").run Tryd.prog w = _ := HM.out 273 w (Below.refl _ _)
    go_enter Tryd.func47, Tryd.ntmps47
    go_wp2_with (refine (whole_any _ _).mono ?_)
    rintro e w1 ⟨rfl, hB1⟩
    have HB1 := Lib.hid (hB1.mono hN)
    have hN1 : N ≤ w1.heap.size := Nat.le_trans hN hB1.size
    have HBu1 := Lib.hid (HBu.out.below hB1)
    clear c5 c6 c7 m1 hB1 HBu
    obtain ⟨c5, c6, c7⟩ := HI.out w1 HB1.out
    generalize (R.cn l.tx).b = nl at *
    obtain rfl := HC.out
    by_cases h1 : f < l.tx.size
    · have k1 : (f : Int) < (l.tx.size : Int) := by omega
      by_cases h2 : l.tx.size < k
      · have k2 : (l.tx.size : Int) < (k : Int) := by omega
        have e1 : min (k : Int) (l.tx.size : Int) = (l.tx.size : Int) := by omega
        have e2 : max (f : Int) (l.tx.size : Int) - (l.tx.size : Int) = ((0 : Nat) : Int) := by omega
        have e3 : (k : Int) - (l.tx.size : Int) = ((k - l.tx.size : Nat) : Int) := by omega
        go_wp2_with fail
        refine (HW.out f l.tx.size bs w1 (by omega) (Nat.le_refl _) (by omega) HBu1.out hN1 HB1.out).mono ?_
        rintro e w2 ⟨rfl, hb2, hB2⟩
        have HB2 := Lib.hid (HB1.out.trans hB2)
        have HBu2 := Lib.hid hb2
        have hN2 : N ≤ w2.heap.size := Nat.le_trans hN1 hB2.size
        clear c5 c6 c7 hB2 hb2
        obtain ⟨c5, c6, c7⟩ := HI.out w2 HB2.out
        go_wp2_with fail
        refine (HR.out 0 (k - l.tx.size) _ w2 (by omega) (by omega) (by rw [List.length_append, Lib.strCells_length, ByteArray.size_extract]; omega) HBu2.out hN2 HB2.out).mono ?_
        rintro e w3 ⟨rfl, hb3, hB3⟩
        go_wp2_with fail
        refine bodyPost_end (results_none rfl _ _ _) rfl ⟨rfl, ?_, HB2.out.trans hB3⟩
        rw [strCells_app, ← List.append_assoc, R.ext_cap l.tx f k (by omega), show f - l.tx.size = 0 by omega]
        exact hb3
      · have k2 : ¬ (l.tx.size : Int) < (k : Int) := by omega
        have e1 : min (k : Int) (l.tx.size : Int) = (k : Int) := by omega
        go_wp2_with fail
        refine (HW.out f k bs w1 hf (by omega) (by omega) HBu1.out hN1 HB1.out).mono ?_
        rintro e w2 ⟨rfl, hb2, hB2⟩
        go_wp2_with fail
        refine bodyPost_end (results_none rfl _ _ _) rfl ⟨rfl, ?_, HB1.out.trans hB2⟩
        rw [strCells_app, R.ext_none r.tx _ _ (.inl (by omega)), strCells_none ByteArray.empty rfl, List.append_nil]
        exact hb2
    · have k1 : ¬ (f : Int) < (l.tx.size : Int) := by omega
      by_cases h2 : l.tx.size < k
      · have k2 : (l.tx.size : Int) < (k : Int) := by omega
        have e2 : max (f : Int) (l.tx.size : Int) - (l.tx.size : Int) = ((f - l.tx.size : Nat) : Int) := by omega
        have e3 : (k : Int) - (l.tx.size : Int) = ((k - l.tx.size : Nat) : Int) := by omega
        go_wp2_with fail
        refine (HR.out (f - l.tx.size) (k - l.tx.size) bs w1 (by omega) (by omega) (by omega) HBu1.out hN1 HB1.out).mono ?_
        rintro e w2 ⟨rfl, hb2, hB2⟩
        go_wp2_with fail
        refine bodyPost_end (results_none rfl _ _ _) rfl ⟨rfl, ?_, HB1.out.trans hB2⟩
        rw [strCells_app, R.ext_none l.tx _ _ (.inr (by omega)), strCells_none ByteArray.empty rfl, List.nil_append]
        exact hb2
      · have k2 : ¬ (l.tx.size : Int) < (k : Int) := by omega
        go_wp2_with fail
        refine bodyPost_end (results_none rfl _ _ _) rfl ⟨rfl, ?_, HB1.out⟩
        rw [R.ext_none l.tx _ _ (.inr (by omega)), R.ext_none r.tx _ _ (.inl (by omega)), strCells_none _ rfl, List.append_nil]
        exact HBu1.out
end Go.Proofs.YtjeopabnddekgaaDoor

namespace Go.Proofs.YtjeopabnddekgaaDoor
open Go Go.RowKit Go.Lib

theorem R.Bd.le : ∀ {t : R.T} {o : Nat}, R.Bd t o → o ≤ t.tx.size
  | .none, _, h => by have h : _ = 0 := h; omega
  | .leaf s, _, h => by rcases h with rfl | rfl <;> simp [R.T.tx]
  | .inner d l r, o, h => by
    have hz : (R.T.inner d l r).tx.size = l.tx.size + r.tx.size := U.app_size _ _
    rcases h with h | ⟨h1, h2⟩
    · have := R.Bd.le h; omega
    · have := R.Bd.le h2; omega
theorem size_two {a b c : ByteArray} (h : a = b ++ c) : a.size = b.size + c.size := by rw [h, U.app_size]
def SplitR (t : R.T) (o : Nat) (w : World) (e : Ending) (w' : World) : Prop := ∃ vl vr l r, e = .returned (.tuple #[vl, vr]) ∧ NT w' w'.heap.size vl l ∧ NT w' w'.heap.size vr r ∧ l.Fit ∧ r.Fit ∧ t.tx = l.tx ++ r.tx ∧ l.tx.size = o ∧ Below w.heap.size w w'
theorem nt_none (w : World) (N : Nat) : NT w N .nilIface .none := rfl
set_option maxHeartbeats 4000000 in
set_option maxRecDepth 100000 in
theorem split_zero (v : Value) (t : R.T) (w : World) (h : NT w w.heap.size v t) (ht : t.Fit) :
    Calls Tryd.prog 74 #[v, .int .i64 ((0 : Nat) : Int)] w (SplitR t 0 w) := by
  have HX := Lib.hid (And.intro h ht)
  clear h ht
  go_enter Tryd.func74, Tryd.ntmps74
  go_wp2_with fail
  go_ret2
  exact ⟨_, v, .none, t, rfl, nt_none _ _, HX.out.1, .inl rfl, HX.out.2, (R.empty_app _).symm, rfl, Below.refl _ _⟩
end Go.Proofs.YtjeopabnddekgaaDoor

namespace Go.Proofs.YtjeopabnddekgaaDoor
open Go Go.RowKit Go.Lib

set_option maxHeartbeats 4000000 in
set_option maxRecDepth 100000 in
theorem split_L (d : Nat) (l r : R.T) (v : Value) (o : Nat) (w : World) (h : NT w w.heap.size v (.inner d l r)) (ht : (R.T.inner d l r).Fit) (hs : l.tx.size + r.tx.size ≤ 1000000000000) (h0 : ¬ o = 0) (h1 : ¬ o = l.tx.size + r.tx.size) (h2 : o < l.tx.size)
    (ih : ∀ vl W, Below w.heap.size w W → NT W W.heap.size vl l → Calls Tryd.prog 74 #[vl, .int .i64 (o : Nat)] W (SplitR l o W)) :
    Calls Tryd.prog 74 #[v, .int .i64 (o : Nat)] w (SplitR (.inner d l r) o w) := by
  have htx : (R.T.inner d l r).tx = l.tx ++ r.tx := rfl
  have k0 : (((o : Nat) : Int) == 0) = false := by simpa using h0
  have ok : (R.T.inner d l r).Ok := ht.resolve_left (fun e => by cases e)
  obtain ⟨b, vl, vr, hbw, rfl, hi, hl, hr⟩ := h
  have t1 := fun W => ta_inner_inner W (.pointer (some ⟨b, 0, none⟩))
  have HI := Lib.hid (fun W (hB : Below w.heap.size w W) => (show InnerAt W b _ d _ _ from (hB.block b hbw).trans hi))
  have hcb : (R.cn (l.tx ++ r.tx)).b = l.tx.size + r.tx.size := U.app_size _ _
  obtain ⟨f0, -⟩ := hi.cnAt
  rw [hcb] at f0
  obtain ⟨c5, c6, c7⟩ := hi.rest
  have k1 : (((o : Nat) : Int) == (((l.tx.size + r.tx.size : Nat)) : Int)) = false := by simpa using (by omega : ¬ (o : Int) = ((l.tx.size + r.tx.size : Nat) : Int))
  obtain ⟨Tl, xl, rfl, hm⟩ := hl.meth (fun e => by subst e; exact ok.1)
  have HM := Lib.hid hm
  have m1 : (method 274 Tl xl "glossator/rope.whole").run Tryd.prog w = _ := HM.out 273 w (Below.refl _ _)
  have fc := field_cn (R.cn l.tx)
  have hcl : (R.cn l.tx).b = l.tx.size := rfl
  have HC := Lib.hid hcl
  have HNl := Lib.hid (fun W (hB : Below w.heap.size w W) => hl.below hB)
  have HNr := Lib.hid (fun W (hB : Below w.heap.size w W) => hr.below hB)
  have HOk := Lib.hid ok
  have HZ := Lib.hid (show l.tx.size ≤ 1000000000000 ∧ r.tx.size ≤ 1000000000000 - l.tx.size by omega)
  have HTx := Lib.hid htx
  have k2 : (o : Int) < (l.tx.size : Int) := by omega
  have HIH := Lib.hid (fun W (hB : Below w.heap.size w W) => ih _ W hB (hl.below hB))
  clear ht hs h0 h1 h2 hi hl hr ok hm hcl hcb htx ih
  generalize en : l.tx.size + r.tx.size = nn at *
  go_enter Tryd.func74, Tryd.ntmps74
  go_wp2_with (refine (whole_any _ _).mono ?_)
  rintro e w1 ⟨rfl, hB1⟩
  have H1 := Lib.hid hB1
  clear c5 c6 c7 f0 m1 hB1
  obtain ⟨c5, c6, c7⟩ := (HI.out w1 H1.out).rest
  generalize (R.cn l.tx).b = nl at *
  obtain rfl := HC.out
  go_wp2_with fail
  refine (HIH.out w1 H1.out).mono ?_
  rintro e w2 ⟨va, vb, ta, tb, rfl, na, nb, fa, fb, hab, hoa, hB2⟩
  have H2 := Lib.hid (H1.out.trans (hB2.mono H1.out.size))
  have HA := Lib.hid (And.intro na (And.intro nb (And.intro fa (And.intro fb (And.intro hab hoa)))))
  clear c5 c6 c7 hB2 H1 na nb fa fb hab hoa
  obtain ⟨c5, c6, c7⟩ := (HI.out w2 H2.out).rest
  go_wp2_with fail
  refine (join_any vb vr tb r w2 HA.out.2.1 (HNr.out _ H2.out) HA.out.2.2.2.1 HOk.out.2.1.fit (by have h6 := size_two HA.out.2.2.2.2.1; have := HZ.out; omega)).mono ?_
  rintro e w3 ⟨tc, vc, rfl, nc, fcc, hc, hB3⟩
  have HY := Lib.hid (And.intro nc (And.intro fcc (And.intro hc hB3)))
  clear nc fcc hc hB3
  go_wp2_with fail
  go_ret2
  exact ⟨va, vc, ta, tc, rfl, HA.out.1.below HY.out.2.2.2, HY.out.1, HA.out.2.2.1, HY.out.2.1, by rw [HTx.out, HY.out.2.2.1, HA.out.2.2.2.2.1, ByteArray.append_assoc], HA.out.2.2.2.2.2, H2.out.trans (HY.out.2.2.2.mono H2.out.size)⟩
end Go.Proofs.YtjeopabnddekgaaDoor

namespace Go.Proofs.YtjeopabnddekgaaDoor
open Go Go.RowKit Go.Lib

set_option maxHeartbeats 4000000 in
set_option maxRecDepth 100000 in
theorem split_R (d : Nat) (l r : R.T) (v : Value) (o : Nat) (w : World) (h : NT w w.heap.size v (.inner d l r)) (ht : (R.T.inner d l r).Fit) (hs : l.tx.size + r.tx.size ≤ 1000000000000) (h0 : ¬ o = 0) (h1 : ¬ o = l.tx.size + r.tx.size) (h2 : ¬ o < l.tx.size) (ho : o ≤ l.tx.size + r.tx.size)
    (ih : ∀ W, Below w.heap.size w W → ∀ vr, NT W W.heap.size vr r → Calls Tryd.prog 74 #[vr, .int .i64 ((o - l.tx.size : Nat) : Int)] W (SplitR r (o - l.tx.size) W)) :
    Calls Tryd.prog 74 #[v, .int .i64 (o : Nat)] w (SplitR (.inner d l r) o w) := by
  have htx : (R.T.inner d l r).tx = l.tx ++ r.tx := rfl
  have k0 : (((o : Nat) : Int) == 0) = false := by simpa using h0
  have ok : (R.T.inner d l r).Ok := ht.resolve_left (fun e => by cases e)
  obtain ⟨b, vl, vr, hbw, rfl, hi, hl, hr⟩ := h
  have t1 := fun W => ta_inner_inner W (.pointer (some ⟨b, 0, none⟩))
  have HI := Lib.hid (fun W (hB : Below w.heap.size w W) => (show InnerAt W b _ d _ _ from (hB.block b hbw).trans hi))
  have hcb : (R.cn (l.tx ++ r.tx)).b = l.tx.size + r.tx.size := U.app_size _ _
  obtain ⟨f0, -⟩ := hi.cnAt
  rw [hcb] at f0
  obtain ⟨c5, c6, c7⟩ := hi.rest
  have k1 : (((o : Nat) : Int) == (((l.tx.size + r.tx.size : Nat)) : Int)) = false := by simpa using (by omega : ¬ (o : Int) = ((l.tx.size + r.tx.size : Nat) : Int))
  obtain ⟨Tl, xl, rfl, hm⟩ := hl.meth (fun e => by subst e; exact ok.1)
  have HM := Lib.hid hm
  have m1 : (method 274 Tl xl "glossator/rope.whole").run Tryd.prog w = _ := HM.out 273 w (Below.refl _ _)
  have fc := field_cn (R.cn l.tx)
  have hcl : (R.cn l.tx).b = l.tx.size := rfl
  have HC := Lib.hid hcl
  have HNl := Lib.hid (fun W (hB : Below w.heap.size w W) => hl.below hB)
  have HNr := Lib.hid (fun W (hB : Below w.heap.size w W) => hr.below hB)
  have HOk := Lib.hid ok
  have HZ := Lib.hid (show l.tx.size ≤ 1000000000000 ∧ r.tx.size ≤ 1000000000000 - l.tx.size by omega)
  have HTx := Lib.hid htx
  have k2 : ¬ (o : Int) < (l.tx.size : Int) := by omega
  have e3 : (o : Int) - (l.tx.size : Int) = ((o - l.tx.size : Nat) : Int) := by omega
  have HO := Lib.hid (show l.tx.size ≤ o by omega)
  have HIH := Lib.hid (fun W (hB : Below w.heap.size w W) => ih W hB vr (hr.below hB))
  obtain ⟨oo, hoo⟩ : ∃ oo, oo = o - l.tx.size := ⟨_, rfl⟩
  rw [← hoo] at HIH e3
  have b1 : (oo : Int) ≤ 1000000000000 := by omega
  have b2 : (0 : Int) ≤ (oo : Int) := by omega
  have HE := Lib.hid hoo
  clear hoo
  clear ht hs h0 h1 h2 ho hi hl hr ok hm hcl hcb htx ih
  generalize l.tx.size + r.tx.size = nn at *
  go_enter Tryd.func74, Tryd.ntmps74
  go_wp2_with (refine (whole_any _ _).mono ?_)
  rintro e w1 ⟨rfl, hB1⟩
  have H1 := Lib.hid hB1
  clear c5 c6 c7 f0 m1 hB1
  obtain ⟨c5, c6, c7⟩ := (HI.out w1 H1.out).rest
  generalize (R.cn l.tx).b = nl at *
  obtain rfl := HC.out
  go_wp2_with fail
  refine (HIH.out w1 H1.out).mono ?_
  rintro e w2 ⟨va, vb, ta, tb, rfl, na, nb, fa, fb, hab, hoa, hB2⟩
  have H2 := Lib.hid (H1.out.trans (hB2.mono H1.out.size))
  have HA := Lib.hid (And.intro na (And.intro nb (And.intro fa (And.intro fb (And.intro hab hoa)))))
  clear c5 c6 c7 hB2 H1 na nb fa fb hab hoa
  obtain ⟨c5, c6, c7⟩ := (HI.out w2 H2.out).rest
  go_wp2_with fail
  refine (join_any _ va l ta w2 (HNl.out _ H2.out) HA.out.1 HOk.out.1.fit HA.out.2.2.1 (by have h6 := size_two HA.out.2.2.2.2.1; have := HZ.out; omega)).mono ?_
  rintro e w3 ⟨tc, vc, rfl, nc, fcc, hc, hB3⟩
  have HY := Lib.hid (And.intro nc (And.intro fcc (And.intro hc hB3)))
  clear nc fcc hc hB3
  go_wp2_with fail
  go_ret2
  exact ⟨vc, vb, tc, tb, rfl, HY.out.1, HA.out.2.1.below HY.out.2.2.2, HY.out.2.1, HA.out.2.2.2.1, by rw [HTx.out, HY.out.2.2.1, HA.out.2.2.2.2.1, ByteArray.append_assoc], by rw [HY.out.2.2.1, U.app_size, HA.out.2.2.2.2.2]; have := HO.out; have := HE.out; omega, H2.out.trans (HY.out.2.2.2.mono H2.out.size)⟩
end Go.Proofs.YtjeopabnddekgaaDoor

namespace Go.Proofs.YtjeopabnddekgaaDoor
open Go Go.RowKit Go.Lib

set_option maxHeartbeats 4000000 in
set_option maxRecDepth 100000 in
theorem split_whole (d : Nat) (l r : R.T) (v : Value) (w : World) (h : NT w w.heap.size v (.inner d l r)) (ht : (R.T.inner d l r).Fit) (h0 : ¬ l.tx.size + r.tx.size = 0) :
    Calls Tryd.prog 74 #[v, .int .i64 ((l.tx.size + r.tx.size : Nat) : Int)] w (SplitR (.inner d l r) (l.tx.size + r.tx.size) w) := by
  have htx : (R.T.inner d l r).tx = l.tx ++ r.tx := rfl
  have k0 : (((l.tx.size + r.tx.size : Nat) : Int) == 0) = false := by simpa using (by omega : ¬ ((l.tx.size + r.tx.size : Nat) : Int) = 0)
  have HX := Lib.hid (And.intro h ht)
  obtain ⟨b, vl, vr, hbw, rfl, hi, hl, hr⟩ := h
  have t1 := fun W => ta_inner_inner W (.pointer (some ⟨b, 0, none⟩))
  have hcb : (R.cn (l.tx ++ r.tx)).b = l.tx.size + r.tx.size := U.app_size _ _
  obtain ⟨f0, -⟩ := hi.cnAt
  rw [hcb] at f0
  have k1 : (((l.tx.size + r.tx.size : Nat) : Int) == (((l.tx.size + r.tx.size : Nat)) : Int)) = true := by simp
  have HZ := Lib.hid (show (l.tx ++ r.tx).size = l.tx.size + r.tx.size from U.app_size _ _)
  clear ht h0 hi hl hr hcb
  generalize l.tx.size + r.tx.size = nn at *
  go_enter Tryd.func74, Tryd.ntmps74
  go_wp2_with fail
  go_ret2
  exact ⟨_, _, _, .none, rfl, HX.out.1, nt_none _ _, HX.out.2, .inl rfl, (R.app_none _ _ rfl).symm, by rw [htx, HZ.out], Below.refl _ _⟩
end Go.Proofs.YtjeopabnddekgaaDoor

namespace Go.Proofs.YtjeopabnddekgaaDoor
open Go Go.RowKit Go.Lib

set_option maxHeartbeats 2000000 in
set_option maxRecDepth 100000 in
theorem split_any : ∀ (t : R.T) (v : Value) (o : Nat) (w : World), NT w w.heap.size v t → t.Fit → R.Bd t o → t.tx.size ≤ 1000000000000 →
    Calls Tryd.prog 74 #[v, .int .i64 (o : Nat)] w (SplitR t o w)
  | .none, v, o, w, h, ht, hb, hs => by
    obtain rfl : o = 0 := hb
    exact split_zero v .none w h ht
  | .leaf s, v, o, w, h, ht, hb, hs => by
    by_cases h0 : o = 0
    · subst h0; exact split_zero v _ w h ht
    · obtain rfl : o = s.size := hb.resolve_left h0
      have HX := Lib.hid (And.intro h ht)
      obtain ⟨b, hb', rfl, -⟩ := h
      have t1 := fun W => ta_leaf_inner W (.pointer (some ⟨b, 0, none⟩))
      have k0 : (((s.size : Nat) : Int) == 0) = false := by simpa using h0
      clear ht hb hs h0
      go_enter Tryd.func74, Tryd.ntmps74
      go_wp2_with fail
      go_ret2
      exact ⟨_, _, .leaf s, .none, rfl, HX.out.1, nt_none _ _, HX.out.2, .inl rfl, (R.app_none _ _ rfl).symm, rfl, Below.refl _ _⟩
  | .inner d l r, v, o, w, h, ht, hb, hs => by
    have hz : (R.T.inner d l r).tx.size = l.tx.size + r.tx.size := U.app_size _ _
    have ok : (R.T.inner d l r).Ok := ht.resolve_left (fun e => by cases e)
    by_cases h0 : o = 0
    · subst h0; exact split_zero v _ w h ht
    · by_cases h1 : o = l.tx.size + r.tx.size
      · subst h1; exact split_whole d l r v w h ht h0
      · by_cases h2 : o < l.tx.size
        · exact split_L d l r v o w h ht (by omega) h0 h1 h2 (fun vl W _ hl => split_any l vl o W hl ok.1.fit (hb.elim id (fun h => by omega)) (by omega))
        · have hbr : R.Bd r (o - l.tx.size) := by
            rcases hb with hb | ⟨-, hb⟩
            · have := hb.le
              rw [show o - l.tx.size = 0 by omega]; exact R.Bd.zero r
            · exact hb
          exact split_R d l r v o w h ht (by omega) h0 h1 h2 (by have := hb.le; omega) (fun W _ vr hr => split_any r vr _ W hr ok.2.1.fit hbr (by omega))
end Go.Proofs.YtjeopabnddekgaaDoor
