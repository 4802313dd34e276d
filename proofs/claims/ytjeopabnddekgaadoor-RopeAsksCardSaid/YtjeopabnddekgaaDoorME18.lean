/- A leaf is found by what the counts up to its end say. Conditions: a text of at most 10^12 bytes. -/
import Derived.Test.YtjeopabnddekgaaDoorME12
import Derived.Test.YtjeopabnddekgaaDoorME16
import Derived.Test.YtjeopabnddekgaaDoorME17
import Derived.Deep.QuietTactic
import Derived.BigQuiet
import Derived.Deep.CutBlock
import Derived.Deep.DeepCutAuto
namespace Go.Proofs.YtjeopabnddekgaaDoor
open Go Go.RowKit Go.Lib

namespace R
/-- what is found: the counts ahead, and the leaf's text -/
def fd (p : Cn → Bool) : T → Cn → Cn × ByteArray
  | .none, a => (a, ByteArray.empty)
  | .leaf s, a => (a, s)
  | .inner _ l r, a => if p (a.add (cn l.tx)) = true then fd p l a else fd p r (a.add (cn l.tx))
end R
/-- the depth of a node, by its value -/
def depOf (w : World) : Value → Nat
  | .iface _ (.pointer (some a)) => match w.cell? ⟨a.block, 5, none⟩ with
    | some (.int _ d) => d.toNat
    | _ => 1
  | _ => 0
theorem NT.depOf {w : World} {N : Nat} {v : Value} {t : R.T} (h : NT w N v t) : depOf w v = t.dep := by
  cases t with
  | none => obtain rfl : v = .nilIface := h; rfl
  | leaf s => obtain ⟨b, hb, rfl, h⟩ := h; simp only [Go.Proofs.YtjeopabnddekgaaDoor.depOf, h.text]; rfl
  | inner d l r => obtain ⟨b, vl, vr, hb, rfl, h, -, -⟩ := h; simp only [Go.Proofs.YtjeopabnddekgaaDoor.depOf, h.rest.1]; simp [R.T.dep]
/-- a place within a find: the tree that is left, the counts ahead of it -/
structure FdSt (w : World) (p : R.Cn → Bool) (t0 : R.T) (v : Value) (t : R.T) (a : R.Cn) (W : World) : Prop where
  nt : NT W w.heap.size v t
  ok : t.Fit
  row : CnRow W w.heap.size a
  below : Below w.heap.size w W
  lt : w.heap.size < W.heap.size
  eq : R.fd p t a = R.fd p t0 R.Cn.none
  fit : ∃ x, U.valid x = true ∧ a = R.cn x ∧ x.size + t.tx.size ≤ 1000000000000
def FoundIs (w : World) (r : R.Cn × ByteArray) (e : Ending) (w' : World) : Prop := e = .returned (.tuple #[(.agg #[Value.int .i64 (((r.1).b : Nat) : Int), Value.int .i64 (((r.1).u : Nat) : Int), Value.int .i64 (((r.1).k : Nat) : Int), Value.bool (r.1).f, Value.bool (r.1).e]), .string r.2]) ∧ Below w.heap.size w w'
def FnIs (w : World) (p : R.Cn → Bool) (fid : FuncId) (q : Nat) : Prop := ∀ (c : R.Cn) (W : World), c.Fits → Below w.heap.size w W → Calls Tryd.prog fid #[(.agg #[Value.int .i64 (((c).b : Nat) : Int), Value.int .i64 (((c).u : Nat) : Int), Value.int .i64 (((c).k : Nat) : Int), Value.bool (c).f, Value.bool (c).e]), .pointer (some ⟨q, 0, none⟩)] W fun e w' => e = .returned (.bool (p c)) ∧ Below W.heap.size W w'
/-- worlds that grow, but for a box that may get these counts -/
def RlB (B : Nat) (c : R.Cn) (W W' : World) : Prop := Below B W W' ∧ (∀ k, k < W.heap.size → k ≠ B → W'.heap[k]? = W.heap[k]?) ∧ (W'.heap[B]? = W.heap[B]? ∨ CnRow W' B c)
theorem RlB.refl (B : Nat) (c : R.Cn) (W : World) : RlB B c W W := ⟨Below.refl _ _, fun _ _ _ => rfl, .inl rfl⟩
theorem RlB.drew (B : Nat) (c : R.Cn) (W : World) : RlB B c W W.drew := ⟨(Below.refl _ _).drew, fun _ _ _ => rfl, .inl rfl⟩
theorem RlB.trans {B : Nat} {c : R.Cn} {W1 W2 W3 : World} (h : RlB B c W1 W2) (k : RlB B c W2 W3) : RlB B c W1 W3 := by
  refine ⟨h.1.trans k.1, fun j hj hne => (k.2.1 j (Nat.lt_of_lt_of_le hj h.1.size) hne).trans (h.2.1 j hj hne), ?_⟩
  rcases k.2.2 with e | e
  · rcases h.2.2 with e2 | e2
    · exact .inl (e.trans e2)
    · exact .inr (e.trans e2)
  · exact .inr e
theorem CnRow.rl {B : Nat} {c : R.Cn} {W W' : World} (h : CnRow W B c) (k : RlB B c W W') : CnRow W' B c := by
  rcases k.2.2 with e | e
  · exact e.trans h
  · exact e
/-- the box, whatever counts it has -/
theorem RlB.res {B : Nat} {c c0 : R.Cn} {W W' : World} (k : RlB B c W W') (h : CnRow W B c0) : CnRow W' B c0 ∨ CnRow W' B c := by
  rcases k.2.2 with e | e
  · exact .inl (e.trans h)
  · exact .inr e
theorem RlB.store {B : Nat} {c c0 : R.Cn} {W : World} (h : CnRow W B c0) : RlB B c W (W.setRow B #[Value.int .i64 (((c).b : Nat) : Int), Value.int .i64 (((c).u : Nat) : Int), Value.int .i64 (((c).k : Nat) : Int), Value.bool (c).f, Value.bool (c).e]) :=
  ⟨below_setRow (Below.refl _ _) (Nat.le_refl _) _, fun k _ hne => setRow_other _ _ _ _ hne, .inr (h.set c)⟩
def BoxOf (W : World) (B : Nat) : Prop := ∃ c0, CnRow W B c0
def FFd6 (ac cl : R.Cn) (b : Nat) (vl : Value) (ob : Option Nat) : Nat → Value → World → Prop
  | 0, y, _ => y = (.agg #[Value.int .i64 (((ac).b : Nat) : Int), Value.int .i64 (((ac).u : Nat) : Int), Value.int .i64 (((ac).k : Nat) : Int), Value.bool (ac).f, Value.bool (ac).e])
  | 1, y, _ => y = .pointer (some ⟨b, 0, none⟩)
  | 2, y, _ => y = .pointer (some ⟨b, 0, none⟩)
  | 3, y, _ => y = .pointer (some ⟨b, 6, none⟩)
  | 4, y, _ => y = vl
  | 5, y, _ => y = (.agg #[Value.int .i64 (((cl).b : Nat) : Int), Value.int .i64 (((cl).u : Nat) : Int), Value.int .i64 (((cl).k : Nat) : Int), Value.bool (cl).f, Value.bool (cl).e])
  | 6, y, W => ∃ g, y = .slice (some ⟨g, 0, none⟩) 2 2 ∧ Two W g (ac) (cl)
  | 7, y, _ => y = (.agg #[Value.int .i64 (((ac.add cl).b : Nat) : Int), Value.int .i64 (((ac.add cl).u : Nat) : Int), Value.int .i64 (((ac.add cl).k : Nat) : Int), Value.bool (ac.add cl).f, Value.bool (ac.add cl).e])
  | _, _, _ => True
theorem FFd6.on {ac cl : R.Cn} {b : Nat} {vl : Value} {ob : Option Nat} {iz : Nat} {y : Value} {W W' : World} (h : FFd6 ac cl b vl ob iz y W) (hB : Below W.heap.size W W') : FFd6 ac cl b vl ob iz y W' := by
  unfold FFd6 at h ⊢
  split at h
  · exact h
  · exact h
  · exact h
  · exact h
  · exact h
  · exact h
  · obtain ⟨g, e, h⟩ := h; exact ⟨g, e, (hB.block g (Array.getElem?_eq_some_iff.1 h).1).trans h⟩
  · exact h
  · trivial
theorem FFd6.al {ac cl : R.Cn} {b : Nat} {vl : Value} {iz : Nat} {y : Value} {W : World} (ox : Obj) (h : FFd6 ac cl b vl none iz y W) : FFd6 ac cl b vl (some W.heap.size) iz y (W.alloc ox) := by
  have hB := (Below.refl W.heap.size W).alloc (Nat.le_refl _) ox
  unfold FFd6 at h ⊢
  split at h
  · exact h
  · exact h
  · exact h
  · exact h
  · exact h
  · exact h
  · obtain ⟨g, e, h⟩ := h; exact ⟨g, e, (hB.block g (Array.getElem?_eq_some_iff.1 h).1).trans h⟩
  · exact h
  · trivial
def FFd9 (B : Nat) (c : R.Cn) (b : Nat) (vl : Value) : Nat → Value → World → Prop
  | 0, y, _ => y = (.agg #[Value.int .i64 (((c).b : Nat) : Int), Value.int .i64 (((c).u : Nat) : Int), Value.int .i64 (((c).k : Nat) : Int), Value.bool (c).f, Value.bool (c).e])
  | 1, y, _ => y = .pointer (some ⟨b, 0, none⟩)
  | 2, y, _ => y = .pointer (some ⟨b, 0, none⟩)
  | 3, y, _ => y = .pointer (some ⟨b, 7, none⟩)
  | 4, y, _ => y = vl
  | 5, _, W => CnRow W (B) (c)
  | _, _, _ => True
theorem FFd9.on {B : Nat} {c : R.Cn} {b : Nat} {vl : Value} {iz : Nat} {y : Value} {W W' : World} (h : FFd9 B c b vl iz y W) (hB : RlB B c W W') : FFd9 B c b vl iz y W' := by
  unfold FFd9 at h ⊢
  split at h
  · exact h
  · exact h
  · exact h
  · exact h
  · exact h
  · exact h.rl hB
  · trivial
def FFd12 (B : Nat) (c : R.Cn) (b : Nat) (vl : Value) : Nat → Value → World → Prop
  | 0, y, _ => y = (.agg #[Value.int .i64 (((c).b : Nat) : Int), Value.int .i64 (((c).u : Nat) : Int), Value.int .i64 (((c).k : Nat) : Int), Value.bool (c).f, Value.bool (c).e])
  | 1, y, _ => y = .pointer (some ⟨b, 0, none⟩)
  | 2, y, _ => y = .pointer (some ⟨b, 0, none⟩)
  | 3, y, _ => y = .pointer (some ⟨b, 5, none⟩)
  | 4, y, _ => y = vl
  | 5, _, W => CnRow W (B) (c)
  | _, _, _ => True
theorem FFd12.on {B : Nat} {c : R.Cn} {b : Nat} {vl : Value} {iz : Nat} {y : Value} {W W' : World} (h : FFd12 B c b vl iz y W) (hB : RlB B c W W') : FFd12 B c b vl iz y W' := by
  unfold FFd12 at h ⊢
  split at h
  · exact h
  · exact h
  · exact h
  · exact h
  · exact h
  · exact h.rl hB
  · trivial

set_option maxHeartbeats 8000000 in
set_option maxRecDepth 100000 in
theorem find_any (p : R.Cn → Bool) (fid : FuncId) (q : Nat) (v : Value) (t : R.T) (w : World) (ht : t.Fit) (hs : t.tx.size ≤ 1000000000000) (h : NT w w.heap.size v t) (hf : FnIs w p fid q) (hent : ∀ args w, (callFunc fid args).run Tryd.prog w = .ok (.enter fid args) w) :
    Calls Tryd.prog 49 #[v, .func (.func fid) #[] #[.pointer (some ⟨q, 0, none⟩)]] w (FoundIs w (R.fd p t R.Cn.none)) := by
  have H0 : Hid (FdSt w p t v t R.Cn.none (w.alloc (.cells #[Value.int .i64 0, Value.int .i64 0, Value.int .i64 0, .bool false, .bool false] 96))) := Lib.hid ⟨h.on ((Below.refl w.heap.size w).alloc (Nat.le_refl _) (.cells #[Value.int .i64 0, Value.int .i64 0, Value.int .i64 0, .bool false, .bool false] 96)) (Nat.le_refl _), ht, CnRow.new w R.Cn.none, (Below.refl w.heap.size w).alloc (Nat.le_refl _) (.cells #[Value.int .i64 0, Value.int .i64 0, Value.int .i64 0, .bool false, .bool false] 96), by rw [World.size_alloc]; omega, rfl, ByteArray.empty, U.valid_none _ rfl, rfl, by simpa using hs⟩
  have HF := Lib.hid hf
  have HE := Lib.hid hent
  clear hf hent h hs ht
  go_enter Tryd.func49, Tryd.ntmps49
  go_wp2_with fail
  generalize w.alloc (.cells #[Value.int .i64 0, Value.int .i64 0, Value.int .i64 0, .bool false, .bool false] 96) = W0 at *
  go_loopw [0] (fun x wr => ∃ t' ac, Hid (FdSt w p t x t' ac wr)) (fun x wr => depOf wr x)
  case atStart => exact ⟨t, _, H0⟩
  case round =>
    obtain ⟨t', ac, HR⟩ := hrel
    cases t' with
    | none =>
      obtain rfl := HR.out.nt
      have t1 := ta_nil_leaf
      have t2 := ta_nil_inner
      have hr := HR.out.row
      obtain ⟨f0, f1, f2, f3, f4⟩ := hr.cnAt
      have HB2 := Lib.hid (below_setRow HR.out.below (Nat.le_refl w.heap.size))
      go_wp2_with (refine wpList_store_row rfl 96 _ _ rfl (w.heap.size) #[Value.int .i64 (((ac).b : Nat) : Int), Value.int .i64 (((ac).u : Nat) : Int), Value.int .i64 (((ac).k : Nat) : Int), Value.bool (ac).f, Value.bool (ac).e] (by rfl) (by rfl) 96 _ hr info_counts rfl (one_counts _) ?_)
      exact cn_ret2 (by rfl) _ _ w.heap.size ac (.string ⟨#[]⟩) (by rfl) (by rfl) rfl (hr.set _) (by
        rw [← HR.out.eq]
        exact ⟨rfl, HB2.out _⟩)
    | leaf s =>
      obtain ⟨b, hb, rfl, hl⟩ := HR.out.nt
      have t1 := fun W => ta_leaf_inner W (.pointer (some ⟨b, 0, none⟩))
      have t2 := fun W => ta_leaf_leaf W (.pointer (some ⟨b, 0, none⟩))
      have HRes := Lib.hid (fun W (hR : RlB w.heap.size ac wr W) => HR.out.row.rl hR)
      have HBox := HRes
      have HRs := HRes
      have HRes := Lib.hid (fun W hR => show BoxOf W w.heap.size from ⟨ac, HRs.out W hR⟩)
      have HTx := Lib.hid (fun W (hR : RlB w.heap.size ac wr W) => (show LeafAt W b s from (hR.1.block b hb).trans hl).text)
      have HRd := Lib.hid (RlB.drew w.heap.size ac wr)
      clear hl
      go_upto_region 12 with fail
      refine RR.wp_region_stepsP (Rl := RlB w.heap.size ac) [some 38, some 39, some 40, some 41, some 42, none, some 5] _ _ (G := fun W => RlB w.heap.size ac wr W) (F := FFd12 w.heap.size ac b (.string s)) (z := 6) (by kernel_rfl) rfl (by decide +kernel) rfl (by decide +kernel) (by decide +kernel) rfl (fun W W' h hB => h.trans hB) (fun i y W W' h hB => h.on hB) ?_ ?_ HRd.out
      · intro i o' ho hz a W hg hd hold K' hK
        have HG := Lib.hid hg
        have hlt : i < 7 := (Array.getElem?_eq_some_iff.1 ho).1
        clear hg
        obtain rfl | rfl | rfl | rfl | rfl | rfl | rfl : i = 0 ∨ i = 1 ∨ i = 2 ∨ i = 3 ∨ i = 4 ∨ i = 5 ∨ i = 6 := by omega
        · obtain rfl := Option.some.inj ho
          have o4 : a.tmps[4]? = _ := (hold 4 rfl).trans rfl
          obtain ⟨f0, f1, f2, f3, f4⟩ := (HBox.out W HG.out).cnAt
          clear hd hold
          go_simp
          exact hK.out _ _ (by rfl) (RlB.refl _ _ _)
        · obtain rfl := Option.some.inj ho
          have o8 : a.tmps[8]? = _ := (hold 8 rfl).trans rfl
          clear hd hold
          go_simp
          exact hK.out _ _ (by rfl) (RlB.refl _ _ _)
        · obtain rfl := Option.some.inj ho
          obtain ⟨y1, e1, h1⟩ := hd 1 39 rfl (by decide +kernel) (by decide)
          have h1 : y1 = _ := h1
          subst h1
          clear hd hold
          go_simp
          exact hK.out _ _ (by rfl) (RlB.refl _ _ _)
        · obtain rfl := Option.some.inj ho
          obtain ⟨y2, e2, h2⟩ := hd 2 40 rfl (by decide +kernel) (by decide)
          have h2 : y2 = _ := h2
          subst h2
          clear hd hold
          go_simp
          exact hK.out _ _ (by rfl) (RlB.refl _ _ _)
        · obtain rfl := Option.some.inj ho
          obtain ⟨y3, e3, h3⟩ := hd 3 41 rfl (by decide +kernel) (by decide)
          have h3 : y3 = _ := h3
          subst h3
          have c5 := HTx.out W HG.out
          clear hd hold
          go_simp
          exact hK.out _ _ (by rfl) (RlB.refl _ _ _)
        · obtain rfl := Option.some.inj ho
          obtain ⟨y0, e0, h0⟩ := hd 0 38 rfl (by decide +kernel) (by decide)
          have h0 : y0 = _ := h0
          subst h0
          have o4 : a.tmps[4]? = _ := (hold 4 rfl).trans rfl
          clear hd hold
          obtain ⟨c0, hres⟩ := HRes.out W HG.out
          rw [if_pos (by rfl)]
          refine wp_store_row _ _ _ rfl w.heap.size #[Value.int .i64 (((ac).b : Nat) : Int), Value.int .i64 (((ac).u : Nat) : Int), Value.int .i64 (((ac).k : Nat) : Int), Value.bool (ac).f, Value.bool (ac).e] (by simp [Act.eval, o4]) (by simp [Act.eval, e0]) 96 _ hres info_counts rfl (one_counts _) ?_
          exact hK.out _ _ (CnRow.set hres (ac)) (RlB.store hres)
        · exact absurd rfl hz
      · intro a W hg hf hold hput hall K' hK
        obtain ⟨y4, o42, hv4⟩ := hf 4 42 rfl (by decide) (by decide)
        have hv4 : y4 = _ := hv4
        subst hv4
        have hst := HRs.out W hg
        have HB := Lib.hid hg.1
        clear hg hf hold hall
        go_simp
        refine hK.out _ _ ?_
        obtain ⟨rr, ha⟩ := hput.out
        clear hput o42
        subst ha
        simp only [putL, Act.put, List.setIfInBounds_toArray, List.set_cons_zero, List.set_cons_succ]
        clear hK K'
        go_wp2_with fail
        exact cn_ret2 (by rfl) _ _ w.heap.size ac (.string s) (by rfl) (by rfl) rfl hst (by
          rw [← HR.out.eq]
          exact ⟨rfl, HR.out.below.trans HB.out⟩)
    | inner d l r =>
      obtain ⟨b, vl, vr, hb, rfl, hi, hnl, hnr⟩ := HR.out.nt
      have hok : (R.T.inner d l r).Ok := HR.out.ok.resolve_left (fun e => by cases e)
      obtain ⟨x, hvx, hax, hsz⟩ := HR.out.fit
      obtain ⟨Tl, xl, rfl, hm⟩ := hnl.meth (fun e => by subst e; exact hok.1)
      have t1 := fun W => ta_inner_inner W (.pointer (some ⟨b, 0, none⟩))
      have htx : (R.T.inner d l r).tx.size = l.tx.size + r.tx.size := U.app_size _ _
      have hpl := hok.1.pos
      have hpr := hok.2.1.pos
      have hsum : ac.add (R.cn l.tx) = R.cn (x ++ l.tx) := by rw [hax]; exact R.cn_add x l.tx hvx
      have HFt : Hid (ac.Fits ∧ (R.cn l.tx).Fits) := Lib.hid ⟨by rw [hax]; exact R.cn_fits x (by omega), R.cn_fits _ (by omega)⟩
      have HSf : Hid ((ac.add (R.cn l.tx)).Fits) := Lib.hid (by rw [hsum]; exact R.cn_fits _ (by rw [U.app_size]; omega))
      have HRow := Lib.hid (fun W (hB : Below wr.heap.size wr W) => HR.out.row.below hB HR.out.lt)
      have HIn := Lib.hid (fun W (hB : Below wr.heap.size wr W) => (show InnerAt W b _ d _ vr from (hB.block b (Nat.lt_trans hb HR.out.lt)).trans hi))
      have HM := Lib.hid (fun n W (hB : Below wr.heap.size wr W) => hm n W ((Below.refl _ _).trans (hB.mono (Nat.le_of_lt HR.out.lt))))
      have HNl := Lib.hid (fun W (hB : Below w.heap.size wr W) => hnl.on hB (Nat.le_refl _))
      have HNr := Lib.hid (fun W (hB : Below w.heap.size wr W) => hnr.on hB (Nat.le_refl _))
      have HEq := Lib.hid HR.out.eq
      have HOk := Lib.hid hok
      have HFi := Lib.hid (show (∃ x, U.valid x = true ∧ ac = R.cn x ∧ x.size + l.tx.size ≤ 1000000000000) ∧ (∃ x, U.valid x = true ∧ ac.add (R.cn l.tx) = R.cn x ∧ x.size + r.tx.size ≤ 1000000000000) from ⟨⟨x, hvx, hax, by omega⟩, ⟨x ++ l.tx, by rw [U.valid_app _ _ hvx]; exact hok.1.valid, hsum, by rw [U.app_size]; omega⟩⟩)
      have HDd := Lib.hid (show l.dep < d ∧ r.dep < d from by have := hok.2.2.1; omega)
      have HDep : Hid (depOf wr (.iface 137 (.pointer (some ⟨b, 0, none⟩))) = d) := Lib.hid (NT.depOf HR.out.nt)
      clear hi hnl hnr hok hm hsum hpl hpr htx hsz hax hvx
      go_upto_region 6 with fail
      have HRd := Lib.hid ((Below.refl wr.heap.size wr).drew)
      refine wp_region_stepsA 8 9 wr.heap.size (.cells #[Value.int .i64 0, Value.int .i64 0, Value.int .i64 0, .bool false, .bool false] 96) [some 15, some 16, some 17, some 18, some 19, some 20, some 21, some 22, some 7, none] _ _ (G := fun W => Below wr.heap.size wr W) (F := FFd6 ac (R.cn l.tx) b (.iface Tl xl)) (by kernel_rfl) rfl (by decide +kernel) rfl (by decide +kernel) (by decide +kernel) (by decide) (by decide) (by decide) (by decide +kernel) (fun W h => h.size) (fun W W' h hB => h.trans (hB.mono h.size)) (fun ob i y W W' h hB => h.on hB) (fun i y W _ h => h.al _) ?_ ?_ ?_ HRd.out
      · intro o ho a W hg K' hK
        obtain rfl := Option.some.inj ho
        clear hg
        go_simp
        exact hK.out
      · intro i o' ho hz hx ob a W hg hob hd hold K' hK
        have HG := Lib.hid hg
        have hlt : i < 10 := (Array.getElem?_eq_some_iff.1 ho).1
        clear hg
        obtain rfl | rfl | rfl | rfl | rfl | rfl | rfl | rfl | rfl | rfl : i = 0 ∨ i = 1 ∨ i = 2 ∨ i = 3 ∨ i = 4 ∨ i = 5 ∨ i = 6 ∨ i = 7 ∨ i = 8 ∨ i = 9 := by omega
        · obtain rfl := Option.some.inj ho
          have o4 : a.tmps[4]? = _ := (hold 4 rfl).trans rfl
          obtain ⟨f0, f1, f2, f3, f4⟩ := (HRow.out W HG.out).cnAt
          clear hd hold
          go_simp
          exact hK.out _ _ (by rfl) (Below.refl _ _)
        · obtain rfl := Option.some.inj ho
          have o6 : a.tmps[6]? = _ := (hold 6 rfl).trans rfl
          clear hd hold
          go_simp
          exact hK.out _ _ (by rfl) (Below.refl _ _)
        · obtain rfl := Option.some.inj ho
          obtain ⟨y1, e1, h1⟩ := hd 1 16 rfl (by decide +kernel) (by decide) (by decide)
          have h1 : y1 = _ := h1
          subst h1
          clear hd hold
          go_simp
          exact hK.out _ _ (by rfl) (Below.refl _ _)
        · obtain rfl := Option.some.inj ho
          obtain ⟨y2, e2, h2⟩ := hd 2 17 rfl (by decide +kernel) (by decide) (by decide)
          have h2 : y2 = _ := h2
          subst h2
          clear hd hold
          go_simp
          exact hK.out _ _ (by rfl) (Below.refl _ _)
        · obtain rfl := Option.some.inj ho
          obtain ⟨y3, e3, h3⟩ := hd 3 18 rfl (by decide +kernel) (by decide) (by decide)
          have h3 : y3 = _ := h3
          subst h3
          have c6 := (HIn.out W HG.out).rest.2.1
          clear hd hold
          go_simp
          exact hK.out _ _ (by rfl) (Below.refl _ _)
        · obtain rfl := Option.some.inj ho
          obtain ⟨y4, e4, h4⟩ := hd 4 19 rfl (by decide +kernel) (by decide) (by decide)
          have h4 : y4 = _ := h4
          subst h4
          have m1 : (method 274 Tl xl "glossator/rope.whole").run Tryd.prog W = _ := HM.out 273 W HG.out
          clear hd hold
          go_simp
          go_at_call 123
          refine (whole_any _ _).mono ?_
          rintro e W1 ⟨rfl, hB⟩
          exact hK.out _ _ (by rfl) hB
        · obtain rfl := Option.some.inj ho
          obtain ⟨y0, e0, h0⟩ := hd 0 15 rfl (by decide +kernel) (by decide) (by decide)
          have h0 : y0 = _ := h0
          subst h0
          obtain ⟨y5, e5, h5⟩ := hd 5 20 rfl (by decide +kernel) (by decide) (by decide)
          have h5 : y5 = _ := h5
          subst h5
          clear hd hold
          go_simp
          exact hK.out _ _ ⟨W.heap.size, rfl, heap_alloc_new _ _⟩ ((Below.refl _ W).alloc (Nat.le_refl _) _)
        · obtain rfl := Option.some.inj ho
          obtain ⟨y6, e6, h6⟩ := hd 6 21 rfl (by decide +kernel) (by decide) (by decide)
          obtain ⟨g6, hy6, hg6⟩ : ∃ g, y6 = .slice (some ⟨g, 0, none⟩) 2 2 ∧ Two W g (ac) (R.cn l.tx) := h6
          subst hy6
          have HC := Lib.hid (add_any ac (R.cn l.tx) HFt.out.1 HFt.out.2 g6 W hg6)
          clear hd hold 
          go_simp
          go_at_call 78
          (with_reducible refine HC.out.mono ?_)
          rintro e W1 ⟨rfl, hB⟩
          exact hK.out _ _ (by rfl) hB
        · exact absurd rfl hx
        · exact absurd rfl hz
      intro b7 rr W hg hMb hbk hrx hf
      have e7 : rr 7 = _ := hf 7 (by decide) (by decide) (by decide)
      have hbk : CnRow W b7 R.Cn.none := hbk
      simp only [putL, Act.put, List.setIfInBounds_toArray, List.set_cons_zero, List.set_cons_succ, e7, hrx]
      clear e7 hrx hf
      have HB7 := Lib.hid (below_setRow hg hMb #[Value.int .i64 (((ac.add (R.cn l.tx)).b : Nat) : Int), Value.int .i64 (((ac.add (R.cn l.tx)).u : Nat) : Int), Value.int .i64 (((ac.add (R.cn l.tx)).k : Nat) : Int), Value.bool (ac.add (R.cn l.tx)).f, Value.bool (ac.add (R.cn l.tx)).e])
      have hr7 := hbk.set (ac.add (R.cn l.tx))
      refine wpAnyL_op 9 (by kernel_rfl) rfl (fun K hK => ?_)
      rw [if_pos (by rfl)]
      refine wp_store_row _ _ _ rfl b7 #[Value.int .i64 (((ac.add (R.cn l.tx)).b : Nat) : Int), Value.int .i64 (((ac.add (R.cn l.tx)).u : Nat) : Int), Value.int .i64 (((ac.add (R.cn l.tx)).k : Nat) : Int), Value.bool (ac.add (R.cn l.tx)).f, Value.bool (ac.add (R.cn l.tx)).e] (by rfl) (by rfl) 96 _ hbk info_counts rfl (one_counts _) ?_
      refine hK.out _ _ (fun _ => trivial) ?_
      clear hK K hbk hg
      refine wpAnyL_end (by kernel_rfl) ?_
      generalize W.setRow b7 #[Value.int .i64 (((ac.add (R.cn l.tx)).b : Nat) : Int), Value.int .i64 (((ac.add (R.cn l.tx)).u : Nat) : Int), Value.int .i64 (((ac.add (R.cn l.tx)).k : Nat) : Int), Value.bool (ac.add (R.cn l.tx)).f, Value.bool (ac.add (R.cn l.tx)).e] = W7 at *
      generalize hsm : ac.add (R.cn l.tx) = sm at *
      obtain ⟨f0, f1, f2, f3, f4⟩ := hr7.cnAt
      have HR7 := Lib.hid hr7
      have he := HE.out
      clear hr7
      go_wp2_with fail
      refine (HF.out sm W7 HSf.out (HR.out.below.trans (HB7.out.mono (Nat.le_of_lt HR.out.lt)))).mono ?_
      rintro e w8 ⟨rfl, hB8⟩
      have hw7 : b7 < W7.heap.size := (Array.getElem?_eq_some_iff.1 HR7.out).1
      have HB8 := Lib.hid (HB7.out.trans (hB8.mono HB7.out.size))
      have HR8 := Lib.hid (HR7.out.below hB8 hw7)
      clear f0 f1 f2 f3 f4 hB8 HR7 HB7 he
      have hps : R.fd p (.inner d l r) ac = if p sm = true then R.fd p l ac else R.fd p r sm := by rw [← hsm]; rfl
      rw [hps] at HEq
      clear hps hsm
      generalize hpm : p sm = pm at *
      cases pm
      · rw [if_neg (by decide)] at HEq
        have HNe := Lib.hid (show b7 ≠ w.heap.size from fun e => by have := HR.out.lt; omega)
        have HLt := Lib.hid (show w.heap.size < w8.heap.size from Nat.lt_of_lt_of_le HR.out.lt HB8.out.size)
        have HRes := Lib.hid (fun W (hR : RlB w.heap.size sm w8 W) => show BoxOf W w.heap.size from (hR.res (HRow.out w8 HB8.out)).elim (fun h => ⟨_, h⟩) (fun h => ⟨_, h⟩))
        have HBox := Lib.hid (fun W (hR : RlB w.heap.size sm w8 W) => show CnRow W b7 sm from (hR.2.1 b7 (Array.getElem?_eq_some_iff.1 HR8.out).1 HNe.out).trans HR8.out)
        have HIn8 := Lib.hid (fun W (hR : RlB w.heap.size sm w8 W) => (show InnerAt W b _ d _ vr from (hR.2.1 b (Nat.lt_trans hb HLt.out) (Nat.ne_of_lt hb)).trans (HIn.out w8 HB8.out)))
        have HRd9 := Lib.hid (RlB.drew w.heap.size sm w8)
        go_upto_region 9 with fail
        refine RR.wp_region_stepsP (Rl := RlB w.heap.size sm) [some 30, some 31, some 32, some 33, some 34, none, some 0] _ _ (G := fun W => RlB w.heap.size sm w8 W) (F := FFd9 w.heap.size sm b vr) (z := 6) (by kernel_rfl) rfl (by decide +kernel) rfl (by decide +kernel) (by decide +kernel) rfl (fun W W' h hB => h.trans hB) (fun i y W W' h hB => h.on hB) ?_ ?_ HRd9.out
        · intro i o' ho hz a W hg hd hold K' hK
          have HG := Lib.hid hg
          have hlt : i < 7 := (Array.getElem?_eq_some_iff.1 ho).1
          clear hg
          obtain rfl | rfl | rfl | rfl | rfl | rfl | rfl : i = 0 ∨ i = 1 ∨ i = 2 ∨ i = 3 ∨ i = 4 ∨ i = 5 ∨ i = 6 := by omega
          · obtain rfl := Option.some.inj ho
            have o7 : a.tmps[7]? = _ := (hold 7 rfl).trans rfl
            obtain ⟨f0, f1, f2, f3, f4⟩ := (HBox.out W HG.out).cnAt
            clear hd hold
            go_simp
            exact hK.out _ _ (by rfl) (RlB.refl _ _ _)
          · obtain rfl := Option.some.inj ho
            have o6 : a.tmps[6]? = _ := (hold 6 rfl).trans rfl
            clear hd hold
            go_simp
            exact hK.out _ _ (by rfl) (RlB.refl _ _ _)
          · obtain rfl := Option.some.inj ho
            obtain ⟨y1, e1, h1⟩ := hd 1 31 rfl (by decide +kernel) (by decide)
            have h1 : y1 = _ := h1
            subst h1
            clear hd hold
            go_simp
            exact hK.out _ _ (by rfl) (RlB.refl _ _ _)
          · obtain rfl := Option.some.inj ho
            obtain ⟨y2, e2, h2⟩ := hd 2 32 rfl (by decide +kernel) (by decide)
            have h2 : y2 = _ := h2
            subst h2
            clear hd hold
            go_simp
            exact hK.out _ _ (by rfl) (RlB.refl _ _ _)
          · obtain rfl := Option.some.inj ho
            obtain ⟨y3, e3, h3⟩ := hd 3 33 rfl (by decide +kernel) (by decide)
            have h3 : y3 = _ := h3
            subst h3
            have c7 := (HIn8.out W HG.out).rest.2.2
            clear hd hold
            go_simp
            exact hK.out _ _ (by rfl) (RlB.refl _ _ _)
          · obtain rfl := Option.some.inj ho
            obtain ⟨y0, e0, h0⟩ := hd 0 30 rfl (by decide +kernel) (by decide)
            have h0 : y0 = _ := h0
            subst h0
            have o4 : a.tmps[4]? = _ := (hold 4 rfl).trans rfl
            clear hd hold
            obtain ⟨c0, hres⟩ := HRes.out W HG.out
            rw [if_pos (by rfl)]
            refine wp_store_row _ _ _ rfl w.heap.size #[Value.int .i64 (((sm).b : Nat) : Int), Value.int .i64 (((sm).u : Nat) : Int), Value.int .i64 (((sm).k : Nat) : Int), Value.bool (sm).f, Value.bool (sm).e] (by simp [Act.eval, o4]) (by simp [Act.eval, e0]) 96 _ hres info_counts rfl (one_counts _) ?_
            exact hK.out _ _ (CnRow.set hres (sm)) (RlB.store hres)
          · exact absurd rfl hz
        · intro a W hg hf hold hput hall K' hK
          obtain ⟨y4, o34, hv4⟩ := hf 4 34 rfl (by decide) (by decide)
          have hv4 : y4 = _ := hv4
          subst hv4
          obtain ⟨_, hst⟩ := hall 5 (by decide) (by decide)
          have hst : CnRow W w.heap.size sm := hst
          have HB := Lib.hid hg
          clear hg hf hold hall
          go_simp
          refine hK.out _ _ ?_
          obtain ⟨rr, ha⟩ := hput.out
          clear hput o34
          subst ha
          simp only [putL, Act.put, List.setIfInBounds_toArray, List.set_cons_zero, List.set_cons_succ]
          clear hK K'
          have HS := Lib.hid hst
          clear hst
          go_wp2_with fail
          have hBw := (HB8.out.mono (Nat.le_of_lt HR.out.lt)).trans HB.out.1
          refine ⟨⟨r, sm, Lib.hid ⟨HNr.out _ hBw, HOk.out.2.1.fit, HS.out, HR.out.below.trans hBw, Nat.lt_of_lt_of_le HLt.out HB.out.1.size, HEq.out, HFi.out.2⟩⟩, ?_⟩
          rw [HDep.out, (HNr.out _ hBw).depOf]
          exact HDd.out.2
      · rw [if_pos rfl] at HEq
        have c6 := (HIn.out w8 HB8.out).rest.2.1
        go_wp2_with fail
        refine ⟨⟨l, ac, Lib.hid ⟨HNl.out _ (HB8.out.mono (Nat.le_of_lt HR.out.lt)), HOk.out.1.fit, HRow.out _ HB8.out, HR.out.below.trans (HB8.out.mono (Nat.le_of_lt HR.out.lt)), Nat.lt_of_lt_of_le HR.out.lt HB8.out.size, HEq.out, HFi.out.1⟩⟩, ?_⟩
        rw [HDep.out, (HNl.out _ (HB8.out.mono (Nat.le_of_lt HR.out.lt))).depOf]
        exact HDd.out.1
end Go.Proofs.YtjeopabnddekgaaDoor
