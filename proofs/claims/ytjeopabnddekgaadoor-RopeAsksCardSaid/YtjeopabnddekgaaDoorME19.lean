/- Which leaf is found; a leaf by an offset. Conditions: a text of at most 10^12 bytes. -/
import Derived.Test.YtjeopabnddekgaaDoorME18
namespace Go.Proofs.YtjeopabnddekgaaDoor
open Go Go.RowKit Go.Lib

namespace R
/-- offsets between two leaves -/
def Bd : T → Nat → Prop
  | .none, o => o = 0
  | .leaf s, o => o = 0 ∨ o = s.size
  | .inner _ l r, o => Bd l o ∨ (l.tx.size ≤ o ∧ Bd r (o - l.tx.size))
theorem Bd.zero : ∀ t : T, Bd t 0
  | .none => rfl
  | .leaf _ => .inl rfl
  | .inner _ l _ => .inl (Bd.zero l)
theorem Bd.size : ∀ t : T, Bd t t.tx.size
  | .none => rfl
  | .leaf _ => .inr rfl
  | .inner _ l r => .inr ⟨by simp only [T.tx, U.app_size]; omega, by
      have h := Bd.size r
      rw [show (T.inner _ l r).tx.size - l.tx.size = r.tx.size from by simp only [T.tx, U.app_size]; omega]
      exact h⟩
/-- what a find's result is -/
structure Fnd (p : Cn → Bool) (t : T) (x : ByteArray) (u s v : ByteArray) : Prop where
  tx : t.tx = u ++ s ++ v
  hu : U.valid u = true
  hs : U.valid s = true
  hv : U.valid v = true
  small : s.size ≤ 64
  some : t.Ok → 0 < s.size
  bu : Bd t u.size
  bs : Bd t (u.size + s.size)
  pu : u.size = 0 ∨ p (cn (x ++ u)) = false
  pv : v.size = 0 ∨ p (cn (x ++ u ++ s)) = true
theorem app_none (x y : ByteArray) (h : y.size = 0) : x ++ y = x := by rw [U.empty_of y h]; exact ByteArray.append_empty
theorem fd_spec (p : Cn → Bool) : ∀ (t : T) (x : ByteArray), t.Fit → U.valid x = true → ∃ u s v, fd p t (cn x) = (cn (x ++ u), s) ∧ Fnd p t x u s v
  | .none, x, _, _ => ⟨ByteArray.empty, ByteArray.empty, ByteArray.empty, by rw [app_none _ _ rfl]; rfl, by simp [T.tx], U.valid_none _ rfl, U.valid_none _ rfl, U.valid_none _ rfl, Nat.zero_le _, fun h => h.elim, rfl, rfl, .inl rfl, .inl rfl⟩
  | .leaf s, x, h, _ => by
    have h := h.resolve_left (fun e => by cases e)
    exact ⟨ByteArray.empty, s, ByteArray.empty, by rw [app_none _ _ rfl]; rfl, by simp [T.tx], U.valid_none _ rfl, h.2.2, U.valid_none _ rfl, h.2.1, fun _ => h.1, .inl rfl, .inr (by simp), .inl rfl, .inl rfl⟩
  | .inner d l r, x, h, hx => by
    have h := h.resolve_left (fun e => by cases e)
    have hsum : (cn x).add (cn l.tx) = cn (x ++ l.tx) := cn_add x l.tx hx
    have e : fd p (.inner d l r) (cn x) = if p (cn (x ++ l.tx)) = true then fd p l (cn x) else fd p r (cn (x ++ l.tx)) := by
      rw [← hsum]; rfl
    rw [e]
    by_cases hp : p (cn (x ++ l.tx)) = true
    · rw [if_pos hp]
      obtain ⟨u, s, v, e1, F⟩ := fd_spec p l x h.1.fit hx
      refine ⟨u, s, v ++ r.tx, e1, ⟨?_, F.hu, F.hs, ?_, F.small, fun _ => F.some h.1, .inl F.bu, .inl F.bs, F.pu, ?_⟩⟩
      · simp only [T.tx]; rw [F.tx, ByteArray.append_assoc]
      · rw [U.valid_app _ _ F.hv]; exact h.2.1.valid
      · right
        rcases F.pv with hv | hv
        · have : l.tx = u ++ s := by rw [F.tx, app_none _ _ hv]
          rw [ByteArray.append_assoc, ← this]; exact hp
        · exact hv
    · rw [if_neg hp]
      have hx' : U.valid (x ++ l.tx) = true := by rw [U.valid_app _ _ hx]; exact h.1.valid
      obtain ⟨u, s, v, e1, F⟩ := fd_spec p r (x ++ l.tx) h.2.1.fit hx'
      refine ⟨l.tx ++ u, s, v, by rw [e1, ByteArray.append_assoc], ⟨?_, ?_, F.hs, F.hv, F.small, fun _ => F.some h.2.1, ?_, ?_, ?_, ?_⟩⟩
      · simp only [T.tx]; rw [F.tx]; simp only [ByteArray.append_assoc]
      · rw [U.valid_app _ _ h.1.valid]; exact F.hu
      · refine .inr ⟨by rw [U.app_size]; omega, ?_⟩
        rw [U.app_size, Nat.add_sub_cancel_left]; exact F.bu
      · refine .inr ⟨by rw [U.app_size]; omega, ?_⟩
        rw [U.app_size, Nat.add_assoc, Nat.add_sub_cancel_left]; exact F.bs
      · right
        rw [← ByteArray.append_assoc]
        rcases F.pu with hu | hu
        · rw [app_none _ _ hu]; simpa using hp
        · exact hu
      · rw [← ByteArray.append_assoc]; exact F.pv
/-- a leaf by an offset -/
def atP (i : Int) (c : Cn) : Bool := decide (i < (c.b : Int))
theorem empty_app (x : ByteArray) : ByteArray.empty ++ x = x := ByteArray.empty_append
theorem at_spec (t : T) (h : t.Fit) (i : Int) : ∃ u s v, fd (atP i) t Cn.none = (cn u, s) ∧ Fnd (atP i) t ByteArray.empty u s v ∧ (u.size = 0 ∨ (u.size : Int) ≤ i) ∧ (v.size = 0 ∨ i < ((u.size + s.size : Nat) : Int)) := by
  obtain ⟨u, s, v, e, F⟩ := fd_spec (atP i) t ByteArray.empty h (U.valid_none _ rfl)
  rw [empty_app] at e
  refine ⟨u, s, v, e, F, ?_, ?_⟩
  · refine F.pu.imp id fun h => ?_
    have h : decide (i < ((ByteArray.empty ++ u).size : Int)) = false := h
    rw [empty_app, decide_eq_false_iff_not] at h
    omega
  · refine F.pv.imp id fun h => ?_
    have h : decide (i < ((ByteArray.empty ++ u ++ s).size : Int)) = true := h
    rw [empty_app, decide_eq_true_iff, U.app_size] at h
    exact h
end R
set_option maxHeartbeats 2000000 in
set_option maxRecDepth 100000 in
theorem leafAt1_any (i : Int) (q : Nat) (w : World) (hq : w.cell? ⟨q, 0, none⟩ = some (.int .i64 i)) (hqw : q < w.heap.size) : FnIs w (R.atP i) 96 q := by
  intro c W hc hB
  have h0 : W.cell? ⟨q, 0, none⟩ = some (.int .i64 i) := (hB.cell (p := ⟨q, 0, none⟩) hqw).trans hq
  have hqW : q < W.heap.size := Nat.lt_of_lt_of_le hqw hB.size
  have hqn : ¬ q = W.heap.size := by omega
  go_enter Tryd.func96, Tryd.ntmps96
  go_wp2_with fail
  go_ret
  exact ⟨rfl, (Below.refl _ W).alloc (Nat.le_refl _) _⟩
set_option maxHeartbeats 2000000 in
set_option maxRecDepth 100000 in
theorem leafAt_any (i : Int) (v : Value) (t : R.T) (w : World) (ht : t.Fit) (hs : t.tx.size ≤ 1000000000000) (h : NT w w.heap.size v t) :
    Calls Tryd.prog 72 #[v, .int .i64 i] w (FoundIs w (R.fd (R.atP i) t R.Cn.none)) := by
  have hB0 := ((Below.refl w.heap.size w).alloc (Nat.le_refl _) (.cells #[.int .i64 i] 3)).alloc (by rw [World.size_alloc]; omega) (.cells #[Value.int .i64 0, Value.int .i64 0, Value.int .i64 0, .bool false, .bool false] 96)
  have hz : ((w.alloc (.cells #[.int .i64 i] 3)).alloc (.cells #[Value.int .i64 0, Value.int .i64 0, Value.int .i64 0, .bool false, .bool false] 96)).heap.size = w.heap.size + 2 := by rw [World.size_alloc, World.size_alloc]
  have hr0 : CnRow ((w.alloc (.cells #[.int .i64 i] 3)).alloc (.cells #[Value.int .i64 0, Value.int .i64 0, Value.int .i64 0, .bool false, .bool false] 96)) (w.heap.size + 1) R.Cn.none := CnRow.new2 w _ R.Cn.none
  have hq0 : ((w.alloc (.cells #[.int .i64 i] 3)).alloc (.cells #[Value.int .i64 0, Value.int .i64 0, Value.int .i64 0, .bool false, .bool false] 96)).cell? ⟨w.heap.size, 0, none⟩ = some (.int .i64 i) := by simp
  have H0 := Lib.hid (And.intro hB0 (And.intro hz (And.intro hr0 hq0)))
  have HN := Lib.hid (h.on hB0 (Nat.le_refl _))
  clear hB0 hz hr0 hq0 h
  go_enter Tryd.func72, Tryd.ntmps72
  go_wp2_with fail
  generalize (w.alloc (.cells #[.int .i64 i] 3)).alloc (.cells #[Value.int .i64 0, Value.int .i64 0, Value.int .i64 0, .bool false, .bool false] 96) = W0 at *
  have HC := Lib.hid (find_any (R.atP i) 96 w.heap.size v t W0 ht hs HN.out.all (leafAt1_any i w.heap.size W0 H0.out.2.2.2 (by have := H0.out.2.1; omega)) (enters_of Tryd.func96 (by kernel_rfl) rfl))
  refine HC.out.mono ?_
  rintro e w1 ⟨rfl, hB1⟩
  generalize R.fd (R.atP i) t R.Cn.none = r at *
  have hr := H0.out.2.2.1.below hB1 (by have := H0.out.2.1; omega)
  have HB := Lib.hid (below_setRow (H0.out.1.trans (hB1.mono H0.out.1.size)) (Nat.le_succ w.heap.size))
  clear hB1 HC
  go_wp2_with (refine wpList_store_row rfl 96 _ _ rfl (w.heap.size + 1) #[Value.int .i64 (((r.1).b : Nat) : Int), Value.int .i64 (((r.1).u : Nat) : Int), Value.int .i64 (((r.1).k : Nat) : Int), Value.bool (r.1).f, Value.bool (r.1).e] (by rfl) (by rfl) 96 _ hr info_counts rfl (one_counts _) ?_)
  exact cn_ret2 (by rfl) _ _ (w.heap.size + 1) r.1 (.string r.2) (by rfl) (by rfl) rfl (hr.set _) ⟨rfl, HB.out _⟩
end Go.Proofs.YtjeopabnddekgaaDoor

namespace Go.Proofs.YtjeopabnddekgaaDoor
open Go Go.RowKit Go.Lib

theorem U.bga_le (s : ByteArray) (i : Int) : U.bga s i ≤ s.size := by
  unfold U.bga
  split
  · omega
  · split
    · have := U.bgn_has s i.toNat (by omega)
      omega
    · omega
def FBg (u s : ByteArray) (i : Int) (B : Nat) : Nat → Value → World → Prop
  | 0, y, _ => y = .pointer (some ⟨B, 0, none⟩)
  | 1, y, _ => y = .int .i64 (u.size : Nat)
  | 2, y, _ => y = .string s
  | 3, y, _ => y = .int .i64 i
  | 4, y, _ => y = .pointer (some ⟨B, 0, none⟩)
  | 5, y, _ => y = .int .i64 (u.size : Nat)
  | 6, y, _ => y = .int .i64 (i - (u.size : Nat))
  | 7, y, _ => y = .int .i64 (U.bga s (i - (u.size : Nat)) : Nat)
  | 8, y, _ => y = .int .i64 ((u.size : Int) + (U.bga s (i - (u.size : Nat)) : Int))
  | _, _, _ => True
theorem FBg.on {u s : ByteArray} {i : Int} {B : Nat} {iz : Nat} {y : Value} {W W' : World} (h : FBg u s i B iz y W) (hB : Below W.heap.size W W') : FBg u s i B iz y W' := by
  unfold FBg at h ⊢
  split at h
  · exact h
  · exact h
  · exact h
  · exact h
  · exact h
  · exact h
  · exact h
  · exact h
  · exact h
  · trivial

theorem wrapI (x : Int) (h1 : -9223372036854775808 ≤ x) (h2 : x ≤ 9223372036854775807) : IntKind.i64.wrap x = x := by
  simp [IntKind.wrap, IntKind.signed, IntKind.bits]
  omega
def I64 (i : Int) : Prop := -9223372036854775808 ≤ i ∧ i ≤ 9223372036854775807
def IntR (n : Nat) (w : World) (e : Ending) (w' : World) : Prop := e = .returned (.int .i64 (n : Nat)) ∧ Below w.heap.size w w'
set_option maxHeartbeats 4000000 in
set_option maxRecDepth 100000 in
theorem begin_any (i : Int) (v : Value) (t : R.T) (w : World) (ht : t.Fit) (hs : t.tx.size ≤ 1000000000000) (hi : I64 i) (h : NT w w.heap.size v t) (hT : Tabs w) :
    Calls Tryd.prog 59 #[v, .int .i64 i] w (IntR (U.bga t.tx i) w) := by
  obtain ⟨u, s, x, efd, F, hu, hx⟩ := R.at_spec t ht i
  have hsz : t.tx.size = u.size + s.size + x.size := by rw [F.tx, U.app_size, U.app_size]
  have hbg : U.bga t.tx i = u.size + U.bga s (i - u.size) := by
    rw [F.tx]; exact U.bga_mid u s x F.hu F.hs F.hv i hu hx
  have hle := U.bga_le s (i - u.size)
  have HL := Lib.hid (leafAt_any i v t w ht hs h)
  rw [efd] at HL
  rw [hbg]
  have HWs : Hid ((u.size : Int) ≤ 1000000000000 ∧ ((U.bga s (i - u.size) : Nat) : Int) ≤ 1000000000000) := Lib.hid (by omega)
  have HWr : Hid (-9223372036854775808 ≤ i - (u.size : Nat) ∧ i - (u.size : Nat) ≤ 9223372036854775807) := Lib.hid (by
    obtain ⟨h1, h2⟩ := hi
    omega)
  have HSz := Lib.hid (show s.size ≤ 1000000000000 by omega)
  clear hbg hle hsz hu hx F hs ht h efd
  go_enter Tryd.func59, Tryd.ntmps59
  go_wp2_with fail
  refine HL.out.mono ?_
  rintro e w1 ⟨rfl, hB1⟩
  have hB2 := (Below.refl w1.heap.size w1).alloc (Nat.le_refl _) (.cells #[Value.int .i64 (((R.cn u).b : Nat) : Int), Value.int .i64 (((R.cn u).u : Nat) : Int), Value.int .i64 (((R.cn u).k : Nat) : Int), Value.bool (R.cn u).f, Value.bool (R.cn u).e] 96)
  have hr : CnRow (w1.alloc (.cells #[Value.int .i64 (((R.cn u).b : Nat) : Int), Value.int .i64 (((R.cn u).u : Nat) : Int), Value.int .i64 (((R.cn u).k : Nat) : Int), Value.bool (R.cn u).f, Value.bool (R.cn u).e] 96)) w1.heap.size (R.cn u) := CnRow.new w1 _
  have hz := World.size_alloc w1 (.cells #[Value.int .i64 (((R.cn u).b : Nat) : Int), Value.int .i64 (((R.cn u).u : Nat) : Int), Value.int .i64 (((R.cn u).k : Nat) : Int), Value.bool (R.cn u).f, Value.bool (R.cn u).e] 96)
  have H1 := Lib.hid (And.intro (hB1.trans (hB2.mono hB1.size)) (And.intro hr hz))
  clear hB1 hB2 hr hz
  dsimp only
  go_upto_region 2 with fail
  generalize w1.alloc (.cells #[Value.int .i64 (((R.cn u).b : Nat) : Int), Value.int .i64 (((R.cn u).u : Nat) : Int), Value.int .i64 (((R.cn u).k : Nat) : Int), Value.bool (R.cn u).f, Value.bool (R.cn u).e] 96) = W1 at *
  generalize w1.heap.size = B at *
  have HC0 := Lib.hid (fun W (hB : Below W1.heap.size W1 W) => (show W.cell? ⟨B, 0, none⟩ = some (.int .i64 (u.size : Nat)) from (H1.out.2.1.below hB (by have := H1.out.2.2; omega)).cnAt.1))
  have HTb := Lib.hid (fun W (hB : Below W1.heap.size W1 W) => tabs_below hT (H1.out.1.trans (hB.mono H1.out.1.size)))
  have HRd := Lib.hid ((Below.refl W1.heap.size W1).drew)
  refine wp_region_stepsP [some 13, some 14, some 15, some 16, some 17, some 18, some 19, some 20, some 21, some 4] _ _ (G := fun W => Below W1.heap.size W1 W) (F := FBg u s i B) (z := 9) (by kernel_rfl) rfl (by decide +kernel) rfl (by decide +kernel) (by decide +kernel) rfl (fun W W' h hB => h.trans (hB.mono h.size)) (fun i y W W' h hB => h.on hB) ?_ ?_ HRd.out
  · intro i o' ho hz a W hg hd hold K' hK
    have HG := Lib.hid hg
    have hlt : i < 10 := (Array.getElem?_eq_some_iff.1 ho).1
    clear hg
    obtain rfl | rfl | rfl | rfl | rfl | rfl | rfl | rfl | rfl | rfl : i = 0 ∨ i = 1 ∨ i = 2 ∨ i = 3 ∨ i = 4 ∨ i = 5 ∨ i = 6 ∨ i = 7 ∨ i = 8 ∨ i = 9 := by omega
    · obtain rfl := Option.some.inj ho
      have o5 : a.tmps[5]? = _ := (hold 5 rfl).trans rfl
      clear hd hold
      go_simp
      exact hK.out _ _ (by rfl) (Below.refl _ _)
    · obtain rfl := Option.some.inj ho
      obtain ⟨y0, e0, h0⟩ := hd 0 13 rfl (by decide +kernel) (by decide)
      have h0 : y0 = _ := h0
      subst h0
      have f0 := HC0.out W HG.out
      clear hd hold
      go_simp
      exact hK.out _ _ (by rfl) (Below.refl _ _)
    · obtain rfl := Option.some.inj ho
      have o6 : a.tmps[6]? = _ := (hold 6 rfl).trans rfl
      clear hd hold
      go_simp
      exact hK.out _ _ (by rfl) (Below.refl _ _)
    · obtain rfl := Option.some.inj ho
      have o1 : a.tmps[1]? = _ := (hold 1 rfl).trans rfl
      clear hd hold
      go_simp
      exact hK.out _ _ (by rfl) (Below.refl _ _)
    · obtain rfl := Option.some.inj ho
      have o5 : a.tmps[5]? = _ := (hold 5 rfl).trans rfl
      clear hd hold
      go_simp
      exact hK.out _ _ (by rfl) (Below.refl _ _)
    · obtain rfl := Option.some.inj ho
      obtain ⟨y4, e4, h4⟩ := hd 4 17 rfl (by decide +kernel) (by decide)
      have h4 : y4 = _ := h4
      subst h4
      have f0 := HC0.out W HG.out
      clear hd hold
      go_simp
      exact hK.out _ _ (by rfl) (Below.refl _ _)
    · obtain rfl := Option.some.inj ho
      obtain ⟨y3, e3, h3⟩ := hd 3 16 rfl (by decide +kernel) (by decide)
      have h3 : y3 = _ := h3
      subst h3
      obtain ⟨y5, e5, h5⟩ := hd 5 18 rfl (by decide +kernel) (by decide)
      have h5 : y5 = _ := h5
      subst h5
      obtain ⟨w1, w2⟩ := HWr.out
      clear hd hold
      go_simp
      exact hK.out _ _ (by show Value.int _ (IntKind.i64.wrap _) = _; rw [wrapI _ w1 w2]) (Below.refl _ _)
    · obtain rfl := Option.some.inj ho
      obtain ⟨y2, e2, h2⟩ := hd 2 15 rfl (by decide +kernel) (by decide)
      have h2 : y2 = _ := h2
      subst h2
      obtain ⟨y6, e6, h6⟩ := hd 6 19 rfl (by decide +kernel) (by decide)
      have h6 : y6 = _ := h6
      subst h6
      have HC := Lib.hid (utfBegin_all s (i - (u.size : Nat)) W HSz.out (HTb.out W HG.out))
      clear hd hold 
      go_simp
      go_at_call 69
      (with_reducible refine HC.out.mono ?_)
      rintro e W1 ⟨rfl, hB⟩
      exact hK.out _ _ (by rfl) hB
    · obtain rfl := Option.some.inj ho
      obtain ⟨y1, e1, h1⟩ := hd 1 14 rfl (by decide +kernel) (by decide)
      have h1 : y1 = _ := h1
      subst h1
      obtain ⟨y7, e7, h7⟩ := hd 7 20 rfl (by decide +kernel) (by decide)
      have h7 : y7 = _ := h7
      subst h7
      obtain ⟨w1, w2⟩ := HWs.out
      clear hd hold
      go_simp
      exact hK.out _ _ (by show Value.int _ (IntKind.i64.wrap _) = _; rw [wrapI _ (by omega) (by omega)]) (Below.refl _ _)
    · exact absurd rfl hz
  · intro a W hg hf hold hput K' hK
    obtain ⟨y8, o21, hv8⟩ := hf 8 21 rfl (by decide) (by decide)
    have hv8 : y8 = _ := hv8
    subst hv8
    have HB := Lib.hid hg
    clear hg hf hold
    go_simp
    refine hK.out _ _ ?_
    obtain ⟨rr, ha⟩ := hput.out
    clear hput o21
    subst ha
    simp only [putL, Act.put, List.setIfInBounds_toArray, List.set_cons_zero, List.set_cons_succ]
    clear hK K'
    go_wp2_with fail
    go_ret
    exact ⟨by push_cast; rfl, H1.out.1.trans (HB.out.mono H1.out.1.size)⟩
end Go.Proofs.YtjeopabnddekgaaDoor

namespace Go.Proofs.YtjeopabnddekgaaDoor
open Go Go.RowKit Go.Lib

theorem R.T.Ok.low {t : R.T} (h : t.Ok) (hs : t.tx.size ≤ 1000000000000) : t.dep ≤ 81 := by
  by_cases hd : t.dep ≤ 81
  · exact hd
  · exfalso
    have h1 := h.many
    have h2 : 2 ^ 41 ≤ 2 ^ (t.dep / 2) := Nat.pow_le_pow_right (by omega) (by omega)
    have h3 : (2 : Nat) ^ 41 = 2199023255552 := by decide
    omega
def NodeR (t : R.T) (w : World) (e : Ending) (w' : World) : Prop := ∃ v, e = .returned v ∧ NT w' w'.heap.size v t ∧ Below w.heap.size w w'
set_option maxHeartbeats 4000000 in
set_option maxRecDepth 100000 in
theorem pair_any (vl vr : Value) (l r : R.T) (w : World) (hl : NT w w.heap.size vl l) (hr : NT w w.heap.size vr r) (ol : l.Ok) (or : r.Ok) (hs : l.tx.size + r.tx.size ≤ 1000000000000) :
    Calls Tryd.prog 95 #[vl, vr] w (NodeR (R.pr l r) w) := by
  obtain ⟨Tl, xl, rfl, ml⟩ := hl.meth (fun e => by subst e; exact ol)
  obtain ⟨Tr, xr, rfl, mr⟩ := hr.meth (fun e => by subst e; exact or)
  have HML := Lib.hid ml
  have HMR := Lib.hid mr
  have HNL := Lib.hid (fun W (hB : Below w.heap.size w W) => hl.below hB)
  have HNR := Lib.hid (fun W (hB : Below w.heap.size w W) => hr.below hB)
  have HDL := Lib.hid (fun W (hB : Below w.heap.size w W) => depth_any _ l W (hl.below hB))
  have HDR := Lib.hid (fun W (hB : Below w.heap.size w W) => depth_any _ r W (hr.below hB))
  have HF := Lib.hid (And.intro (R.cn_fits l.tx (by omega)) (R.cn_fits r.tx (by omega)))
  have HS := Lib.hid (show (R.cn l.tx).add (R.cn r.tx) = R.cn (l.tx ++ r.tx) from R.cn_add _ _ ol.valid)
  have d1 := ol.low (by omega)
  have d2 := or.low (by omega)
  have hmx : (0 : Int) ≤ max (l.dep : Int) (r.dep : Int) ∧ max (l.dep : Int) (r.dep : Int) ≤ 81 := by omega
  obtain ⟨hm1, hm2⟩ := hmx
  clear ml mr hl hr
  have m1 : (method 274 Tl xl "glossator/rope.whole").run Tryd.prog w = _ := HML.out 273 w (Below.refl _ _)
  go_enter Tryd.func95, Tryd.ntmps95
  go_wp2_with (refine (whole_any _ _).mono ?_)
  rintro e w1 ⟨rfl, hB1⟩
  clear m1
  have m1 : (method 274 Tr xr "glossator/rope.whole").run Tryd.prog w1 = _ := HMR.out 273 w1 hB1
  have H1 := Lib.hid hB1
  clear hB1
  go_wp2_with (refine (whole_any _ _).mono ?_)
  rintro e w2 ⟨rfl, hB2⟩
  clear m1
  have H2 := Lib.hid (H1.out.trans (hB2.mono H1.out.size))
  clear hB2 H1
  go_wp2_with fail
  have ht : Two (w2.alloc (.cells #[Value.int .i64 ((R.cn l.tx).b : Nat), Value.int .i64 ((R.cn l.tx).u : Nat), Value.int .i64 ((R.cn l.tx).k : Nat), Value.bool (R.cn l.tx).f, Value.bool (R.cn l.tx).e, Value.int .i64 ((R.cn r.tx).b : Nat), Value.int .i64 ((R.cn r.tx).u : Nat), Value.int .i64 ((R.cn r.tx).k : Nat), Value.bool (R.cn r.tx).f, Value.bool (R.cn r.tx).e] 96)) w2.heap.size (R.cn l.tx) (R.cn r.tx) := heap_alloc_new _ _
  have H3 := Lib.hid (H2.out.alloc H2.out.size (.cells #[Value.int .i64 ((R.cn l.tx).b : Nat), Value.int .i64 ((R.cn l.tx).u : Nat), Value.int .i64 ((R.cn l.tx).k : Nat), Value.bool (R.cn l.tx).f, Value.bool (R.cn l.tx).e, Value.int .i64 ((R.cn r.tx).b : Nat), Value.int .i64 ((R.cn r.tx).u : Nat), Value.int .i64 ((R.cn r.tx).k : Nat), Value.bool (R.cn r.tx).f, Value.bool (R.cn r.tx).e] 96))
  refine (add_any (R.cn l.tx) (R.cn r.tx) HF.out.1 HF.out.2 w2.heap.size _ ht).mono ?_
  rintro e w4 ⟨rfl, hB4⟩
  have H4 := Lib.hid (H3.out.trans (hB4.mono H3.out.size))
  clear hB4 ht H3
  rw [HS.out]
  go_wp2_with fail
  refine (HDL.out w4 H4.out).mono ?_
  rintro e w5 ⟨rfl, hB5⟩
  have H5 := Lib.hid (H4.out.trans (hB5.mono H4.out.size))
  clear hB5 H4
  go_wp2_with fail
  refine (HDR.out w5 H5.out).mono ?_
  rintro e w6 ⟨rfl, hB6⟩
  have H6 := Lib.hid (H5.out.trans (hB6.mono H5.out.size))
  clear hB6 H5
  go_wp2_with fail
  go_ret
  have e : (1 : Int) + max (l.dep : Int) (r.dep : Int) = ((1 + max l.dep r.dep : Nat) : Int) := by omega
  rw [e]
  have hBz := H6.out.alloc H6.out.size (.cells #[Value.int .i64 ((R.cn (l.tx ++ r.tx)).b : Nat), Value.int .i64 ((R.cn (l.tx ++ r.tx)).u : Nat), Value.int .i64 ((R.cn (l.tx ++ r.tx)).k : Nat), Value.bool (R.cn (l.tx ++ r.tx)).f, Value.bool (R.cn (l.tx ++ r.tx)).e, Value.int .i64 ((1 + max l.dep r.dep : Nat) : Int), .iface Tl xl, .iface Tr xr] 139)
  exact ⟨_, rfl, ⟨w6.heap.size, .iface Tl xl, .iface Tr xr, by rw [World.size_alloc]; omega, rfl, heap_alloc_new _ _, HNL.out _ hBz, HNR.out _ hBz⟩, hBz⟩
end Go.Proofs.YtjeopabnddekgaaDoor
