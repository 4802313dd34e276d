/- Where a line of a rope begins. Conditions: a text of at most 10^9 bytes. -/
import Derived.Test.YtjeopabnddekgaaDoorME33
import Derived.Test.YtjeopabnddekgaaDoorME34
namespace Go.Proofs.YtjeopabnddekgaaDoor
open Go Go.RowKit Go.Lib

namespace R
/-- a leaf by its line ends -/
def stP (i : Int) (c : Cn) : Bool := decide (i < (c.k : Int)) || (decide (i = (c.k : Int)) && !c.e)
def lnF (s : ByteArray) (n : Int) : Nat := if 0 ≤ n ∧ n < (L.mny s : Int) then L.fr s n.toNat else 0
/-- which of a leaf's lines -/
def stN (i : Int) (r : Cn × ByteArray) : Int := i - (r.1.k : Int) + (if r.1.e && (cn r.2).f then 1 else 0)
def startV (t : T) (i : Int) : Nat × Bool := if i < 0 ∨ ((cn t.tx).k : Int) < i then (0, false) else ((fd (stP i) t Cn.none).1.b + lnF (fd (stP i) t Cn.none).2 (stN i (fd (stP i) t Cn.none)), true)
end R
set_option maxHeartbeats 4000000 in
set_option maxRecDepth 100000 in
theorem start1_any (i : Int) (q : Nat) (w : World) (hq : w.cell? ⟨q, 0, none⟩ = some (.int .i64 i)) (hqw : q < w.heap.size) : FnIs w (R.stP i) 50 q := by
  intro c W hc hB
  have h0 : W.cell? ⟨q, 0, none⟩ = some (.int .i64 i) := (hB.cell (p := ⟨q, 0, none⟩) hqw).trans hq
  have hqW : q < W.heap.size := Nat.lt_of_lt_of_le hqw hB.size
  have hqn : ¬ q = W.heap.size := by omega
  obtain ⟨cb, cu, ck, cf, ce⟩ := c
  clear hc
  by_cases h1 : i < (ck : Int)
  · have e : R.stP i ⟨cb, cu, ck, cf, ce⟩ = true := by simp [R.stP, h1]
    rw [e]
    clear e
    go_enter Tryd.func50, Tryd.ntmps50
    go_wp2_with fail
    go_ret
    exact ⟨rfl, (Below.refl _ W).alloc (Nat.le_refl _) _⟩
  · by_cases h2 : i = (ck : Int)
    · have k2 : (i == (ck : Int)) = true := by simpa using h2
      have e : R.stP i ⟨cb, cu, ck, cf, ce⟩ = !ce := by simp [R.stP, h2]
      rw [e]
      clear e h2
      cases ce
      · go_enter Tryd.func50, Tryd.ntmps50
        go_wp2_with fail
        go_ret
        exact ⟨rfl, (Below.refl _ W).alloc (Nat.le_refl _) _⟩
      · go_enter Tryd.func50, Tryd.ntmps50
        go_wp2_with fail
        go_ret
        exact ⟨rfl, (Below.refl _ W).alloc (Nat.le_refl _) _⟩
    · have k2 : (i == (ck : Int)) = false := by simpa using h2
      have e : R.stP i ⟨cb, cu, ck, cf, ce⟩ = false := by simp [R.stP, h1, h2]
      rw [e]
      clear e h2
      go_enter Tryd.func50, Tryd.ntmps50
      go_wp2_with fail
      go_ret
      exact ⟨rfl, (Below.refl _ W).alloc (Nat.le_refl _) _⟩
def StartR (r : Nat × Bool) (w : World) (e : Ending) (w' : World) : Prop := e = .returned (.tuple #[.int .i64 (r.1 : Nat), .bool r.2]) ∧ Below w.heap.size w w'
set_option maxHeartbeats 4000000 in
set_option maxRecDepth 100000 in
theorem start_neg (i : Int) (v : Value) (t : R.T) (w : World) (h : RopeAt w v t) (hi : i < 0) : Calls Tryd.prog 18 #[v, .int .i64 i] w (StartR (0, false) w) := by
  obtain ⟨b, rv, rfl, hb, hn, ht⟩ := h
  have hBb := (Below.refl w.heap.size w).alloc (Nat.le_refl _) (.cells #[.int .i64 i] 3)
  have hq0 : (w.alloc (.cells #[.int .i64 i] 3)).cell? ⟨w.heap.size, 0, none⟩ = some (.int .i64 i) := by simp
  have H0 := Lib.hid hBb
  clear hb hn ht hBb
  go_enter Tryd.func18, Tryd.ntmps18
  go_upto_region 1 with fail
  generalize w.alloc (.cells #[.int .i64 i] 3) = W0 at *
  go_quiet (fail)
  have H1 := Lib.hid (below_drewN H0.out nq)
  generalize W0.drewN nq = W1 at *
  go_wp2_with fail
  go_ret2
  exact ⟨rfl, H1.out⟩
set_option maxHeartbeats 8000000 in
set_option maxRecDepth 100000 in
theorem start_pos (i : Int) (v : Value) (t : R.T) (w : World) (h : RopeAt w v t) (hs : t.tx.size ≤ 1000000000) (hi : ¬ i < 0) (hi2 : I64 i) : Calls Tryd.prog 18 #[v, .int .i64 i] w (StartR (R.startV t i) w) := by
  have HBr := Lib.hid (fun W (hB : Below w.heap.size w W) => breaks_any v t W (h.below hB))
  obtain ⟨b, rv, rfl, hb, hn, ht⟩ := h
  have hBb := (Below.refl w.heap.size w).alloc (Nat.le_refl _) (.cells #[.int .i64 i] 3)
  have hz0 : (w.alloc (.cells #[.int .i64 i] 3)).heap.size = w.heap.size + 1 := World.size_alloc _ _
  have hq0 : (w.alloc (.cells #[.int .i64 i] 3)).cell? ⟨w.heap.size, 0, none⟩ = some (.int .i64 i) := by simp
  have HC := Lib.hid (fun W (hB : Below w.heap.size w W) => (show W.cell? ⟨b, 0, none⟩ = some rv from by rw [Lib.cell_of_heap ((hB.block b (Array.getElem?_eq_some_iff.1 hb).1).trans hb)]; rfl))
  have HN := Lib.hid (fun W (hB : Below w.heap.size w W) => hn.below hB)
  have H0 := Lib.hid (And.intro hBb (And.intro hq0 hz0))
  have HT := Lib.hid (And.intro ht hs)
  have HI := Lib.hid hi2
  clear hb hn ht hBb hz0 hs hi2
  go_enter Tryd.func18, Tryd.ntmps18
  go_upto_region 1 with fail
  generalize w.alloc (.cells #[.int .i64 i] 3) = W0 at *
  have KEEP := Lib.hid (fun w' (hB : Below W0.heap.size W0 w') => (show w'.cell? ⟨w.heap.size, 0, none⟩ = some (.int .i64 i) from (hB.cell (p := ⟨w.heap.size, 0, none⟩) (by show w.heap.size < W0.heap.size; have := H0.out.2.2; omega)).trans H0.out.2.1))
  go_region_held3 (fun w' => w'.cell? ⟨w.heap.size, 0, none⟩ = some (.int .i64 i))
    (first | exact KEEP.out _ hC1 | exact KEEP.out _ (Below.refl _ _).drew | exact KEEP.out _ (Below.refl _ _))
    (first | (go_at_call 26; (with_reducible refine (HBr.out _ (H0.out.1.drew)).mono ?_); rintro e wc1 ⟨rfl, hB⟩; have hC1 := (Below.refl W0.heap.size W0).drew.trans hB; clear hB))
  rename_i hHeld
  have HC1 := Lib.hid hC1
  have x0 := KEEP.out wc1 hC1
  have HB1 := Lib.hid (H0.out.1.trans (hC1.mono H0.out.1.size))
  clear hHeld hC1 hq0
  by_cases h1 : ((R.cn t.tx).k : Int) < i
  · have hE : R.startV t i = (0, false) := by unfold R.startV; rw [if_pos (.inr h1)]
    have HE := Lib.hid hE
    clear hE
    go_wp2_with fail
    go_ret2
    rw [HE.out]
    exact ⟨rfl, HB1.out⟩
  · obtain ⟨u, s, x, efd, F⟩ := R.fd_spec (R.stP i) t ByteArray.empty HT.out.1 (U.valid_none _ rfl)
    rw [R.empty_app] at efd
    have efd : R.fd (R.stP i) t R.Cn.none = (R.cn u, s) := efd
    have hsz : t.tx.size = u.size + s.size + x.size := by rw [F.tx, U.app_size, U.app_size]
    have hE : R.startV t i = ((R.cn u).b + R.lnF s (R.stN i (R.cn u, s)), true) := by unfold R.startV; rw [if_neg (by omega), efd]
    have HE := Lib.hid hE
    have HL := Lib.hid (find_any (R.stP i) 50 w.heap.size rv t wc1 HT.out.1 (by have := HT.out.2; omega) (HN.out wc1 HB1.out) (start1_any i w.heap.size wc1 x0 (World.block_lt_of_cell? wc1 ⟨w.heap.size, 0, none⟩ x0)) (enters_of Tryd.func50 (by kernel_rfl) rfl))
    rw [efd] at HL
    obtain ⟨l1, l2, l3⟩ := R.cn_le u
    have hs9 := HT.out.2
    have hlf : R.lnF s (R.stN i (R.cn u, s)) ≤ s.size := by
      unfold R.lnF
      split
      · next h => exact L.fr_le (by omega)
      · omega
    have n1 : ((R.cn u).k : Int) ≤ 1000000000 := by omega
    have n2 : ((R.cn u).b : Int) ≤ 1000000000 := by omega
    have n3 : i ≤ 1000000000 := by have := (R.cn_le t.tx).2.2; omega
    have n4 : (0 : Int) ≤ i := by omega
    have n5 : ((R.lnF s (R.stN i (R.cn u, s)) : Nat) : Int) ≤ 1000000000 := by omega
    have HN5 := Lib.hid n5
    have c0 := HC.out wc1 HB1.out
    have HLi := Lib.hid (fun n W => line_any s n W (by omega))
    have HPr := Lib.hid (fun W => prefix_any s W)
    clear efd F hsz hE l1 l2 l3 hs9 hlf n5 HN HC HBr KEEP HI
    generalize R.cn u = c at *
    go_wp2_with fail
    refine HL.out.mono ?_
    rintro e w2 ⟨rfl, hB2⟩
    have hBz := (Below.refl w2.heap.size w2).alloc (Nat.le_refl _) (.cells #[Value.int .i64 (((c).b : Nat) : Int), Value.int .i64 (((c).u : Nat) : Int), Value.int .i64 (((c).k : Nat) : Int), Value.bool (c).f, Value.bool (c).e] 96)
    have hBa : Below wc1.heap.size wc1 (w2.alloc (.cells #[Value.int .i64 (((c).b : Nat) : Int), Value.int .i64 (((c).u : Nat) : Int), Value.int .i64 (((c).k : Nat) : Int), Value.bool (c).f, Value.bool (c).e] 96)) := hB2.trans (hBz.mono hB2.size)
    have hr : CnRow (w2.alloc (.cells #[Value.int .i64 (((c).b : Nat) : Int), Value.int .i64 (((c).u : Nat) : Int), Value.int .i64 (((c).k : Nat) : Int), Value.bool (c).f, Value.bool (c).e] 96)) w2.heap.size c := CnRow.new w2 _
    have hz : w2.heap.size < (w2.alloc (.cells #[Value.int .i64 (((c).b : Nat) : Int), Value.int .i64 (((c).u : Nat) : Int), Value.int .i64 (((c).k : Nat) : Int), Value.bool (c).f, Value.bool (c).e] 96)).heap.size := by rw [World.size_alloc]; omega
    have hx0 : (w2.alloc (.cells #[Value.int .i64 (((c).b : Nat) : Int), Value.int .i64 (((c).u : Nat) : Int), Value.int .i64 (((c).k : Nat) : Int), Value.bool (c).f, Value.bool (c).e] 96)).cell? ⟨w.heap.size, 0, none⟩ = some (.int .i64 i) := (hBa.cell (p := ⟨w.heap.size, 0, none⟩) (World.block_lt_of_cell? wc1 ⟨w.heap.size, 0, none⟩ x0)).trans x0
    have H2 := Lib.hid (And.intro (HB1.out.trans (hBa.mono HB1.out.size)) (And.intro hr (And.intro hz hx0)))
    clear hB2 hBz hBa hr hz hx0 x0 c0 HL
    dsimp only
    go_upto_region 4 with fail
    generalize w2.alloc (.cells #[Value.int .i64 (((c).b : Nat) : Int), Value.int .i64 (((c).u : Nat) : Int), Value.int .i64 (((c).k : Nat) : Int), Value.bool (c).f, Value.bool (c).e] 96) = W2 at *
    generalize w2.heap.size = B at *
    have x0 := H2.out.2.2.2
    obtain ⟨f0, f1, f2, f3, f4⟩ := H2.out.2.1.cnAt
    have fin : ∀ n W3 (j : Int), n = R.stN i (c, s) → Below W2.heap.size W2 W3 → j = ((c.b + R.lnF s n : Nat) : Int) → StartR (R.startV t i) w (.returned (.tuple #[.int .i64 j, .bool true])) W3 := fun n W3 j hn hB hj => by
      rw [HE.out, hj, hn]
      exact ⟨rfl, H2.out.1.trans (hB.mono H2.out.1.size)⟩
    have HFin := Lib.hid fin
    have HC6 := Lib.hid (fun W (hB : Below W2.heap.size W2 W) => (H2.out.2.1.below hB H2.out.2.2.1).cnAt)
    clear fin
    rcases hce : c.e with _ | _
    · have hst : R.stN i (c, s) = i - (c.k : Int) := by unfold R.stN; rw [show (c, s).1.e = false from hce]; simp
      rw [hce] at f4
      have HSt := Lib.hid hst
      have n6 : i - (c.k : Int) ≤ 1000000000 := by omega
      have n7 : -1000000000 ≤ i - (c.k : Int) := by omega
      have HCE := Lib.hid hce
      clear hst hce
      have HB4 := Lib.hid (Below.refl W2.heap.size W2)
      go_wp2_with fail
      refine (HLi.out (i - (c.k : Int)) W2).mono ?_
      rintro e w5 ⟨hl, hB5⟩
      have hB5' := HB4.out.trans (hB5.mono HB4.out.size)
      have H5 := Lib.hid hB5'
      have hlt : B < w5.heap.size := Nat.lt_of_lt_of_le H2.out.2.2.1 hB5'.size
      have hne : ¬ B = w5.heap.size := by omega
      clear f0 f1 f2 f3 f4 x0
      obtain ⟨f0, f1, f2, f3, f4⟩ := HC6.out w5 hB5'
      clear hB5 hB5'
      rcases hl with ⟨k, hk, hkm, rfl⟩ | ⟨hno, rfl⟩
      · have hlf : R.lnF s (R.stN i (c, s)) = L.fr s k := by
          rw [HSt.out]
          unfold R.lnF
          rw [if_pos (by omega)]
          congr 1
          omega
        have n8 : ((L.fr s k : Nat) : Int) ≤ 1000000000 := by rw [← hlf]; exact HN5.out
        have HLf := Lib.hid hlf
        clear hk hkm hlf
        unfold span
        go_wp2_with fail
        go_ret2
        exact HFin.out _ _ _ rfl (H5.out.trans (((Below.refl w5.heap.size w5).alloc (Nat.le_refl _) _).mono H5.out.size)) (by rw [HLf.out, Int.natCast_add])
      · have hlf : R.lnF s (R.stN i (c, s)) = 0 := by
          rw [HSt.out]
          unfold R.lnF
          rw [if_neg (by omega)]
        have HLf := Lib.hid hlf
        clear hno hlf
        go_wp2_with fail
        go_ret2
        exact HFin.out _ _ _ rfl (H5.out.trans (((Below.refl w5.heap.size w5).alloc (Nat.le_refl _) _).mono H5.out.size)) (by rw [HLf.out, Nat.add_zero])
    · rw [hce] at f4
      have HCE := Lib.hid hce
      clear hce
      have n6 : i - (c.k : Int) ≤ 1000000000 := by omega
      have n7 : -1000000000 ≤ i - (c.k : Int) := by omega
      go_wp2_with fail
      refine (HPr.out W2).mono ?_
      rintro e w4 ⟨rfl, hB4⟩
      have HB4 := Lib.hid hB4
      clear f0 f1 f2 f3 f4 x0
      obtain ⟨f0, f1, f2, f3, f4⟩ := HC6.out w4 hB4
      have x0 := f0
      clear hB4
      rcases hsf : (R.cn s).f with _ | _
      · have hst : R.stN i (c, s) = i - (c.k : Int) := by unfold R.stN; rw [show (c, s).1.e = true from HCE.out, show (R.cn (c, s).2).f = false from hsf]; simp
        have HSt := Lib.hid hst
        clear hst hsf
        go_wp2_with fail
        refine (HLi.out (i - (c.k : Int)) w4).mono ?_
        rintro e w5 ⟨hl, hB5⟩
        have hB5' := HB4.out.trans (hB5.mono HB4.out.size)
        have H5 := Lib.hid hB5'
        have hlt : B < w5.heap.size := Nat.lt_of_lt_of_le H2.out.2.2.1 hB5'.size
        have hne : ¬ B = w5.heap.size := by omega
        clear f0 f1 f2 f3 f4 x0
        obtain ⟨f0, f1, f2, f3, f4⟩ := HC6.out w5 hB5'
        clear hB5 hB5'
        rcases hl with ⟨k, hk, hkm, rfl⟩ | ⟨hno, rfl⟩
        · have hlf : R.lnF s (R.stN i (c, s)) = L.fr s k := by
            rw [HSt.out]
            unfold R.lnF
            rw [if_pos (by omega)]
            congr 1
            omega
          have n8 : ((L.fr s k : Nat) : Int) ≤ 1000000000 := by rw [← hlf]; exact HN5.out
          have HLf := Lib.hid hlf
          clear hk hkm hlf
          unfold span
          go_wp2_with fail
          go_ret2
          exact HFin.out _ _ _ rfl (H5.out.trans (((Below.refl w5.heap.size w5).alloc (Nat.le_refl _) _).mono H5.out.size)) (by rw [HLf.out, Int.natCast_add])
        · have hlf : R.lnF s (R.stN i (c, s)) = 0 := by
            rw [HSt.out]
            unfold R.lnF
            rw [if_neg (by omega)]
          have HLf := Lib.hid hlf
          clear hno hlf
          go_wp2_with fail
          go_ret2
          exact HFin.out _ _ _ rfl (H5.out.trans (((Below.refl w5.heap.size w5).alloc (Nat.le_refl _) _).mono H5.out.size)) (by rw [HLf.out, Nat.add_zero])
      · have hst : R.stN i (c, s) = i - (c.k : Int) + 1 := by unfold R.stN; rw [show (c, s).1.e = true from HCE.out, show (R.cn (c, s).2).f = true from hsf]; simp
        have HSt := Lib.hid hst
        clear hst hsf
        go_wp2_with fail
        refine (HLi.out (i - (c.k : Int) + 1) w4).mono ?_
        rintro e w5 ⟨hl, hB5⟩
        have hB5' := HB4.out.trans (hB5.mono HB4.out.size)
        have H5 := Lib.hid hB5'
        have hlt : B < w5.heap.size := Nat.lt_of_lt_of_le H2.out.2.2.1 hB5'.size
        have hne : ¬ B = w5.heap.size := by omega
        clear f0 f1 f2 f3 f4 x0
        obtain ⟨f0, f1, f2, f3, f4⟩ := HC6.out w5 hB5'
        clear hB5 hB5'
        rcases hl with ⟨k, hk, hkm, rfl⟩ | ⟨hno, rfl⟩
        · have hlf : R.lnF s (R.stN i (c, s)) = L.fr s k := by
            rw [HSt.out]
            unfold R.lnF
            rw [if_pos (by omega)]
            congr 1
            omega
          have n8 : ((L.fr s k : Nat) : Int) ≤ 1000000000 := by rw [← hlf]; exact HN5.out
          have HLf := Lib.hid hlf
          clear hk hkm hlf
          unfold span
          go_wp2_with fail
          go_ret2
          exact HFin.out _ _ _ rfl (H5.out.trans (((Below.refl w5.heap.size w5).alloc (Nat.le_refl _) _).mono H5.out.size)) (by rw [HLf.out, Int.natCast_add])
        · have hlf : R.lnF s (R.stN i (c, s)) = 0 := by
            rw [HSt.out]
            unfold R.lnF
            rw [if_neg (by omega)]
          have HLf := Lib.hid hlf
          clear hno hlf
          go_wp2_with fail
          go_ret2
          exact HFin.out _ _ _ rfl (H5.out.trans (((Below.refl w5.heap.size w5).alloc (Nat.le_refl _) _).mono H5.out.size)) (by rw [HLf.out, Nat.add_zero])
theorem start_any (i : Int) (v : Value) (t : R.T) (w : World) (h : RopeAt w v t) (hs : t.tx.size ≤ 1000000000) (hi : I64 i) : Calls Tryd.prog 18 #[v, .int .i64 i] w (StartR (R.startV t i) w) := by
  by_cases h0 : i < 0
  · have : R.startV t i = (0, false) := by unfold R.startV; rw [if_pos (.inl h0)]
    rw [this]; exact start_neg i v t w h h0
  · exact start_pos i v t w h hs h0 hi
end Go.Proofs.YtjeopabnddekgaaDoor
