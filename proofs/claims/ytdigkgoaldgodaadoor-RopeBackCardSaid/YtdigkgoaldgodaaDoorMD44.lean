/- The place behind so many units of a text of pieces. Conditions: none. -/
import Derived.Test.YtdigkgoaldgodaaDoorMD43
import Derived.Test.YtdigkgoaldgodaaDoorMD42
namespace Go.Proofs.YtdigkgoaldgodaaDoor.U
open Go

theorem un_same {x y : ByteArray} {p q : Nat} (h : ch x p = ch y q) : un x p = un y q := by unfold un; rw [h]
theorem st_more (s : ByteArray) (a : Nat) : ∀ j q m p n, st s j q m = (p, n) → st s j q (m + a) = (p, n + a)
  | 0, q, m, p, n, h => by
    simp only [st, Prod.mk.injEq] at h ⊢
    omega
  | j + 1, q, m, p, n, h => by
    by_cases hq : q < s.size
    · rw [st_step s j q m hq] at h
      rw [st_step s j q (m + a) hq, show m + a + un s q = m + un s q + a by omega]
      exact st_more s a j _ _ p n h
    · rw [st_end s _ q m hq] at h
      rw [st_end s _ q _ hq]
      simp only [Prod.mk.injEq] at h ⊢
      omega
theorem st_then (s : ByteArray) (k : Nat) : ∀ j q m p n, st s j q m = (p, n) → ∃ i, st s i q m = st s k p n
  | 0, q, m, p, n, h => by
    simp only [st, Prod.mk.injEq] at h
    exact ⟨k, by rw [h.1, h.2]⟩
  | j + 1, q, m, p, n, h => by
    by_cases hq : q < s.size
    · rw [st_step s j q m hq] at h
      obtain ⟨i, hi⟩ := st_then s k j _ _ p n h
      exact ⟨i + 1, by rw [st_step s i q m hq, hi]⟩
    · rw [st_end s _ q m hq] at h
      simp only [Prod.mk.injEq] at h
      exact ⟨k, by rw [h.1, h.2]⟩
theorem st_left (x t : ByteArray) (hv : valid x = true) : ∀ j q k m p n, st x k 0 0 = (q, m) → st x j q m = (p, n) → ∃ i, st (x ++ t) i q m = (p, n)
  | 0, q, k, m, p, n, _, h => ⟨0, h⟩
  | j + 1, q, k, m, p, n, hk, h => by
    by_cases hq : q < x.size
    · have hg := valid_good x k 0 0 q m hk hq x.size (by omega) hv
      have hc := app_char x t q hq hg
      rw [st_step x j q m hq] at h
      obtain ⟨i, hi⟩ := st_left x t hv j _ (k + 1) _ p n (st_snoc x k 0 0 q m hk hq) h
      refine ⟨i + 1, ?_⟩
      rw [st_step (x ++ t) i q m (by rw [app_size]; omega), hc.2, un_same hc.1]
      exact hi
    · rw [st_end x _ q m hq] at h
      exact ⟨0, h⟩
theorem st_right (x t : ByteArray) : ∀ j q m p n, st t j q m = (p, n) → ∃ i, st (x ++ t) i (x.size + q) m = (x.size + p, n)
  | 0, q, m, p, n, h => by
    simp only [st, Prod.mk.injEq] at h
    exact ⟨0, by simp only [st]; rw [h.1, h.2]⟩
  | j + 1, q, m, p, n, h => by
    by_cases hq : q < t.size
    · have hc := app_shift x t q
      rw [st_step t j q m hq] at h
      obtain ⟨i, hi⟩ := st_right x t j _ _ p n h
      refine ⟨i + 1, ?_⟩
      rw [st_step (x ++ t) i _ m (by rw [app_size]; omega), hc.2, un_same hc.1, Nat.add_assoc]
      exact hi
    · rw [st_end t _ q m hq] at h
      simp only [Prod.mk.injEq] at h
      exact ⟨0, by simp only [st]; rw [h.1, h.2]⟩
theorem cut_mid (u s v : ByteArray) (hu : valid u = true) (hs : valid s = true) (i : Int) (h0 : u.size = 0 ∨ ((units u : Nat) : Int) ≤ i) (h1 : v.size = 0 ∨ i < ((units (u ++ s) : Nat) : Int)) :
    cut (u ++ (s ++ v)) i = u.size + cut s (i - (units u : Nat)) := by
  by_cases hn : i < 0
  · have hz : u.size = 0 := by omega
    have hu0 := units_none u hz
    rw [cut_below _ i hn, hu0, cut_below s _ (by omega)]
    omega
  · have hui : ((units u : Nat) : Int) ≤ i := by
      rcases h0 with h0 | h0
      · rw [units_none u h0]; omega
      · exact h0
    obtain ⟨ju, nu, e1⟩ := st_to_end u u.size 0 0 (Nat.zero_le _) (by omega)
    have hnu : units u = nu := units_of_end u ju nu e1
    obtain ⟨j, n, e2, e3, e4, e5⟩ := cut_st s (i - (units u : Nat)) s.size 0 0 (Nat.zero_le _) (by omega)
    have hcd : cutFrom s (i - (units u : Nat)) s.size 0 0 = cut s (i - (units u : Nat)) := rfl
    rw [hcd] at e2 e4 e5
    have hle : (n : Int) ≤ i - (units u : Nat) := e3 (by omega)
    obtain ⟨k1, f1⟩ := st_left u (s ++ v) hu ju 0 0 0 u.size nu rfl e1
    obtain ⟨k2, f2⟩ := st_left s v hs j 0 0 0 _ n rfl e2
    have f3 := st_more (s ++ v) nu k2 0 0 _ n f2
    rw [Nat.zero_add] at f3
    obtain ⟨k3, f4⟩ := st_right u (s ++ v) k2 0 nu _ _ f3
    rw [Nat.add_zero] at f4
    obtain ⟨k4, f5⟩ := st_then (u ++ (s ++ v)) k3 k1 0 0 u.size nu f1
    rw [f4] at f5
    generalize cut s (i - (units u : Nat)) = c at *
    have hT : (u ++ (s ++ v)).size = u.size + (s.size + v.size) := by rw [app_size, app_size]
    refine cut_uni (u ++ (s ++ v)) i k4 0 0 _ _ f5 (by omega) ?_ _ (by omega)
    by_cases hc : c < s.size
    · right
      have hg := valid_good s j 0 0 c n e2 hc s.size (by omega) hs
      have h3 := app_char s v c hc hg
      have h4 := app_shift u (s ++ v) c
      have h5 : un (u ++ (s ++ v)) (u.size + c) = un s c := un_same (h4.1.trans h3.1)
      have h6 := e5 hc
      rw [h5]
      omega
    · have hcs : c = s.size := by omega
      rw [hcs] at e2 ⊢
      have hns := units_of_end s j n e2
      rcases h1 with h1 | h1
      · left; omega
      · rw [units_app u s hu] at h1; omega
end Go.Proofs.YtdigkgoaldgodaaDoor.U
namespace Go.Proofs.YtdigkgoaldgodaaDoor.R
open Go
/-- cut, whatever the tree -/
theorem cut_spec (t : T) (ht : t.Fit) (i : Int) : cutT t i = U.cut t.tx i := by
  obtain ⟨u, s, v, e, F, a, b⟩ := un_spec t ht i
  unfold cutT
  rw [e, F.tx, ByteArray.append_assoc, U.cut_mid u s v F.hu F.hs i a b]
  rfl
/-- a line's content, whatever the tree -/
theorem con_spec (t : T) (ht : t.Fit) (i : Nat) : conV t (i : Int) = if i < L.mny t.tx then ((L.fr t.tx i : Int), (L.to t.tx i : Int), true) else (0, 0, false) := by
  unfold conV
  rw [start_spec t ht, start_spec t ht]
  by_cases h : i < L.mny t.tx
  · rw [if_pos h]
    have e1 : (if (0 : Int) ≤ (i : Int) ∧ (i : Int) < (L.mny t.tx : Int) then (L.fr t.tx (i : Int).toNat, true) else (0, false)) = (L.fr t.tx i, true) := by rw [if_pos (by omega)]; rfl
    rw [e1, if_pos rfl]
    by_cases h2 : i + 1 < L.mny t.tx
    · have e2 : (if (0 : Int) ≤ (i : Int) + 1 ∧ (i : Int) + 1 < (L.mny t.tx : Int) then (L.fr t.tx ((i : Int) + 1).toNat, true) else (0, false)) = (L.fr t.tx (i + 1), true) := by
        rw [if_pos (by omega)]; rfl
      rw [e2, if_pos rfl]
      have hlt := L.to_lt h2
      have hfr := L.fr_le h
      have hge := L.to_ge h
      have hb := L.ce_is hfr hlt
      have hn := L.nx_facts hlt
      have hf := L.fr_succ t.tx i
      dsimp only
      generalize hto : L.to t.tx i = e at *
      have hce : L.ce t.tx (L.fr t.tx i) = e := hto
      rw [hce] at hb
      generalize L.fr t.tx (i + 1) = n at *
      have hlast : ∀ k, n = k + 2 → ((cn (t.tx.extract 0 (n - 1))).e = true ↔ t.tx.get! k = 13) := fun k hk => by
        unfold cn
        rw [decide_eq_true_iff]
        have he : (t.tx.extract 0 (n - 1)).data.toList = t.tx.data.toList.take (k + 1) := by
          rw [ByteArray.data_extract, Array.toList_extract, hk]
          simp
        rw [he, take_last t.tx k (by omega)]
        exact ⟨fun h => Option.some.inj h, fun h => by rw [h]⟩
      cases hp : L.pair t.tx e
      · rw [L.nx_one hp] at hf
        rw [if_neg (by
          rintro ⟨h3, h4⟩
          obtain ⟨k, hk⟩ : ∃ k, n = k + 2 := ⟨n - 2, by omega⟩
          have h5 := (hlast k hk).1 h4
          have h6 := L.ce_none (s := t.tx) (i := L.fr t.tx i) (j := k) hfr (by omega) (by rw [hce]; omega)
          have h7 := L.of_nbrk h6
          exact h7.2 (by rw [h5]; rfl))]
        rw [hf]
        simp
      · rw [L.nx_pair hp] at hf
        obtain ⟨h13, -, -⟩ := L.of_pair hp
        have h5 := (hlast e hf).2 ((toNat_eq _ 13 (by omega)).2 h13)
        rw [if_pos ⟨by omega, h5⟩]
        rw [hf]
        simp only [Prod.mk.injEq, true_and, and_true]
        omega
    · have e2 : (if (0 : Int) ≤ (i : Int) + 1 ∧ (i : Int) + 1 < (L.mny t.tx : Int) then (L.fr t.tx ((i : Int) + 1).toNat, true) else (0, false)) = (0, false) := by
        rw [if_neg (by omega)]
      rw [e2, if_neg (by decide), L.to_end h h2]
  · rw [if_neg h]
    have e1 : (if (0 : Int) ≤ (i : Int) ∧ (i : Int) < (L.mny t.tx : Int) then (L.fr t.tx (i : Int).toNat, true) else (0, false)) = (0, false) := by rw [if_neg (by omega)]
    rw [e1, if_neg (by decide)]
end Go.Proofs.YtdigkgoaldgodaaDoor.R

namespace Go.Proofs.YtdigkgoaldgodaaDoor
open Go Go.RowKit Go.Lib

def awS : ByteArray := ⟨#[97, 98, 13, 10, 99, 240, 159, 152, 128, 13]⟩
theorem aw_new : newE awS = 0 := by decide +kernel
theorem aw_u : (R.cn awS).u = 8 := by decide +kernel
theorem aw_k : (R.cn awS).k = 2 := by decide +kernel
theorem aw_spE : spE awS 2 4 ⟨#[120]⟩ = 0 := by decide +kernel
theorem aw_spk : (R.cn (spT awS 2 4 ⟨#[120]⟩)).k = 1 := by decide +kernel
theorem aw_start (t : R.T) (ht : t.Fit) (hx : t.tx = awS) : R.startV t 2 = (10, true) := by
  rw [R.start_spec t ht, hx]; decide +kernel
theorem aw_off (t : R.T) (ht : t.Fit) (hx : t.tx = awS) : R.offV t 1 2 = 5 := by
  have hc : R.conV t (max 1 0) = (4, 9, true) := (R.con_spec t ht 1).trans (by rw [hx]; decide +kernel)
  unfold R.offV R.chV
  rw [hc, R.cut_spec t ht, hx]
  decide +kernel
theorem aw_size : awS.size ≤ 1000000000 := by decide
set_option maxHeartbeats 4000000 in
set_option maxRecDepth 100000 in
theorem awake9_any (w : World) (hT : Tabs w) : Calls Tryd.prog 21 #[] w (BoolIs true w) := by
  have HN := Lib.hid (new_any awS w (by decide) hT)
  rw [aw_new] at HN
  have HF := Lib.hid (fun (t : R.T) (hx : t.tx = awS) (v : Value) (W : World) (h : RopeAt W v t) => (show
      Calls Tryd.prog 15 #[v, .int .i64 2] W (fun e w' => e = .returned (.tuple #[.int .i64 10, .bool true]) ∧ Below W.heap.size W w') ∧
      Calls Tryd.prog 24 #[v] W (fun e w' => e = .returned (.int .i64 8) ∧ Below W.heap.size W w') ∧
      Calls Tryd.prog 25 #[v] W (fun e w' => e = .returned (.int .i64 2) ∧ Below W.heap.size W w') ∧
      Calls Tryd.prog 17 #[v, .agg #[.int .i64 1, .int .i64 2]] W (fun e w' => e = .returned (.int .i64 5) ∧ Below W.heap.size W w') from by
    have hs : t.tx.size ≤ 1000000000 := by rw [hx]; exact aw_size
    have hf : t.Fit := by obtain ⟨b, rv, rfl, hb, hn, ht⟩ := h; exact ht
    refine ⟨?_, ?_, ?_, ?_⟩
    · have k := start_any 2 v t W h hs ⟨by decide, by decide⟩
      rw [aw_start t hf hx] at k; exact k
    · have k := unitsR_any v t W h
      rw [hx, aw_u] at k; exact k
    · have k := breaks_any v t W h
      rw [hx, aw_k] at k; exact k
    · have k := offset_any 1 2 v t W h hs ⟨by decide, by decide⟩ ⟨by decide, by decide⟩
      rw [aw_off t hf hx] at k; exact k))
  have HP := Lib.hid (fun (t : R.T) (hx : t.tx = awS) (v : Value) (W : World) (h : RopeAt W v t) (hB : Below w.heap.size w W) => (show
      Calls Tryd.prog 10 #[v, .int .i64 2, .int .i64 4, .string ⟨#[120]⟩] W (NewR 0 (spT awS 2 4 ⟨#[120]⟩) W) from by
    have k := splice_any v t 2 4 ⟨#[120]⟩ W h (by rw [hx]; exact aw_size) (by decide) ⟨by decide, by decide⟩ ⟨by decide, by decide⟩ (tabs_below hT hB)
    rw [hx, aw_spE] at k; exact k))
  have HQ := Lib.hid (fun (t : R.T) (hx : t.tx = spT awS 2 4 ⟨#[120]⟩) (v : Value) (W : World) (h : RopeAt W v t) => (show
      Calls Tryd.prog 25 #[v] W (fun e w' => e = .returned (.int .i64 1) ∧ Below W.heap.size W w') from by
    have k := breaks_any v t W h
    rw [hx, aw_spk] at k; exact k))
  clear hT
  go_enter Tryd.func21, Tryd.ntmps21
  go_wp2_with fail
  refine HN.out.mono ?_
  rintro e w1 ⟨v, rfl, hB, hr⟩
  have H1 := Lib.hid hB
  clear hB HN
  rcases hr with ⟨_, t, hr, hx⟩ | ⟨hno, _⟩
  rotate_left
  · exact absurd rfl hno
  have HR1 := Lib.hid hr
  obtain ⟨b, rv, rfl, hb, hn, hft⟩ := hr
  clear hb hn hft
  have HX := Lib.hid hx
  clear hx
  go_wp2_with fail
  refine (HF.out t HX.out _ _ HR1.out).1.mono ?_
  rintro e w2 ⟨rfl, hB⟩
  have H2 := Lib.hid (H1.out.trans (hB.mono H1.out.size))
  have HR2 := Lib.hid (HR1.out.below hB)
  clear hB
  go_wp2_with fail
  refine (HP.out t HX.out _ _ HR2.out H2.out).mono ?_
  rintro e w3 ⟨v3, rfl, hB, hr⟩
  have H3 := Lib.hid (H2.out.trans (hB.mono H2.out.size))
  have HR3 := Lib.hid (HR2.out.below hB)
  clear hB
  rcases hr with ⟨_, t3, hr, hx⟩ | ⟨hno, _⟩
  rotate_left
  · exact absurd rfl hno
  have HS3 := Lib.hid hr
  obtain ⟨b3, rv3, rfl, hb, hn, hft⟩ := hr
  clear hb hn hft
  have HX3 := Lib.hid hx
  clear hx
  go_wp2_with fail
  refine (HF.out t HX.out _ _ HR3.out).2.1.mono ?_
  rintro e w4 ⟨rfl, hB⟩
  have H4 := Lib.hid (H3.out.trans (hB.mono H3.out.size))
  have HR4 := Lib.hid (HR3.out.below hB)
  have HS4 := Lib.hid (HS3.out.below hB)
  clear hB
  go_wp2_with fail
  refine (HF.out t HX.out _ _ HR4.out).2.2.1.mono ?_
  rintro e w5 ⟨rfl, hB⟩
  have H5 := Lib.hid (H4.out.trans (hB.mono H4.out.size))
  have HR5 := Lib.hid (HR4.out.below hB)
  have HS5 := Lib.hid (HS4.out.below hB)
  clear hB
  go_wp2_with fail
  refine (HF.out t HX.out _ _ HR5.out).2.2.2.mono ?_
  rintro e w6 ⟨rfl, hB⟩
  have H6 := Lib.hid (H5.out.trans (hB.mono H5.out.size))
  have HS6 := Lib.hid (HS5.out.below hB)
  clear hB
  go_wp2_with fail
  refine (HQ.out t3 HX3.out _ _ HS6.out).mono ?_
  rintro e w7 ⟨rfl, hB⟩
  have H7 := Lib.hid (H6.out.trans (hB.mono H6.out.size))
  clear hB
  go_wp2_with fail
  go_ret
  exact ⟨rfl, H7.out⟩
end Go.Proofs.YtdigkgoaldgodaaDoor
