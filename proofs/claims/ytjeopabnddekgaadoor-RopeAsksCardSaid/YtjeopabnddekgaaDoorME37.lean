/- Where lines begin in a text of pieces, plainly. Conditions: none. -/
import Derived.Test.YtjeopabnddekgaaDoorME36
namespace Go.Proofs.YtjeopabnddekgaaDoor.R
open Go

/-- line i begins at place p -/
def LS (l : List UInt8) (p i : Nat) : Prop := p ≤ l.length ∧ bk (l.take p) = i ∧ (p = 0 ∨ (l.take p).getLast? = some 10 ∨ (l.take p).getLast? = some 13) ∧ ¬ ((l.take p).getLast? = some 13 ∧ (l.drop p).head? = some 10)
theorem bk_last10 : ∀ (l : List UInt8), l.getLast? = some 10 → 1 ≤ bk l
  | [], h => by cases h
  | [b], h => by
    have : b = 10 := by simpa using h
    subst this
    decide
  | b :: c :: l, h => by
    have h1 : (c :: l).getLast? = some 10 := by simpa using h
    have := bk_last10 (c :: l) h1
    show 1 ≤ _ + bk (c :: l)
    omega
theorem seam_no {l m : List UInt8} (h : ¬ (l.getLast? = some 13 ∧ m.head? = some 10)) : seam l m = 0 := if_neg h
theorem bk_cut {l : List UInt8} {p i : Nat} (h : LS l p i) : bk l = i + bk (l.drop p) := by
  have := bk_app (l.take p) (l.drop p)
  rw [List.take_append_drop, seam_no h.2.2.2, h.2.1] at this
  omega
theorem ls_lt {l : List UInt8} {p q i j : Nat} (h : LS l p i) (k : LS l q j) (hpq : p < q) : i < j := by
  obtain ⟨k1, k2, k3, k4⟩ := k
  have e : l.take q = l.take p ++ (l.drop p).take (q - p) := by
    rw [show q = p + (q - p) by omega, List.take_add]
    simp
  have hne : (l.drop p).take (q - p) ≠ [] := by
    intro h0
    have := congrArg List.length h0
    simp at this
    omega
  have hl : (l.take q).getLast? = ((l.drop p).take (q - p)).getLast? := by
    rw [e, List.getLast?_append]
    cases hc : ((l.drop p).take (q - p)).getLast? with
    | none => exact absurd (List.getLast?_eq_none_iff.1 hc) hne
    | some a => rfl
  have hh : ((l.drop p).take (q - p)).head? = (l.drop p).head? := by
    cases hd : l.drop p with
    | nil => simp
    | cons a r =>
      rw [show q - p = (q - p - 1) + 1 by omega]
      rfl
  have hb := bk_app (l.take p) ((l.drop p).take (q - p))
  rw [← e, k2, seam_no (by rw [hh]; exact h.2.2.2), h.2.1] at hb
  have h1 : 1 ≤ bk ((l.drop p).take (q - p)) := by
    rcases k3 with k3 | k3 | k3
    · omega
    · exact bk_last10 _ (by rw [← hl]; exact k3)
    · exact bk_last _ (by rw [← hl]; exact k3)
  omega
theorem ls_uniq {l : List UInt8} {p q i : Nat} (h : LS l p i) (k : LS l q i) : p = q := by
  rcases Nat.lt_trichotomy p q with hl | hl | hl
  · have := ls_lt h k hl; omega
  · exact hl
  · have := ls_lt k h hl; omega
theorem take_last (s : ByteArray) (q : Nat) (hq : q < s.size) : (s.data.toList.take (q + 1)).getLast? = some (s.get! q) := by
  have h := drop_at s q hq
  have hl : q < s.data.toList.length := by simpa using hq
  have e : s.data.toList[q]? = some (s.get! q) := by
    have := congrArg List.head? h
    rw [List.head?_drop, List.head?_cons] at this
    exact this
  rw [List.take_add_one, e]
  simp
/-- so they begin -/
theorem ls_fr (s : ByteArray) : ∀ i, i < L.mny s → LS s.data.toList (L.fr s i) i
  | 0, _ => ⟨Nat.zero_le _, rfl, .inl rfl, by simp [L.fr]⟩
  | i + 1, h => by
    have ih := ls_fr s i (by omega)
    have hle : L.fr s i ≤ s.size := L.fr_le (by omega)
    have hlt : L.ce s (L.fr s i) < s.size := L.to_lt h
    have hce := bk_ce s s.size (L.fr s i) (by omega) hle
    have hb := L.ce_is hle hlt
    have hcut := bk_cut ih
    have hn := L.nx_facts hlt
    rw [L.fr_succ]
    unfold L.to
    generalize L.ce s (L.fr s i) = e at *
    have hd := drop_at s e hlt
    cases hp : L.pair s e
    · rw [L.nx_one hp] at hn ⊢
      have hq := L.of_npair hp
      have hlast := take_last s e hlt
      have hno : ¬ ((s.data.toList.take (e + 1)).getLast? = some 13 ∧ (s.data.toList.drop (e + 1)).head? = some 10) := by
        rintro ⟨h1, h2⟩
        rw [hlast] at h1
        have h13 : (s.get! e).toNat = 13 := by rw [Option.some.inj h1]; rfl
        by_cases hl : e + 1 < s.size
        · rw [drop_at s _ hl, List.head?_cons] at h2
          exact hq ⟨h13, hl, by rw [Option.some.inj h2]; rfl⟩
        · rw [List.drop_eq_nil_of_le (by simp; omega)] at h2; cases h2
      have h2 := bk_app (s.data.toList.take (e + 1)) (s.data.toList.drop (e + 1))
      rw [List.take_append_drop, seam_no hno] at h2
      have h3 : bk (s.data.toList.drop e) = 1 + bk (s.data.toList.drop (e + 1)) := by
        rw [hd]
        rcases L.of_brk hb with h10 | h13
        · have e' : s.get! e = 10 := (toNat_eq _ 10 (by omega)).2 h10
          simp only [bk, e', if_true]
        · have e' : s.get! e = 13 := (toNat_eq _ 13 (by omega)).2 h13
          have hh : (s.data.toList.drop (e + 1)).head? ≠ some 10 := fun h => hno ⟨by rw [hlast, e'], h⟩
          simp only [bk, e', if_neg hh, if_neg (show ¬ ((13 : UInt8) = 10) by decide), if_true]
      refine ⟨by simp; omega, by omega, .inr ?_, hno⟩
      rcases L.of_brk hb with h10 | h13
      · left; rw [hlast, (toNat_eq (s.get! e) 10 (by omega)).2 h10]; rfl
      · right; rw [hlast, (toNat_eq (s.get! e) 13 (by omega)).2 h13]; rfl
    · rw [L.nx_pair hp] at hn ⊢
      obtain ⟨h13, hl, h10⟩ := L.of_pair hp
      have hlast := take_last s (e + 1) hl
      have e1 : s.get! e = 13 := (toNat_eq _ 13 (by omega)).2 h13
      have e2 : s.get! (e + 1) = 10 := (toNat_eq _ 10 (by omega)).2 h10
      rw [e2] at hlast
      have hno : ¬ ((s.data.toList.take (e + 2)).getLast? = some 13 ∧ (s.data.toList.drop (e + 2)).head? = some 10) := by
        rintro ⟨h1, -⟩
        rw [show e + 2 = e + 1 + 1 from rfl, hlast] at h1
        exact absurd (Option.some.inj h1) (by decide)
      have h2 := bk_app (s.data.toList.take (e + 2)) (s.data.toList.drop (e + 2))
      rw [List.take_append_drop, seam_no hno] at h2
      have h3 : bk (s.data.toList.drop e) = 1 + bk (s.data.toList.drop (e + 2)) := by
        rw [hd, drop_at s _ hl, e1, e2, show e + 1 + 1 = e + 2 from rfl]
        simp only [bk, List.head?_cons, if_true, if_neg (show ¬ ((13 : UInt8) = 10) by decide)]; omega
      exact ⟨by simp; omega, by omega, .inr (.inl hlast), hno⟩
/-- a line of the middle one of three pieces -/
theorem ls_mid (u s v : List UInt8) (p n : Nat) (h : LS s p n) (h0 : p = 0 → u = [] ∨ (u.getLast? = some 10 ∨ u.getLast? = some 13) ∧ ¬ (u.getLast? = some 13 ∧ (s ++ v).head? = some 10)) (h1 : p = s.length → p ≠ 0 → ¬ (s.getLast? = some 13 ∧ v.head? = some 10)) :
    LS (u ++ (s ++ v)) (u.length + p) (bk u + n - (if p = 0 then 0 else seam u s)) := by
  obtain ⟨a1, a2, a3, a4⟩ := h
  have et : (u ++ (s ++ v)).take (u.length + p) = u ++ s.take p := by
    rw [List.take_length_add_append, List.take_append_of_le_length a1]
  have ed : (u ++ (s ++ v)).drop (u.length + p) = s.drop p ++ v := by
    rw [List.drop_length_add_append, List.drop_append_of_le_length a1]
  by_cases hp : p = 0
  · subst hp
    simp only [Nat.add_zero, if_true] at et ed ⊢
    have hn : n = 0 := by rw [← a2]; rfl
    subst hn
    refine ⟨by simp, ?_, ?_, ?_⟩
    · rw [et]; simp
    · rw [et]
      rcases h0 rfl with h0 | h0
      · left; rw [h0]; rfl
      · right; simpa using h0.1
    · rw [et, ed]
      rcases h0 rfl with h0 | h0
      · rw [h0]; simp
      · simpa using h0.2
  · rw [if_neg hp]
    have hne : s.take p ≠ [] := by
      intro e
      have := congrArg List.length e
      rw [List.length_take, List.length_nil] at this
      omega
    have hl : (u ++ s.take p).getLast? = (s.take p).getLast? := by
      rw [List.getLast?_append]
      cases hc : (s.take p).getLast? with
      | none => exact absurd (List.getLast?_eq_none_iff.1 hc) hne
      | some a => rfl
    have hh : (s.take p).head? = s.head? := by
      cases s with
      | nil => simp
      | cons a r => rw [show p = (p - 1) + 1 by omega]; rfl
    have hb := bk_app u (s.take p)
    have hs : seam u (s.take p) = seam u s := by unfold seam; rw [hh]
    refine ⟨by simp; omega, ?_, ?_, ?_⟩
    · rw [et]; rw [hs, a2] at hb; omega
    · rw [et, hl]; right; exact a3.resolve_left hp
    · rw [et, ed, hl]
      rintro ⟨c1, c2⟩
      by_cases hx : p = s.length
      · subst hx
        rw [List.take_length] at c1
        rw [List.drop_length, List.nil_append] at c2
        exact h1 rfl hp ⟨c1, c2⟩
      · refine a4 ⟨c1, ?_⟩
        cases hd : s.drop p with
        | nil => have := congrArg List.length hd; simp at this; omega
        | cons a r => rw [hd] at c2; exact c2
theorem cn_k (s : ByteArray) : (cn s).k = bk s.data.toList := by
  show L.mny s - 1 = _
  rw [mny_bk]; omega
theorem seam_cn (u s : ByteArray) : seam u.data.toList s.data.toList = if ((cn u).e && (cn s).f) = true then 1 else 0 := by
  unfold seam cn
  by_cases h1 : u.data.toList.getLast? = some 13 <;> by_cases h2 : s.data.toList.head? = some 10 <;> simp [h1, h2]
/-- Start, whatever the tree -/
theorem start_spec (t : T) (ht : t.Fit) (i : Int) : startV t i = if 0 ≤ i ∧ i < (L.mny t.tx : Int) then (L.fr t.tx i.toNat, true) else (0, false) := by
  have hm := L.mny_pos t.tx
  have hk : (cn t.tx).k = L.mny t.tx - 1 := rfl
  unfold startV
  by_cases h : i < 0 ∨ ((cn t.tx).k : Int) < i
  · rw [if_pos h, if_neg (by omega)]
  · rw [if_neg h, if_pos (by omega)]
    obtain ⟨u, s, v, efd, F⟩ := fd_spec (stP i) t ByteArray.empty ht (U.valid_none _ rfl)
    rw [empty_app] at efd
    have efd : fd (stP i) t Cn.none = (cn u, s) := efd
    have pu := F.pu
    have pv := F.pv
    rw [empty_app] at pu pv
    rw [efd]
    obtain ⟨j, rfl⟩ : ∃ j : Nat, i = (j : Int) := ⟨i.toNat, by omega⟩
    have hs1 := seam_cn u s
    have hku := cn_k u
    have hks := cn_k s
    have hkus : (cn (u ++ s)).k = bk (u.data.toList ++ s.data.toList) := by rw [cn_k, U.app_list]
    have hus := bk_app u.data.toList s.data.toList
    have hms : L.mny s = bk s.data.toList + 1 := by rw [mny_bk]; omega
    have htl : t.tx.data.toList = u.data.toList ++ (s.data.toList ++ v.data.toList) := by rw [F.tx, U.app_list, U.app_list, List.append_assoc]
    have hkt : (cn t.tx).k = bk t.tx.data.toList := cn_k _
    have hstn : stN (j : Int) (cn u, s) = (j : Int) - (bk u.data.toList : Int) + (seam u.data.toList s.data.toList : Int) := by
      unfold stN
      rw [hs1, ← hku]
      by_cases hh : ((cn u).e && (cn s).f) = true
      · rw [if_pos hh, if_pos hh]; rfl
      · rw [if_neg hh, if_neg hh]; rfl
    have hjt : j ≤ bk t.tx.data.toList := by omega
    rw [htl] at hjt
    have hst : ∀ (c : Cn) (b : Bool), stP (j : Int) c = b → (b = false → c.k < j ∨ (c.k = j ∧ c.e = true)) ∧ (b = true → j < c.k ∨ (j = c.k ∧ c.e = false)) := fun c b hb => by
      unfold stP at hb
      constructor
      · intro e
        rw [e] at hb
        rw [Bool.or_eq_false_iff, decide_eq_false_iff_not, Bool.and_eq_false_iff, decide_eq_false_iff_not] at hb
        rcases hb.2 with h2 | h2
        · left; omega
        · have he : c.e = true := by simpa using h2
          by_cases h3 : c.k = j
          · right; exact ⟨h3, he⟩
          · left; omega
      · intro e
        rw [e] at hb
        rw [Bool.or_eq_true_iff, decide_eq_true_iff, Bool.and_eq_true_iff, decide_eq_true_iff] at hb
        rcases hb with h2 | ⟨h2, h3⟩
        · left; omega
        · right; exact ⟨by omega, by simpa using h3⟩
    have hu0 : u.size = 0 → u.data.toList = [] := fun h => by rw [U.empty_of u h]; rfl
    have hv0 : v.size = 0 → v.data.toList = [] := fun h => by rw [U.empty_of v h]; rfl
    have hge : bk u.data.toList ≤ j := by
      rcases pu with h0 | h0
      · rw [hu0 h0]; exact Nat.zero_le _
      · have := (hst _ _ h0).1 rfl
        omega
    have hsv : bk (u.data.toList ++ s.data.toList) ≤ bk u.data.toList + bk s.data.toList := by omega
    have hle : j - bk u.data.toList + seam u.data.toList s.data.toList ≤ bk s.data.toList := by
      rcases pv with h0 | h0
      · rw [hv0 h0, List.append_nil] at hjt
        omega
      · have := (hst _ _ h0).2 rfl
        omega
    obtain ⟨n, hn⟩ : ∃ n, n = j - bk u.data.toList + seam u.data.toList s.data.toList := ⟨_, rfl⟩
    have hln : lnF (cn u, s).2 (stN (j : Int) (cn u, s)) = L.fr s n := by
      rw [hstn]
      unfold lnF
      rw [if_pos (by show _ ∧ _ < ((L.mny s : Nat) : Int); omega)]
      congr 1
      omega
    have hls := ls_fr s n (by omega)
    have hne : t ≠ .none → s.data.toList ≠ [] := fun hne e => by
      have h1 := F.some (ht.resolve_left hne)
      have := list_len s
      rw [e] at this
      simp at this
      omega
    have hmid := ls_mid u.data.toList s.data.toList v.data.toList (L.fr s n) n hls (fun hp => by
        have hn0 : n = 0 := by have := hls.2.1; rw [hp] at this; exact this.symm
        rcases pu with h0 | h0
        · exact .inl (hu0 h0)
        · right
          have h2 := (hst _ _ h0).1 rfl
          have he : (cn u).e = true := by
            rcases h2 with h2 | h2
            · omega
            · exact h2.2
          have h13 : u.data.toList.getLast? = some 13 := of_decide_eq_true he
          have hsm : seam u.data.toList s.data.toList = 0 := by omega
          refine ⟨.inr h13, ?_⟩
          rintro ⟨-, hh⟩
          have htn : t ≠ .none := by
            intro e
            have h3 := F.tx
            rw [e] at h3
            have h4 : (u ++ s ++ v).size = 0 := by rw [← h3]; rfl
            rw [U.app_size, U.app_size] at h4
            rw [hu0 (by omega)] at h13
            cases h13
          have hs0 := hne htn
          cases hc : s.data.toList with
          | nil => exact hs0 hc
          | cons a r =>
            rw [hc, List.cons_append, List.head?_cons] at hh
            unfold seam at hsm
            rw [hc, List.head?_cons, if_pos ⟨h13, hh⟩] at hsm
            omega) (fun hp hp0 => by
        rintro ⟨h13, hh⟩
        rcases pv with h0 | h0
        · rw [hv0 h0] at hh; cases hh
        · have h2 := (hst _ _ h0).2 rfl
          have hnb : n = bk s.data.toList := by have := hls.2.1; rw [hp, List.take_length] at this; exact this.symm
          have hsne : s.data.toList ≠ [] := fun e => by rw [e] at h13; cases h13
          rcases h2 with h2 | h2
          · omega
          · have he : decide ((u ++ s).data.toList.getLast? = some 13) = false := h2.2
            rw [decide_eq_false_iff_not, U.app_list, List.getLast?_append, h13] at he
            exact he rfl)
    have hidx : bk u.data.toList + n - (if L.fr s n = 0 then 0 else seam u.data.toList s.data.toList) = j := by
      by_cases hp : L.fr s n = 0
      · rw [if_pos hp]
        have hn0 : n = 0 := by have := hls.2.1; rw [hp] at this; exact this.symm
        omega
      · rw [if_neg hp]; omega
    rw [hidx, ← htl, list_len] at hmid
    have hT := ls_fr t.tx j (by omega)
    have := ls_uniq hmid hT
    rw [hln]
    show (u.size + L.fr s n, true) = (L.fr t.tx ((j : Nat) : Int).toNat, true)
    rw [this]
    rfl
end Go.Proofs.YtjeopabnddekgaaDoor.R

namespace Go.Proofs.YtjeopabnddekgaaDoor.U
open Go

theorem un_same {x y : ByteArray} {p q : Nat} (h : ch x p = ch y q) : un x p = un y q := by unfold un; rw [h]
theorem st_more (s : ByteArray) (a : Nat) : ∀ j q m p n, st s j q m = (p, n) → st s j q (m + a) = (p, n + a)
  | 0, q, m, p, n, h => by
    simp only [st, Prod.mk.injEq] at h ⊢
    omega
  | j + 1, q, m, p, n, h => by
    by_cases hq : q < s.size
    · rw [st_step s j q m hq] at h
      rw [st_step s j q (m + a) hq, show m + a + un s q = m + un s q + a by omega]
      exact st_more s a j _ _ p n h
    · rw [st_end s _ q m hq] at h
      rw [st_end s _ q _ hq]
      simp only [Prod.mk.injEq] at h ⊢
      omega
theorem st_then (s : ByteArray) (k : Nat) : ∀ j q m p n, st s j q m = (p, n) → ∃ i, st s i q m = st s k p n
  | 0, q, m, p, n, h => by
    simp only [st, Prod.mk.injEq] at h
    exact ⟨k, by rw [h.1, h.2]⟩
  | j + 1, q, m, p, n, h => by
    by_cases hq : q < s.size
    · rw [st_step s j q m hq] at h
      obtain ⟨i, hi⟩ := st_then s k j _ _ p n h
      exact ⟨i + 1, by rw [st_step s i q m hq, hi]⟩
    · rw [st_end s _ q m hq] at h
      simp only [Prod.mk.injEq] at h
      exact ⟨k, by rw [h.1, h.2]⟩
theorem st_left (x t : ByteArray) (hv : valid x = true) : ∀ j q k m p n, st x k 0 0 = (q, m) → st x j q m = (p, n) → ∃ i, st (x ++ t) i q m = (p, n)
  | 0, q, k, m, p, n, _, h => ⟨0, h⟩
  | j + 1, q, k, m, p, n, hk, h => by
    by_cases hq : q < x.size
    · have hg := valid_good x k 0 0 q m hk hq x.size (by omega) hv
      have hc := app_char x t q hq hg
      rw [st_step x j q m hq] at h
      obtain ⟨i, hi⟩ := st_left x t hv j _ (k + 1) _ p n (st_snoc x k 0 0 q m hk hq) h
      refine ⟨i + 1, ?_⟩
      rw [st_step (x ++ t) i q m (by rw [app_size]; omega), hc.2, un_same hc.1]
      exact hi
    · rw [st_end x _ q m hq] at h
      exact ⟨0, h⟩
theorem st_right (x t : ByteArray) : ∀ j q m p n, st t j q m = (p, n) → ∃ i, st (x ++ t) i (x.size + q) m = (x.size + p, n)
  | 0, q, m, p, n, h => by
    simp only [st, Prod.mk.injEq] at h
    exact ⟨0, by simp only [st]; rw [h.1, h.2]⟩
  | j + 1, q, m, p, n, h => by
    by_cases hq : q < t.size
    · have hc := app_shift x t q
      rw [st_step t j q m hq] at h
      obtain ⟨i, hi⟩ := st_right x t j _ _ p n h
      refine ⟨i + 1, ?_⟩
      rw [st_step (x ++ t) i _ m (by rw [app_size]; omega), hc.2, un_same hc.1, Nat.add_assoc]
      exact hi
    · rw [st_end t _ q m hq] at h
      simp only [Prod.mk.injEq] at h
      exact ⟨0, by simp only [st]; rw [h.1, h.2]⟩
theorem cut_mid (u s v : ByteArray) (hu : valid u = true) (hs : valid s = true) (i : Int) (h0 : u.size = 0 ∨ ((units u : Nat) : Int) ≤ i) (h1 : v.size = 0 ∨ i < ((units (u ++ s) : Nat) : Int)) :
    cut (u ++ (s ++ v)) i = u.size + cut s (i - (units u : Nat)) := by
  by_cases hn : i < 0
  · have hz : u.size = 0 := by omega
    have hu0 := units_none u hz
    rw [cut_below _ i hn, hu0, cut_below s _ (by omega)]
    omega
  · have hui : ((units u : Nat) : Int) ≤ i := by
      rcases h0 with h0 | h0
      · rw [units_none u h0]; omega
      · exact h0
    obtain ⟨ju, nu, e1⟩ := st_to_end u u.size 0 0 (Nat.zero_le _) (by omega)
    have hnu : units u = nu := units_of_end u ju nu e1
    obtain ⟨j, n, e2, e3, e4, e5⟩ := cut_st s (i - (units u : Nat)) s.size 0 0 (Nat.zero_le _) (by omega)
    have hcd : cutFrom s (i - (units u : Nat)) s.size 0 0 = cut s (i - (units u : Nat)) := rfl
    rw [hcd] at e2 e4 e5
    have hle : (n : Int) ≤ i - (units u : Nat) := e3 (by omega)
    obtain ⟨k1, f1⟩ := st_left u (s ++ v) hu ju 0 0 0 u.size nu rfl e1
    obtain ⟨k2, f2⟩ := st_left s v hs j 0 0 0 _ n rfl e2
    have f3 := st_more (s ++ v) nu k2 0 0 _ n f2
    rw [Nat.zero_add] at f3
    obtain ⟨k3, f4⟩ := st_right u (s ++ v) k2 0 nu _ _ f3
    rw [Nat.add_zero] at f4
    obtain ⟨k4, f5⟩ := st_then (u ++ (s ++ v)) k3 k1 0 0 u.size nu f1
    rw [f4] at f5
    generalize cut s (i - (units u : Nat)) = c at *
    have hT : (u ++ (s ++ v)).size = u.size + (s.size + v.size) := by rw [app_size, app_size]
    refine cut_uni (u ++ (s ++ v)) i k4 0 0 _ _ f5 (by omega) ?_ _ (by omega)
    by_cases hc : c < s.size
    · right
      have hg := valid_good s j 0 0 c n e2 hc s.size (by omega) hs
      have h3 := app_char s v c hc hg
      have h4 := app_shift u (s ++ v) c
      have h5 : un (u ++ (s ++ v)) (u.size + c) = un s c := un_same (h4.1.trans h3.1)
      have h6 := e5 hc
      rw [h5]
      omega
    · have hcs : c = s.size := by omega
      rw [hcs] at e2 ⊢
      have hns := units_of_end s j n e2
      rcases h1 with h1 | h1
      · left; omega
      · rw [units_app u s hu] at h1; omega
end Go.Proofs.YtjeopabnddekgaaDoor.U
namespace Go.Proofs.YtjeopabnddekgaaDoor.R
open Go
/-- cut, whatever the tree -/
theorem cut_spec (t : T) (ht : t.Fit) (i : Int) : cutT t i = U.cut t.tx i := by
  obtain ⟨u, s, v, e, F, a, b⟩ := un_spec t ht i
  unfold cutT
  rw [e, F.tx, ByteArray.append_assoc, U.cut_mid u s v F.hu F.hs i a b]
  rfl
/-- a line's content, whatever the tree -/
theorem con_spec (t : T) (ht : t.Fit) (i : Nat) : conV t (i : Int) = if i < L.mny t.tx then ((L.fr t.tx i : Int), (L.to t.tx i : Int), true) else (0, 0, false) := by
  unfold conV
  rw [start_spec t ht, start_spec t ht]
  by_cases h : i < L.mny t.tx
  · rw [if_pos h]
    have e1 : (if (0 : Int) ≤ (i : Int) ∧ (i : Int) < (L.mny t.tx : Int) then (L.fr t.tx (i : Int).toNat, true) else (0, false)) = (L.fr t.tx i, true) := by rw [if_pos (by omega)]; rfl
    rw [e1, if_pos rfl]
    by_cases h2 : i + 1 < L.mny t.tx
    · have e2 : (if (0 : Int) ≤ (i : Int) + 1 ∧ (i : Int) + 1 < (L.mny t.tx : Int) then (L.fr t.tx ((i : Int) + 1).toNat, true) else (0, false)) = (L.fr t.tx (i + 1), true) := by
        rw [if_pos (by omega)]; rfl
      rw [e2, if_pos rfl]
      have hlt := L.to_lt h2
      have hfr := L.fr_le h
      have hge := L.to_ge h
      have hb := L.ce_is hfr hlt
      have hn := L.nx_facts hlt
      have hf := L.fr_succ t.tx i
      dsimp only
      generalize hto : L.to t.tx i = e at *
      have hce : L.ce t.tx (L.fr t.tx i) = e := hto
      rw [hce] at hb
      generalize L.fr t.tx (i + 1) = n at *
      have hlast : ∀ k, n = k + 2 → ((cn (t.tx.extract 0 (n - 1))).e = true ↔ t.tx.get! k = 13) := fun k hk => by
        unfold cn
        rw [decide_eq_true_iff]
        have he : (t.tx.extract 0 (n - 1)).data.toList = t.tx.data.toList.take (k + 1) := by
          rw [ByteArray.data_extract, Array.toList_extract, hk]
          simp
        rw [he, take_last t.tx k (by omega)]
        exact ⟨fun h => Option.some.inj h, fun h => by rw [h]⟩
      cases hp : L.pair t.tx e
      · rw [L.nx_one hp] at hf
        rw [if_neg (by
          rintro ⟨h3, h4⟩
          obtain ⟨k, hk⟩ : ∃ k, n = k + 2 := ⟨n - 2, by omega⟩
          have h5 := (hlast k hk).1 h4
          have h6 := L.ce_none (s := t.tx) (i := L.fr t.tx i) (j := k) hfr (by omega) (by rw [hce]; omega)
          have h7 := L.of_nbrk h6
          exact h7.2 (by rw [h5]; rfl))]
        rw [hf]
        simp
      · rw [L.nx_pair hp] at hf
        obtain ⟨h13, -, -⟩ := L.of_pair hp
        have h5 := (hlast e hf).2 ((toNat_eq _ 13 (by omega)).2 h13)
        rw [if_pos ⟨by omega, h5⟩]
        rw [hf]
        simp only [Prod.mk.injEq, true_and, and_true]
        omega
    · have e2 : (if (0 : Int) ≤ (i : Int) + 1 ∧ (i : Int) + 1 < (L.mny t.tx : Int) then (L.fr t.tx ((i : Int) + 1).toNat, true) else (0, false)) = (0, false) := by
        rw [if_neg (by omega)]
      rw [e2, if_neg (by decide), L.to_end h h2]
  · rw [if_neg h]
    have e1 : (if (0 : Int) ≤ (i : Int) ∧ (i : Int) < (L.mny t.tx : Int) then (L.fr t.tx (i : Int).toNat, true) else (0, false)) = (0, false) := by rw [if_neg (by omega)]
    rw [e1, if_neg (by decide)]
end Go.Proofs.YtjeopabnddekgaaDoor.R
