/- The kind of bytes by the law DfaLongest's words is what the scanner's run tells: pure. Conditions: none. -/
import Derived.Test.YteccfoiegjhppaaDlFns
import Derived.Test.YteccfoiegjhppaaDlMath
namespace Go.Proofs.Yteccfoiegjhppaa.D
open Go U
def wsp : ByteArray := ⟨#[32, 9, 10, 13]⟩
def dgt : ByteArray := ⟨#[48, 49, 50, 51, 52, 53, 54, 55, 56, 57]⟩
/-- the kind by the words -/
def noTen (s : ByteArray) : Bool := decide (∀ j, j < s.size → ¬ ((s.get! j).toNat = 10 ∨ (s.get! j).toNat = 13))
def kin (s : ByteArray) (last : Bool) : Nat :=
  if s.size = 0 then 0
  else if akB s wsp s.size = true then 1
  else if 2 ≤ s.size ∧ (s.get! 0).toNat = 47 ∧ (s.get! 1).toNat = 47 then (if noTen s = true then 2 else 0)
  else if 2 ≤ s.size ∧ (s.get! 0).toNat = 47 ∧ (s.get! 1).toNat = 42 then rmk s last
  else if (s.get! 0).toNat = 34 then qtd s
  else if akB s dgt s.size = true then 7
  else if Wd s ≠ 0 then Wd s
  else if sgn s ≠ 0 then sgn s
  else if chr1 s = true then 5 else 0
/-- the kind by the run -/
def kk (s : ByteArray) (last : Bool) : Nat :=
  if (run s).2 = s.size then (if (run s).1 = 7 then wrd s else if kd (run s).1 = 4 then (if last = true then 4 else 0) else kd (run s).1) else 0
theorem kk_run {s : ByteArray} {q : Nat} {last : Bool} (h : run s = (q, s.size)) : kk s last = if q = 7 then wrd s else if kd q = 4 then (if last = true then 4 else 0) else kd q := by
  unfold kk; rw [h, if_pos rfl]
theorem kk_not {s : ByteArray} {last : Bool} (h : ¬ (run s).2 = s.size) : kk s last = 0 := by unfold kk; rw [if_neg h]
theorem hs_wsp (c : Nat) (h : c < 256) : hsB wsp c wsp.size = decide (cls c = 1 ∨ cls c = 2) := by
  have : ∀ c : Fin 256, hsB wsp c.1 wsp.size = decide (cls c.1 = 1 ∨ cls c.1 = 2) := by decide +kernel
  exact this ⟨c, h⟩
theorem hs_dgt (c : Nat) (h : c < 256) : hsB dgt c dgt.size = decide (cls c = 4) := by
  have : ∀ c : Fin 256, hsB dgt c.1 dgt.size = decide (cls c.1 = 4) := by decide +kernel
  exact this ⟨c, h⟩
theorem ak_wsp (s : ByteArray) : akB s wsp s.size = true ↔ ∀ j, j < s.size → (cls (s.get! j).toNat = 1 ∨ cls (s.get! j).toNat = 2) := by
  rw [akB_iff]
  exact forall_congr' fun j => forall_congr' fun _ => by rw [hs_wsp _ (UInt8.toNat_lt _), decide_eq_true_eq]
theorem ak_dgt (s : ByteArray) : akB s dgt s.size = true ↔ ∀ j, j < s.size → cls (s.get! j).toNat = 4 := by
  rw [akB_iff]
  exact forall_congr' fun j => forall_congr' fun _ => by rw [hs_dgt _ (UInt8.toNat_lt _), decide_eq_true_eq]
/-- a run that stays in its state goes to the end just if every byte leads on -/
theorem stays_whole {s : ByteArray} {q : Nat} (hq : ∀ c, c < 24 → stp q c = (q : Int) ∨ stp q c < 0) : ∀ (f i : Nat), s.size = i + f → ((rb s q i).2 = s.size ↔ ∀ j, i ≤ j → j < s.size → ¬ stp q (cls (s.get! j).toNat) < 0)
  | 0, i, h => by
    rw [rb_end (by omega)]
    exact ⟨fun _ j h1 h2 => by omega, fun _ => by show i = _; omega⟩
  | f + 1, i, h => by
    have hi : i < s.size := by omega
    rcases hq _ (cls_lt (s.get! i).toNat) with h1 | h1
    · rw [rb_step hi h1, stays_whole hq f (i + 1) (by omega)]
      exact ⟨fun hh j a b => by by_cases e : j = i; (· subst e; omega); (· exact hh j (by omega) b), fun hh j a b => hh j (by omega) b⟩
    · rw [rb_stop hi h1]
      exact ⟨fun e => absurd e (by show ¬ i = _; omega), fun hh => absurd h1 (hh i (Nat.le_refl _) hi)⟩
theorem rb_stays {s : ByteArray} {q i : Nat} (hq : ∀ c, c < 24 → stp q c = (q : Int) ∨ stp q c < 0) : (rb s q i).1 = q := rb_stay (bl_stays hq)
theorem ss_1 : ∀ c, c < 24 → stp 1 c = ((1 : Nat) : Int) ∨ stp 1 c < 0 := fun c hc => by rw [stp_1 hc]; split <;> simp
theorem ss_3 : ∀ c, c < 24 → stp 3 c = ((3 : Nat) : Int) ∨ stp 3 c < 0 := fun c hc => by rw [stp_3 hc]; split <;> simp
theorem ss_7 : ∀ c, c < 24 → stp 7 c = ((7 : Nat) : Int) ∨ stp 7 c < 0 := fun c hc => by rw [stp_7 hc]; split <;> simp
theorem ss_8 : ∀ c, c < 24 → stp 8 c = ((8 : Nat) : Int) ∨ stp 8 c < 0 := fun c hc => by rw [stp_8 hc]; split <;> simp
theorem run_rn (s : ByteArray) : run s = rn s 0 0 := rfl
theorem run_rb {s : ByteArray} {q : Nat} (h : 0 < s.size) (hb : (s.get! 0).toNat < 128) (hq : stp 0 (cls (s.get! 0).toNat) = (q : Int)) : run s = rb s q 1 := by
  rw [run_rn, rn_lo h hb, hq, Int.toNat_natCast]
theorem cls_pos {c : Nat} (h : cls c ≠ 0) : c < 128 := Decidable.byContradiction fun e => h (cls_hi (by omega))
/-- a remark's run -/
theorem rmk_run {s : ByteArray} : ∀ (f i : Nat), s.size = i + f → (kd (rb s 4 i).1 = 3 ∧ (rb s 4 i).1 = 6) ∨ (kd (rb s 4 i).1 = 4 ∧ (rb s 4 i).1 ≠ 7 ∧ (rb s 4 i).2 = s.size) := by
  intro f
  induction f using Nat.strongRecOn with
  | _ f ih =>
  intro i h
  by_cases h0 : i < s.size
  · have c0 := cls_lt (s.get! i).toNat
    by_cases h8 : cls (s.get! i).toNat = 8
    · have e0 : rb s 4 i = rb s 5 (i + 1) := rb_step h0 (by rw [stp_4 c0, if_pos h8]; rfl)
      rw [e0]
      by_cases h1 : i + 1 < s.size
      · have c1 := cls_lt (s.get! (i + 1)).toNat
        by_cases h81 : cls (s.get! (i + 1)).toNat = 8
        · have := ih (f - 1) (by omega) (i + 1) (by omega)
          have e1 : rb s 4 (i + 1) = rb s 5 (i + 2) := rb_step h1 (by rw [stp_4 c1, if_pos h81]; rfl)
          have e2 : rb s 5 (i + 1) = rb s 5 (i + 2) := rb_step h1 (by rw [stp_5 c1, if_pos h81]; rfl)
          rw [e1] at this
          rw [e2]
          exact this
        · by_cases h71 : cls (s.get! (i + 1)).toNat = 7
          · rw [rb_step (q := 5) (n := 6) h1 (by rw [stp_5 c1, if_neg h81, if_pos h71]; rfl), rb_fin (fun c => by show (-1 : Int) < 0; decide)]
            exact Or.inl ⟨rfl, rfl⟩
          · rw [rb_step (q := 5) (n := 4) h1 (by rw [stp_5 c1, if_neg h81, if_neg h71]; rfl)]
            exact ih (f - 2) (by omega) (i + 2) (by omega)
      · rw [rb_end h1]
        exact Or.inr ⟨rfl, show 5 ≠ 7 by decide, by show i + 1 = _; omega⟩
    · rw [rb_step (q := 4) (n := 4) h0 (by rw [stp_4 c0, if_neg h8]; rfl)]
      exact ih (f - 1) (by omega) (i + 1) (by omega)
  · rw [rb_end h0]
    exact Or.inr ⟨rfl, show 4 ≠ 7 by decide, by show i = _; omega⟩
/-- a text's run -/
theorem txt_run {s : ByteArray} : ∀ (f i q : Nat), s.size = i + f → (q = 9 ∨ q = 10 ∨ q = 11) → ((rb s q i).1 = 9 ∨ (rb s q i).1 = 10 ∨ (rb s q i).1 = 11)
  | 0, i, q, h, hq => by rw [rb_end (by omega)]; exact hq
  | f + 1, i, q, h, hq => by
    have hi : i < s.size := by omega
    have hc := cls_lt (s.get! i).toNat
    by_cases hs : stp q (cls (s.get! i).toNat) < 0
    · rw [rb_stop hi hs]; exact hq
    · have hin : ∀ (q : Fin 35) (c : Fin 24), (q.1 = 9 ∨ q.1 = 10 ∨ q.1 = 11) → ¬ stp q.1 c.1 < 0 → (stp q.1 c.1 = 9 ∨ stp q.1 c.1 = 10 ∨ stp q.1 c.1 = 11) := by decide +kernel
      have := hin ⟨q, by omega⟩ ⟨_, hc⟩ hq hs
      simp only at this
      rcases this with h1 | h1 | h1
      · rw [rb_step hi (n := 9) h1]; exact txt_run f (i + 1) 9 (by omega) (by simp)
      · rw [rb_step hi (n := 10) h1]; exact txt_run f (i + 1) 10 (by omega) (by simp)
      · rw [rb_step hi (n := 11) h1]; exact txt_run f (i + 1) 11 (by omega) (by simp)
theorem wrd_6 (x : ByteArray) : 6 ≤ wrd x := by
  unfold wrd
  by_cases h : x.toList = [108, 101, 116]
  · rw [if_pos h]; decide
  rw [if_neg h]
  clear h
  by_cases h : x.toList = [102, 110]
  · rw [if_pos h]; decide
  rw [if_neg h]
  clear h
  by_cases h : x.toList = [105, 102]
  · rw [if_pos h]; decide
  rw [if_neg h]
  clear h
  by_cases h : x.toList = [101, 108, 115, 101]
  · rw [if_pos h]; decide
  rw [if_neg h]
  clear h
  by_cases h : x.toList = [119, 104, 105, 108, 101]
  · rw [if_pos h]; decide
  rw [if_neg h]
  clear h
  by_cases h : x.toList = [114, 101, 116, 117, 114, 110]
  · rw [if_pos h]; decide
  rw [if_neg h]
  clear h
  by_cases h : x.toList = [116, 114, 117, 101]
  · rw [if_pos h]; decide
  rw [if_neg h]
  clear h
  by_cases h : x.toList = [102, 97, 108, 115, 101]
  · rw [if_pos h]; decide
  rw [if_neg h]
  clear h
  exact Nat.le_refl 6
theorem list_eq {s t : ByteArray} (h : s.toList = t.toList) : s = t := by
  rw [Lib.toList_data, Lib.toList_data] at h
  exact ByteArray.ext (Array.toList_inj.1 h)
theorem sgf_in (s : ByteArray) : ∀ (n i : Nat), sgf s n i ≠ 0 → ∃ j, i ≤ j ∧ j < i + n ∧ s = sgl.getD j ByteArray.empty ∧ sgf s n i = 20 + j
  | 0, i, h => absurd rfl h
  | n + 1, i, h => by
    unfold sgf at h ⊢
    by_cases he : s.toList = (sgl.getD i ByteArray.empty).toList
    · rw [if_pos he]; exact ⟨i, Nat.le_refl _, by omega, list_eq he, rfl⟩
    · rw [if_neg he] at h ⊢
      obtain ⟨j, a, b, c, d⟩ := sgf_in s n (i + 1) h
      exact ⟨j, by omega, by omega, c, d⟩
theorem sgf_out (s : ByteArray) : ∀ (n i : Nat), sgf s n i = 0 → ∀ j, i ≤ j → j < i + n → s ≠ sgl.getD j ByteArray.empty
  | 0, i, _, j, a, b => by omega
  | n + 1, i, h, j, a, b => by
    unfold sgf at h
    by_cases he : s.toList = (sgl.getD i ByteArray.empty).toList
    · rw [if_pos he] at h; omega
    · rw [if_neg he] at h
      by_cases e : j = i
      · subst e; intro e2; exact he (by rw [e2])
      · exact sgf_out s n (i + 1) h j (by omega) (by omega)
theorem sgn_kk : ∀ (i : Fin 21) (last : Bool), kk (sgl.getD i.1 ByteArray.empty) last = 20 + i.1 := by decide +kernel
/-- the kind by the words is the kind by the run -/
theorem kin_kk (s : ByteArray) (last : Bool) (h0 : 0 < s.size) : kin s last = kk s last := by
  have hc0 := cls_lt (s.get! 0).toNat
  unfold kin
  rw [if_neg (by omega)]
  by_cases hA : akB s wsp s.size = true
  · rw [if_pos hA]
    have h := (ak_wsp s).1 hA
    have hz := h 0 h0
    have hr : run s = rb s 1 1 := run_rb h0 (cls_pos (by omega)) (by rcases hz with e | e <;> rw [e] <;> rfl)
    have hw := (stays_whole (s := s) ss_1 (s.size - 1) 1 (by omega)).2 (fun j _ hj => by rw [stp_1 (cls_lt _), if_pos (h j hj)]; decide)
    rw [kk_run (q := 1) (by rw [hr]; exact Prod.ext (rb_stays ss_1) hw)]
    rfl
  rw [if_neg hA]
  by_cases hB : 2 ≤ s.size ∧ (s.get! 0).toNat = 47 ∧ (s.get! 1).toNat = 47
  · rw [if_pos hB]
    have hr : run s = rb s 3 2 := by
      rw [run_rb (q := 2) h0 (by omega) (by rw [hB.2.1]; decide +kernel), rb_step (n := 3) hB.1 (by rw [hB.2.2]; decide +kernel)]
    have hw := stays_whole (s := s) ss_3 (s.size - 2) 2 (by omega)
    have hq : (run s).1 = 3 := by rw [hr]; exact rb_stays ss_3
    by_cases hT : noTen s = true
    · rw [if_pos hT]
      have hT := of_decide_eq_true hT
      have hw := hw.2 (fun j _ hj => by rw [stp_3 (cls_lt _), if_neg (by rw [cls_2]; exact hT j hj)]; decide)
      rw [kk_run (q := 3) (Prod.ext hq (by rw [hr]; exact hw))]
      rfl
    · rw [if_neg hT, kk_not]
      intro e
      refine hT (decide_eq_true fun j hj he => ?_)
      by_cases e0 : j = 0
      · subst e0; omega
      by_cases e1 : j = 1
      · subst e1; omega
      rw [hr] at e
      exact hw.1 e j (by omega) hj (by rw [stp_3 (cls_lt _), if_pos (by rw [cls_2]; exact he)]; decide)
  rw [if_neg hB]
  by_cases hC : 2 ≤ s.size ∧ (s.get! 0).toNat = 47 ∧ (s.get! 1).toNat = 42
  · rw [if_pos hC]
    have hr : run s = rb s 4 2 := by
      rw [run_rb (q := 2) h0 (by omega) (by rw [hC.2.1]; decide +kernel), rb_step (n := 4) hC.1 (by rw [hC.2.2]; decide +kernel)]
    unfold rmk kk
    rw [hr]
    rcases rmk_run (s := s) (s.size - 2) 2 (by omega) with ⟨e1, e2⟩ | ⟨e1, e2, e3⟩
    · by_cases hz : (rb s 4 2).2 = s.size
      · rw [if_pos e1, if_pos hz, if_pos hz, e2]; rfl
      · rw [if_pos e1, if_neg hz, if_neg hz]
    · rw [if_neg (by rw [e1]; decide), if_pos e3, if_neg e2, if_pos e1]
  rw [if_neg hC]
  by_cases hD : (s.get! 0).toNat = 34
  · rw [if_pos hD]
    have hr : run s = rb s 9 1 := run_rb h0 (by omega) (by rw [hD]; decide +kernel)
    unfold qtd kk
    rw [hr]
    have hq := txt_run (s := s) (s.size - 1) 1 9 (by omega) (by simp)
    generalize (rb s 9 1).1 = q at *
    rcases hq with e | e | e <;> subst e <;> rfl
  rw [if_neg hD]
  by_cases hE : akB s dgt s.size = true
  · rw [if_pos hE]
    have h := (ak_dgt s).1 hE
    have hz := h 0 h0
    have hr : run s = rb s 8 1 := run_rb h0 (cls_pos (by omega)) (by rw [hz]; rfl)
    have hw := (stays_whole (s := s) ss_8 (s.size - 1) 1 (by omega)).2 (fun j _ hj => by rw [stp_8 (cls_lt _), if_pos (h j hj)]; decide)
    rw [kk_run (q := 8) (by rw [hr]; exact Prod.ext (rb_stays ss_8) hw)]
    rfl
  rw [if_neg hE]
  by_cases hF : Wd s ≠ 0
  · rw [if_pos hF]
    unfold Wd at hF ⊢
    by_cases h : (run s).1 = 7 ∧ (run s).2 = s.size
    · rw [if_pos h, kk_run (q := 7) (Prod.ext h.1 h.2), if_pos rfl]
    · rw [if_neg h] at hF; exact absurd rfl hF
  rw [if_neg hF]
  by_cases hG : sgn s ≠ 0
  · rw [if_pos hG]
    obtain ⟨j, _, hj, hs, he⟩ := sgf_in s 21 0 hG
    have := sgn_kk ⟨j, by omega⟩ last
    simp only at this
    rw [← hs] at this
    rw [this]; exact he
  rw [if_neg hG]
  have hN := sgf_out s 21 0 (by have : sgn s = 0 := by omega
                                exact this)
  have hWd : ¬ ((run s).1 = 7 ∧ (run s).2 = s.size) := fun h => hF (by unfold Wd; rw [if_pos h]; have := wrd_6 s; omega)
  by_cases hH : chr1 s = true
  · rw [if_pos hH]
    have hw := ((chr1_iff s).1 hH).2
    by_cases hb : (s.get! 0).toNat < 128
    · have ha := (next_ascii s 0 hb).2.1
      have h1 : s.size = 1 := by omega
      have he : s = ⟨#[s.get! 0]⟩ := by
        apply ByteArray.ext
        apply Array.toList_inj.1
        have := drop_at h0
        rw [List.drop_zero, List.drop_eq_nil_of_le (by simp; omega)] at this
        exact this
      generalize s.get! 0 = b at *
      subst he
      have : ∀ (x : Fin 128) (last : Bool), akB ⟨#[UInt8.ofNat x.1]⟩ wsp 1 = true ∨ x.1 = 34 ∨ akB ⟨#[UInt8.ofNat x.1]⟩ dgt 1 = true ∨ ((run ⟨#[UInt8.ofNat x.1]⟩).1 = 7 ∧ (run ⟨#[UInt8.ofNat x.1]⟩).2 = 1) ∨ (∃ j : Fin 21, (⟨#[UInt8.ofNat x.1]⟩ : ByteArray) = sgl.getD j.1 ByteArray.empty) ∨ kk ⟨#[UInt8.ofNat x.1]⟩ last = 5 := by decide +kernel
      have hx := this ⟨b.toNat, hb⟩ last
      simp only [UInt8.ofNat_toNat] at hx
      rcases hx with e | e | e | e | ⟨j, e⟩ | e
      · exact absurd e hA
      · exact absurd e hD
      · exact absurd e hE
      · exact absurd e hWd
      · exact absurd e (hN j.1 (Nat.zero_le _) (by omega))
      · exact e.symm
    · rw [kk_run (q := 34) (by rw [run_hi h0 (by omega), hw])]
      rfl
  rw [if_neg hH]
  symm
  refine kk_not fun hw => ?_
  have hch : ¬ (0 < s.size ∧ wd s 0 = s.size) := fun h => hH ((chr1_iff s).2 h)
  by_cases hb : (s.get! 0).toNat < 128
  · have ha := (next_ascii s 0 hb).2.1
    have h2 : 2 ≤ s.size := by omega
    by_cases hn : Ns (cls (s.get! 0).toNat)
    · rcases hn with e | e | e | e | e | e
      · have hr : run s = rb s 1 1 := run_rb h0 hb (by rw [e]; rfl)
        rw [hr, stays_whole (s := s) ss_1 (s.size - 1) 1 (by omega)] at hw
        refine hA ((ak_wsp s).2 fun j hj => ?_)
        by_cases ej : j = 0
        · subst ej; exact Or.inl e
        · have := hw j (by omega) hj
          rw [stp_1 (cls_lt _)] at this
          by_cases h : cls (s.get! j).toNat = 1 ∨ cls (s.get! j).toNat = 2
          · exact h
          · rw [if_neg h] at this; exact absurd (by decide) this
      · have hr : run s = rb s 1 1 := run_rb h0 hb (by rw [e]; rfl)
        rw [hr, stays_whole (s := s) ss_1 (s.size - 1) 1 (by omega)] at hw
        refine hA ((ak_wsp s).2 fun j hj => ?_)
        by_cases ej : j = 0
        · subst ej; exact Or.inr e
        · have := hw j (by omega) hj
          rw [stp_1 (cls_lt _)] at this
          by_cases h : cls (s.get! j).toNat = 1 ∨ cls (s.get! j).toNat = 2
          · exact h
          · rw [if_neg h] at this; exact absurd (by decide) this
      · have hr : run s = rb s 7 1 := run_rb h0 hb (by rw [e]; rfl)
        exact hWd ⟨by rw [hr]; exact rb_stays ss_7, hw⟩
      · have hr : run s = rb s 8 1 := run_rb h0 hb (by rw [e]; rfl)
        rw [hr, stays_whole (s := s) ss_8 (s.size - 1) 1 (by omega)] at hw
        refine hE ((ak_dgt s).2 fun j hj => ?_)
        by_cases ej : j = 0
        · subst ej; exact e
        · have := hw j (by omega) hj
          rw [stp_8 (cls_lt _)] at this
          by_cases h : cls (s.get! j).toNat = 4
          · exact h
          · rw [if_neg h] at this; exact absurd (by decide) this
      · exact hD ((cls_5 _).1 e)
      · have e47 := (cls_7 _).1 e
        have hr : run s = rb s 2 1 := run_rb h0 hb (by rw [e]; rfl)
        have hst : stp 2 (cls (s.get! 1).toNat) < 0 := by
          have h7 : cls (s.get! 1).toNat ≠ 7 := fun h => hB ⟨h2, e47, (cls_7 _).1 h⟩
          have h8 : cls (s.get! 1).toNat ≠ 8 := fun h => hC ⟨h2, e47, (cls_8 _).1 h⟩
          have : ∀ c : Fin 24, c.1 ≠ 7 → c.1 ≠ 8 → stp 2 c.1 < 0 := by decide +kernel
          exact this ⟨_, cls_lt _⟩ h7 h8
        rw [hr, rb_stop (by omega) hst] at hw
        simp only at hw
        omega
    · by_cases hT : ∀ i, i < 6 → 0 + 2 ≤ s.size → ¬ (s.extract 0 (0 + 2)).toList = (twl.getD i ByteArray.empty).toList
      · have hr := sg_rest h0 hb hn hT
        rw [← run_rn] at hr
        rw [hr] at hw
        simp only at hw
        omega
      · have hT : ∃ i, i < 6 ∧ (s.extract 0 (0 + 2)).toList = (twl.getD i ByteArray.empty).toList := by
          apply Decidable.byContradiction
          intro hh
          exact hT fun i hi _ he => hh ⟨i, hi, he⟩
        obtain ⟨i, hi, he⟩ := hT
        have hr := (sg_two hi (by omega) he).2
        rw [← run_rn] at hr
        have hs2 : s.size = 2 := by omega
        have hex : s.extract 0 (0 + 2) = s := by rw [show 0 + 2 = s.size by omega, ByteArray.extract_zero_size]
        rw [hex] at he
        have hs := list_eq he
        have : ∀ i : Fin 6, ∃ j : Fin 21, twl.getD i.1 ByteArray.empty = sgl.getD j.1 ByteArray.empty := by decide +kernel
        obtain ⟨j, hj⟩ := this ⟨i, hi⟩
        exact hN j.1 (Nat.zero_le _) (by omega) (hs.trans hj)
  · rw [run_hi h0 (by omega)] at hw
    exact hch ⟨h0, hw⟩
/-- a beginning of a text that is no shorter than its token: of the token's kind, if it is the token -/
theorem kk_whole (r : ByteArray) (h0 : 0 < r.size) : kk (r.extract 0 (tok r).w) (decide ((tok r).w = r.size)) = (tok r).k := by
  obtain ⟨q, d, hR⟩ : ∃ q d, run r = (q, d) := ⟨_, _, rfl⟩
  have hf := run_fits r
  rw [hR] at hf
  have h3 := hf.2.2 h0
  simp only at hf h3
  have hT := tok_run hR
  rw [hT]
  simp only
  have hxs : (r.extract 0 d).size = d := by rw [ByteArray.size_extract]; omega
  have hg : (r.extract 0 d).get! 0 = r.get! 0 := by rw [ext_get r 0 d 0 (by omega) (by omega)]
  have hrun : run (r.extract 0 d) = (q, d) := by
    by_cases hb : (r.get! 0).toNat < 128
    · rw [run_lo (by omega) (by rw [hg]; exact hb), ext_list, List.drop_zero, Nat.sub_zero]
      rw [run_lo h0 hb] at hR
      have := bl_take r.data.toList 0
      rw [hR] at this
      exact this
    · have hR2 := run_hi h0 (by omega)
      rw [hR] at hR2
      have e1 : q = 34 := congrArg Prod.fst hR2
      have e2 : d = wd r 0 := congrArg Prod.snd hR2
      subst e1
      rw [run_hi (by omega) (by rw [hg]; omega)]
      refine Prod.ext rfl ?_
      show wd (r.extract 0 d) 0 = d
      have hle : 0 + wd (r.extract 0 d) 0 ≤ (r.extract 0 d).size := wd_le (by omega)
      have hpo : 0 < wd (r.extract 0 d) 0 := wd_pos (by omega)
      by_cases h1 : d = 1
      · omega
      · have hbad : bad r 0 = false := by
          rw [bad_lone]; exact decide_eq_false (fun h => by omega)
        have hs := same_char r (r.extract 0 d) 0 0 h0 hbad (by omega) (fun k hk => by rw [ext_get r 0 d (0 + k) (by omega) (by omega), Nat.zero_add, Nat.zero_add])
        rw [hs.2, e2]
  rw [kk_run (q := q) (by rw [hrun, hxs])]
  by_cases h7 : q = 7
  · rw [if_pos h7, if_pos h7]
  · rw [if_neg h7, if_neg h7]
    by_cases h4 : kd q = 4
    · rw [if_pos h4]
      have hd : d = r.size := by
        have hq45 : ∀ q : Fin 35, kd q.1 = 4 → q.1 = 4 ∨ q.1 = 5 := by decide +kernel
        have hq := hq45 ⟨q, hf.1⟩ h4
        simp only at hq
        apply Decidable.byContradiction
        intro hne
        have hb : (r.get! 0).toNat < 128 := by
          apply Decidable.byContradiction
          intro hb
          have := run_hi h0 (by omega)
          rw [hR] at this
          have := congrArg Prod.fst this
          simp only at this
          omega
        rw [run_lo h0 hb] at hR
        have hlen : r.data.toList.length = r.size := by simp
        have hs := bl_stops r.data.toList 0 (by rw [hR]; simp only; omega)
        simp only [hR] at hs
        have hno : ∀ c : Fin 24, ¬ stp 4 c.1 < 0 ∧ ¬ stp 5 c.1 < 0 := by decide +kernel
        have hc := hno ⟨_, cls_lt (r.data.toList[d]'(by omega)).toNat⟩
        rcases hq with rfl | rfl
        · exact hc.1 hs
        · exact hc.2 hs
      rw [if_pos (decide_eq_true hd), h4]
    · rw [if_neg h4]
theorem kk_longer (r : ByteArray) (w : Nat) (last : Bool) (h0 : 0 < r.size) (h1 : (tok r).w < w) (h2 : w ≤ r.size) : kk (r.extract 0 w) last = 0 := by
  obtain ⟨q, d, hR⟩ : ∃ q d, run r = (q, d) := ⟨_, _, rfl⟩
  have hf := run_fits r
  rw [hR] at hf
  have h3 := hf.2.2 h0
  simp only at hf h3
  have hT := tok_run hR
  rw [hT] at h1
  simp only at h1
  have hxs : (r.extract 0 w).size = w := by rw [ByteArray.size_extract]; omega
  have hg : (r.extract 0 w).get! 0 = r.get! 0 := by rw [ext_get r 0 w 0 (by omega) (by omega)]
  refine kk_not fun he => ?_
  by_cases hb : (r.get! 0).toNat < 128
  · rw [run_lo (by omega) (by rw [hg]; exact hb), ext_list, List.drop_zero, Nat.sub_zero, hxs] at he
    rw [run_lo h0 hb] at hR
    have hlen : r.data.toList.length = r.size := by simp
    have hs := bl_stops r.data.toList 0 (by rw [hR]; simp only; omega)
    simp only [hR] at hs
    have hw : bl 0 (r.data.toList.take w) = (q, d) := by
      have ht := bl_take r.data.toList 0
      rw [hR] at ht
      simp only at ht
      have hd : (r.data.toList.take d).length = d := by rw [List.length_take]; omega
      have e : r.data.toList.take w = r.data.toList.take d ++ (r.data.toList.drop d).take (w - d) := by
        rw [show w = d + (w - d) by omega, List.take_add, show d + (w - d) - d = w - d by omega]
      rw [e, bl_app (r.data.toList.take d) _ 0 q (by rw [ht, hd]), hd, List.drop_eq_getElem_cons (show d < r.data.toList.length by omega), show w - d = (w - d - 1) + 1 by omega, List.take_succ_cons, bl_stop hs]
      rfl
    rw [hw] at he
    simp only at he
    omega
  · have hR2 := run_hi h0 (by omega)
    rw [hR] at hR2
    have e2 : d = wd r 0 := congrArg Prod.snd hR2
    rw [run_hi (by omega) (by rw [hg]; omega), hxs] at he
    have he : wd (r.extract 0 w) 0 = w := he
    have hbad : bad (r.extract 0 w) 0 = false := by
      rw [bad_lone]; exact decide_eq_false (fun h => by omega)
    have hs := same_char (r.extract 0 w) r 0 0 (by omega) hbad (by omega) (fun k hk => by rw [ext_get r 0 w (0 + k) (by omega) (by omega), Nat.zero_add, Nat.zero_add])
    omega
end Go.Proofs.Yteccfoiegjhppaa.D
