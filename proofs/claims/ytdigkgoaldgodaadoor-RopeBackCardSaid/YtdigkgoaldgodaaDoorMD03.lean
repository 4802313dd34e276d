/- Plain arithmetic of UTF-8: the states of a scan; what they say of Units, Cut and Begin, of a string's beginning, and of two strings behind one another. Conditions: none. -/
import Derived.Test.YtdigkgoaldgodaaDoorMD02
namespace Go.Proofs.YtdigkgoaldgodaaDoor.U
open Go

/-- j steps of a scan from place q, m units being counted -/
def st (s : ByteArray) : Nat → Nat → Nat → Nat × Nat
  | 0, q, m => (q, m)
  | j + 1, q, m => if q < s.size then st s j (q + wd s q) (m + un s q) else (q, m)
theorem st_step (s : ByteArray) (j q m : Nat) (h : q < s.size) : st s (j + 1) q m = st s j (q + wd s q) (m + un s q) := by simp only [st, if_pos h]
theorem st_end (s : ByteArray) (j q m : Nat) (h : ¬ q < s.size) : st s j q m = (q, m) := by
  cases j
  · rfl
  · simp only [st, if_neg h]
theorem st_mono (s : ByteArray) : ∀ j q m p n, st s j q m = (p, n) → q ≤ p ∧ m ≤ n ∧ (q ≤ s.size → p ≤ s.size)
  | 0, q, m, p, n, h => by
    simp only [st, Prod.mk.injEq] at h
    omega
  | j + 1, q, m, p, n, h => by
    by_cases hq : q < s.size
    · rw [st_step s j q m hq] at h
      have := st_mono s j _ _ p n h
      have := wd_le hq
      omega
    · rw [st_end s _ q m hq] at h
      simp only [Prod.mk.injEq] at h
      omega

/-! ### units -/
theorem unitsFrom_fuel (s : ByteArray) : ∀ f g q, s.size ≤ q + f → s.size ≤ q + g → unitsFrom s f q = unitsFrom s g q
  | 0, g, q, h, _ => by rw [unitsFrom_end s 0 q (by omega), unitsFrom_end s g q (by omega)]
  | f + 1, g, q, h, hg => by
    by_cases hq : q < s.size
    · obtain ⟨g', rfl⟩ : ∃ g', g = g' + 1 := ⟨g - 1, by omega⟩
      have := wd_pos hq
      rw [unitsFrom_step s f q hq, unitsFrom_step s g' q hq, unitsFrom_fuel s f g' _ (by omega) (by omega)]
    · rw [unitsFrom_end s _ q hq, unitsFrom_end s g q hq]
theorem st_units (s : ByteArray) : ∀ j q m p n, st s j q m = (p, n) → ∀ f g, s.size ≤ q + f → s.size ≤ p + g → m + unitsFrom s f q = n + unitsFrom s g p
  | 0, q, m, p, n, h, f, g, hf, hg => by
    simp only [st, Prod.mk.injEq] at h
    obtain ⟨rfl, rfl⟩ := h
    rw [unitsFrom_fuel s f g q hf hg]
  | j + 1, q, m, p, n, h, f, g, hf, hg => by
    by_cases hq : q < s.size
    · rw [st_step s j q m hq] at h
      obtain ⟨f', rfl⟩ : ∃ f', f = f' + 1 := ⟨f - 1, by omega⟩
      have := wd_pos hq
      have ih := st_units s j _ _ p n h f' g (by omega) hg
      rw [unitsFrom_step s f' q hq]
      omega
    · rw [st_end s _ q m hq] at h
      simp only [Prod.mk.injEq] at h
      obtain ⟨rfl, rfl⟩ := h
      rw [unitsFrom_end s f q hq, unitsFrom_end s g q hq]
theorem units_of_end (s : ByteArray) (j n : Nat) (h : st s j 0 0 = (s.size, n)) : units s = n := by
  have := st_units s j 0 0 s.size n h s.size 0 (by omega) (by omega)
  unfold units
  rw [unitsFrom_end s 0 s.size (by omega)] at this
  omega
theorem units_past (s : ByteArray) (j p n : Nat) (h : st s j 0 0 = (p, n)) (hp : p < s.size) : n + un s p ≤ units s := by
  have := st_units s j 0 0 p n h s.size (s.size + 1) (by omega) (by omega)
  rw [unitsFrom_step s _ p hp] at this
  unfold units
  omega

/-! ### a scan comes to each item's beginning, and to the end -/
theorem st_bg (s : ByteArray) : ∀ f q m i, q ≤ i → i < s.size → s.size ≤ q + f → ∃ j n, st s j q m = (bg s f q i, n)
  | 0, q, m, i, h1, h2, h3 => by omega
  | f + 1, q, m, i, h1, h2, h3 => by
    by_cases h : i < q + wd s q
    · exact ⟨0, m, by rw [bg_stop s f q i h]; rfl⟩
    · have hq : q < s.size := by omega
      have := wd_pos hq
      obtain ⟨j, n, hj⟩ := st_bg s f (q + wd s q) (m + un s q) i (by omega) h2 (by omega)
      exact ⟨j + 1, n, by rw [st_step s j q m hq, hj, bg_step s f q i h]⟩
theorem st_to_end (s : ByteArray) : ∀ f q m, q ≤ s.size → s.size ≤ q + f → ∃ j n, st s j q m = (s.size, n)
  | 0, q, m, h1, h2 => ⟨0, m, by rw [show s.size = q by omega]; rfl⟩
  | f + 1, q, m, h1, h2 => by
    by_cases hq : q < s.size
    · have := wd_pos hq
      obtain ⟨j, n, hj⟩ := st_to_end s f (q + wd s q) (m + un s q) (wd_le hq) (by omega)
      exact ⟨j + 1, n, by rw [st_step s j q m hq, hj]⟩
    · exact ⟨0, m, by rw [show s.size = q by omega]; rfl⟩
theorem st_start (s : ByteArray) : ∀ j q m p n, st s j q m = (p, n) → p < s.size → ∀ f, s.size ≤ q + f → bg s f q p = p
  | 0, q, m, p, n, h, hp, f, hf => by
    simp only [st, Prod.mk.injEq] at h
    obtain ⟨rfl, rfl⟩ := h
    obtain ⟨f', rfl⟩ : ∃ f', f = f' + 1 := ⟨f - 1, by omega⟩
    have := wd_pos hp
    exact bg_stop s f' q q (by omega)
  | j + 1, q, m, p, n, h, hp, f, hf => by
    by_cases hq : q < s.size
    · rw [st_step s j q m hq] at h
      have hm := st_mono s j _ _ p n h
      have := wd_pos hq
      obtain ⟨f', rfl⟩ : ∃ f', f = f' + 1 := ⟨f - 1, by omega⟩
      rw [bg_step s f' q p (by omega)]
      exact st_start s j _ _ p n h hp f' (by omega)
    · rw [st_end s _ q m hq] at h
      simp only [Prod.mk.injEq] at h
      omega

/-! ### cut -/
theorem cut_uni (s : ByteArray) (u : Int) : ∀ j q m p n, st s j q m = (p, n) → (n : Int) ≤ u → (p = s.size ∨ (p < s.size ∧ u < ((n + un s p : Nat) : Int))) → ∀ f, s.size ≤ q + f → cutFrom s u f q m = p
  | 0, q, m, p, n, h, hn, hp, f, hf => by
    simp only [st, Prod.mk.injEq] at h
    obtain ⟨rfl, rfl⟩ := h
    rcases hp with hp | ⟨hp, hu⟩
    · exact cutFrom_end s u f q m (by omega)
    · obtain ⟨f', rfl⟩ : ∃ f', f = f' + 1 := ⟨f - 1, by omega⟩
      exact cutFrom_stop s u f' q m hp hu
  | j + 1, q, m, p, n, h, hn, hp, f, hf => by
    by_cases hq : q < s.size
    · rw [st_step s j q m hq] at h
      have hm := st_mono s j _ _ p n h
      have := wd_pos hq
      obtain ⟨f', rfl⟩ : ∃ f', f = f' + 1 := ⟨f - 1, by omega⟩
      rw [cutFrom_step s u f' q m hq (by omega)]
      exact cut_uni s u j _ _ p n h hn hp f' (by omega)
    · rw [st_end s _ q m hq] at h
      simp only [Prod.mk.injEq] at h
      rw [cutFrom_end s u f q m hq]
      omega
theorem cut_st (s : ByteArray) (u : Int) : ∀ f q m, q ≤ s.size → s.size ≤ q + f → ∃ j n, st s j q m = (cutFrom s u f q m, n) ∧ ((m : Int) ≤ u → (n : Int) ≤ u) ∧ cutFrom s u f q m ≤ s.size ∧ (cutFrom s u f q m < s.size → u < ((n + un s (cutFrom s u f q m) : Nat) : Int))
  | 0, q, m, h1, h2 => by
    rw [cutFrom_end s u 0 q m (by omega)]
    exact ⟨0, m, rfl, id, h1, fun h => by omega⟩
  | f + 1, q, m, h1, h2 => by
    by_cases hq : q < s.size
    · by_cases hu : u < ((m + un s q : Nat) : Int)
      · rw [cutFrom_stop s u f q m hq hu]
        exact ⟨0, m, rfl, id, h1, fun _ => hu⟩
      · have := wd_pos hq
        obtain ⟨j, n, h3, h4, h5, h6⟩ := cut_st s u f (q + wd s q) (m + un s q) (wd_le hq) (by omega)
        rw [cutFrom_step s u f q m hq hu]
        exact ⟨j + 1, n, by rw [st_step s j q m hq, h3], fun _ => h4 (by omega), h5, h6⟩
    · rw [cutFrom_end s u _ q m hq]
      exact ⟨0, m, rfl, id, h1, fun h => absurd h hq⟩

/-! ### a string's beginning -/
theorem ext_get (s : ByteArray) (p i : Nat) (hi : i < p) : (s.extract 0 p).get! i = s.get! i := by
  rw [get_list, get_list, Lib.extract_data]
  simp only [List.getD, List.drop_zero]
  rw [List.getElem?_take, if_pos (by omega)]
theorem ext_len (s : ByteArray) (p : Nat) (hp : p ≤ s.size) : (s.extract 0 p).size = p := by rw [ByteArray.size_extract]; omega
theorem ext_item (s : ByteArray) (p q : Nat) (hp : p ≤ s.size) (hq : q < p) (hw : q + wd s q ≤ p) : wd (s.extract 0 p) q = wd s q ∧ un (s.extract 0 p) q = un s q := by
  have hz := ext_len s p hp
  have hqs : q < s.size := by omega
  cases hb : bad s q
  · have := same_char s (s.extract 0 p) q q hqs hb (by omega) (fun k hk => ext_get s p (q + k) (by omega))
    unfold un
    rw [this.1, this.2]
    exact ⟨rfl, rfl⟩
  · have hx : bad (s.extract 0 p) q = true := by
      cases hy : bad (s.extract 0 p) q
      · have hwt := wd_le (s := s.extract 0 p) (i := q) (by omega)
        have := same_char (s.extract 0 p) s q q (by omega) hy (by omega) (fun k hk => (ext_get s p (q + k) (by omega)).symm)
        have hz := (bad_iff s q).1 hb
        rw [this.1, this.2] at hz
        rw [(bad_iff _ q).2 hz] at hy
        cases hy
      · rfl
    rw [(bad_un hx).1, (bad_un hx).2, (bad_un hb).1, (bad_un hb).2]
    exact ⟨rfl, rfl⟩
theorem st_ext (s : ByteArray) : ∀ j q m p n, st s j q m = (p, n) → p ≤ s.size → st (s.extract 0 p) j q m = (p, n)
  | 0, q, m, p, n, h, _ => h
  | j + 1, q, m, p, n, h, hp => by
    have hz := ext_len s p hp
    by_cases hq : q < s.size
    · rw [st_step s j q m hq] at h
      have hm := st_mono s j _ _ p n h
      have := wd_pos hq
      obtain ⟨h1, h2⟩ := ext_item s p q hp (by omega) (by omega)
      rw [st_step _ j q m (by omega), h1, h2]
      exact st_ext s j _ _ p n h hp
    · rw [st_end s _ q m hq] at h
      simp only [Prod.mk.injEq] at h
      obtain ⟨rfl, rfl⟩ := h
      rw [st_end _ _ q m (by omega)]
theorem units_ext (s : ByteArray) (j p n : Nat) (h : st s j 0 0 = (p, n)) (hp : p ≤ s.size) : units (s.extract 0 p) = n := by
  have := st_ext s j 0 0 p n h hp
  exact units_of_end _ j n (by rw [ext_len s p hp]; exact this)

/-! ### what the statement on the way back asks -/
theorem reach (s : ByteArray) (i : Nat) (h : i < s.size) : ∃ j n, st s j 0 0 = (bgn s i, n) := st_bg s s.size 0 0 i (Nat.zero_le _) h (by omega)
theorem cut_back (s : ByteArray) (j p n : Nat) (h : st s j 0 0 = (p, n)) (hp : p ≤ s.size) : cut s (units (s.extract 0 p) : Nat) = p := by
  rw [units_ext s j p n h hp]
  unfold cut
  refine cut_uni s _ j 0 0 p n h (Int.le_refl _) ?_ s.size (by omega)
  by_cases hlt : p < s.size
  · have := un_le hlt
    exact Or.inr ⟨hlt, by omega⟩
  · exact Or.inl (by omega)
theorem start_back (s : ByteArray) (j p n : Nat) (h : st s j 0 0 = (p, n)) (hp : p < s.size) : bgn s p = p := st_start s j 0 0 p n h hp s.size (by omega)
theorem cut_facts (s : ByteArray) (u : Int) : ∃ j n, st s j 0 0 = (cut s u, n) ∧ (0 ≤ u → (n : Int) ≤ u) ∧ cut s u ≤ s.size ∧ (cut s u < s.size → u < ((n + un s (cut s u) : Nat) : Int)) := by
  obtain ⟨j, n, h1, h2, h3, h4⟩ := cut_st s u s.size 0 0 (Nat.zero_le _) (by omega)
  exact ⟨j, n, h1, fun h => h2 (by omega), h3, h4⟩
end Go.Proofs.YtdigkgoaldgodaaDoor.U
