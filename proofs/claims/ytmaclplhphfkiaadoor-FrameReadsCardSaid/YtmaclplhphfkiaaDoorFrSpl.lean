/- A head's parts, left to right; a reader's run over a head that ends, or does not. Conditions: none. -/
import Derived.Test.YtmaclplhphfkiaaDoorFrMath
namespace Go.Proofs.YtmaclplhphfkiaaDoor.F
open Go Go.Lib

/-- 0D 0A stands there -/
def occ (b : Bs) (j : Nat) : Prop := b[j]? = some 13 ∧ b[j + 1]? = some 10
theorem occ_at (b : Bs) (j : Nat) : occAt b [13, 10] j = true ↔ occ b j := by
  unfold occAt occ
  constructor
  · intro h
    obtain ⟨r, hr⟩ := List.isPrefixOf_iff_prefix.1 h
    have h0 : (b.drop j)[0]? = some 13 := by rw [← hr]; rfl
    have h1 : (b.drop j)[1]? = some 10 := by rw [← hr]; rfl
    rw [List.getElem?_drop] at h0 h1
    exact ⟨h0, h1⟩
  · rintro ⟨h0, h1⟩
    obtain ⟨l0, e0⟩ := List.getElem?_eq_some_iff.1 h0
    obtain ⟨l1, e1⟩ := List.getElem?_eq_some_iff.1 h1
    rw [List.drop_eq_getElem_cons l0, List.drop_eq_getElem_cons l1, e0, e1]
    simp [List.isPrefixOf]
theorem idx_first {b : Bs} {i : Nat} (h : occ b i) (hn : ∀ j, j < i → ¬ occ b j) : Lib.index b [13, 10] = i :=
  Lib.index_first (by have := (List.getElem?_eq_some_iff.1 h.1).1; omega) ((occ_at b i).2 h) (fun j hj => by rw [Bool.eq_false_iff]; exact fun h' => hn j hj ((occ_at b j).1 h'))
theorem idx_none {b : Bs} (hn : ∀ j, ¬ occ b j) : Lib.index b [13, 10] = -1 :=
  Lib.index_none (fun j _ => by rw [Bool.eq_false_iff]; exact fun h' => hn j ((occ_at b j).1 h'))
theorem splF_fuel : ∀ (f : Nat) (l : Bs), l.length ≤ f → splF f l = spl l := by
  have key : ∀ (n : Nat) (l : Bs) (f g : Nat), l.length ≤ n → l.length ≤ f → l.length ≤ g → splF f l = splF g l := by
    intro n
    induction n with
    | zero =>
      intro l f g hn hf hg
      have : l = [] := List.length_eq_zero_iff.1 (by omega)
      subst this
      have e : ∀ f, splF f [] = [[]] := fun f => by cases f <;> rfl
      rw [e, e]
    | succ n ih =>
      intro l f g hn hf hg
      cases l with
      | nil =>
        have e : ∀ f, splF f [] = [[]] := fun f => by cases f <;> rfl
        rw [e, e]
      | cons c l =>
        obtain ⟨f, rfl⟩ : ∃ f', f = f' + 1 := ⟨f - 1, by simp at hf; omega⟩
        obtain ⟨g, rfl⟩ : ∃ g', g = g' + 1 := ⟨g - 1, by simp at hg; omega⟩
        unfold splF
        split
        · rfl
        · have hd : ((c :: l).drop ((Lib.index (c :: l) [13, 10]).toNat + 2)).length ≤ l.length := by simp
          simp only [List.length_cons] at hn hf hg
          rw [ih _ f g (by omega) (by omega) (by omega)]
  exact fun f l h => key l.length l f l.length (Nat.le_refl _) h (Nat.le_refl _)
theorem spl_eq (l : Bs) : spl l = if Lib.index l [13, 10] < 0 then [l] else l.take (Lib.index l [13, 10]).toNat :: spl (l.drop ((Lib.index l [13, 10]).toNat + 2)) := by
  rw [← splF_fuel (l.length + 1) l (by omega)]
  show (if _ then _ else _) = _
  split
  · rfl
  · rw [splF_fuel _ _ (by rw [List.length_drop]; omega)]
theorem spl_step {b : Bs} {i : Nat} (h : occ b i) (hn : ∀ j, j < i → ¬ occ b j) : spl b = b.take i :: spl (b.drop (i + 2)) := by
  rw [spl_eq, idx_first h hn, if_neg (by omega)]; rfl
theorem spl_end {b : Bs} (hn : ∀ j, ¬ occ b j) : spl b = [b] := by
  rw [spl_eq, idx_none hn]; rfl
theorem occ_drop {b : Bs} {k j : Nat} : occ (b.drop k) j ↔ occ b (k + j) := by
  unfold occ
  rw [List.getElem?_drop, List.getElem?_drop, Nat.add_assoc]
theorem occ_take {b : Bs} {t j : Nat} : occ (b.take t) j ↔ occ b j ∧ j + 1 < t := by
  unfold occ
  by_cases h : j + 1 < t
  · rw [List.getElem?_take_of_lt (by omega), List.getElem?_take_of_lt h]; simp [h]
  · constructor
    · rintro ⟨-, h2⟩
      have := (List.getElem?_eq_some_iff.1 h2).1
      rw [List.length_take] at this
      omega
    · rintro ⟨-, h2⟩; exact absurd h2 h
/-- a reader that reads a head: as far as it does not end -/
theorem run_open (o : List Bs) : ∀ (l p : Bs), (∀ j, 0 < j → j ≤ l.length → ended (p ++ l.take j) = false) → (p ++ l).length < 1024 → run (.head p, o) l = (.head (p ++ l), o)
  | [], p, _, _ => by rw [List.append_nil]; rfl
  | c :: l, p, h, hl => by
    have ih := run_open o l (p ++ [c]) (fun j h0 hj => by
      have := h (j + 1) (by omega) (by simp; exact hj)
      rw [List.take_succ_cons] at this
      rw [List.append_assoc]; exact this) (by simpa using hl)
    have h1 := h 1 (by omega) (by simp)
    rw [run_cons]
    unfold stp
    dsimp only
    rw [if_neg (by rw [show p ++ [c] = p ++ (c :: l).take 1 by simp, h1]; decide), if_neg (by simp at hl ⊢; omega), ih]
    simp
theorem take_pre (b : Bs) {k : Nat} (h0 : 0 < k) (hk : k ≤ b.length) : ∃ c, b.take k = b.take (k - 1) ++ [c] ∧ b = b.take (k - 1) ++ c :: b.drop k := by
  refine ⟨b[k - 1]'(by omega), ?_, ?_⟩
  · have := List.take_add_one (l := b) (i := k - 1)
    rw [show k - 1 + 1 = k by omega, List.getElem?_eq_getElem (by omega)] at this
    exact this
  · have h1 := (List.take_append_drop (k - 1) b).symm
    rw [List.drop_eq_getElem_cons (show k - 1 < b.length by omega), show k - 1 + 1 = k by omega] at h1
    exact h1
/-- what comes of a head that has ended -/
def onward (o : List Bs) (x : Nat × Nat) : Rs := if x.2 = 0 then (if x.1 = 0 then (.head [], o ++ [[]]) else (.body x.1 [], o)) else (.dead x.2, o)
theorem run_ended (o : List Bs) (b : Bs) (k : Nat) (h0 : 0 < k) (hk : k ≤ b.length) (h4 : k ≤ 1024) (he : ended (b.take k) = true) (hn : ∀ j, 0 < j → j < k → ended (b.take j) = false) :
    run (.head [], o) b = run (onward o (bs (b.take k))) (b.drop k) := by
  obtain ⟨c, h1, h2⟩ := take_pre b h0 hk
  conv => lhs; rw [h2]
  rw [run_append, run_open o (b.take (k - 1)) [] (fun j hj hjl => by
    rw [List.length_take] at hjl
    rw [List.nil_append, List.take_take, Nat.min_eq_left (by omega)]; exact hn j hj (by omega)) (by rw [List.nil_append, List.length_take]; omega), List.nil_append, run_cons]
  have hs : stp (.head (b.take (k - 1)), o) c = onward o (bs (b.take k)) := by
    unfold stp onward
    dsimp only
    rw [← h1, if_pos he]
  rw [hs]
theorem run_long (o : List Bs) (b : Bs) (h4 : 1024 ≤ b.length) (hn : ∀ j, 0 < j → j ≤ 1024 → ended (b.take j) = false) : run (.head [], o) b = (.dead 50, o) := by
  obtain ⟨c, h1, h2⟩ := take_pre b (k := 1024) (by omega) h4
  conv => lhs; rw [h2]
  rw [run_append, run_open o (b.take 1023) [] (fun j hj hjl => by
    rw [List.length_take] at hjl
    rw [List.nil_append, List.take_take, Nat.min_eq_left (by omega)]; exact hn j hj (by omega)) (by rw [List.nil_append, List.length_take]; omega), List.nil_append, run_cons]
  have hs : stp (.head (b.take 1023), o) c = (.dead 50, o) := by
    unfold stp
    dsimp only
    rw [← h1, if_neg (by rw [hn 1024 (by omega) (Nat.le_refl _)]; decide), if_pos (by rw [List.length_take]; omega)]
  rw [hs, run_dead]
theorem run_short (o : List Bs) (b : Bs) (h4 : b.length < 1024) (hn : ∀ j, 0 < j → j ≤ b.length → ended (b.take j) = false) : run (.head [], o) b = (.head b, o) := by
  rw [run_open o b [] (fun j hj hjl => by rw [List.nil_append]; exact hn j hj hjl) (by rw [List.nil_append]; exact h4), List.nil_append]
/-- a body that is all there, or not -/
theorem run_body (o : List Bs) (n : Nat) (b : Bs) (h0 : 0 < n) : run (.body n [], o) b = if n ≤ b.length then run (.head [], o ++ [b.take n]) (b.drop n) else (.body n b, o) := by
  have key : ∀ (l p : Bs), p.length < n → run (.body n p, o) l = if n ≤ p.length + l.length then run (.head [], o ++ [p ++ l.take (n - p.length)]) (l.drop (n - p.length)) else (.body n (p ++ l), o) := by
    intro l
    induction l with
    | nil => intro p hp; rw [if_neg (by simp; omega), List.append_nil]; rfl
    | cons c l ih =>
      intro p hp
      have hl : (p ++ [c]).length = p.length + 1 := by simp
      rw [run_cons]
      unfold stp
      dsimp only
      by_cases hn : p.length + 1 = n
      · rw [if_pos (by rw [hl]; exact hn), if_pos (by simp; omega), show n - p.length = 1 by omega]
        simp
      · rw [if_neg (by rw [hl]; exact hn), ih (p ++ [c]) (by rw [hl]; omega), hl]
        obtain ⟨k, hk⟩ : ∃ k, n - p.length = k + 1 := ⟨n - p.length - 1, by omega⟩
        rw [hk, show n - (p.length + 1) = k by omega, List.take_succ_cons, List.drop_succ_cons]
        by_cases hle : n ≤ p.length + 1 + l.length
        · rw [if_pos hle, if_pos (by simp; omega), List.append_assoc]; rfl
        · rw [if_neg hle, if_neg (by simp; omega), List.append_assoc]; rfl
  have := key b [] (by simpa using h0)
  simpa using this
/-- the reference's scan for a head's end: what it knows when it has come to a place -/
structure Scan (b : Bs) (l : List Bs) (fr at' : Nat) : Prop where
  le : fr ≤ at' + 1
  none' : ∀ j, fr ≤ j → j < at' → ¬ occ b j
  open' : ∀ j, 0 < j → j ≤ at' + 1 → ended (b.take j) = false
  all : ∀ t, fr ≤ t → t ≤ b.length → spl (b.take t) = l ++ spl ((b.take t).drop fr)
  lines : (fr = 0 ∧ l = []) ∨ (2 ≤ fr ∧ fr ≤ b.length ∧ occ b (fr - 2) ∧ spl (b.take (fr - 2)) = l)
theorem ended_iff (b : Bs) (k : Nat) (hk : k + 2 ≤ b.length) : ended (b.take (k + 2)) = true ↔ occ b k ∧ (k = 0 ∨ (2 ≤ k ∧ occ b (k - 2))) := by
  unfold ended
  rw [Bool.or_eq_true, List.isSuffixOf_iff_suffix]
  constructor
  · rintro (h | h)
    · obtain ⟨r, hr⟩ := h
      have hlen := congrArg List.length hr
      rw [List.length_append, List.length_take] at hlen
      simp only [List.length_cons, List.length_nil] at hlen
      have g : ∀ j, j < k + 2 → b[j]? = (r ++ [13, 10, 13, 10])[j]? := fun j hj => by rw [hr, List.getElem?_take_of_lt hj]
      have e : r.length = k - 2 := by omega
      refine ⟨⟨?_, ?_⟩, .inr ⟨by omega, ?_, ?_⟩⟩
      · rw [g k (by omega), List.getElem?_append_right (by omega), show k - r.length = 2 by omega]; rfl
      · rw [g (k + 1) (by omega), List.getElem?_append_right (by omega), show k + 1 - r.length = 3 by omega]; rfl
      · rw [g (k - 2) (by omega), List.getElem?_append_right (by omega), show k - 2 - r.length = 0 by omega]; rfl
      · rw [g (k - 2 + 1) (by omega), List.getElem?_append_right (by omega), show k - 2 + 1 - r.length = 1 by omega]; rfl
    · have h := beq_iff_eq.1 h
      have hlen := congrArg List.length h
      rw [List.length_take] at hlen
      simp only [List.length_cons, List.length_nil] at hlen
      have : k = 0 := by omega
      subst this
      refine ⟨⟨?_, ?_⟩, .inl rfl⟩
      · rw [← List.getElem?_take_of_lt (show 0 < 0 + 2 by omega), h]; rfl
      · rw [← List.getElem?_take_of_lt (show 0 + 1 < 0 + 2 by omega), h]; rfl
  · rintro ⟨⟨h1, h2⟩, (rfl | ⟨h3, h4, h5⟩)⟩
    · right
      rw [beq_iff_eq]
      obtain ⟨l0, e0⟩ := List.getElem?_eq_some_iff.1 h1
      obtain ⟨l1, e1⟩ := List.getElem?_eq_some_iff.1 h2
      apply List.ext_getElem?
      intro i
      match i with
      | 0 => rw [List.getElem?_take_of_lt (by omega), h1]; rfl
      | 1 => rw [List.getElem?_take_of_lt (by omega), h2]; rfl
      | i + 2 => rw [List.getElem?_eq_none (by rw [List.length_take]; omega), List.getElem?_eq_none (by simp)]
    · left
      refine ⟨b.take (k - 2), ?_⟩
      apply List.ext_getElem?
      intro i
      by_cases hi : i < k - 2
      · rw [List.getElem?_append_left (by rw [List.length_take]; omega), List.getElem?_take_of_lt hi, List.getElem?_take_of_lt (by omega)]
      · rw [List.getElem?_append_right (by rw [List.length_take]; omega), List.length_take, Nat.min_eq_left (by omega)]
        by_cases h : i < k + 2
        · rw [List.getElem?_take_of_lt h]
          have : i = k - 2 ∨ i = k - 2 + 1 ∨ i = k ∨ i = k + 1 := by omega
          rcases this with rfl | rfl | rfl | rfl
          · rw [h4, show k - 2 - (k - 2) = 0 by omega]; rfl
          · rw [h5, show k - 2 + 1 - (k - 2) = 1 by omega]; rfl
          · rw [h1, show i - (i - 2) = 2 by omega]; rfl
          · rw [h2, show k + 1 - (k - 2) = 3 by omega]; rfl
        · rw [List.getElem?_eq_none (by simp; omega), List.getElem?_eq_none (by rw [List.length_take]; omega)]
theorem ended_two (p : Bs) (h : ended p = true) : 2 ≤ p.length := by
  unfold ended at h
  rw [Bool.or_eq_true, List.isSuffixOf_iff_suffix] at h
  rcases h with ⟨r, rfl⟩ | h
  · simp
  · rw [beq_iff_eq.1 h]; decide
theorem scan_0 (b : Bs) : Scan b [] 0 0 := by
  refine ⟨by omega, fun j _ h => absurd h (by omega), fun j h0 h1 => ?_, fun t _ _ => by simp, .inl ⟨rfl, rfl⟩⟩
  rw [Bool.eq_false_iff]
  intro h
  have := ended_two _ h
  rw [List.length_take] at this
  omega
theorem scan_go {b : Bs} {l : List Bs} {fr k : Nat} (h : Scan b l fr k) (hk : k + 2 ≤ b.length) (hno : ¬ (occ b k ∧ fr = k)) : ∀ j, 0 < j → j ≤ k + 1 + 1 → ended (b.take j) = false := by
  intro j h0 hj
  by_cases hj2 : j ≤ k + 1
  · exact h.open' j h0 hj2
  · obtain rfl : j = k + 2 := by omega
    rw [Bool.eq_false_iff]
    intro he
    obtain ⟨ho, hor⟩ := (ended_iff b k hk).1 he
    rcases hor with rfl | ⟨h2, ho2⟩
    · refine hno ⟨ho, ?_⟩
      rcases h.lines with ⟨e, _⟩ | ⟨e, _⟩
      · exact e
      · have := h.le; omega
    · by_cases hf : fr ≤ k - 2
      · exact h.none' (k - 2) hf (by omega) ho2
      · rcases h.lines with ⟨e, _⟩ | ⟨e, e1, e2, _⟩
        · omega
        · have hle := h.le
          have : fr = k - 1 ∨ fr = k ∨ fr = k + 1 := by omega
          rcases this with rfl | rfl | rfl
          · have a := e2.2; have b := ho2.1
            rw [show k - 1 - 2 + 1 = k - 2 by omega] at a
            rw [a] at b; cases b
          · exact hno ⟨ho, rfl⟩
          · have a := e2.2; have b := ho.1
            rw [show k + 1 - 2 + 1 = k by omega] at a
            rw [a] at b; cases b
theorem scan_skip {b : Bs} {l : List Bs} {fr k : Nat} (h : Scan b l fr k) (hk : k + 2 ≤ b.length) (hno : ¬ occ b k ∨ k < fr) : Scan b l fr (k + 1) := by
  refine ⟨by have := h.le; omega, fun j h1 h2 => ?_, scan_go h hk (by rintro ⟨a, rfl⟩; rcases hno with hno | hno; exact hno a; omega), h.all, h.lines⟩
  by_cases hj : j < k
  · exact h.none' j h1 hj
  · obtain rfl : j = k := by omega
    rcases hno with hno | hno
    · exact hno
    · omega
theorem scan_line {b : Bs} {l : List Bs} {fr k : Nat} (h : Scan b l fr k) (hk : k + 2 ≤ b.length) (ho : occ b k) (hlt : fr < k) : Scan b (l ++ [(b.drop fr).take (k - fr)]) (k + 2) (k + 1) := by
  have hcut : ∀ t, (b.take t).drop fr = (b.drop fr).take (t - fr) := fun t => by rw [List.drop_take]
  refine ⟨by omega, fun j h1 h2 => by omega, scan_go h hk (by rintro ⟨_, rfl⟩; omega), fun t h1 h2 => ?_, .inr ⟨by omega, by omega, by rw [Nat.add_sub_cancel]; exact ho, ?_⟩⟩
  · rw [h.all t (by omega) h2]
    have : spl ((b.take t).drop fr) = ((b.take t).drop fr).take (k - fr) :: spl (((b.take t).drop fr).drop (k - fr + 2)) := spl_step (by rw [occ_drop, occ_take, show fr + (k - fr) = k by omega]; exact ⟨ho, by omega⟩) (fun j hj h' => by
      rw [occ_drop, occ_take] at h'
      exact h.none' (fr + j) (by omega) (by omega) h'.1)
    rw [this, List.append_assoc, List.singleton_append, List.drop_drop, show fr + (k - fr + 2) = k + 2 by omega]
    congr 2
    rw [hcut, List.take_take, Nat.min_eq_left (by omega)]
  · rw [Nat.add_sub_cancel, h.all k (by omega) (by omega)]
    rw [spl_end (fun j h' => by
      rw [occ_drop, occ_take] at h'
      exact h.none' (fr + j) (by omega) (by omega) h'.1), hcut]
theorem scan_ended {b : Bs} {l : List Bs} {k : Nat} (h : Scan b l k k) (hk : k + 2 ≤ b.length) (ho : occ b k) : ended (b.take (k + 2)) = true ∧ bs (b.take (k + 2)) = if l.all okLine then told (sizes l) else (0, 50) := by
  rcases h.lines with ⟨rfl, rfl⟩ | ⟨h2, h3, h4, h5⟩
  · have he := (ended_iff b 0 hk).2 ⟨ho, .inl rfl⟩
    refine ⟨he, ?_⟩
    have : b.take (0 + 2) = [13, 10] := by
      apply List.ext_getElem?
      intro i
      match i with
      | 0 => rw [List.getElem?_take_of_lt (by omega), ho.1]; rfl
      | 1 => rw [List.getElem?_take_of_lt (by omega), ho.2]; rfl
      | i + 2 => rw [List.getElem?_eq_none (by rw [List.length_take]; omega), List.getElem?_eq_none (by simp)]
    rw [this]
    decide +kernel
  · have he := (ended_iff b k hk).2 ⟨ho, .inr ⟨h2, h4⟩⟩
    refine ⟨he, ?_⟩
    have hb : bare (b.take (k + 2)) = b.take (k - 2) := by
      unfold bare
      unfold ended at he
      rw [Bool.or_eq_true] at he
      rcases he with he | he
      · rw [if_pos he, List.length_take, List.take_take]
        congr 1
        omega
      · have := congrArg List.length (beq_iff_eq.1 he)
        rw [List.length_take] at this
        simp only [List.length_cons, List.length_nil] at this
        omega
    unfold bs
    rw [hb, h5]
theorem onward_go (o : List Bs) (n : Nat) (b : Bs) : run (onward o (n, 0)) b = if n ≤ b.length then run (.head [], o ++ [b.take n]) (b.drop n) else (.body n b, o) := by
  unfold onward
  rw [if_pos rfl]
  by_cases h : n = 0
  · rw [if_pos h, if_pos (by omega), h]; rfl
  · rw [if_neg h, run_body o n b (by omega)]
theorem onward_dead (o : List Bs) (n e : Nat) (b : Bs) (he : e ≠ 0) : run (onward o (n, e)) b = (.dead e, o) := by
  unfold onward
  rw [if_neg he]
  exact run_dead e o b
end Go.Proofs.YtmaclplhphfkiaaDoor.F
