/- A head's lines by the document's own way: a line's colon, blanks around a value, what a bad line makes of all. Conditions: none. -/
import Derived.Test.YtmaclplhphfkiaaDoorFrRefA
import Derived.Test.YtmaclplhphfkiaaDoorFrMost
namespace Go.Proofs.YtmaclplhphfkiaaDoor.F
open Go Go.Lib

/-- where the first colon stands, from a place on -/
def cf (l : Bs) (m : Nat) : Int := if Lib.index (l.drop m) [58] < 0 then -1 else (m : Int) + Lib.index (l.drop m) [58]
theorem index_cons (c : UInt8) (l : Bs) : Lib.index (c :: l) [58] = if c = 58 then 0 else if Lib.index l [58] = -1 then -1 else Lib.index l [58] + 1 := by
  show (if ([58] : Bs).isPrefixOf (c :: l) then (0 : Int) else if Lib.index l [58] == -1 then -1 else Lib.index l [58] + 1) = _
  by_cases h : c = 58
  · subst h; simp [List.isPrefixOf]
  · have : ((58 : UInt8) == c) = false := beq_eq_false_iff_ne.2 (fun e => h e.symm)
    rw [if_neg h]
    simp [List.isPrefixOf, this]
theorem cf_end (l : Bs) : cf l l.length = -1 := by
  unfold cf
  rw [List.drop_length]
  rfl
theorem cf_step {l : Bs} {k : Nat} (h : k < l.length) : cf l k = if (l[k]).toNat = 58 then (k : Int) else cf l (k + 1) := by
  have hge := Lib.index_ge (l.drop (k + 1)) [58]
  unfold cf
  rw [List.drop_eq_getElem_cons h, index_cons]
  by_cases h58 : l[k] = 58
  · have e58 : (l[k]).toNat = 58 := by rw [h58]; rfl
    rw [if_pos h58, if_neg (by omega), if_pos e58]; simp
  · have e58 : ¬ (l[k]).toNat = 58 := fun e => h58 (UInt8.toNat_inj.1 e)
    rw [if_neg h58, if_neg e58]
    by_cases hn : Lib.index (l.drop (k + 1)) [58] = -1
    · rw [if_pos hn, hn]; rfl
    · rw [if_neg hn, if_neg (by omega), if_neg (by omega)]; omega
theorem cf_cut {l : Bs} {i : Nat} (h : cf l 0 = (i : Int)) : Lib.cut l [58] = (l.take i, l.drop (i + 1), true) ∧ i < l.length := by
  unfold cf at h
  rw [List.drop_zero] at h
  split at h
  · omega
  · rename_i h0
    have hi : Lib.index l [58] = i := by omega
    have hr := Lib.index_room l [58] (by omega)
    simp only [List.length_singleton] at hr
    unfold Lib.cut
    rw [if_pos (by omega), hi]
    exact ⟨rfl, by omega⟩
theorem cf_none {l : Bs} (h : cf l 0 = -1) : (Lib.cut l [58]).2.2 = false := by
  unfold cf at h
  rw [List.drop_zero] at h
  split at h
  · rename_i h0
    unfold Lib.cut
    rw [if_neg (by omega)]
  · have := Lib.index_ge l [58]; omega
theorem cf_ge (l : Bs) (m : Nat) : -1 ≤ cf l m := by
  have := Lib.index_ge (l.drop m) [58]
  unfold cf
  split <;> omega
theorem ok_bytes {l : Bs} (h : okLine l = true) : okVal l = true := by
  unfold okLine at h
  rw [Bool.and_eq_true, Bool.and_eq_true] at h
  obtain ⟨hc, hn, hv⟩ := h
  have hcf : ∃ i : Nat, cf l 0 = i := by
    have := cf_ge l 0
    by_cases h1 : cf l 0 = -1
    · rw [cf_none h1] at hc; cases hc
    · exact ⟨(cf l 0).toNat, by omega⟩
  obtain ⟨i, hi⟩ := hcf
  obtain ⟨hcut, hil⟩ := cf_cut hi
  unfold nm at hn
  unfold vl at hv
  rw [hcut] at hn hv
  have h58 : l[i] = 58 := by
    have := cf_step (l := l) (k := i) hil
    unfold cf at hi
    rw [List.drop_zero] at hi
    split at hi
    · omega
    · have hx : Lib.index l [58] = i := by omega
      rcases Lib.index_spec l [58] with ⟨h1, _⟩ | ⟨j, h1, _, ho, _⟩
      · omega
      · have : j = i := by omega
        subst this
        have := Lib.occAt_head rfl ho
        obtain ⟨_, e⟩ := List.getElem?_eq_some_iff.1 this
        exact e
  have e : l = l.take i ++ l[i] :: l.drop (i + 1) := by
    have h1 := (List.take_append_drop i l).symm
    rw [List.drop_eq_getElem_cons hil] at h1
    exact h1
  rw [e]
  unfold okVal at hv ⊢
  rw [List.all_append, List.all_cons, hv, h58]
  unfold okName at hn
  rw [Bool.and_eq_true, List.all_eq_true] at hn
  have h1 : (l.take i).all (fun c => decide (c ≠ 13) && decide (c ≠ 10)) = true := by
    rw [List.all_eq_true]
    intro c hc
    have := hn.2 c hc
    simp only [Bool.and_eq_true, decide_eq_true_eq] at this
    have a : c ≠ 13 := fun e => by rw [e] at this; exact absurd this.1 (by decide)
    have b : c ≠ 10 := fun e => by rw [e] at this; exact absurd this.1 (by decide)
    simp [a, b]
  rw [h1]; rfl
theorem ok_line {l : Bs} {i : Nat} (h : cf l 0 = (i : Int)) (h1 : 1 ≤ i) (hv : okVal l = true) (hn : (l.take i).all (fun c => decide (33 ≤ c.toNat) && decide (c.toNat ≤ 126)) = true) : okLine l = true ∧ nm l = l.take i ∧ vl l = l.drop (i + 1) := by
  obtain ⟨hcut, hil⟩ := cf_cut h
  have hnm : nm l = l.take i := by unfold nm; rw [hcut]
  have hvl : vl l = l.drop (i + 1) := by unfold vl; rw [hcut]
  refine ⟨?_, hnm, hvl⟩
  unfold okLine
  rw [hnm, hvl, hcut]
  have a : okName (l.take i) = true := by
    unfold okName
    rw [hn, Bool.and_true]
    have : (l.take i).length = i := by rw [List.length_take]; omega
    cases ht : l.take i with
    | nil => rw [ht] at this; simp at this; omega
    | cons c r => rfl
  have b : okVal (l.drop (i + 1)) = true := by
    unfold okVal at hv ⊢
    rw [List.all_eq_true] at hv ⊢
    exact fun c hc => hv c (List.mem_of_mem_drop hc)
  rw [a, b]; rfl
theorem bad_name {l : Bs} {i : Nat} (h : cf l 0 = (i : Int)) (hn : okName (l.take i) = false) : okLine l = false := by
  obtain ⟨hcut, _⟩ := cf_cut h
  unfold okLine nm
  rw [hcut]
  simp [hn]
theorem bad_cut {l : Bs} (h : cf l 0 < 1) : okLine l = false := by
  have := cf_ge l 0
  by_cases h1 : cf l 0 = -1
  · unfold okLine; rw [cf_none h1]; rfl
  · have h0 : cf l 0 = ((0 : Nat) : Int) := by omega
    exact bad_name h0 rfl
/-- a bad line, and all is bad -/
theorem lentold_bad {ls : List Bs} {x : Bs} (h : x ∈ ls) (hx : okLine x = false) : lentold ls = (0, 50) := by
  unfold lentold
  rw [if_neg]
  intro h'
  rw [List.all_eq_true] at h'
  rw [h' x h] at hx; cases hx
/-- a value that is no number, and all is bad -/
theorem lentold_val {ls : List Bs} {v : Bs} (h : v ∈ sizes ls) (hv : isNum v = false) : lentold ls = (0, 50) := by
  unfold lentold
  split
  · match hs : sizes ls, h with
    | [u], h => rw [List.mem_singleton.1 h] at hv; unfold told; simp [hv]
    | [], _ => rfl
    | _ :: _ :: _, _ => rfl
  · rfl
theorem lentold_two {ls : List Bs} (h : 2 ≤ (sizes ls).length) : lentold ls = (0, 50) := by
  unfold lentold
  split
  · match sizes ls, h with
    | _ :: _ :: _, _ => rfl
  · rfl
/-- blanks -/
def bk (c : UInt8) : Bool := ([32, 9] : Bs).contains c
theorem bk_iff (c : UInt8) : bk c = (decide (c.toNat = 32) || decide (c.toNat = 9)) := by
  have : ∀ c : Fin 256, bk (UInt8.ofNat c.val) = (decide (c.val = 32) || decide (c.val = 9)) := by decide +kernel
  have h := this ⟨c.toNat, c.toNat_lt⟩
  simpa using h
theorem dropWhile_all {p : UInt8 → Bool} : ∀ (a r : Bs), (∀ c ∈ a, p c = true) → (a ++ r).dropWhile p = r.dropWhile p
  | [], r, _ => rfl
  | c :: a, r, h => by
    rw [List.cons_append, List.dropWhile_cons_of_pos (h c List.mem_cons_self)]
    exact dropWhile_all a r (fun x hx => h x (List.mem_cons_of_mem _ hx))
theorem trim_is {a u b : Bs} (ha : ∀ c ∈ a, bk c = true) (hb : ∀ c ∈ b, bk c = true) (h1 : ∀ c, u.head? = some c → bk c = false) (h2 : ∀ c, u.getLast? = some c → bk c = false) : trim (a ++ u ++ b) = u := by
  unfold trim
  show (List.dropWhile bk (List.dropWhile bk (a ++ u ++ b).reverse).reverse) = u
  rw [List.reverse_append, dropWhile_all _ _ (fun c hc => hb c (List.mem_reverse.1 hc)), List.reverse_append]
  cases hu : u with
  | nil =>
    have := dropWhile_all (p := bk) a.reverse [] (fun c hc => ha c (List.mem_reverse.1 hc))
    rw [List.append_nil] at this
    rw [List.reverse_nil, List.nil_append, this]; rfl
  | cons c r =>
    rw [← hu]
    obtain ⟨d, t, hd⟩ : ∃ d t, u.reverse = d :: t := by
      cases hr : u.reverse with
      | nil => rw [List.reverse_eq_nil_iff.1 hr] at hu; cases hu
      | cons d t => exact ⟨d, t, rfl⟩
    have hlast : u.getLast? = some d := by rw [← List.head?_reverse, hd]; rfl
    rw [hd, List.cons_append, List.dropWhile_cons_of_neg (by rw [h2 d hlast]; decide), ← List.cons_append, ← hd, List.reverse_append, List.reverse_reverse, List.reverse_reverse, dropWhile_all a u ha, hu,
      List.dropWhile_cons_of_neg (by rw [h1 c (by rw [hu]; rfl)]; decide)]
/-- a value between two places -/
theorem trim_mid {l : Bs} {i f t : Nat} (hi : i ≤ f) (hf : f ≤ t) (ht : t ≤ l.length) (h1 : ∀ j c, i ≤ j → j < f → l[j]? = some c → bk c = true) (h2 : ∀ j c, t ≤ j → l[j]? = some c → bk c = true)
    (h3 : f < t → ∀ c, l[f]? = some c → bk c = false) (h4 : f < t → ∀ c, l[t - 1]? = some c → bk c = false) : trim (l.drop i) = (l.drop f).take (t - f) := by
  have e : l.drop i = (l.drop i).take (f - i) ++ (l.drop f).take (t - f) ++ l.drop t := by
    have e1 : l.drop i = (l.drop i).take (f - i) ++ l.drop f := by
      conv => lhs; rw [← List.take_append_drop (f - i) (l.drop i)]
      rw [List.drop_drop, show i + (f - i) = f by omega]
    have e2 : l.drop f = (l.drop f).take (t - f) ++ l.drop t := by
      conv => lhs; rw [← List.take_append_drop (t - f) (l.drop f)]
      rw [List.drop_drop, show f + (t - f) = t by omega]
    rw [List.append_assoc, ← e2, ← e1]
  rw [e]
  have ulen : ((l.drop f).take (t - f)).length = t - f := by rw [List.length_take, List.length_drop]; omega
  refine trim_is (fun c hc => ?_) (fun c hc => ?_) (fun c hc => ?_) (fun c hc => ?_)
  · obtain ⟨j, hj, rfl⟩ := List.mem_iff_getElem.1 hc
    rw [List.length_take, List.length_drop] at hj
    refine h1 (i + j) _ (by omega) (by omega) ?_
    rw [List.getElem_take, List.getElem_drop, List.getElem?_eq_getElem (by omega)]
  · obtain ⟨j, hj, rfl⟩ := List.mem_iff_getElem.1 hc
    rw [List.length_drop] at hj
    refine h2 (t + j) _ (by omega) ?_
    rw [List.getElem_drop, List.getElem?_eq_getElem (by omega)]
  · by_cases hft : f < t
    · refine h3 hft c ?_
      rw [List.head?_eq_getElem?, List.getElem?_take_of_lt (by omega), List.getElem?_drop, Nat.add_zero] at hc
      exact hc
    · rw [List.length_eq_zero_iff.1 (by omega : ((l.drop f).take (t - f)).length = 0)] at hc; cases hc
  · by_cases hft : f < t
    · refine h4 hft c ?_
      rw [List.getLast?_eq_getElem?, ulen, List.getElem?_take_of_lt (by omega), List.getElem?_drop, show f + (t - f - 1) = t - 1 by omega] at hc
      exact hc
    · rw [List.length_eq_zero_iff.1 (by omega : ((l.drop f).take (t - f)).length = 0)] at hc; cases hc
end Go.Proofs.YtmaclplhphfkiaaDoor.F
