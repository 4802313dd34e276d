/- What is written is read: a head and its body, byte by byte. Conditions: a body of at most 2^18 bytes. -/
import Derived.Test.YtmaclplhphfkiaaDoorFrWrite
import Derived.Test.YtmaclplhphfkiaaDoorFrState
import Derived.Lib.SlTrimSet
namespace Go.Proofs.YtmaclplhphfkiaaDoor.F
open Go Go.Lib

theorem ended_no10 (p : Bs) (c : UInt8) (h : c ≠ 10) : ended (p ++ [c]) = false := by
  unfold ended
  rw [Bool.or_eq_false_iff]
  constructor
  · rw [List.isSuffixOf, List.reverse_append]
    show ([10, 13, 10, 13] : Bs).isPrefixOf (c :: p.reverse) = false
    have : ((10 : UInt8) == c) = false := by rw [beq_eq_false_iff_ne]; exact fun e => h e.symm
    simp [List.isPrefixOf, this]
  · rw [beq_eq_false_iff_ne]
    intro e
    have := congrArg List.getLast? e
    simp at this
    exact h this
theorem run_no10 (o : List Bs) : ∀ (l p : Bs), (∀ c ∈ l, c ≠ 10) → (p ++ l).length < 1024 → run (.head p, o) l = (.head (p ++ l), o)
  | [], p, _, _ => by rw [List.append_nil]; rfl
  | c :: l, p, h, hl => by
    have ih := run_no10 o l (p ++ [c]) (fun x hx => h x (List.mem_cons_of_mem _ hx)) (by simpa using hl)
    rw [run_cons]
    unfold stp
    dsimp only
    rw [if_neg (by rw [ended_no10 p c (h c List.mem_cons_self)]; decide), if_neg (by simp at hl ⊢; omega), ih]
    simp
def dig (c : UInt8) : Prop := 48 ≤ c.toNat ∧ c.toNat ≤ 57
theorem dig_ne {c d : UInt8} (h : dig c) (hd : ¬ dig d) : c ≠ d := fun e => hd (e ▸ h)
def hd0 : Bs := [67, 111, 110, 116, 101, 110, 116, 45, 76, 101, 110, 103, 116, 104]
theorem spl_one (l : Bs) (h : ∀ c ∈ l, c ≠ 13) : spl l = [l] := by
  have hi : Lib.index l [13, 10] = -1 := Lib.index_none fun j hj => by
    rw [Bool.eq_false_iff]
    intro ho
    have := Lib.occAt_head rfl ho
    obtain ⟨hlt, e⟩ := List.getElem?_eq_some_iff.1 this
    exact h _ (List.getElem_mem hlt) e
  unfold spl
  cases hl : l.length with
  | zero => rfl
  | succ f =>
    unfold splF
    rw [if_pos (by rw [hi]; decide)]
theorem cut_hdr (v : Bs) : Lib.cut (hd0 ++ 58 :: v) [58] = (hd0, v, true) := by
  have hi : Lib.index (hd0 ++ 58 :: v) [58] = 14 := by
    simp [hd0, Lib.index, List.isPrefixOf]
  unfold Lib.cut
  rw [if_pos (by rw [hi]; decide), hi]
  rfl
theorem trim_dig (ds : Bs) (h : ∀ c ∈ ds, dig c) (h0 : ds ≠ []) : trim (32 :: ds) = ds := by
  have hno : ∀ c ∈ ds, ([32, 9] : Bs).contains c = false := fun c hc => by
    have := h c hc
    have a := dig_ne (d := 32) this (by unfold dig; decide)
    have b := dig_ne (d := 9) this (by unfold dig; decide)
    simp [a, b]
  have e1 : (32 :: ds).reverse.dropWhile (([32, 9] : Bs).contains ·) = (32 :: ds).reverse := by
    rw [List.reverse_cons]
    cases hr : ds.reverse with
    | nil => exact absurd (List.reverse_eq_nil_iff.1 hr) h0
    | cons x t =>
      have hx : x ∈ ds := by rw [← List.mem_reverse, hr]; exact List.mem_cons_self
      rw [List.cons_append, List.dropWhile_cons_of_neg (by rw [hno x hx]; decide)]
  unfold trim
  rw [e1, List.reverse_reverse, List.dropWhile_cons_of_pos (by decide)]
  cases ds with
  | nil => exact absurd rfl h0
  | cons x t => rw [List.dropWhile_cons_of_neg (by rw [hno x List.mem_cons_self]; decide)]
theorem bs_hdr (ds : Bs) (h : ∀ c ∈ ds, dig c) (h0 : ds ≠ []) (hn : num ds ≤ 262144) : bs (hd0 ++ 58 :: 32 :: ds ++ [13, 10, 13, 10]) = (num ds, 0) := by
  have hb : bare (hd0 ++ 58 :: 32 :: ds ++ [13, 10, 13, 10]) = hd0 ++ 58 :: 32 :: ds := by
    unfold bare
    rw [if_pos (List.isSuffixOf_iff_suffix.2 (List.suffix_append _ _)), List.length_append]
    exact List.take_left
  have hs : spl (hd0 ++ 58 :: 32 :: ds) = [hd0 ++ 58 :: 32 :: ds] := spl_one _ fun c hc => by
    rcases List.mem_append.1 hc with hc | hc
    · exact fun e => absurd (e ▸ hc) (by decide)
    · rcases List.mem_cons.1 hc with rfl | hc
      · decide
      · rcases List.mem_cons.1 hc with rfl | hc
        · decide
        · exact dig_ne (h c hc) (by unfold dig; decide)
  have hc := cut_hdr (32 :: ds)
  have hnm : nm (hd0 ++ 58 :: 32 :: ds) = hd0 := by unfold nm; rw [hc]
  have hvl : vl (hd0 ++ 58 :: 32 :: ds) = 32 :: ds := by unfold vl; rw [hc]
  have hok : okLine (hd0 ++ 58 :: 32 :: ds) = true := by
    unfold okLine
    rw [hnm, hvl, hc]
    have : okVal (32 :: ds) = true := by
      unfold okVal
      rw [List.all_eq_true]
      intro c hc
      rcases List.mem_cons.1 hc with rfl | hc
      · decide
      · have a := dig_ne (d := 13) (h c hc) (by unfold dig; decide)
        have b := dig_ne (d := 10) (h c hc) (by unfold dig; decide)
        simp [a, b]
    rw [this]; show (true && (okName hd0 && true)) = true; decide
  have hl : isLen hd0 = true := by decide
  have hnum : isNum ds = true := by
    unfold isNum
    rw [Bool.and_eq_true]
    refine ⟨by cases ds with | nil => exact absurd rfl h0 | cons _ _ => rfl, ?_⟩
    rw [List.all_eq_true]
    intro c hc
    have := h c hc
    simp [this.1, this.2]
  unfold bs
  rw [hb, hs]
  have hall : [hd0 ++ 58 :: 32 :: ds].all okLine = true := by rw [List.all_cons, hok]; rfl
  have hsz : sizes [hd0 ++ 58 :: 32 :: ds] = [ds] := by
    unfold sizes
    rw [List.filter_cons_of_pos (by rw [hnm]; exact hl)]
    show [trim (vl _)] = _
    rw [hvl, trim_dig ds h h0]
  rw [if_pos hall, hsz]
  unfold told
  dsimp only
  rw [if_pos hnum, if_neg (by omega)]
theorem run_hdr (ds : Bs) (h : ∀ c ∈ ds, dig c) (h0 : ds ≠ []) (hl : ds.length ≤ 100) (hn : num ds ≤ 262144) (o : List Bs) (b : Bs) (hb : b.length = num ds) :
    run (.head [], o) (hd0 ++ 58 :: 32 :: ds ++ [13, 10, 13, 10] ++ b) = (.head [], o ++ [b]) := by
  have hsplit : hd0 ++ 58 :: 32 :: ds ++ [13, 10, 13, 10] ++ b = (hd0 ++ 58 :: 32 :: ds ++ [13]) ++ ([10] ++ ([13] ++ ([10] ++ b))) := by simp
  have hlen : (hd0 ++ 58 :: 32 :: ds).length = 16 + ds.length := by simp [hd0]; omega
  have hd : ∀ c ∈ hd0 ++ 58 :: 32 :: ds ++ [13], c ≠ 10 := fun c hc => by
    rcases List.mem_append.1 hc with hc | hc
    · rcases List.mem_append.1 hc with hc | hc
      · exact fun e => absurd (e ▸ hc) (by decide)
      · rcases List.mem_cons.1 hc with rfl | hc
        · decide
        · rcases List.mem_cons.1 hc with rfl | hc
          · decide
          · exact dig_ne (h c hc) (by unfold dig; decide)
    · rw [List.mem_singleton.1 hc]; decide
  rw [hsplit, run_append, run_no10 o _ [] hd (by rw [List.nil_append, List.length_append, hlen]; simp; omega), List.nil_append]
  obtain ⟨x, t, hx⟩ : ∃ x t, ds.reverse = x :: t := by
    cases hr : ds.reverse with
    | nil => exact absurd (List.reverse_eq_nil_iff.1 hr) h0
    | cons x t => exact ⟨x, t, rfl⟩
  have hxd : x ≠ 10 := dig_ne (h x (by rw [← List.mem_reverse, hx]; exact List.mem_cons_self)) (by unfold dig; decide)
  have hx10 : ((10 : UInt8) == x) = false := by rw [beq_eq_false_iff_ne]; exact fun e => hxd e.symm
  have e1 : ended (hd0 ++ 58 :: 32 :: ds ++ [13] ++ [10]) = false := by
    unfold ended
    rw [Bool.or_eq_false_iff]
    constructor
    · rw [List.isSuffixOf]
      simp only [List.reverse_append, List.reverse_cons, List.reverse_nil, List.nil_append, List.cons_append, hx]
      simp [List.isPrefixOf, hx10]
    · rw [beq_eq_false_iff_ne]
      intro e
      have := congrArg List.length e
      rw [List.length_append, List.length_append, hlen] at this
      simp at this
  rw [run_append]
  have s1 : run (.head (hd0 ++ 58 :: 32 :: ds ++ [13]), o) [10] = (.head (hd0 ++ 58 :: 32 :: ds ++ [13] ++ [10]), o) := by
    rw [run_cons, run_nil]
    unfold stp
    dsimp only
    rw [if_neg (by rw [e1]; decide), if_neg (by rw [List.length_append, List.length_append, hlen]; simp; omega)]
  rw [s1, run_append]
  rw [run_no10 o [13] _ (fun c hc => by rw [List.mem_singleton.1 hc]; decide) (by rw [List.length_append, List.length_append, List.length_append, hlen]; simp; omega)]
  have e2 : hd0 ++ 58 :: 32 :: ds ++ [13] ++ [10] ++ [13] ++ [10] = hd0 ++ 58 :: 32 :: ds ++ [13, 10, 13, 10] := by simp
  have e3 : ended (hd0 ++ 58 :: 32 :: ds ++ [13, 10, 13, 10]) = true := by
    unfold ended
    rw [List.isSuffixOf_iff_suffix.2 (List.suffix_append _ _)]; rfl
  have hbs := bs_hdr ds h h0 hn
  rw [List.cons_append, List.nil_append, run_cons]
  unfold stp
  dsimp only
  rw [e2, if_pos e3, hbs, if_pos rfl]
  by_cases hz : num ds = 0
  · rw [if_pos hz]
    have : b = [] := List.length_eq_zero_iff.1 (by omega)
    subst this
    rfl
  · rw [if_neg hz]
    have := bodyTo_run (num ds) b [] o (by simp; omega)
    rw [List.length_nil, Nat.sub_zero, List.take_of_length_le (by omega)] at this
    rw [this]
    unfold bodyTo
    rw [List.nil_append, List.length_nil, Nat.sub_zero, List.take_of_length_le (by omega), if_pos hb]
theorem num_add (a : Bs) (c : UInt8) : num (a ++ [c]) = min (10 * num a + (c.toNat - 48)) 262145 := by
  unfold num
  rw [List.foldl_append]; rfl
theorem digs_dgs0 : ∀ n : Nat, n ≤ 262144 → (∀ c ∈ FW.dgs0 n, dig c) ∧ num (FW.dgs0 n) = n := by
  intro n
  induction n using Nat.strongRecOn with
  | _ n ih =>
    intro hn
    by_cases h0 : n = 0
    · subst h0; exact ⟨fun c hc => by simp [FW.dgs0] at hc, rfl⟩
    · have := ih (n / 10) (by omega) (by omega)
      rw [← FW.dgs0_step (u := n) (by omega)]
      have ht : (UInt8.ofNat (48 + n % 10)).toNat = 48 + n % 10 := Nat.mod_eq_of_lt (by omega)
      refine ⟨fun c hc => ?_, ?_⟩
      · rcases List.mem_append.1 hc with hc | hc
        · exact this.1 c hc
        · rw [List.mem_singleton.1 hc]; unfold dig; rw [ht]; omega
      · rw [num_add, this.2, ht]; omega
theorem itoa_good (n : Nat) (h : n ≤ 262144) : (∀ c ∈ Lib.itoa (n : Int), dig c) ∧ Lib.itoa (n : Int) ≠ [] ∧ (Lib.itoa (n : Int)).length ≤ 100 ∧ num (Lib.itoa (n : Int)) = n := by
  by_cases h0 : n = 0
  · subst h0
    rw [show ((0 : Nat) : Int) = 0 from rfl, FW.itoa_zero]
    exact ⟨fun c hc => by rw [List.mem_singleton.1 hc]; unfold dig; decide, by decide, by decide, by decide⟩
  · rw [FW.itoa_dgs0 (by omega)]
    have := digs_dgs0 n h
    refine ⟨this.1, fun e => ?_, FW.dgs0_len n (by omega), this.2⟩
    have h2 := this.2
    rw [e] at h2
    exact h0 h2.symm
/-- a message written is a message read -/
theorem run_wr (b : Bs) (h : b.length ≤ 262144) (o : List Bs) : run (.head [], o) (FW.wr (ba b)).data.toList = (.head [], o ++ [b]) := by
  have hg := itoa_good b.length h
  have hsz : (ba b).size = b.length := by show b.toArray.size = _; rw [List.size_toArray]
  have e : (FW.wr (ba b)).data.toList = hd0 ++ 58 :: 32 :: Lib.itoa (b.length : Int) ++ [13, 10, 13, 10] ++ b := by
    unfold FW.wr
    rw [hsz]
    show FW.hdr ++ _ ++ _ ++ b = _
    rfl
  rw [e]
  exact run_hdr _ hg.1 hg.2.1 hg.2.2.1 (by rw [hg.2.2.2]; exact h) o b hg.2.2.2.symm
theorem run_wrs : ∀ (ls : List Bs), (∀ b ∈ ls, b.length ≤ 262144) → ∀ o, run (.head [], o) (ls.flatMap fun b => (FW.wr (ba b)).data.toList) = (.head [], o ++ ls)
  | [], _, o => by rw [List.append_nil]; rfl
  | b :: ls, h, o => by
    rw [List.flatMap_cons, run_append, run_wr b (h b List.mem_cons_self), run_wrs ls (fun x hx => h x (List.mem_cons_of_mem _ hx)), List.append_assoc]; rfl
end Go.Proofs.YtmaclplhphfkiaaDoor.F
