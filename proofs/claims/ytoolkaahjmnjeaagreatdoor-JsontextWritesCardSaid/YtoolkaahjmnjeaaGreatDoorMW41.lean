/- A string quoted: character by character, or byte by byte of what is fixed. Conditions: none. -/
import Derived.Test.YtoolkaahjmnjeaaGreatDoorMW40
import Derived.Test.YtoolkaahjmnjeaaGreatDoorMW33
import Derived.Test.YtoolkaahjmnjeaaGreatDoorMW38
import Derived.Lib.AtoiAllCases
import Derived.Test.YtoolkaahjmnjeaaGreatDoorMW02
namespace Go.Proofs.YtoolkaahjmnjeaaGreatDoor
open Go

theorem rF_list (F : ByteArray) : ∀ f pos, F.size ≤ pos + f → rF F f pos = rbs (F.data.toList.drop pos)
  | 0, pos, h => by
    rw [List.drop_eq_nil_of_le (by rw [← Lib.size_eq]; omega)]
    rfl
  | f + 1, pos, h => by
    by_cases hp : pos < F.size
    · rw [rF_step F f pos hp, rF_list F f (pos + 1) (by omega)]
      have hlt : pos < F.data.toList.length := by rw [← Lib.size_eq]; exact hp
      rw [List.drop_eq_getElem_cons hlt]
      unfold rbs
      rw [List.map_cons, List.flatten_cons, U.at_get hp]
      rfl
    · rw [rF_end F _ pos hp, List.drop_eq_nil_of_le (by rw [← Lib.size_eq]; omega)]
      rfl
theorem quote_eq (s : ByteArray) : rL (U.fixS s) = qL s := by
  unfold rL qL
  rw [rF_list _ _ 0 (by omega), List.drop_zero]
  congr 2
  show rbs (U.fixL s) = _
  exact fix_rbs s s.size 0
end Go.Proofs.YtoolkaahjmnjeaaGreatDoor

namespace Go.Proofs.YtoolkaahjmnjeaaGreatDoor
open Go Go.RowKit Go.Lib

/-- the names of the first fields, the last one ahead -/
def nms : V.T → Nat → List ByteArray → List ByteArray
  | .cons nm _ _ _ _ tl, i + 1, acc => nms tl i (nm :: acc)
  | _, _, acc => acc
theorem nms_zero (t : V.T) (acc : List ByteArray) : nms t 0 acc = acc := by cases t <;> rfl
theorem nms_step {t : V.T} {i : Nat} {acc : List ByteArray} {nm : ByteArray} {k : Nat} {x : ByteArray} {l f tl : V.T} (h : t.drop i = .cons nm k x l f tl) : nms t (i + 1) acc = nm :: nms t i acc := by
  induction i generalizing t acc with
  | zero =>
    rw [V.T.drop_zero] at h
    subst h
    show nms tl 0 (nm :: acc) = _
    rw [nms_zero, nms_zero]
  | succ i ih =>
    cases t with
    | nil => cases h
    | cons a b c d e tl2 => exact ih (t := tl2) h
theorem nms_mono {t : V.T} {m : ByteArray} {j : Nat} (hj : (nms t j []).contains m = true) : ∀ n, j + n ≤ t.len → (nms t (j + n) []).contains m = true
  | 0, _ => hj
  | n + 1, h => by
    obtain ⟨nm, k, x, l, f, tl, hd⟩ := V.T.drop_some (t := t) (i := j + n) (by omega)
    rw [← Nat.add_assoc, nms_step hd, List.contains_cons, nms_mono hj n (by omega), Bool.or_true]
theorem nms_hit {t : V.T} {i j : Nat} {nm : ByteArray} {k : Nat} {x : ByteArray} {l f tl : V.T} (h : t.drop j = .cons nm k x l f tl) (hj : j < i) (hi : i ≤ t.len) : (nms t i []).contains nm = true := by
  have h1 : (nms t (j + 1) []).contains nm = true := by rw [nms_step h, List.contains_cons, ba_beq, decide_eq_true rfl, Bool.true_or]
  have := nms_mono h1 (i - (j + 1)) (by omega)
  rwa [show j + 1 + (i - (j + 1)) = i by omega] at this
theorem nms_miss {t : V.T} {j : Nat} {m nm : ByteArray} {k : Nat} {x : ByteArray} {l f tl : V.T} (h : t.drop j = .cons nm k x l f tl) (hn : ¬ nm = m) (hc : (nms t j []).contains m = false) : (nms t (j + 1) []).contains m = false := by
  rw [nms_step h, List.contains_cons, hc, ba_beq, decide_eq_false (fun e => hn e.symm), Bool.false_or]
/-- a kind that is none, or one that has what it mustn't -/
def Bad (k : Nat) (x : ByteArray) (l f : V.T) : Prop := 6 < k ∨ (¬ x.size = 0 ∧ ¬ k = 3 ∧ ¬ k = 4) ∨ (0 < l.len ∧ ¬ k = 5) ∨ (0 < f.len ∧ ¬ k = 6)
instance (k : Nat) (x : ByteArray) (l f : V.T) : Decidable (Bad k x l f) := by unfold Bad; exact inferInstance
theorem mayV_bad {k : Nat} {x : ByteArray} {l f : V.T} {d : Nat} (h : Bad k x l f) : mayV k x l f d = false := by
  cases hm : mayV k x l f d
  · rfl
  · exfalso
    have h6 := mayV_six hm
    by_cases h5 : k = 5
    · subst h5
      obtain ⟨a, _, _, b⟩ := mayV_list hm
      rcases h with h | h | h | h
      · omega
      · exact h.1 (by rw [a]; rfl)
      · exact h.2 rfl
      · rw [b] at h; exact absurd h.1 (Nat.lt_irrefl _)
    by_cases h6' : k = 6
    · subst h6'
      obtain ⟨a, _, _, b⟩ := mayV_obj hm
      rcases h with h | h | h | h
      · omega
      · exact h.1 (by rw [a]; rfl)
      · rw [b] at h; exact absurd h.1 (Nat.lt_irrefl _)
      · exact h.2 rfl
    obtain ⟨_, a, b, c⟩ := mayV_leaf hm h5 h6'
    rcases h with h | h | h | h
    · omega
    · unfold txk at a
      rw [if_neg h.2.1, if_neg h.2.2] at a
      exact h.1 (of_decide_eq_true a)
    · rw [b] at h; exact absurd h.1 (Nat.lt_irrefl _)
    · rw [c] at h; exact absurd h.1 (Nat.lt_irrefl _)
theorem not_bad {k : Nat} {x : ByteArray} {l f : V.T} (h : ¬ Bad k x l f) : k ≤ 6 ∧ (x.size = 0 ∨ k = 3 ∨ k = 4) ∧ (l.len = 0 ∨ k = 5) ∧ (f.len = 0 ∨ k = 6) := by
  unfold Bad at h
  omega
theorem mayV_num {x : ByteArray} {l f : V.T} {d : Nat} (h : ¬ Bad 3 x l f) : mayV 3 x l f d = numS x := by
  have h1 := not_bad h
  unfold mayV txk
  rw [if_pos rfl, if_neg (by decide), if_neg (by decide), decide_eq_true (show l.len = 0 by omega), decide_eq_true (show f.len = 0 by omega), decide_eq_true (by decide)]
  simp
theorem mayV_txt {x : ByteArray} {l f : V.T} {d : Nat} (h : ¬ Bad 4 x l f) : mayV 4 x l f d = U.valid x := by
  have h1 := not_bad h
  unfold mayV txk
  rw [if_neg (by decide), if_pos rfl, if_neg (by decide), if_neg (by decide), decide_eq_true (show l.len = 0 by omega), decide_eq_true (show f.len = 0 by omega), decide_eq_true (by decide)]
  simp
theorem mayV_deep {k : Nat} {x : ByteArray} {l f : V.T} (h : 5 ≤ k) : mayV k x l f 64 = false := by
  cases hm : mayV k x l f 64
  · rfl
  · exfalso
    have h6 := mayV_six hm
    by_cases h5 : k = 5
    · subst h5; exact (mayV_list hm).2.1 rfl
    · obtain rfl : k = 6 := by omega
      exact (mayV_obj hm).2.1 rfl
theorem mayV_rows {k : Nat} {x : ByteArray} {l f : V.T} {d : Nat} (h : ¬ Bad k x l f) (h3 : ¬ k = 3) (h4 : ¬ k = 4) (h5 : ¬ (5 ≤ k ∧ d = 64)) : mayV k x l f d = (mayT l 0 [] (d + 1) && mayT f 1 [] (d + 1)) := by
  have h1 := not_bad h
  have hx : txk k x = true := by unfold txk; rw [if_neg h3, if_neg h4]; exact decide_eq_true (by omega)
  by_cases e5 : k = 5
  · subst e5
    have hf : f = .nil := V.T.len_nil (by omega)
    subst hf
    unfold mayV
    rw [hx, if_pos rfl, if_neg (by decide), decide_eq_false (show ¬ d = 64 by omega), decide_eq_true (by decide)]
    show (true && (true && (!false && mayT l 0 [] (d + 1)) && decide (V.T.nil.len = 0))) = (mayT l 0 [] (d + 1) && true)
    cases mayT l 0 [] (d + 1) <;> rfl
  by_cases e6 : k = 6
  · subst e6
    have hl : l = .nil := V.T.len_nil (by omega)
    subst hl
    unfold mayV
    rw [hx, if_neg (by decide), if_pos rfl, decide_eq_false (show ¬ d = 64 by omega), decide_eq_true (by decide)]
    show (true && (true && decide (V.T.nil.len = 0) && (!false && mayT f 1 [] (d + 1)))) = (true && mayT f 1 [] (d + 1))
    cases mayT f 1 [] (d + 1) <;> rfl
  · have hl : l = .nil := V.T.len_nil (by omega)
    have hf : f = .nil := V.T.len_nil (by omega)
    subst hl hf
    unfold mayV
    rw [hx, if_neg e5, if_neg e6, decide_eq_true h1.1]
    rfl
def badB (k : Nat) (x : ByteArray) (na ma : Nat) : Bool := decide (6 < k) || (!(decide (x.size = 0)) && ((k : Int) != 3) && ((k : Int) != 4)) || (decide (0 < na) && ((k : Int) != 5)) || (decide (0 < ma) && ((k : Int) != 6))
theorem bne_cast (k c : Nat) : ((k : Int) != (c : Int)) = !(decide (k = c)) := by
  by_cases h : k = c
  · subst h; simp
  · rw [decide_eq_false h]
    have h2 : ¬ (k : Int) = (c : Int) := by omega
    simp only [bne, beq_eq_false_iff_ne.2 h2, Bool.not_false]
theorem bad_bool (k : Nat) (x : ByteArray) (l f : V.T) : decide (Bad k x l f) = badB k x l.len f.len := by
  have e3 := bne_cast k 3
  have e4 := bne_cast k 4
  have e5 := bne_cast k 5
  have e6 := bne_cast k 6
  unfold badB
  rw [show ((k : Int) != 3) = _ from e3, show ((k : Int) != 4) = _ from e4, show ((k : Int) != 5) = _ from e5, show ((k : Int) != 6) = _ from e6]
  apply Bool.eq_iff_iff.2
  simp only [Bool.or_eq_true, Bool.and_eq_true, Bool.not_eq_true', decide_eq_true_eq, decide_eq_false_iff_not]
  unfold Bad
  omega
end Go.Proofs.YtoolkaahjmnjeaaGreatDoor

namespace Go.Proofs.YtoolkaahjmnjeaaGreatDoor
open Go Go.RowKit Go.Lib

/-- what digits spell, from a place on, ahead of a place -/
def numF (s : ByteArray) : Nat → Nat → Nat → Nat
  | 0, _, acc => acc
  | f + 1, p, acc => numF s f (p + 1) (acc * 10 + ((s.get! p).toNat - 48))
def numL (acc : Nat) : List UInt8 → Nat
  | [] => acc
  | c :: r => numL (acc * 10 + (c.toNat - 48)) r
theorem numL_ge : ∀ (l : List UInt8) (acc : Nat), acc ≤ numL acc l
  | [], _ => Nat.le_refl _
  | c :: r, acc => by
    show acc ≤ numL (acc * 10 + (c.toNat - 48)) r
    have := numL_ge r (acc * 10 + (c.toNat - 48))
    omega
theorem parse_digits : ∀ (l : List UInt8) (acc : Nat), (∀ c ∈ l, 48 ≤ c.toNat ∧ c.toNat ≤ 57) → acc < 18446744073709551616 →
    Lib.parseUint10 acc l = if numL acc l < 18446744073709551616 then .ok (numL acc l) else .range
  | [], acc, _, ha => by
    show Lib.NumEnd.ok acc = _
    rw [if_pos (show numL acc [] < _ from ha)]; rfl
  | c :: r, acc, h, ha => by
    have hc := h c (List.mem_cons_self ..)
    have hr := fun d hd => h d (List.mem_cons_of_mem _ hd)
    have hg := numL_ge r (acc * 10 + (c.toNat - 48))
    have e : numL acc (c :: r) = numL (acc * 10 + (c.toNat - 48)) r := rfl
    rw [e]
    unfold Lib.parseUint10
    rw [if_pos hc]
    by_cases h1 : 1844674407370955162 ≤ acc
    · rw [if_pos h1, if_neg (by omega)]
    · rw [if_neg h1]
      by_cases h2 : 18446744073709551616 ≤ acc * 10 + (c.toNat - 48)
      · rw [if_pos h2, if_neg (by omega)]
      · rw [if_neg h2]
        exact parse_digits r _ hr (by omega)
/-- is there a sign? -/
def ngI (x : ByteArray) : Bool := J.is x 0 0 45
def atI (x : ByteArray) : Nat := J.bp x 0 0 45
/-- what an integer's digits spell -/
def magI (x : ByteArray) : Nat := numL 0 (x.data.toList.drop (atI x))
/-- a number's int -/
def intS (x : ByteArray) : Int × Bool :=
  if bothS (ciS x) = true then
    (if ngI x = true then (if magI x ≤ 9223372036854775808 then (-(magI x : Int), true) else (0, false))
     else (if magI x < 9223372036854775808 then ((magI x : Int), true) else (0, false)))
  else (0, false)
theorem both_cut (x : ByteArray) : bothS (ciS x) = decide (J.n2 x (atI x) 0 = (x.size, 0)) := by
  have h := ci_is x 0
  rw [suf_zero] at h
  have hle := (J.n2_le (s := x) (p := atI x) 0 (J.bp_le (s := x) (p := 0) 0 45 (Nat.zero_le _)).2).2
  rw [h]
  show bothS (cut2 x (J.n2 x (atI x) 0)) = _
  generalize J.n2 x (atI x) 0 = q at *
  obtain ⟨a, b⟩ := q
  unfold bothS cut2
  rw [suf_size]
  show (decide (b = 0) && decide (x.size - a = 0)) = _
  rw [← Bool.decide_and]
  refine decide_eq_decide.2 ⟨fun ⟨h1, h2⟩ => ?_, fun h => ?_⟩
  · have : a = x.size := by
      have : a ≤ x.size := hle
      omega
    rw [this, h1]
  · cases h
    exact ⟨rfl, by omega⟩
theorem dg_all (s : ByteArray) : ∀ (n p : Nat), J.dg s p = p + n → ∀ i, i < n → p + i < s.size ∧ J.dgt (s.get! (p + i)).toNat = true
  | 0, _, _, i, hi => absurd hi (Nat.not_lt_zero i)
  | n + 1, p, h, i, hi => by
    by_cases hp : p < s.size ∧ J.dgt (s.get! p).toNat = true
    · rw [J.dg_step hp.1 hp.2] at h
      cases i with
      | zero => exact hp
      | succ j =>
        have := dg_all s n (p + 1) (by omega) j (by omega)
        rw [show p + (j + 1) = p + 1 + j by omega]
        exact this
    · rw [J.dg_stop hp] at h
      omega
/-- an integer's text: digits behind the sign -/
theorem both_digits {x : ByteArray} (h : bothS (ciS x) = true) : atI x < x.size ∧ J.dg x (atI x) = x.size := by
  rw [both_cut, decide_eq_true_eq] at h
  have hat := (J.bp_le (s := x) (p := 0) 0 45 (Nat.zero_le _)).2
  change atI x ≤ x.size at hat
  generalize atI x = a at *
  unfold J.n2 at h
  split at h
  · rename_i h48
    have h1 : a + 1 = x.size := congrArg Prod.fst h
    have hd := of_decide_eq_true h48
    refine ⟨by omega, ?_⟩
    rw [J.dg_step hd.2.1 (by rw [hd.2.2]; rfl), h1]
    exact J.dg_stop (fun h => absurd h.1 (Nat.lt_irrefl _))
  · by_cases hd : J.dg x a = a
    · rw [J.ds_none hd] at h
      have := congrArg Prod.snd h
      cases this
    · rw [J.ds_some hd] at h
      have h1 : J.dg x a = x.size := congrArg Prod.fst h
      exact ⟨by omega, h1⟩
theorem drop_mem {x : ByteArray} {a : Nat} (h : J.dg x a = x.size) (ha : a ≤ x.size) : ∀ c ∈ x.data.toList.drop a, 48 ≤ c.toNat ∧ c.toNat ≤ 57 := by
  intro c hc
  obtain ⟨i, hi, e⟩ := List.getElem_of_mem hc
  have hlen : x.data.toList.length = x.size := (Lib.size_eq x).symm
  rw [List.length_drop, hlen] at hi
  have := dg_all x (x.size - a) a (by omega) i hi
  rw [U_get this.1] at this
  rw [List.getElem_drop] at e
  rw [← e]
  exact of_decide_eq_true this.2
theorem mag_at {x : ByteArray} {a : Nat} (h : J.dg x a = x.size) (ha : a < x.size) : Lib.parseMag (x.data.toList.drop a) = if numL 0 (x.data.toList.drop a) < 18446744073709551616 then .ok (numL 0 (x.data.toList.drop a)) else .range := by
  have hlen : x.data.toList.length = x.size := (Lib.size_eq x).symm
  have hne : ¬ x.data.toList.drop a = [] := fun e => by
    have := congrArg List.length e
    rw [List.length_drop, hlen] at this
    simp at this
    omega
  unfold Lib.parseMag
  rw [if_neg hne]
  exact parse_digits _ 0 (drop_mem h (Nat.le_of_lt ha)) (by decide)
/-- Atoi of an integer's text -/
theorem atoi_both {x : ByteArray} (h : bothS (ciS x) = true) : (Lib.atoiAll x.data.toList = .ok (intS x).1 ∧ (intS x).2 = true) ∨ (Lib.atoiAll x.data.toList = .range ∧ intS x = (0, false)) := by
  obtain ⟨h1, h2⟩ := both_digits h
  have hm := mag_at h2 h1
  have hd := drop_mem h2 (Nat.le_of_lt h1)
  have hlen : x.data.toList.length = x.size := (Lib.size_eq x).symm
  have hS : intS x = (if ngI x = true then (if magI x ≤ 9223372036854775808 then (-(magI x : Int), true) else (0, false)) else (if magI x < 9223372036854775808 then ((magI x : Int), true) else (0, false))) := by
    unfold intS
    rw [if_pos h]
  have hM : magI x = numL 0 (x.data.toList.drop (atI x)) := rfl
  rw [← hM] at hm
  rw [hS]
  clear hS hM
  generalize magI x = N at *
  cases hn : ngI x
  · have ha : atI x = 0 := J.bp_no hn
    rw [ha] at h1 hm hd
    rw [List.drop_zero] at hm hd
    rw [if_neg (by decide)]
    cases hl : x.data.toList with
    | nil => rw [hl] at hlen; simp at hlen; omega
    | cons c r =>
      rw [hl] at hm hd
      have hc := hd c (List.mem_cons_self ..)
      rw [Lib.atoiAll_plain c r (by omega) (by omega), hm]
      by_cases hN : N < 18446744073709551616
      · rw [if_pos hN]
        unfold Lib.signless
        by_cases hN2 : N < 9223372036854775808
        · rw [if_pos hN2]
          left
          constructor
          · simp only []
            first
              | rw [if_neg (by omega)]
              | rw [if_pos (by omega)]
          · rfl
        · rw [if_neg hN2]
          right
          constructor
          · simp only []
            first
              | rw [if_pos (by omega)]
              | rw [if_neg (by omega)]
          · rfl
      · rw [if_neg hN, if_neg (by omega)]
        exact .inr ⟨rfl, rfl⟩
  · have ha : atI x = 1 := J.bp_yes hn
    have h45 := of_decide_eq_true hn
    rw [ha] at h1 hm hd
    rw [if_pos rfl]
    cases hl : x.data.toList with
    | nil => rw [hl] at hlen; simp at hlen; omega
    | cons c r =>
      have e0 : x.get! 0 = c := by rw [U_get h45.2.1]; simp [hl]
      have e1 : c = 45 := UInt8.toNat_inj.1 (by rw [← e0]; exact h45.2.2)
      subst e1
      rw [hl, List.drop_succ_cons, List.drop_zero] at hm
      rw [Lib.atoiAll_minus, hm]
      by_cases hN : N < 18446744073709551616
      · rw [if_pos hN]
        unfold Lib.signed
        by_cases hN2 : N ≤ 9223372036854775808
        · rw [if_pos hN2]
          left
          constructor
          · simp only []
            first
              | rw [if_neg (by omega)]
              | rw [if_pos (by omega)]
          · rfl
        · rw [if_neg hN2]
          right
          constructor
          · simp only []
            first
              | rw [if_pos (by omega)]
              | rw [if_neg (by omega)]
          · rfl
      · rw [if_neg hN, if_neg (by omega)]
        exact .inr ⟨rfl, rfl⟩
end Go.Proofs.YtoolkaahjmnjeaaGreatDoor

namespace Go.Proofs.YtoolkaahjmnjeaaGreatDoor
open Go Go.RowKit Go.Lib

theorem at_le (x : ByteArray) : atI x ≤ x.size := (J.bp_le (s := x) (p := 0) 0 45 (Nat.zero_le _)).2
theorem dgt48 {x : ByteArray} {p : Nat} (h : J.is x p 0 48 = true) : J.dg x p = J.dg x (p + 1) := by
  have h1 := J.of_is h
  exact J.dg_step h1.2.1 (by rw [h1.2.2]; rfl)
theorem no_digits {x : ByteArray} (h : J.dg x (atI x) = atI x) : numS x = false ∧ bothS (ciS x) = false := by
  have h48 : J.is x (atI x) 0 48 = false := by
    cases hb : J.is x (atI x) 0 48
    · rfl
    · have h1 := J.of_is hb
      have h2 := J.dg_le (s := x) (p := atI x + 1) (by omega)
      rw [dgt48 hb] at h
      omega
  have e : J.n2 x (atI x) 0 = (atI x, 30) := by
    unfold J.n2
    rw [if_neg (by rw [h48]; decide), J.ds_none h]
  have ew : J.nm x 0 0 = (atI x, 30) := by
    show J.n4 x (J.n3 x (J.n2 x (atI x) 0)) = _
    rw [e]
    unfold J.n3
    rw [if_neg (by rw [J.is_wrong _ _ (show ¬ (30 : Nat) = 0 by decide)]; decide)]
    unfold J.n4
    rw [if_neg (by rw [J.is_wrong _ _ (show ¬ (30 : Nat) = 0 by decide), J.is_wrong _ _ (show ¬ (30 : Nat) = 0 by decide)]; decide)]
  constructor
  · cases hn : numS x
    · rfl
    · have := (numS_iff x).1 hn
      rw [ew] at this
      exact absurd (congrArg Prod.snd this) (show ¬ (30 : Nat) = 0 by decide)
  · rw [both_cut, e]
    exact decide_eq_false (fun h => absurd (congrArg Prod.snd h) (show ¬ (30 : Nat) = 0 by decide))
theorem led_zero {x : ByteArray} (h : atI x + 1 < J.dg x (atI x)) (h0 : J.is x (atI x) 0 48 = true) : numS x = false ∧ bothS (ciS x) = false := by
  have hle := (J.dg_le (s := x) (at_le x)).2
  have hd : J.dgt (x.get! (atI x + 1)).toNat = true ∧ atI x + 1 < x.size := by
    rw [dgt48 h0] at h
    by_cases hx : atI x + 1 < x.size ∧ J.dgt (x.get! (atI x + 1)).toNat = true
    · exact ⟨hx.2, hx.1⟩
    · rw [J.dg_stop hx] at h
      omega
  have e : J.n2 x (atI x) 0 = (atI x + 1, 0) := by
    unfold J.n2
    rw [if_pos h0]
  have hno : ∀ c, J.dgt c = false → J.is x (atI x + 1) 0 c = false := fun c hc => J.is_other 0 (fun e => by rw [e, hc] at hd; exact absurd hd.1 (by decide))
  have ew : J.nm x 0 0 = (atI x + 1, 0) := by
    show J.n4 x (J.n3 x (J.n2 x (atI x) 0)) = _
    rw [e]
    unfold J.n3
    rw [if_neg (by show ¬ J.is x (atI x + 1) 0 46 = true; rw [hno 46 rfl]; decide)]
    unfold J.n4
    rw [if_neg (by show ¬ (J.is x (atI x + 1) 0 101 || J.is x (atI x + 1) 0 69) = true; rw [hno 101 rfl, hno 69 rfl]; decide)]
  constructor
  · cases hn : numS x
    · rfl
    · have := congrArg Prod.fst ((numS_iff x).1 hn)
      rw [ew] at this
      change atI x + 1 = x.size at this
      omega
  · rw [both_cut, e]
    exact decide_eq_false (fun h => by have := congrArg Prod.fst h; change atI x + 1 = x.size at this; omega)
theorem some_digits {x : ByteArray} (h : ¬ J.dg x (atI x) = atI x) (h0 : ¬ (atI x + 1 < J.dg x (atI x) ∧ J.is x (atI x) 0 48 = true)) : J.n2 x (atI x) 0 = (J.dg x (atI x), 0) := by
  unfold J.n2
  cases hb : J.is x (atI x) 0 48
  · rw [if_neg (by decide), J.ds_some h]
  · rw [if_pos rfl]
    have h1 := J.of_is hb
    have h2 := J.dg_le (s := x) (p := atI x + 1) (by omega)
    rw [← dgt48 hb] at h2
    have : J.dg x (atI x) = atI x + 1 := by
      by_cases h3 : atI x + 1 < J.dg x (atI x)
      · exact absurd ⟨h3, hb⟩ h0
      · omega
    rw [this]
theorem both_dg {x : ByteArray} (h : J.n2 x (atI x) 0 = (J.dg x (atI x), 0)) : bothS (ciS x) = decide (J.dg x (atI x) = x.size) := by
  rw [both_cut, h]
  exact decide_eq_decide.2 ⟨fun e => congrArg Prod.fst e, fun e => by rw [e]⟩
theorem num_from {x : ByteArray} {q : Nat} (h : J.n2 x (atI x) 0 = (q, 0)) : numS x = decide (J.n4 x (J.n3 x (q, 0)) = (x.size, 0)) := by
  have e : J.nm x 0 0 = J.n4 x (J.n3 x (q, 0)) := by rw [← h]; rfl
  rw [← e]
  cases hn : numS x
  · exact (decide_eq_false (fun e2 => by rw [(numS_iff x).2 e2] at hn; cases hn)).symm
  · exact (decide_eq_true ((numS_iff x).1 hn)).symm
theorem n4_30 (x : ByteArray) (p : Nat) : J.n4 x (p, 30) = (p, 30) := by
  unfold J.n4
  rw [if_neg (by rw [J.is_wrong _ _ (show ¬ (30 : Nat) = 0 by decide), J.is_wrong _ _ (show ¬ (30 : Nat) = 0 by decide)]; decide)]
/-- a point, and no digits behind it -/
theorem dot_none {x : ByteArray} {q : Nat} (h : J.n2 x (atI x) 0 = (q, 0)) (hd : J.is x q 0 46 = true) (h0 : J.dg x (q + 1) = q + 1) : numS x = false := by
  rw [num_from h]
  unfold J.n3
  rw [if_pos hd]
  show decide (J.n4 x (J.ds x (q + 1) 0) = _) = false
  rw [J.ds_none h0, n4_30]
  exact decide_eq_false (fun h => absurd (congrArg Prod.snd h) (show ¬ (30 : Nat) = 0 by decide))
theorem dot_some {x : ByteArray} {q : Nat} (h : J.n2 x (atI x) 0 = (q, 0)) (hd : J.is x q 0 46 = true) (h0 : ¬ J.dg x (q + 1) = q + 1) : numS x = decide (J.n4 x (J.dg x (q + 1), 0) = (x.size, 0)) := by
  rw [num_from h]
  unfold J.n3
  rw [if_pos hd]
  show decide (J.n4 x (J.ds x (q + 1) 0) = _) = _
  rw [J.ds_some h0]
theorem dot_no {x : ByteArray} {q : Nat} (h : J.n2 x (atI x) 0 = (q, 0)) (hd : J.is x q 0 46 = false) : numS x = decide (J.n4 x (q, 0) = (x.size, 0)) := by
  rw [num_from h]
  unfold J.n3
  rw [if_neg (by show ¬ J.is x q 0 46 = true; rw [hd]; decide)]
theorem pow_no {x : ByteArray} {r : Nat} (h1 : J.is x r 0 101 = false) (h2 : J.is x r 0 69 = false) : decide (J.n4 x (r, 0) = (x.size, 0)) = decide (r = x.size) := by
  have e : J.n4 x (r, 0) = (r, 0) := by
    unfold J.n4
    rw [if_neg (by show ¬ (J.is x r 0 101 || J.is x r 0 69) = true; rw [h1, h2]; decide)]
  rw [e]
  exact decide_eq_decide.2 ⟨fun e => congrArg Prod.fst e, fun e => by rw [e]⟩
theorem pow_yes {x : ByteArray} {r : Nat} (h : (J.is x r 0 101 || J.is x r 0 69) = true) : J.n4 x (r, 0) = J.ds x (J.sg x (r + 1) 0) 0 := by
  unfold J.n4
  rw [if_pos h]
theorem pow_none {x : ByteArray} {r : Nat} (h : (J.is x r 0 101 || J.is x r 0 69) = true) (h0 : J.dg x (J.sg x (r + 1) 0) = J.sg x (r + 1) 0) : decide (J.n4 x (r, 0) = (x.size, 0)) = false := by
  rw [pow_yes h, J.ds_none h0]
  exact decide_eq_false (fun h => absurd (congrArg Prod.snd h) (show ¬ (30 : Nat) = 0 by decide))
theorem pow_some {x : ByteArray} {r : Nat} (h : (J.is x r 0 101 || J.is x r 0 69) = true) (h0 : ¬ J.dg x (J.sg x (r + 1) 0) = J.sg x (r + 1) 0) : decide (J.n4 x (r, 0) = (x.size, 0)) = decide (J.dg x (J.sg x (r + 1) 0) = x.size) := by
  rw [pow_yes h, J.ds_some h0]
  exact decide_eq_decide.2 ⟨fun e => congrArg Prod.fst e, fun e => by rw [e]⟩
end Go.Proofs.YtoolkaahjmnjeaaGreatDoor

namespace Go.Proofs.YtoolkaahjmnjeaaGreatDoor
open Go Go.RowKit Go.Lib

set_option maxHeartbeats 1000000 in
set_option maxRecDepth 100000 in
theorem isInteger_any (s : ByteArray) (w : World) (hs : s.size ≤ 140737488355328) :
    Calls Tryz.prog 48 #[.string s] w (BoolB (bothS (ciS s)) w) := by
  have h1 := fun W => cutInteger_any s W hs
  unfold CutIs at *
  generalize ciS s = r at *
  obtain ⟨r1, r2⟩ := r
  have he := empty_beq r1
  unfold bothS
  cases r2
  · go_enter Tryz.func48, Tryz.ntmps48
    go_wp2_with fail
    refine (h1 _).mono ?_
    rintro e w1 ⟨rfl, hB1⟩
    go_wp2_with fail
    go_ret
    exact ⟨rfl, hB1⟩
  · go_enter Tryz.func48, Tryz.ntmps48
    go_wp2_with fail
    refine (h1 _).mono ?_
    rintro e w1 ⟨rfl, hB1⟩
    go_wp2_with fail
    go_ret
    refine ⟨?_, hB1⟩
    show Ending.returned (.bool (decide (r1 = ByteArray.empty))) = _
    rw [empty_dec]
    rfl
end Go.Proofs.YtoolkaahjmnjeaaGreatDoor
