/- A statement that leaves its order open and makes several variables of values: an invariant of what has come up, whatever order. Conditions: none. -/
import Derived.Test.YtagafedkfkmkbaaGreatDoorMO10
import Derived.Test.YtagafedkfkmkbaaGreatDoorMO03
namespace Go.Proofs.YtagafedkfkmkbaaGreatDoor
open Go Go.RowKit Go.Lib

section
variable {P : Program} {ops : Array Oper} {Q : Exit → Act → World → Prop} {md : Region.Mode} {S : World → Prop} {zs : List Nat}
theorem count_set {l : List Bool} {i : Nat} (hi : i < l.length) (h : l.getD i true = false) : (l.set i true).count true = l.count true + 1 := by
  induction l generalizing i with
  | nil => cases hi
  | cons b l ih =>
    cases i with
    | zero =>
      have hb : b = false := h
      subst hb
      simp
    | succ j =>
      have := ih (i := j) (Nat.lt_of_succ_lt_succ hi) h
      simp only [List.set_cons_succ, List.count_cons]
      omega
theorem count_all {l : List Bool} (h : l.count true = l.length) (i : Nat) : l.getD i true = true := by
  induction l generalizing i with
  | nil => rfl
  | cons b l ih =>
    have hle := List.count_le_length (a := true) (l := l)
    simp only [List.count_cons, List.length_cons] at h
    cases b with
    | false => simp at h; omega
    | true =>
      simp at h
      cases i with
      | zero => rfl
      | succ j => exact ih h j
theorem getD_list (a : Array Bool) (i : Nat) (d : Bool) : a.getD i d = a.toList.getD i d := by
  rw [Array.getD_eq_getD_getElem?, List.getD_eq_getElem?_getD, Array.getElem?_toList]
/-- every operation but zs goes ahead of zs; each waits for earlier ones alone -/
def allL (md : Region.Mode) (ops : Array Oper) (zs : List Nat) : Bool := (List.range ops.size).all fun i => zs.contains i || allB md ops zs i
def ordB (md : Region.Mode) (ops : Array Oper) : Bool := (List.range ops.size).all fun j => (deps md ops j).all fun k => decide (k < j)
theorem least_ready (ho : ordB md ops = true) {listed : Array Bool} (hs : listed.size = ops.size) : ∀ (n i : Nat), i < n → i < ops.size → listed.getD i true = false → ∃ k, k ∈ Region.ready md ops listed
  | 0, _, h, _, _ => absurd h (Nat.not_lt_zero _)
  | n + 1, i, hi, hlt, hun => by
    by_cases hex : ∃ k, k ∈ deps md ops i ∧ listed.getD k false = false
    · obtain ⟨k, hk, hf⟩ := hex
      have h1 := List.all_eq_true.1 ho i (List.mem_range.2 hlt)
      have h2 : k < i := of_decide_eq_true (List.all_eq_true.1 h1 k hk)
      refine least_ready ho hs n k (by omega) (by omega) ?_
      have hk' : k < listed.size := by omega
      rw [getD_list, List.getD_eq_getElem?_getD, List.getElem?_eq_getElem (by rw [Array.length_toList]; exact hk')] at hf ⊢
      exact hf
    · refine ⟨i, mem_ready.2 ⟨hun, ops[i], Array.getElem?_eq_getElem hlt, fun e he hb => ?_⟩⟩
      cases hc : listed.getD e.on false
      · refine absurd ⟨e.on, ?_, hc⟩ hex
        unfold deps
        rw [Array.getElem?_eq_getElem hlt]
        exact List.mem_map.2 ⟨e, List.mem_filter.2 ⟨Array.mem_toList_iff.2 he, hb⟩, rfl⟩
      · rfl
theorem wpAnyL_inv {I : Array Bool → Act → World → Prop} (hL : allL md ops zs = true) (hO : ordB md ops = true) (hsz : ∀ listed a w, I listed a w → listed.size = ops.size)
    (hun : ∀ listed a w, I listed a w → ∃ z, z < ops.size ∧ listed.getD z true = false)
    (step : ∀ listed a w i o, I listed a w → i ∈ Region.ready md ops listed → zs.contains i = false → ops[i]? = some o →
      ∀ K' : Act → World → Prop, Shut (∀ a' w', S w' → I (listed.setIfInBounds i true) a' w' → K' a' w') → if Region.wanted o (yielded ops a.tmps) = true then Oper.wp P o a w K' Q else K' (a.put o.dst undef) w)
    (fin : ∀ fuel listed a w, I listed a w → fuel + listed.toList.count true = ops.size → (∀ i, i < ops.size → zs.contains i = false → listed.getD i false = true) → wpAnyL P md ops Q S zs fuel listed a w) :
    ∀ (fuel : Nat) (listed : Array Bool) (a : Act) (w : World), Closed md ops listed → I listed a w → fuel + listed.toList.count true = ops.size → wpAnyL P md ops Q S zs fuel listed a w
  | 0, listed, a, w, _, hI, hc => by
    obtain ⟨z, hz, hf⟩ := hun listed a w hI
    have := count_all (l := listed.toList) (by have := hsz listed a w hI; rw [Array.length_toList]; omega) z
    rw [getD_list] at hf
    have hlt : z < listed.toList.length := by rw [Array.length_toList, hsz listed a w hI]; exact hz
    rw [List.getD_eq_getElem?_getD, List.getElem?_eq_getElem hlt] at this hf
    rw [show listed.toList[z] = true from this] at hf
    cases hf
  | fuel + 1, listed, a, w, hC, hI, hc => by
    by_cases hex : ∃ j, j ∈ Region.ready md ops listed ∧ zs.contains j = true
    · obtain ⟨j, hj, hzj⟩ := hex
      refine fin _ listed a w hI hc (fun i hi hzi => late_listed hC ?_ hzj hj)
      have := List.all_eq_true.1 hL i (List.mem_range.2 hi)
      rw [hzi, Bool.false_or] at this
      exact this
    · have hno : ∀ i ∈ Region.ready md ops listed, zs.contains i = false := fun i hi => by
        cases h : zs.contains i
        · rfl
        · exact absurd ⟨i, hi, h⟩ hex
      refine ⟨fun h0 => ?_, fun i hi => ?_⟩
      · obtain ⟨z, hz, hf⟩ := hun listed a w hI
        obtain ⟨k, hk⟩ := least_ready hO (hsz listed a w hI) (z + 1) z (Nat.lt_succ_self _) hz hf
        rw [h0] at hk
        cases hk
      · obtain ⟨hun', o, ho, _⟩ := mem_ready.1 hi
        have hlt : i < listed.toList.length := by
          rw [Array.length_toList, hsz listed a w hI]
          exact (Array.getElem?_eq_some_iff.1 ho).1
        rw [getD_list] at hun'
        refine wpOp_step ho (fun K' hK => step listed a w i o hI hi (hno i hi) ho K' (fun a' w' hS hI' => hK a' w' ⟨fun _ => hS, wpAnyL_inv hL hO hsz hun step fin fuel _ a' w' (closed_set hC hi) hI' ?_⟩))
        rw [Array.toList_setIfInBounds, count_set hlt (by
          rw [List.getD_eq_getElem?_getD, List.getElem?_eq_getElem hlt] at hun' ⊢
          exact hun')]
        omega
theorem wpAnyL_named {fuel : Nat} {listed : Array Bool} {a : Act} {w : World} (h : ∀ A0, A0 = a → wpAnyL P md ops Q S zs fuel listed A0 w) : wpAnyL P md ops Q S zs fuel listed a w := h a rfl
end
def puts (A : Act) : List (Nat × Value) → Act
  | [] => A
  | (t, v) :: r => puts (A.put (some t) v) r
def upd {α : Type} (f : Nat → α) (k : Nat) (v : α) : Nat → α := fun j => if j = k then v else f j
theorem upd_same {α : Type} (f : Nat → α) (k : Nat) (v : α) : upd f k v k = v := if_pos rfl
theorem upd_else {α : Type} (f : Nat → α) (k : Nat) (v : α) {j : Nat} (h : j ≠ k) : upd f k v j = f j := if_neg h
/-- what has come back, so far -/
def rv (c : Nat) (r : Nat → Value) (k : Nat) : Value := if k < c then r k else undef
/-- which boxes are there, so far -/
def pv (x : Nat → Bool) (b : Nat → Nat) (m : Nat) : Value := if x m = true then .pointer (some ⟨b m, 0, none⟩) else undef
structure C4 where
  k : Value
  x : Value
  v : Value
  u : Value
def C4.zero : C4 := ⟨.int .u8 0, .string ⟨#[]⟩, .slice none 0 0, .slice none 0 0⟩
/-- calls have answered, each in memory of its own; boxes have been made -/
structure BxSt (w0 : World) (N : Nat) (RK : Nat → Value → Nat → Nat → World → Prop) (c : Nat) (x : Nat → Bool) (r : Nat → Value) (b lo hi : Nat → Nat) (ct : Nat → C4) (W : World) : Prop where
  below : Below N w0 W
  base : N ≤ W.heap.size
  res : ∀ k, k < c → RK k (r k) (lo k) (hi k) W ∧ N ≤ lo k ∧ lo k ≤ hi k ∧ hi k ≤ W.heap.size
  ord : ∀ k k', k < k' → k' < c → hi k ≤ lo k'
  box : ∀ m, x m = true → N ≤ b m ∧ Blk4 W (b m) 25 (ct m).k (ct m).x (ct m).v (ct m).u ∧ ∀ k, k < c → b m < lo k ∨ hi k ≤ b m
  dis : ∀ m m', x m = true → x m' = true → m ≠ m' → b m ≠ b m'
theorem BxSt.start {w0 W : World} {N : Nat} {RK : Nat → Value → Nat → Nat → World → Prop} (hB : Below N w0 W) (hN : N ≤ W.heap.size) (r : Nat → Value) (b lo hi : Nat → Nat) (ct : Nat → C4) : BxSt w0 N RK 0 (fun _ => false) r b lo hi ct W :=
  ⟨hB, hN, (fun k h => absurd h (Nat.not_lt_zero k)), (fun _ k' _ h => absurd h (Nat.not_lt_zero k')), (fun _ h => by cases h), (fun _ _ h => by cases h)⟩
def RKeep (RK : Nat → Value → Nat → Nat → World → Prop) : Prop := ∀ k v lo hi W W', RK k v lo hi W → (∀ j, lo ≤ j → j < hi → W'.heap[j]? = W.heap[j]?) → RK k v lo hi W'
theorem BxSt.call {w0 W W1 : World} {N : Nat} {RK : Nat → Value → Nat → Nat → World → Prop} {c : Nat} {x : Nat → Bool} {r : Nat → Value} {b lo hi : Nat → Nat} {ct : Nat → C4} (hk : RKeep RK) (h : BxSt w0 N RK c x r b lo hi ct W) (hB : Below W.heap.size W W1) {v : Value} (hR : RK c v W.heap.size W1.heap.size W1) :
    BxSt w0 N RK (c + 1) x (upd r c v) b (upd lo c W.heap.size) (upd hi c W1.heap.size) ct W1 := by
  refine ⟨h.below.trans (hB.mono h.base), Nat.le_trans h.base hB.size, fun k hk' => ?_, fun k k' h1 h2 => ?_, fun m hm => ?_, h.dis⟩
  · by_cases e : k = c
    · subst e
      rw [upd_same, upd_same, upd_same]
      exact ⟨hR, h.base, hB.size, Nat.le_refl _⟩
    · rw [upd_else _ _ _ e, upd_else _ _ _ e, upd_else _ _ _ e]
      obtain ⟨h1, h2, h3, h4⟩ := h.res k (by omega)
      exact ⟨hk _ _ _ _ _ _ h1 (fun j _ hj => hB.block j (by omega)), h2, h3, Nat.le_trans h4 hB.size⟩
  · have e1 : k ≠ c := by omega
    rw [upd_else _ _ _ e1]
    by_cases e : k' = c
    · subst e
      rw [upd_same]
      exact (h.res k h1).2.2.2
    · rw [upd_else _ _ _ e]
      exact h.ord k k' h1 (by omega)
  · obtain ⟨h1, h2, h3⟩ := h.box m hm
    refine ⟨h1, h2.same (hB.block _ h2.lt), fun k hk' => ?_⟩
    by_cases e : k = c
    · subst e
      rw [upd_same, upd_same]
      exact .inl h2.lt
    · rw [upd_else _ _ _ e, upd_else _ _ _ e]
      exact h3 k (by omega)
theorem BxSt.on {w0 W W1 : World} {N : Nat} {RK : Nat → Value → Nat → Nat → World → Prop} {c : Nat} {x : Nat → Bool} {r : Nat → Value} {b lo hi : Nat → Nat} {ct : Nat → C4} (hk : RKeep RK) (h : BxSt w0 N RK c x r b lo hi ct W) (hB : Below W.heap.size W W1) : BxSt w0 N RK c x r b lo hi ct W1 := by
  refine ⟨h.below.trans (hB.mono h.base), Nat.le_trans h.base hB.size, fun k hk' => ?_, h.ord, fun m hm => ?_, h.dis⟩
  · obtain ⟨h1, h2, h3, h4⟩ := h.res k hk'
    exact ⟨hk _ _ _ _ _ _ h1 (fun j _ hj => hB.block j (by omega)), h2, h3, Nat.le_trans h4 hB.size⟩
  · obtain ⟨h1, h2, h3⟩ := h.box m hm
    exact ⟨h1, h2.same (hB.block _ h2.lt), h3⟩
theorem BxSt.alloc {w0 W : World} {N : Nat} {RK : Nat → Value → Nat → Nat → World → Prop} {c : Nat} {x : Nat → Bool} {r : Nat → Value} {b lo hi : Nat → Nat} {ct : Nat → C4} (hk : RKeep RK) (h : BxSt w0 N RK c x r b lo hi ct W) (m : Nat) :
    BxSt w0 N RK c (upd x m true) r (upd b m W.heap.size) lo hi (upd ct m C4.zero) (W.alloc (.cells #[.int .u8 0, .string ⟨#[]⟩, .slice none 0 0, .slice none 0 0] 25)) := by
  have h' := h.on hk ((Below.refl W.heap.size W).alloc (Nat.le_refl _) (.cells #[.int .u8 0, .string ⟨#[]⟩, .slice none 0 0, .slice none 0 0] 25))
  refine ⟨h'.below, h'.base, h'.res, h'.ord, fun j hj => ?_, fun j j' hj hj' hne => ?_⟩
  · by_cases e : j = m
    · subst e
      rw [upd_same, upd_same]
      exact ⟨h.base, heap_alloc_new _ _, fun k hk' => .inr (h.res k hk').2.2.2⟩
    · rw [upd_else _ _ _ e] at hj
      rw [upd_else _ _ _ e, upd_else _ _ _ e]
      exact h'.box j hj
  · by_cases e : j = m
    · subst e
      have e' : j' ≠ j := fun e => hne e.symm
      rw [upd_else _ _ _ e'] at hj'
      rw [upd_same, upd_else _ _ _ e']
      have := (h.box j' hj').2.1.lt
      omega
    · rw [upd_else _ _ _ e] at hj
      rw [upd_else _ _ _ e]
      by_cases e2 : j' = m
      · subst e2
        rw [upd_same]
        have := (h.box j hj).2.1.lt
        omega
      · rw [upd_else _ _ _ e2] at hj'
        rw [upd_else _ _ _ e2]
        exact h.dis j j' hj hj' hne
theorem BxSt.store {w0 W W1 : World} {N : Nat} {RK : Nat → Value → Nat → Nat → World → Prop} {c : Nat} {x : Nat → Bool} {r : Nat → Value} {b lo hi : Nat → Nat} {ct : Nat → C4} (hk : RKeep RK) (h : BxSt w0 N RK c x r b lo hi ct W) {m : Nat} (hm : x m = true) (d : C4)
    (hn : Blk4 W1 (b m) 25 d.k d.x d.v d.u) (he : ∀ j, j ≠ b m → W1.heap[j]? = W.heap[j]?) (hB : ∀ B, B ≤ b m → Below B W W1) : BxSt w0 N RK c x r b lo hi (upd ct m d) W1 := by
  obtain ⟨b1, b2, b3⟩ := h.box m hm
  have hBN := hB N b1
  refine ⟨h.below.trans hBN, Nat.le_trans h.base hBN.size, fun k hk' => ?_, h.ord, fun j hj => ?_, h.dis⟩
  · obtain ⟨h1, h2, h3, h4⟩ := h.res k hk'
    refine ⟨hk _ _ _ _ _ _ h1 (fun j hj1 hj2 => he j ?_), h2, h3, Nat.le_trans h4 hBN.size⟩
    rcases b3 k hk' with h5 | h5 <;> omega
  · by_cases e : j = m
    · subst e
      rw [upd_same]
      exact ⟨b1, hn, b3⟩
    · rw [upd_else _ _ _ e]
      obtain ⟨h1, h2, h3⟩ := h.box j hj
      exact ⟨h1, h2.same (he _ (h.dis j m hj hm e)), h3⟩
end Go.Proofs.YtagafedkfkmkbaaGreatDoor

namespace Go.Proofs.YtagafedkfkmkbaaGreatDoor
open Go Go.RowKit

/-- so many slots are written, each what is told of its operation -/
def putL : Act → List (Option Nat) → Nat → (Nat → Value) → Act
  | A, [], _, _ => A
  | A, d :: r, k, rr => putL (A.put d (rr k)) r (k + 1) rr
def apartL : List (Option Nat) → Bool
  | [] => true
  | none :: r => apartL r
  | some d :: r => !r.contains (some d) && apartL r
theorem put_put (A : Act) (d : Option Nat) (v v' : Value) : (A.put d v).put d v' = A.put d v' := by
  cases d with
  | none => rfl
  | some d => simp [Act.put, Array.setIfInBounds_setIfInBounds]
theorem put_comm (A : Act) {d d' : Option Nat} (h : d = none ∨ d' = none ∨ d ≠ d') (v v' : Value) : (A.put d v).put d' v' = (A.put d' v').put d v := by
  cases d with
  | none => rfl
  | some d =>
    cases d' with
    | none => rfl
    | some d' =>
      have hne : d ≠ d' := by
        rcases h with h | h | h
        · cases h
        · cases h
        · exact fun e => h (by rw [e])
      simp [Act.put, Array.setIfInBounds_comm _ _ hne]
theorem putL_put : ∀ (l : List (Option Nat)) (A : Act) (k : Nat) (rr : Nat → Value) (d : Option Nat) (v : Value), (d = none ∨ l.contains d = false) → (putL A l k rr).put d v = putL (A.put d v) l k rr
  | [], _, _, _, _, _, _ => rfl
  | d' :: r, A, k, rr, d, v, h => by
    show (putL (A.put d' (rr k)) r (k + 1) rr).put d v = putL ((A.put d v).put d' (rr k)) r (k + 1) rr
    have h' : d = none ∨ (d ≠ d' ∧ r.contains d = false) := by
      rcases h with h | h
      · exact .inl h
      · right
        simpa using h
    rw [putL_put r _ _ _ d v (h'.imp id (·.2)), put_comm A (d := d) (d' := d') (h'.elim .inl (fun h => .inr (.inr h.1)))]
theorem putL_upd_else : ∀ (l : List (Option Nat)) (A : Act) (k : Nat) (rr : Nat → Value) (i : Nat) (v : Value), i < k → putL A l k (upd rr i v) = putL A l k rr
  | [], _, _, _, _, _, _ => rfl
  | d :: r, A, k, rr, i, v, h => by
    show putL (A.put d (upd rr i v k)) r (k + 1) (upd rr i v) = _
    rw [upd_else _ _ _ (by omega), putL_upd_else r _ _ _ _ _ (by omega)]
    rfl
theorem putL_upd : ∀ (l : List (Option Nat)) (A : Act) (k : Nat) (rr : Nat → Value) (i : Nat) (v : Value), apartL l = true → i < l.length → putL A l k (upd rr (k + i) v) = (putL A l k rr).put (l.getD i none) v
  | [], _, _, _, _, _, _, h => by cases h
  | d :: r, A, k, rr, 0, v, ha, _ => by
    show putL (A.put d (upd rr k v k)) r (k + 1) (upd rr k v) = (putL (A.put d (rr k)) r (k + 1) rr).put d v
    rw [upd_same, putL_upd_else _ _ _ _ _ _ (Nat.lt_succ_self _), putL_put r _ _ _ d v ?_, put_put]
    cases d with
    | none => exact .inl rfl
    | some d =>
      right
      have := (Bool.and_eq_true_iff.1 ha).1
      simpa using this
  | d :: r, A, k, rr, i + 1, v, ha, h => by
    show putL (A.put d (upd rr (k + (i + 1)) v k)) r (k + 1) (upd rr (k + (i + 1)) v) = (putL (A.put d (rr k)) r (k + 1) rr).put (r.getD i none) v
    rw [upd_else _ _ _ (by omega), show k + (i + 1) = k + 1 + i by omega]
    refine putL_upd r _ (k + 1) rr i v ?_ (by simpa using h)
    cases d with
    | none => exact ha
    | some d => exact (Bool.and_eq_true_iff.1 ha).2
/-- what stands there already -/
def slotV (A : Act) : Option Nat → Value
  | some t => A.tmps.getD t undef
  | none => undef
theorem put_self (A : Act) (d : Option Nat) : A.put d (slotV A d) = A := by
  cases d with
  | none => rfl
  | some d =>
    cases A with
    | mk tmps defers =>
      simp only [slotV, Act.put, Act.mk.injEq, and_true]
      refine Array.ext_getElem? fun j => ?_
      rw [Array.getElem?_setIfInBounds]
      split
      · rename_i e
        subst e
        split
        · rename_i h
          simp [Array.getElem?_eq_getElem h, Array.getD, h]
        · rename_i h
          simp [Array.getElem?_eq_none (Nat.le_of_not_lt h)]
      · rfl
theorem putL_own : ∀ (l : List (Option Nat)) (A : Act) (k : Nat) (rr : Nat → Value), (∀ i, i < l.length → rr (k + i) = slotV A (l.getD i none)) → putL A l k rr = A
  | [], _, _, _, _ => rfl
  | d :: r, A, k, rr, h => by
    show putL (A.put d (rr k)) r (k + 1) rr = A
    have h0 : rr k = slotV A d := h 0 (Nat.zero_lt_succ _)
    rw [h0, put_self]
    exact putL_own r A (k + 1) rr (fun i hi => by
      have := h (i + 1) (Nat.succ_lt_succ hi)
      rw [show k + 1 + i = k + (i + 1) by omega]
      exact this)

section
variable {P : Program} {ops : Array Oper} {Q : Exit → Act → World → Prop} {md : Region.Mode} {zs : List Nat}

theorem wpAnyL_mono {dl : List (Option Nat)} (A0 : Act) (G : World → Prop) (F : Nat → Value → World → Prop) (hdl : ops.toList.map (·.dst) = dl) (hap : apartL dl = true)
    (hL : allL md ops zs = true) (hO : ordB md ops = true) (hz : ∃ z, z ∈ zs ∧ z < ops.size)
    (hG : ∀ W W', G W → Below W.heap.size W W' → G W') (hF : ∀ i v W W', F i v W → Below W.heap.size W W' → F i v W')
    (step : ∀ i o, ops[i]? = some o → zs.contains i = false → ∀ (rr : Nat → Value) W, G W → (∀ j, j ∈ deps md ops i → zs.contains j = false → F j (rr j) W) →
      ∀ K' : Act → World → Prop, Shut (∀ v W', F i v W' → Below W.heap.size W W' → K' ((putL A0 dl 0 rr).put o.dst v) W') →
        if Region.wanted o (yielded ops (putL A0 dl 0 rr).tmps) = true then Oper.wp P o (putL A0 dl 0 rr) W K' Q else K' ((putL A0 dl 0 rr).put o.dst undef) W)
    (fin : ∀ fuel listed rr W, G W → (∀ j, j < ops.size → zs.contains j = false → F j (rr j) W) → listed.size = ops.size → (∀ j, j < ops.size → listed.getD j false = !zs.contains j) → fuel + listed.toList.count true = ops.size →
      wpAnyL P md ops Q (fun _ => True) zs fuel listed (putL A0 dl 0 rr) W)
    (w : World) (hw : G w) : wpAnyL P md ops Q (fun _ => True) zs ops.size (Array.replicate ops.size false) A0 w := by
  have hlen : dl.length = ops.size := by rw [← hdl, List.length_map, Array.length_toList]
  have hd : ∀ i o, ops[i]? = some o → dl.getD i none = o.dst := fun i o ho => by
    rw [← hdl, List.getD_eq_getElem?_getD, List.getElem?_map, Array.getElem?_toList, ho]
    rfl
  refine wpAnyL_inv (I := fun listed a W => ∃ rr : Nat → Value, a = putL A0 dl 0 rr ∧ G W ∧ listed.size = ops.size ∧ (∀ z, z ∈ zs → z < ops.size → listed.getD z true = false) ∧ ∀ j, j < ops.size → zs.contains j = false → listed.getD j false = true → F j (rr j) W)
    hL hO (fun _ _ _ ⟨_, _, _, h, _⟩ => h) (fun _ _ _ ⟨_, _, _, _, h, _⟩ => by obtain ⟨z, h1, h2⟩ := hz; exact ⟨z, h2, h z h1 h2⟩) ?_ ?_ _ _ _ _ ?_ ?_ ?_
  · rintro listed a W i o ⟨rr, rfl, hg, hs, hzl, hf⟩ hi hzi ho K' hK
    have hlt : i < ops.size := (Array.getElem?_eq_some_iff.1 ho).1
    refine step i o ho hzi rr W hg (fun j hj hzj => ?_) K' (fun v W' hv hB => ?_)
    · have h1 := ready_deps hi j hj
      refine hf j ?_ hzj h1
      rcases Nat.lt_or_ge j ops.size with h | h
      · exact h
      · have : listed.getD j false = false := by simp [Array.getD, show ¬ j < listed.size by omega]
        rw [this] at h1
        cases h1
    · refine hK.out _ _ trivial ⟨upd rr i v, ?_, hG _ _ hg hB, by simpa using hs, fun z hz hzl' => ?_, fun j hj hzj hl => ?_⟩
      · have := putL_upd dl A0 0 rr i v hap (by omega)
        rw [Nat.zero_add, hd i o ho] at this
        exact this.symm
      · have hne : i ≠ z := fun e => by
          subst e
          simp [hz] at hzi
        rw [getD_set_ne true hne]
        exact hzl z hz hzl'
      · by_cases e : j = i
        · subst e
          rw [upd_same]
          exact hv
        · rw [upd_else _ _ _ e]
          rw [getD_set_ne false (Ne.symm e)] at hl
          exact hF _ _ _ _ (hf j hj hzj hl) hB
  · rintro fuel listed a W ⟨rr, rfl, hg, hs, hzl, hf⟩ hfu hall
    refine fin fuel listed rr W hg (fun j hj hzj => hf j hj hzj (hall j hj hzj)) hs (fun j hj => ?_) hfu
    cases hc : zs.contains j with
    | false => exact hall j hj hc
    | true =>
      have := hzl j (by simpa using hc) hj
      rw [Array.getD_eq_getD_getElem?, Array.getElem?_eq_getElem (by omega)] at this ⊢
      exact this
  · intro j hj
    simp [Array.getD] at hj
  · refine ⟨fun j => slotV A0 (dl.getD j none), (putL_own dl A0 0 _ (fun i _ => by rw [Nat.zero_add])).symm, hw, by simp, fun z _ hz => by simp [Array.getD, hz], fun j hj _ hl => by simp [Array.getD] at hl⟩
  · rw [Array.toList_replicate, List.count_replicate]; simp
end
/-- a drawn statement whose last operation waits for all others -/
theorem wp_region_mono {P : Program} {ops : Array Oper} {Q : Exit → Act → World → Prop} {id : Nat} {z : Nat} {oz : Oper} (dl : List (Option Nat)) (A0 : Act) (w : World) (G : World → Prop) (F : Nat → Value → World → Prop) (hm : P.follows .mixedOrders = true) (hdl : ops.toList.map (·.dst) = dl) (hap : apartL dl = true)
    (hL : allL .any ops [z] = true) (hO : ordB .any ops = true) (hoz : ops[z]? = some oz)
    (hG : ∀ W W', G W → Below W.heap.size W W' → G W') (hF : ∀ i v W W', F i v W → Below W.heap.size W W' → F i v W')
    (step : ∀ i o, ops[i]? = some o → i ≠ z → ∀ (rr : Nat → Value) W, G W → (∀ j, j ∈ deps .any ops i → j ≠ z → F j (rr j) W) →
      ∀ K' : Act → World → Prop, Shut (∀ v W', F i v W' → Below W.heap.size W W' → K' ((putL A0 dl 0 rr).put o.dst v) W') →
        if Region.wanted o (yielded ops (putL A0 dl 0 rr).tmps) = true then Oper.wp P o (putL A0 dl 0 rr) W K' Q else K' ((putL A0 dl 0 rr).put o.dst undef) W)
    (fin : ∀ rr W, G W → (∀ j, j < ops.size → j ≠ z → F j (rr j) W) → ∀ K' : Act → World → Prop, Shut (∀ a W', Q .normal a W' → K' a W') →
      if Region.wanted oz (yielded ops (putL A0 dl 0 rr).tmps) = true then Oper.wp P oz (putL A0 dl 0 rr) W K' Q else K' ((putL A0 dl 0 rr).put oz.dst undef) W)
    (hw : G w.drew) : (Code.region id ops true).wp P Q A0 w := by
  have hzlt : z < ops.size := (Array.getElem?_eq_some_iff.1 hoz).1
  have hc : ∀ j : Nat, [z].contains j = decide (j = z) := fun j => by rw [Bool.eq_iff_iff]; simp
  refine wp_region_late (S := fun _ => True) (zs := [z]) hm (wpAnyL_mono (dl := dl) A0 G F hdl hap hL hO ⟨z, by simp, hzlt⟩ hG hF (fun i o ho hz rr W hg hf => step i o ho (fun e => by rw [hc] at hz; simp [e] at hz) rr W hg (fun j hj hne => hf j hj (by rw [hc]; simp [hne]))) ?_ _ hw)
  intro fuel listed rr W hg hf hs hl hfu
  have hlz : listed.getD z false = false := by rw [hl z hzlt, hc]; simp
  have hrd : ∀ j, j ∈ Region.ready .any ops listed → j = z := fun j hj => by
    obtain ⟨hun, o, ho, _⟩ := mem_ready.1 hj
    have hlt := (Array.getElem?_eq_some_iff.1 ho).1
    have h1 := hl j hlt
    rw [hc] at h1
    rcases Decidable.em (j = z) with h | h
    · exact h
    · rw [decide_eq_false h] at h1
      rw [Array.getD_eq_getD_getElem?, Array.getElem?_eq_getElem (by omega)] at h1 hun
      rw [show listed[j] = true from h1] at hun
      cases hun
  have hzr : z ∈ Region.ready .any ops listed := by
    obtain ⟨k, hk⟩ := least_ready hO hs (z + 1) z (Nat.lt_succ_self _) hzlt (by
      rw [Array.getD_eq_getD_getElem?, Array.getElem?_eq_getElem (by omega)] at hlz ⊢
      exact hlz)
    rw [← hrd k hk]
    exact hk
  cases fuel with
  | zero =>
    exfalso
    have h1 := count_all (l := listed.toList) (by rw [Array.length_toList]; omega) z
    rw [getD_list] at hlz
    have hlt : z < listed.toList.length := by rw [Array.length_toList, hs]; exact hzlt
    rw [List.getD_eq_getElem?_getD, List.getElem?_eq_getElem hlt] at h1 hlz
    rw [show listed.toList[z] = true from h1] at hlz
    cases hlz
  | succ fuel =>
    refine ⟨(fun h0 => by rw [h0] at hzr; cases hzr), fun j hj => ?_⟩
    obtain rfl := hrd j hj
    refine wpOp_step hoz (fun K' hK => fin rr W hg (fun i hi hne => hf i hi (by rw [hc]; simp [hne])) K' (fun a W' hQ => hK a W' ⟨fun _ => trivial, wpAnyL_end ?_ hQ⟩))
    cases hr : Region.ready .any ops (listed.setIfInBounds j true) with
    | nil => rfl
    | cons i r =>
      exfalso
      have hi : i ∈ Region.ready .any ops (listed.setIfInBounds j true) := by rw [hr]; exact List.mem_cons_self ..
      obtain ⟨hun, o, ho, _⟩ := mem_ready.1 hi
      have hlt := (Array.getElem?_eq_some_iff.1 ho).1
      by_cases e : i = j
      · subst e
        rw [Array.getD_eq_getD_getElem?] at hun
        simp [show i < listed.size by omega] at hun
      · rw [getD_set_ne true (Ne.symm e)] at hun
        have h1 := hl i hlt
        rw [hc, decide_eq_false e] at h1
        rw [Array.getD_eq_getD_getElem?, Array.getElem?_eq_getElem (by omega)] at h1 hun
        rw [show listed[i] = true from h1] at hun
        cases hun
theorem put_get (A : Act) (d : Option Nat) (v : Value) (t : Nat) (h : d ≠ some t) : (A.put d v).tmps[t]? = A.tmps[t]? := by
  cases d with
  | none => rfl
  | some d =>
    have hne : d ≠ t := fun e => h (by rw [e])
    show (A.tmps.setIfInBounds d v)[t]? = _
    rw [Array.getElem?_setIfInBounds, if_neg hne]
theorem put_size (A : Act) (d : Option Nat) (v : Value) : (A.put d v).tmps.size = A.tmps.size := by
  cases d with
  | none => rfl
  | some d => exact Array.size_setIfInBounds
theorem put_defers (A : Act) (d : Option Nat) (v : Value) : (A.put d v).defers = A.defers := by
  cases d <;> rfl
theorem putL_old : ∀ (l : List (Option Nat)) (A : Act) (k : Nat) (rr : Nat → Value) (t : Nat), l.contains (some t) = false → (putL A l k rr).tmps[t]? = A.tmps[t]?
  | [], _, _, _, _, _ => rfl
  | d :: r, A, k, rr, t, h => by
    have h' : d ≠ some t ∧ r.contains (some t) = false := by
      rw [List.contains_cons, Bool.or_eq_false_iff] at h
      exact ⟨fun e => by rw [e] at h; simp at h, h.2⟩
    show (putL (A.put d (rr k)) r (k + 1) rr).tmps[t]? = _
    rw [putL_old r _ _ _ t h'.2, put_get _ _ _ _ h'.1]
theorem putL_new : ∀ (l : List (Option Nat)) (A : Act) (k : Nat) (rr : Nat → Value) (i t : Nat), apartL l = true → l.getD i none = some t → t < A.tmps.size → (putL A l k rr).tmps[t]? = some (rr (k + i))
  | [], _, _, _, _, _, _, h, _ => by simp at h
  | d :: r, A, k, rr, 0, t, ha, h, ht => by
    have h : d = some t := h
    subst h
    have := (Bool.and_eq_true_iff.1 ha).1
    show (putL (A.put (some t) (rr k)) r (k + 1) rr).tmps[t]? = _
    rw [putL_old r _ _ _ t (by simpa using this)]
    show (A.tmps.setIfInBounds t (rr k))[t]? = _
    rw [Array.getElem?_setIfInBounds, if_pos rfl, if_pos ht]
    rfl
  | d :: r, A, k, rr, i + 1, t, ha, h, ht => by
    show (putL (A.put d (rr k)) r (k + 1) rr).tmps[t]? = some (rr (k + (i + 1)))
    rw [show k + (i + 1) = k + 1 + i by omega]
    refine putL_new r _ (k + 1) rr i t ?_ h (by rw [put_size]; exact ht)
    cases d with
    | none => exact ha
    | some d => exact (Bool.and_eq_true_iff.1 ha).2
/-- .. each step over a frame of which only what it reads is known -/
theorem wp_region_steps {P : Program} {ops : Array Oper} {Q : Exit → Act → World → Prop} {id : Nat} {z : Nat} {oz : Oper} (dl : List (Option Nat)) (A0 : Act) (w : World) (G : World → Prop) (F : Nat → Value → World → Prop) (hm : P.follows .mixedOrders = true) (hdl : ops.toList.map (·.dst) = dl) (hap : apartL dl = true)
    (hsz : (dl.all fun d => match d with | some t => decide (t < A0.tmps.size) | none => true) = true)
    (hL : allL .any ops [z] = true) (hO : ordB .any ops = true) (hoz : ops[z]? = some oz)
    (hG : ∀ W W', G W → Below W.heap.size W W' → G W') (hF : ∀ i v W W', F i v W → Below W.heap.size W W' → F i v W')
    (step : ∀ i o, ops[i]? = some o → i ≠ z → ∀ (a : Act) W, G W → (∀ j t, dl.getD j none = some t → (deps .any ops i).contains j = true → j ≠ z → ∃ v, a.tmps[t]? = some v ∧ F j v W) → (∀ t, dl.contains (some t) = false → a.tmps[t]? = A0.tmps[t]?) →
      ∀ K' : Act → World → Prop, Shut (∀ v W', F i v W' → Below W.heap.size W W' → K' (a.put o.dst v) W') →
        if Region.wanted o (yielded ops a.tmps) = true then Oper.wp P o a W K' Q else K' (a.put o.dst undef) W)
    (fin : ∀ rr W, G W → (∀ j, j < ops.size → j ≠ z → F j (rr j) W) → ∀ K' : Act → World → Prop, Shut (∀ a W', Q .normal a W' → K' a W') →
      if Region.wanted oz (yielded ops (putL A0 dl 0 rr).tmps) = true then Oper.wp P oz (putL A0 dl 0 rr) W K' Q else K' ((putL A0 dl 0 rr).put oz.dst undef) W)
    (hw : G w.drew) : (Code.region id ops true).wp P Q A0 w :=
  wp_region_mono dl A0 w G F hm hdl hap hL hO hoz hG hF (fun i o ho hz rr W hg hf K' hK => step i o ho hz (putL A0 dl 0 rr) W hg (fun j t hj hd hjz => ⟨rr j, by
    have h1 := putL_new dl A0 0 rr j t hap hj (by
      have h2 := List.all_eq_true.1 hsz (some t) (by
        rw [List.getD_eq_getElem?_getD] at hj
        cases h3 : dl[j]? with
        | none => rw [h3] at hj; cases hj
        | some d =>
          rw [h3] at hj
          cases hj
          exact List.mem_of_getElem? h3)
      exact of_decide_eq_true h2)
    rw [Nat.zero_add] at h1
    exact h1, hf j (by simpa using hd) hjz⟩) (fun t ht => putL_old dl A0 0 rr t ht) K' hK) fin hw
end Go.Proofs.YtagafedkfkmkbaaGreatDoor
