/- A statement that leaves its order open and makes several variables of values: an invariant of what has come up, whatever order. Conditions: none. -/
import Derived.Test.YthglpfmbmmlbjaaDoorRegLate
import Derived.Laws.OwnMore
import Derived.WalkKit
import Derived.Lib.Hide
namespace Go.Proofs.YthglpfmbmmlbjaaDoor
open Go Go.RowKit Go.Lib

section
variable {P : Program} {ops : Array Oper} {Q : Exit → Act → World → Prop} {md : Region.Mode} {S : World → Prop} {zs : List Nat}
theorem count_set {l : List Bool} {i : Nat} (hi : i < l.length) (h : l.getD i true = false) : (l.set i true).count true = l.count true + 1 := by
  induction l generalizing i with
  | nil => cases hi
  | cons b l ih =>
    cases i with
    | zero =>
      have hb : b = false := h
      subst hb
      simp
    | succ j =>
      have := ih (i := j) (Nat.lt_of_succ_lt_succ hi) h
      simp only [List.set_cons_succ, List.count_cons]
      omega
theorem count_all {l : List Bool} (h : l.count true = l.length) (i : Nat) : l.getD i true = true := by
  induction l generalizing i with
  | nil => rfl
  | cons b l ih =>
    have hle := List.count_le_length (a := true) (l := l)
    simp only [List.count_cons, List.length_cons] at h
    cases b with
    | false => simp at h; omega
    | true =>
      simp at h
      cases i with
      | zero => rfl
      | succ j => exact ih h j
theorem getD_list (a : Array Bool) (i : Nat) (d : Bool) : a.getD i d = a.toList.getD i d := by
  rw [Array.getD_eq_getD_getElem?, List.getD_eq_getElem?_getD, Array.getElem?_toList]
/-- every operation but zs goes ahead of zs; each waits for earlier ones alone -/
def allL (md : Region.Mode) (ops : Array Oper) (zs : List Nat) : Bool := (List.range ops.size).all fun i => zs.contains i || allB md ops zs i
def ordB (md : Region.Mode) (ops : Array Oper) : Bool := (List.range ops.size).all fun j => (deps md ops j).all fun k => decide (k < j)
theorem least_ready (ho : ordB md ops = true) {listed : Array Bool} (hs : listed.size = ops.size) : ∀ (n i : Nat), i < n → i < ops.size → listed.getD i true = false → ∃ k, k ∈ Region.ready md ops listed
  | 0, _, h, _, _ => absurd h (Nat.not_lt_zero _)
  | n + 1, i, hi, hlt, hun => by
    by_cases hex : ∃ k, k ∈ deps md ops i ∧ listed.getD k false = false
    · obtain ⟨k, hk, hf⟩ := hex
      have h1 := List.all_eq_true.1 ho i (List.mem_range.2 hlt)
      have h2 : k < i := of_decide_eq_true (List.all_eq_true.1 h1 k hk)
      refine least_ready ho hs n k (by omega) (by omega) ?_
      have hk' : k < listed.size := by omega
      rw [getD_list, List.getD_eq_getElem?_getD, List.getElem?_eq_getElem (by rw [Array.length_toList]; exact hk')] at hf ⊢
      exact hf
    · refine ⟨i, mem_ready.2 ⟨hun, ops[i], Array.getElem?_eq_getElem hlt, fun e he hb => ?_⟩⟩
      cases hc : listed.getD e.on false
      · refine absurd ⟨e.on, ?_, hc⟩ hex
        unfold deps
        rw [Array.getElem?_eq_getElem hlt]
        exact List.mem_map.2 ⟨e, List.mem_filter.2 ⟨Array.mem_toList_iff.2 he, hb⟩, rfl⟩
      · rfl
theorem wpAnyL_inv {I : Array Bool → Act → World → Prop} (hL : allL md ops zs = true) (hO : ordB md ops = true) (hsz : ∀ listed a w, I listed a w → listed.size = ops.size)
    (hun : ∀ listed a w, I listed a w → ∃ z, z < ops.size ∧ listed.getD z true = false)
    (step : ∀ listed a w i o, I listed a w → i ∈ Region.ready md ops listed → zs.contains i = false → ops[i]? = some o →
      ∀ K' : Act → World → Prop, Shut (∀ a' w', S w' → I (listed.setIfInBounds i true) a' w' → K' a' w') → if Region.wanted o (yielded ops a.tmps) = true then Oper.wp P o a w K' Q else K' (a.put o.dst undef) w)
    (fin : ∀ fuel listed a w, I listed a w → fuel + listed.toList.count true = ops.size → (∀ i, i < ops.size → zs.contains i = false → listed.getD i false = true) → wpAnyL P md ops Q S zs fuel listed a w) :
    ∀ (fuel : Nat) (listed : Array Bool) (a : Act) (w : World), Closed md ops listed → I listed a w → fuel + listed.toList.count true = ops.size → wpAnyL P md ops Q S zs fuel listed a w
  | 0, listed, a, w, _, hI, hc => by
    obtain ⟨z, hz, hf⟩ := hun listed a w hI
    have := count_all (l := listed.toList) (by have := hsz listed a w hI; rw [Array.length_toList]; omega) z
    rw [getD_list] at hf
    have hlt : z < listed.toList.length := by rw [Array.length_toList, hsz listed a w hI]; exact hz
    rw [List.getD_eq_getElem?_getD, List.getElem?_eq_getElem hlt] at this hf
    rw [show listed.toList[z] = true from this] at hf
    cases hf
  | fuel + 1, listed, a, w, hC, hI, hc => by
    by_cases hex : ∃ j, j ∈ Region.ready md ops listed ∧ zs.contains j = true
    · obtain ⟨j, hj, hzj⟩ := hex
      refine fin _ listed a w hI hc (fun i hi hzi => late_listed hC ?_ hzj hj)
      have := List.all_eq_true.1 hL i (List.mem_range.2 hi)
      rw [hzi, Bool.false_or] at this
      exact this
    · have hno : ∀ i ∈ Region.ready md ops listed, zs.contains i = false := fun i hi => by
        cases h : zs.contains i
        · rfl
        · exact absurd ⟨i, hi, h⟩ hex
      refine ⟨fun h0 => ?_, fun i hi => ?_⟩
      · obtain ⟨z, hz, hf⟩ := hun listed a w hI
        obtain ⟨k, hk⟩ := least_ready hO (hsz listed a w hI) (z + 1) z (Nat.lt_succ_self _) hz hf
        rw [h0] at hk
        cases hk
      · obtain ⟨hun', o, ho, _⟩ := mem_ready.1 hi
        have hlt : i < listed.toList.length := by
          rw [Array.length_toList, hsz listed a w hI]
          exact (Array.getElem?_eq_some_iff.1 ho).1
        rw [getD_list] at hun'
        refine wpOp_step ho (fun K' hK => step listed a w i o hI hi (hno i hi) ho K' (fun a' w' hS hI' => hK a' w' ⟨fun _ => hS, wpAnyL_inv hL hO hsz hun step fin fuel _ a' w' (closed_set hC hi) hI' ?_⟩))
        rw [Array.toList_setIfInBounds, count_set hlt (by
          rw [List.getD_eq_getElem?_getD, List.getElem?_eq_getElem hlt] at hun' ⊢
          exact hun')]
        omega
theorem wpAnyL_named {fuel : Nat} {listed : Array Bool} {a : Act} {w : World} (h : ∀ A0, A0 = a → wpAnyL P md ops Q S zs fuel listed A0 w) : wpAnyL P md ops Q S zs fuel listed a w := h a rfl
end
def puts (A : Act) : List (Nat × Value) → Act
  | [] => A
  | (t, v) :: r => puts (A.put (some t) v) r
def upd {α : Type} (f : Nat → α) (k : Nat) (v : α) : Nat → α := fun j => if j = k then v else f j
theorem upd_same {α : Type} (f : Nat → α) (k : Nat) (v : α) : upd f k v k = v := if_pos rfl
theorem upd_else {α : Type} (f : Nat → α) (k : Nat) (v : α) {j : Nat} (h : j ≠ k) : upd f k v j = f j := if_neg h
/-- what has come back, so far -/
def rv (c : Nat) (r : Nat → Value) (k : Nat) : Value := if k < c then r k else undef
/-- which boxes are there, so far -/
def pv (x : Nat → Bool) (b : Nat → Nat) (m : Nat) : Value := if x m = true then .pointer (some ⟨b m, 0, none⟩) else undef
end Go.Proofs.YthglpfmbmmlbjaaDoor
