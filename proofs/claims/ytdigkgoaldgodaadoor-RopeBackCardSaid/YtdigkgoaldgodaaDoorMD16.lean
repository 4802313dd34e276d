/- A statement that leaves its order open: some of its operations wait for those that are taken first, and behind these alone a condition on the world need not hold. Conditions: none. -/
import Derived.Test.YtdigkgoaldgodaaDoorMD15
import Derived.Laws.OwnMore
import Derived.WalkKit
import Derived.Lib.Hide
namespace Go.Proofs.YtdigkgoaldgodaaDoor
open Go

section
variable {P : Program} {ops : Array Oper} {Q : Exit → Act → World → Prop} {md : Region.Mode} {S : World → Prop} {zs : List Nat}

/-- all of these wait for i -/
def allB (md : Region.Mode) (ops : Array Oper) (zs : List Nat) (i : Nat) : Bool := zs.all fun z => (close md ops ops.size (deps md ops z)).contains i
theorem late_listed {listed : Array Bool} (hc : Closed md ops listed) {i j : Nat} (hl : allB md ops zs i = true) (hj : zs.contains j = true) (hr : j ∈ Region.ready md ops listed) : listed.getD i false = true := by
  have h := List.all_eq_true.1 hl j (by simpa using hj)
  exact close_listed hc _ _ (ready_deps hr) i (by simpa using h)
/-- whatever order is picked: S holds behind every operation but zs -/
def wpAnyL (P : Program) (md : Region.Mode) (ops : Array Oper) (Q : Exit → Act → World → Prop) (S : World → Prop) (zs : List Nat) : Nat → Array Bool → Act → World → Prop
  | 0, listed, a, w => Region.ready md ops listed = [] ∧ Q .normal a w
  | fuel + 1, listed, a, w =>
    (Region.ready md ops listed = [] → Q .normal a w) ∧
    ∀ i ∈ Region.ready md ops listed, wpOp P ops Q i (fun a' w' => (zs.contains i = false → S w') ∧ wpAnyL P md ops Q S zs fuel (listed.setIfInBounds i true) a' w') a w
theorem wpAny_of_L : ∀ (fuel : Nat) (listed : Array Bool) (a : Act) (w : World), wpAnyL P md ops Q S zs fuel listed a w → wpAny P md ops Q fuel listed a w
  | 0, _, _, _, h => h
  | fuel + 1, _, _, _, h => ⟨h.1, fun i hi => wpOp_mono (fun a' w' h' => wpAny_of_L fuel _ a' w' h'.2) (h.2 i hi)⟩
theorem wpAnyL_first {i : Nat} {oi : Oper} {v : Value} (hi : ops[i]? = some oi) (hsel : ∀ (j : Nat) (o : Oper) cs b, ops[j]? = some o → o.op ≠ .select cs b)
    (hQ : ∀ c a w, Q (.panic c) (a.put oi.dst v) w → Q (.panic c) a w) (hl : allB md ops zs i = true) :
    ∀ (fuel : Nat) (listed : Array Bool) (a : Act) (w : World),
      (∀ j oj, ops[j]? = some oj → j ≠ i → listed.getD j true = false → (∀ e ∈ oj.after, Region.binds md e = true → e.on ≠ i) → oi.apart ops oj = true) →
      i ∈ Region.ready md ops listed → YieldsIf P ops S oi v a → S w → Closed md ops listed →
      wpAnyL P md ops Q S zs fuel (listed.setIfInBounds i true) (a.put oi.dst v) w → wpAnyL P md ops Q S zs (fuel + 1) listed a w := by
  intro fuel
  induction fuel with
  | zero =>
    intro listed a w _ hr hy hS _ H
    refine ⟨fun h => (by rw [h] at hr; cases hr), fun j hj => ?_⟩
    by_cases hji : j = i
    · subst hji; exact hy.wpOp hi hS ⟨fun _ => hS, H⟩
    · have := ready_mono hj hji
      rw [H.1] at this
      cases this
  | succ fuel ih =>
    intro listed a w hfree hr hy hS hc H
    refine ⟨fun h => (by rw [h] at hr; cases hr), fun j hj => ?_⟩
    by_cases hji : j = i
    · subst hji; exact hy.wpOp hi hS ⟨fun _ => hS, H⟩
    · have h1 := H.2 j (ready_mono hj hji)
      obtain ⟨hjun, oj, hoj, hall⟩ := mem_ready.1 hj
      have hilt : i < ops.size := (Array.getElem?_eq_some_iff.1 hi).1
      have hun := (mem_ready.1 hr).1
      have hnl : listed.getD i false = false := by
        rcases Nat.lt_or_ge i listed.size with h' | h'
        · simp [h'] at hun ⊢; exact hun
        · simp [Array.getElem?_eq_none h'] at hun
      have hjz : zs.contains j = false := by
        cases hz : zs.contains j
        · rfl
        · have := late_listed hc hl hz hj
          rw [hnl] at this
          cases this
      have hnot : ∀ e ∈ oj.after, Region.binds md e = true → e.on ≠ i := fun e he hb heq => by
        have h1 := hall e he hb
        rw [heq, hnl] at h1
        cases h1
      have h2 := wpOp_putIf hoj (hfree j oj hoj hji hjun hnot) (fun cs b => hsel i oi cs b hi) (fun cs b => hsel j oj cs b hoj) hQ hy h1
      have hfree' : ∀ k ok, ops[k]? = some ok → k ≠ i → (listed.setIfInBounds j true).getD k true = false →
          (∀ e ∈ ok.after, Region.binds md e = true → e.on ≠ i) → oi.apart ops ok = true := fun k ok hk hki hun hno => by
        refine hfree k ok hk hki ?_ hno
        by_cases hjk : j = k
        · subst hjk; exact hjun
        · rw [getD_set_ne true hjk] at hun; exact hun
      refine wpOp_mono (fun a' w' h3 => ⟨fun _ => h3.2.1 hjz, ih (listed.setIfInBounds j true) a' w' hfree' (ready_mono hr (Ne.symm hji)) h3.1 (h3.2.1 hjz) (closed_set hc hj) ?_⟩) h2
      rw [Array.setIfInBounds_comm _ _ hji]
      exact h3.2.2
/-- the beginning -/
theorem wp_region_late {id : Nat} {a : Act} {w : World} (hm : P.follows .mixedOrders = true)
    (h : wpAnyL P .any ops Q S zs ops.size (Array.replicate ops.size false) a w.drew) : (Code.region id ops true).wp P Q a w :=
  wp_region_any hm (wpAny_of_L _ _ _ _ h)
/-- an operation that yields its value in every world that meets S is taken first -/
theorem wpAnyL_take (i : Nat) {oi : Oper} {v : Value} {fuel : Nat} {listed : Array Bool} {a : Act} {w : World} (hi : ops[i]? = some oi)
    (hs : Region.noSelect ops = true) (hf : Region.free md ops listed i = true) (hr : (Region.ready md ops listed).contains i = true)
    (hQ : ∀ c a w, Q (.panic c) (a.put oi.dst v) w → Q (.panic c) a w) (hl : allB md ops zs i = true) (hc : closedB md ops listed = true) (hS : S w)
    (hw : Region.wanted oi (yielded ops a.tmps) = true) (hy : ∀ w, S w → (execOp a.eval oi).run P w = .ok (.value v) w)
    (h : wpAnyL P md ops Q S zs fuel (listed.setIfInBounds i true) (a.put oi.dst v) w) : wpAnyL P md ops Q S zs (fuel + 1) listed a w :=
  wpAnyL_first hi (Region.noSelect_spec hs) hQ hl fuel listed a w (Region.free_spec hi hf) (by simpa using hr) (.inl ⟨hw, hy⟩) hS (closed_of hc) h
/-- one operation, carried out: what is to be shown of it -/
def OneL (P : Program) (md : Region.Mode) (ops : Array Oper) (Q : Exit → Act → World → Prop) (S : World → Prop) (zs : List Nat) (fuel : Nat) (listed : Array Bool) (i : Nat) (o : Oper) (a : Act) (w : World) : Prop :=
  ∀ K' : Act → World → Prop, Shut (∀ a w, (zs.contains i = false → S w) → wpAnyL P md ops Q S zs fuel (listed.setIfInBounds i true) a w → K' a w) → if Region.wanted o (yielded ops a.tmps) = true then Oper.wp P o a w K' Q else K' (a.put o.dst undef) w
theorem OneL.wp {fuel : Nat} {listed : Array Bool} {i : Nat} {o : Oper} {a : Act} {w : World} (ho : ops[i]? = some o) (h : OneL P md ops Q S zs fuel listed i o a w) :
    wpOp P ops Q i (fun a' w' => (zs.contains i = false → S w') ∧ wpAnyL P md ops Q S zs fuel (listed.setIfInBounds i true) a' w') a w :=
  wpOp_step ho (fun K' hK => h K' (fun a w hS hW => hK a w ⟨hS, hW⟩))
/-- the one operation that may come up is carried out -/
theorem wpAnyL_op (i : Nat) {o : Oper} {fuel : Nat} {listed : Array Bool} {a : Act} {w : World} (hr : Region.ready md ops listed = [i]) (ho : ops[i]? = some o)
    (h : OneL P md ops Q S zs fuel listed i o a w) : wpAnyL P md ops Q S zs (fuel + 1) listed a w :=
  ⟨(fun h0 => by rw [hr] at h0; cases h0), fun j hj => by
    rw [hr] at hj
    obtain rfl := List.mem_singleton.1 hj
    exact h.wp ho⟩
/-- either of two may come up -/
theorem wpAnyL_two (i j : Nat) {o o' : Oper} {fuel : Nat} {listed : Array Bool} {a : Act} {w : World} (hr : Region.ready md ops listed = [i, j]) (ho : ops[i]? = some o) (ho' : ops[j]? = some o')
    (h : OneL P md ops Q S zs fuel listed i o a w) (h' : OneL P md ops Q S zs fuel listed j o' a w) : wpAnyL P md ops Q S zs (fuel + 1) listed a w :=
  ⟨(fun h0 => by rw [hr] at h0; cases h0), fun k hk => by
    rw [hr] at hk
    rcases List.mem_cons.1 hk with rfl | hk
    · exact h.wp ho
    · obtain rfl := List.mem_singleton.1 hk
      exact h'.wp ho'⟩
/-- none is left -/
theorem wpAnyL_end {fuel : Nat} {listed : Array Bool} {a : Act} {w : World} (hr : Region.ready md ops listed = []) (h : Q .normal a w) : wpAnyL P md ops Q S zs fuel listed a w := by
  cases fuel with
  | zero => exact ⟨hr, h⟩
  | succ f => exact ⟨fun _ => h, by rw [hr]; simp⟩
end
end Go.Proofs.YtdigkgoaldgodaaDoor

namespace Go.Proofs.YtdigkgoaldgodaaDoor
open Go Go.RowKit Go.Lib

section
variable {P : Program} {ops : Array Oper} {Q : Exit → Act → World → Prop} {md : Region.Mode} {S : World → Prop} {zs : List Nat}
theorem count_set {l : List Bool} {i : Nat} (hi : i < l.length) (h : l.getD i true = false) : (l.set i true).count true = l.count true + 1 := by
  induction l generalizing i with
  | nil => cases hi
  | cons b l ih =>
    cases i with
    | zero =>
      have hb : b = false := h
      subst hb
      simp
    | succ j =>
      have := ih (i := j) (Nat.lt_of_succ_lt_succ hi) h
      simp only [List.set_cons_succ, List.count_cons]
      omega
theorem count_all {l : List Bool} (h : l.count true = l.length) (i : Nat) : l.getD i true = true := by
  induction l generalizing i with
  | nil => rfl
  | cons b l ih =>
    have hle := List.count_le_length (a := true) (l := l)
    simp only [List.count_cons, List.length_cons] at h
    cases b with
    | false => simp at h; omega
    | true =>
      simp at h
      cases i with
      | zero => rfl
      | succ j => exact ih h j
theorem getD_list (a : Array Bool) (i : Nat) (d : Bool) : a.getD i d = a.toList.getD i d := by
  rw [Array.getD_eq_getD_getElem?, List.getD_eq_getElem?_getD, Array.getElem?_toList]
/-- every operation but zs goes ahead of zs; each waits for earlier ones alone -/
def allL (md : Region.Mode) (ops : Array Oper) (zs : List Nat) : Bool := (List.range ops.size).all fun i => zs.contains i || allB md ops zs i
def ordB (md : Region.Mode) (ops : Array Oper) : Bool := (List.range ops.size).all fun j => (deps md ops j).all fun k => decide (k < j)
theorem least_ready (ho : ordB md ops = true) {listed : Array Bool} (hs : listed.size = ops.size) : ∀ (n i : Nat), i < n → i < ops.size → listed.getD i true = false → ∃ k, k ∈ Region.ready md ops listed
  | 0, _, h, _, _ => absurd h (Nat.not_lt_zero _)
  | n + 1, i, hi, hlt, hun => by
    by_cases hex : ∃ k, k ∈ deps md ops i ∧ listed.getD k false = false
    · obtain ⟨k, hk, hf⟩ := hex
      have h1 := List.all_eq_true.1 ho i (List.mem_range.2 hlt)
      have h2 : k < i := of_decide_eq_true (List.all_eq_true.1 h1 k hk)
      refine least_ready ho hs n k (by omega) (by omega) ?_
      have hk' : k < listed.size := by omega
      rw [getD_list, List.getD_eq_getElem?_getD, List.getElem?_eq_getElem (by rw [Array.length_toList]; exact hk')] at hf ⊢
      exact hf
    · refine ⟨i, mem_ready.2 ⟨hun, ops[i], Array.getElem?_eq_getElem hlt, fun e he hb => ?_⟩⟩
      cases hc : listed.getD e.on false
      · refine absurd ⟨e.on, ?_, hc⟩ hex
        unfold deps
        rw [Array.getElem?_eq_getElem hlt]
        exact List.mem_map.2 ⟨e, List.mem_filter.2 ⟨Array.mem_toList_iff.2 he, hb⟩, rfl⟩
      · rfl
theorem wpAnyL_inv {I : Array Bool → Act → World → Prop} (hL : allL md ops zs = true) (hO : ordB md ops = true) (hsz : ∀ listed a w, I listed a w → listed.size = ops.size)
    (hun : ∀ listed a w, I listed a w → ∃ z, z < ops.size ∧ listed.getD z true = false)
    (step : ∀ listed a w i o, I listed a w → i ∈ Region.ready md ops listed → zs.contains i = false → ops[i]? = some o →
      ∀ K' : Act → World → Prop, Shut (∀ a' w', S w' → I (listed.setIfInBounds i true) a' w' → K' a' w') → if Region.wanted o (yielded ops a.tmps) = true then Oper.wp P o a w K' Q else K' (a.put o.dst undef) w)
    (fin : ∀ fuel listed a w, I listed a w → fuel + listed.toList.count true = ops.size → (∀ i, i < ops.size → zs.contains i = false → listed.getD i false = true) → wpAnyL P md ops Q S zs fuel listed a w) :
    ∀ (fuel : Nat) (listed : Array Bool) (a : Act) (w : World), Closed md ops listed → I listed a w → fuel + listed.toList.count true = ops.size → wpAnyL P md ops Q S zs fuel listed a w
  | 0, listed, a, w, _, hI, hc => by
    obtain ⟨z, hz, hf⟩ := hun listed a w hI
    have := count_all (l := listed.toList) (by have := hsz listed a w hI; rw [Array.length_toList]; omega) z
    rw [getD_list] at hf
    have hlt : z < listed.toList.length := by rw [Array.length_toList, hsz listed a w hI]; exact hz
    rw [List.getD_eq_getElem?_getD, List.getElem?_eq_getElem hlt] at this hf
    rw [show listed.toList[z] = true from this] at hf
    cases hf
  | fuel + 1, listed, a, w, hC, hI, hc => by
    by_cases hex : ∃ j, j ∈ Region.ready md ops listed ∧ zs.contains j = true
    · obtain ⟨j, hj, hzj⟩ := hex
      refine fin _ listed a w hI hc (fun i hi hzi => late_listed hC ?_ hzj hj)
      have := List.all_eq_true.1 hL i (List.mem_range.2 hi)
      rw [hzi, Bool.false_or] at this
      exact this
    · have hno : ∀ i ∈ Region.ready md ops listed, zs.contains i = false := fun i hi => by
        cases h : zs.contains i
        · rfl
        · exact absurd ⟨i, hi, h⟩ hex
      refine ⟨fun h0 => ?_, fun i hi => ?_⟩
      · obtain ⟨z, hz, hf⟩ := hun listed a w hI
        obtain ⟨k, hk⟩ := least_ready hO (hsz listed a w hI) (z + 1) z (Nat.lt_succ_self _) hz hf
        rw [h0] at hk
        cases hk
      · obtain ⟨hun', o, ho, _⟩ := mem_ready.1 hi
        have hlt : i < listed.toList.length := by
          rw [Array.length_toList, hsz listed a w hI]
          exact (Array.getElem?_eq_some_iff.1 ho).1
        rw [getD_list] at hun'
        refine wpOp_step ho (fun K' hK => step listed a w i o hI hi (hno i hi) ho K' (fun a' w' hS hI' => hK a' w' ⟨fun _ => hS, wpAnyL_inv hL hO hsz hun step fin fuel _ a' w' (closed_set hC hi) hI' ?_⟩))
        rw [Array.toList_setIfInBounds, count_set hlt (by
          rw [List.getD_eq_getElem?_getD, List.getElem?_eq_getElem hlt] at hun' ⊢
          exact hun')]
        omega
theorem wpAnyL_named {fuel : Nat} {listed : Array Bool} {a : Act} {w : World} (h : ∀ A0, A0 = a → wpAnyL P md ops Q S zs fuel listed A0 w) : wpAnyL P md ops Q S zs fuel listed a w := h a rfl
end
def puts (A : Act) : List (Nat × Value) → Act
  | [] => A
  | (t, v) :: r => puts (A.put (some t) v) r
def upd {α : Type} (f : Nat → α) (k : Nat) (v : α) : Nat → α := fun j => if j = k then v else f j
theorem upd_same {α : Type} (f : Nat → α) (k : Nat) (v : α) : upd f k v k = v := if_pos rfl
theorem upd_else {α : Type} (f : Nat → α) (k : Nat) (v : α) {j : Nat} (h : j ≠ k) : upd f k v j = f j := if_neg h
/-- what has come back, so far -/
def rv (c : Nat) (r : Nat → Value) (k : Nat) : Value := if k < c then r k else undef
/-- which boxes are there, so far -/
def pv (x : Nat → Bool) (b : Nat → Nat) (m : Nat) : Value := if x m = true then .pointer (some ⟨b m, 0, none⟩) else undef
end Go.Proofs.YtdigkgoaldgodaaDoor
