/- A statement that leaves its order open, whose last operation waits for all others: a condition on the world is to hold behind every operation but that last one. Conditions: none. -/
import Derived.Deep.RegionHeld3
import Derived.KernelRfl
import Derived.Laws.OwnMore
import Derived.WalkKit
import Derived.Lib.Hide
namespace Go.Proofs.Ytglanajglhneeaa
open Go

section
variable {P : Program} {ops : Array Oper} {Q : Exit → Act → World → Prop} {md : Region.Mode} {S : World → Prop} {z : Nat}

/-- whoever an operation waits for -/
def deps (md : Region.Mode) (ops : Array Oper) (j : Nat) : List Nat :=
  match ops[j]? with
  | some o => (o.after.toList.filter (Region.binds md)).map (·.on)
  | none => []
def addNew (acc : List Nat) (k : Nat) : List Nat := if acc.contains k then acc else acc ++ [k]
def close (md : Region.Mode) (ops : Array Oper) : Nat → List Nat → List Nat
  | 0, l => l
  | f + 1, l => close md ops f ((l.flatMap (deps md ops)).foldl addNew l)
/-- operation z waits for all others -/
def lastB (md : Region.Mode) (ops : Array Oper) (z : Nat) : Bool := (List.range ops.size).all fun j => decide (j = z) || (close md ops ops.size (deps md ops z)).contains j
/-- whoever has come up has waited -/
def closedB (md : Region.Mode) (ops : Array Oper) (listed : Array Bool) : Bool := (List.range ops.size).all fun j => !(listed.getD j false) || (deps md ops j).all fun k => listed.getD k false
def Closed (md : Region.Mode) (ops : Array Oper) (listed : Array Bool) : Prop := ∀ j, listed.getD j false = true → ∀ k ∈ deps md ops j, listed.getD k false = true
theorem closed_of {listed : Array Bool} (h : closedB md ops listed = true) : Closed md ops listed := fun j hj k hk => by
  by_cases hlt : j < ops.size
  · have := List.all_eq_true.1 h j (List.mem_range.2 hlt)
    rw [hj, Bool.not_true, Bool.false_or] at this
    exact List.all_eq_true.1 this k hk
  · unfold deps at hk
    rw [Array.getElem?_eq_none (by omega)] at hk
    cases hk
theorem mem_addNew {acc : List Nat} {k x : Nat} (h : x ∈ addNew acc k) : x ∈ acc ∨ x = k := by
  unfold addNew at h
  split at h
  · exact .inl h
  · rcases List.mem_append.1 h with h | h
    · exact .inl h
    · exact .inr (List.mem_singleton.1 h)
theorem mem_foldl_add (ks : List Nat) : ∀ {acc : List Nat} {x : Nat}, x ∈ ks.foldl addNew acc → x ∈ acc ∨ x ∈ ks := by
  induction ks with
  | nil => intro acc x h; exact .inl h
  | cons k ks ih =>
    intro acc x h
    rcases ih h with h | h
    · rcases mem_addNew h with h | h
      · exact .inl h
      · exact .inr (by rw [h]; exact List.mem_cons_self)
    · exact .inr (List.mem_cons_of_mem _ h)
theorem close_listed {listed : Array Bool} (hc : Closed md ops listed) (f : Nat) : ∀ (l : List Nat), (∀ k ∈ l, listed.getD k false = true) → ∀ k ∈ close md ops f l, listed.getD k false = true := by
  induction f with
  | zero => intro l h k hk; exact h k hk
  | succ f ih =>
    intro l h k hk
    refine ih _ (fun x hx => ?_) k hk
    rcases mem_foldl_add _ hx with hx | hx
    · exact h x hx
    · obtain ⟨j, hj, hxj⟩ := List.mem_flatMap.1 hx
      exact hc j (h j hj) x hxj
theorem ready_deps {j : Nat} {listed : Array Bool} (h : j ∈ Region.ready md ops listed) : ∀ k ∈ deps md ops j, listed.getD k false = true := fun k hk => by
  obtain ⟨_, o, ho, hall⟩ := mem_ready.1 h
  unfold deps at hk
  rw [ho] at hk
  obtain ⟨e, he, rfl⟩ := List.mem_map.1 hk
  obtain ⟨he1, he2⟩ := List.mem_filter.1 he
  exact hall e (Array.mem_toList_iff.1 he1) he2
theorem last_listed {listed : Array Bool} (hc : Closed md ops listed) (hl : lastB md ops z = true) (hz : z ∈ Region.ready md ops listed) {j : Nat} (hj : j < ops.size) (hne : j ≠ z) : listed.getD j false = true := by
  have h := List.all_eq_true.1 hl j (List.mem_range.2 hj)
  rw [Bool.or_eq_true] at h
  rcases h with h | h
  · exact absurd (of_decide_eq_true h) hne
  · exact close_listed hc _ _ (ready_deps hz) j (by simpa using h)
theorem closed_set {j : Nat} {listed : Array Bool} (hc : Closed md ops listed) (hj : j ∈ Region.ready md ops listed) : Closed md ops (listed.setIfInBounds j true) := fun i hi k hk => by
  by_cases hij : j = i
  · subst hij; exact getD_set_true (ready_deps hj k hk)
  · rw [getD_set_ne false hij] at hi
    exact getD_set_true (hc i hi k hk)

/-- whatever order is picked: S holds behind every operation but z -/
def wpAnyZ (P : Program) (md : Region.Mode) (ops : Array Oper) (Q : Exit → Act → World → Prop) (S : World → Prop) (z : Nat) : Nat → Array Bool → Act → World → Prop
  | 0, listed, a, w => Region.ready md ops listed = [] ∧ Q .normal a w
  | fuel + 1, listed, a, w =>
    (Region.ready md ops listed = [] → Q .normal a w) ∧
    ∀ i ∈ Region.ready md ops listed, wpOp P ops Q i (fun a' w' => (i ≠ z → S w') ∧ wpAnyZ P md ops Q S z fuel (listed.setIfInBounds i true) a' w') a w
theorem wpAny_of_Z : ∀ (fuel : Nat) (listed : Array Bool) (a : Act) (w : World), wpAnyZ P md ops Q S z fuel listed a w → wpAny P md ops Q fuel listed a w
  | 0, _, _, _, h => h
  | fuel + 1, _, _, _, h => ⟨h.1, fun i hi => wpOp_mono (fun a' w' h' => wpAny_of_Z fuel _ a' w' h'.2) (h.2 i hi)⟩
theorem wpAnyZ_first {i : Nat} {oi : Oper} {v : Value} (hi : ops[i]? = some oi) (hsel : ∀ (j : Nat) (o : Oper) cs b, ops[j]? = some o → o.op ≠ .select cs b)
    (hQ : ∀ c a w, Q (.panic c) (a.put oi.dst v) w → Q (.panic c) a w) (hl : lastB md ops z = true) (hne : i ≠ z) :
    ∀ (fuel : Nat) (listed : Array Bool) (a : Act) (w : World),
      (∀ j oj, ops[j]? = some oj → j ≠ i → listed.getD j true = false → (∀ e ∈ oj.after, Region.binds md e = true → e.on ≠ i) → oi.apart ops oj = true) →
      i ∈ Region.ready md ops listed → YieldsIf P ops S oi v a → S w → Closed md ops listed →
      wpAnyZ P md ops Q S z fuel (listed.setIfInBounds i true) (a.put oi.dst v) w → wpAnyZ P md ops Q S z (fuel + 1) listed a w := by
  intro fuel
  induction fuel with
  | zero =>
    intro listed a w _ hr hy hS _ H
    refine ⟨fun h => (by rw [h] at hr; cases hr), fun j hj => ?_⟩
    by_cases hji : j = i
    · subst hji; exact hy.wpOp hi hS ⟨fun _ => hS, H⟩
    · have := ready_mono hj hji
      rw [H.1] at this
      cases this
  | succ fuel ih =>
    intro listed a w hfree hr hy hS hc H
    refine ⟨fun h => (by rw [h] at hr; cases hr), fun j hj => ?_⟩
    by_cases hji : j = i
    · subst hji; exact hy.wpOp hi hS ⟨fun _ => hS, H⟩
    · have h1 := H.2 j (ready_mono hj hji)
      obtain ⟨hjun, oj, hoj, hall⟩ := mem_ready.1 hj
      have hilt : i < ops.size := (Array.getElem?_eq_some_iff.1 hi).1
      have hun := (mem_ready.1 hr).1
      have hnl : listed.getD i false = false := by
        rcases Nat.lt_or_ge i listed.size with h' | h'
        · simp [h'] at hun ⊢; exact hun
        · simp [Array.getElem?_eq_none h'] at hun
      have hjz : j ≠ z := fun e => by
        subst e
        have := last_listed hc hl hj hilt hne
        rw [hnl] at this
        cases this
      have hnot : ∀ e ∈ oj.after, Region.binds md e = true → e.on ≠ i := fun e he hb heq => by
        have h1 := hall e he hb
        rw [heq, hnl] at h1
        cases h1
      have h2 := wpOp_putIf hoj (hfree j oj hoj hji hjun hnot) (fun cs b => hsel i oi cs b hi) (fun cs b => hsel j oj cs b hoj) hQ hy h1
      have hfree' : ∀ k ok, ops[k]? = some ok → k ≠ i → (listed.setIfInBounds j true).getD k true = false →
          (∀ e ∈ ok.after, Region.binds md e = true → e.on ≠ i) → oi.apart ops ok = true := fun k ok hk hki hun hno => by
        refine hfree k ok hk hki ?_ hno
        by_cases hjk : j = k
        · subst hjk; exact hjun
        · rw [getD_set_ne true hjk] at hun; exact hun
      refine wpOp_mono (fun a' w' h3 => ⟨fun _ => h3.2.1 hjz, ih (listed.setIfInBounds j true) a' w' hfree' (ready_mono hr (Ne.symm hji)) h3.1 (h3.2.1 hjz) (closed_set hc hj) ?_⟩) h2
      rw [Array.setIfInBounds_comm _ _ hji]
      exact h3.2.2
/-- the beginning -/
theorem wp_region_last {id : Nat} {a : Act} {w : World} (hm : P.follows .mixedOrders = true)
    (h : wpAnyZ P .any ops Q S z ops.size (Array.replicate ops.size false) a w.drew) : (Code.region id ops true).wp P Q a w :=
  wp_region_any hm (wpAny_of_Z _ _ _ _ h)
/-- an operation that yields its value in every world that meets S is taken first -/
theorem wpAnyZ_take (i : Nat) {oi : Oper} {v : Value} {fuel : Nat} {listed : Array Bool} {a : Act} {w : World} (hi : ops[i]? = some oi)
    (hs : Region.noSelect ops = true) (hf : Region.free md ops listed i = true) (hr : (Region.ready md ops listed).contains i = true)
    (hQ : ∀ c a w, Q (.panic c) (a.put oi.dst v) w → Q (.panic c) a w) (hl : lastB md ops z = true) (hc : closedB md ops listed = true) (hne : i ≠ z) (hS : S w)
    (hw : Region.wanted oi (yielded ops a.tmps) = true) (hy : ∀ w, S w → (execOp a.eval oi).run P w = .ok (.value v) w)
    (h : wpAnyZ P md ops Q S z fuel (listed.setIfInBounds i true) (a.put oi.dst v) w) : wpAnyZ P md ops Q S z (fuel + 1) listed a w :=
  wpAnyZ_first hi (Region.noSelect_spec hs) hQ hl hne fuel listed a w (Region.free_spec hi hf) (by simpa using hr) (.inl ⟨hw, hy⟩) hS (closed_of hc) h
/-- the one operation that may come up is carried out, and S shown anew -/
theorem wpAnyZ_op (i : Nat) {o : Oper} {fuel : Nat} {listed : Array Bool} {a : Act} {w : World} (hr : Region.ready md ops listed = [i]) (ho : ops[i]? = some o)
    (h : ∀ K' : Act → World → Prop, Shut (∀ a w, S w → wpAnyZ P md ops Q S z fuel (listed.setIfInBounds i true) a w → K' a w) → if Region.wanted o (yielded ops a.tmps) = true then Oper.wp P o a w K' Q else K' (a.put o.dst undef) w) :
    wpAnyZ P md ops Q S z (fuel + 1) listed a w :=
  ⟨(fun h0 => by rw [hr] at h0; cases h0), fun j hj => by
    rw [hr] at hj
    obtain rfl := List.mem_singleton.1 hj
    exact wpOp_step ho (fun K' hK => h K' (fun a w hS hW => hK a w ⟨fun _ => hS, hW⟩))⟩
/-- the last one -/
theorem wpAnyZ_end {o : Oper} {fuel : Nat} {listed : Array Bool} {a : Act} {w : World} (hr : Region.ready md ops listed = [z]) (ho : ops[z]? = some o) (he : Region.ready md ops (listed.setIfInBounds z true) = [])
    (h : ∀ K' : Act → World → Prop, Shut (∀ a w, Q .normal a w → K' a w) → if Region.wanted o (yielded ops a.tmps) = true then Oper.wp P o a w K' Q else K' (a.put o.dst undef) w) :
    wpAnyZ P md ops Q S z (fuel + 1) listed a w :=
  ⟨(fun h0 => by rw [hr] at h0; cases h0), fun j hj => by
    rw [hr] at hj
    obtain rfl := List.mem_singleton.1 hj
    refine wpOp_step ho (fun K' hK => h K' (fun a w hQ => hK a w ⟨fun hne => absurd rfl hne, ?_⟩))
    cases fuel with
    | zero => exact ⟨he, hQ⟩
    | succ f => exact ⟨fun _ => hQ, by rw [he]; simp⟩⟩
end
end Go.Proofs.Ytglanajglhneeaa

namespace Go.Proofs.Ytglanajglhneeaa
open Go

section
variable {P : Program} {ops : Array Oper} {Q : Exit → Act → World → Prop} {md : Region.Mode} {S : World → Prop} {zs : List Nat}

/-- all of these wait for i -/
def allB (md : Region.Mode) (ops : Array Oper) (zs : List Nat) (i : Nat) : Bool := zs.all fun z => (close md ops ops.size (deps md ops z)).contains i
theorem late_listed {listed : Array Bool} (hc : Closed md ops listed) {i j : Nat} (hl : allB md ops zs i = true) (hj : zs.contains j = true) (hr : j ∈ Region.ready md ops listed) : listed.getD i false = true := by
  have h := List.all_eq_true.1 hl j (by simpa using hj)
  exact close_listed hc _ _ (ready_deps hr) i (by simpa using h)
/-- whatever order is picked: S holds behind every operation but zs -/
def wpAnyL (P : Program) (md : Region.Mode) (ops : Array Oper) (Q : Exit → Act → World → Prop) (S : World → Prop) (zs : List Nat) : Nat → Array Bool → Act → World → Prop
  | 0, listed, a, w => Region.ready md ops listed = [] ∧ Q .normal a w
  | fuel + 1, listed, a, w =>
    (Region.ready md ops listed = [] → Q .normal a w) ∧
    ∀ i ∈ Region.ready md ops listed, wpOp P ops Q i (fun a' w' => (zs.contains i = false → S w') ∧ wpAnyL P md ops Q S zs fuel (listed.setIfInBounds i true) a' w') a w
theorem wpAny_of_L : ∀ (fuel : Nat) (listed : Array Bool) (a : Act) (w : World), wpAnyL P md ops Q S zs fuel listed a w → wpAny P md ops Q fuel listed a w
  | 0, _, _, _, h => h
  | fuel + 1, _, _, _, h => ⟨h.1, fun i hi => wpOp_mono (fun a' w' h' => wpAny_of_L fuel _ a' w' h'.2) (h.2 i hi)⟩
theorem wpAnyL_first {i : Nat} {oi : Oper} {v : Value} (hi : ops[i]? = some oi) (hsel : ∀ (j : Nat) (o : Oper) cs b, ops[j]? = some o → o.op ≠ .select cs b)
    (hQ : ∀ c a w, Q (.panic c) (a.put oi.dst v) w → Q (.panic c) a w) (hl : allB md ops zs i = true) :
    ∀ (fuel : Nat) (listed : Array Bool) (a : Act) (w : World),
      (∀ j oj, ops[j]? = some oj → j ≠ i → listed.getD j true = false → (∀ e ∈ oj.after, Region.binds md e = true → e.on ≠ i) → oi.apart ops oj = true) →
      i ∈ Region.ready md ops listed → YieldsIf P ops S oi v a → S w → Closed md ops listed →
      wpAnyL P md ops Q S zs fuel (listed.setIfInBounds i true) (a.put oi.dst v) w → wpAnyL P md ops Q S zs (fuel + 1) listed a w := by
  intro fuel
  induction fuel with
  | zero =>
    intro listed a w _ hr hy hS _ H
    refine ⟨fun h => (by rw [h] at hr; cases hr), fun j hj => ?_⟩
    by_cases hji : j = i
    · subst hji; exact hy.wpOp hi hS ⟨fun _ => hS, H⟩
    · have := ready_mono hj hji
      rw [H.1] at this
      cases this
  | succ fuel ih =>
    intro listed a w hfree hr hy hS hc H
    refine ⟨fun h => (by rw [h] at hr; cases hr), fun j hj => ?_⟩
    by_cases hji : j = i
    · subst hji; exact hy.wpOp hi hS ⟨fun _ => hS, H⟩
    · have h1 := H.2 j (ready_mono hj hji)
      obtain ⟨hjun, oj, hoj, hall⟩ := mem_ready.1 hj
      have hilt : i < ops.size := (Array.getElem?_eq_some_iff.1 hi).1
      have hun := (mem_ready.1 hr).1
      have hnl : listed.getD i false = false := by
        rcases Nat.lt_or_ge i listed.size with h' | h'
        · simp [h'] at hun ⊢; exact hun
        · simp [Array.getElem?_eq_none h'] at hun
      have hjz : zs.contains j = false := by
        cases hz : zs.contains j
        · rfl
        · have := late_listed hc hl hz hj
          rw [hnl] at this
          cases this
      have hnot : ∀ e ∈ oj.after, Region.binds md e = true → e.on ≠ i := fun e he hb heq => by
        have h1 := hall e he hb
        rw [heq, hnl] at h1
        cases h1
      have h2 := wpOp_putIf hoj (hfree j oj hoj hji hjun hnot) (fun cs b => hsel i oi cs b hi) (fun cs b => hsel j oj cs b hoj) hQ hy h1
      have hfree' : ∀ k ok, ops[k]? = some ok → k ≠ i → (listed.setIfInBounds j true).getD k true = false →
          (∀ e ∈ ok.after, Region.binds md e = true → e.on ≠ i) → oi.apart ops ok = true := fun k ok hk hki hun hno => by
        refine hfree k ok hk hki ?_ hno
        by_cases hjk : j = k
        · subst hjk; exact hjun
        · rw [getD_set_ne true hjk] at hun; exact hun
      refine wpOp_mono (fun a' w' h3 => ⟨fun _ => h3.2.1 hjz, ih (listed.setIfInBounds j true) a' w' hfree' (ready_mono hr (Ne.symm hji)) h3.1 (h3.2.1 hjz) (closed_set hc hj) ?_⟩) h2
      rw [Array.setIfInBounds_comm _ _ hji]
      exact h3.2.2
/-- the beginning -/
theorem wp_region_late {id : Nat} {a : Act} {w : World} (hm : P.follows .mixedOrders = true)
    (h : wpAnyL P .any ops Q S zs ops.size (Array.replicate ops.size false) a w.drew) : (Code.region id ops true).wp P Q a w :=
  wp_region_any hm (wpAny_of_L _ _ _ _ h)
/-- an operation that yields its value in every world that meets S is taken first -/
theorem wpAnyL_take (i : Nat) {oi : Oper} {v : Value} {fuel : Nat} {listed : Array Bool} {a : Act} {w : World} (hi : ops[i]? = some oi)
    (hs : Region.noSelect ops = true) (hf : Region.free md ops listed i = true) (hr : (Region.ready md ops listed).contains i = true)
    (hQ : ∀ c a w, Q (.panic c) (a.put oi.dst v) w → Q (.panic c) a w) (hl : allB md ops zs i = true) (hc : closedB md ops listed = true) (hS : S w)
    (hw : Region.wanted oi (yielded ops a.tmps) = true) (hy : ∀ w, S w → (execOp a.eval oi).run P w = .ok (.value v) w)
    (h : wpAnyL P md ops Q S zs fuel (listed.setIfInBounds i true) (a.put oi.dst v) w) : wpAnyL P md ops Q S zs (fuel + 1) listed a w :=
  wpAnyL_first hi (Region.noSelect_spec hs) hQ hl fuel listed a w (Region.free_spec hi hf) (by simpa using hr) (.inl ⟨hw, hy⟩) hS (closed_of hc) h
/-- one operation, carried out: what is to be shown of it -/
def OneL (P : Program) (md : Region.Mode) (ops : Array Oper) (Q : Exit → Act → World → Prop) (S : World → Prop) (zs : List Nat) (fuel : Nat) (listed : Array Bool) (i : Nat) (o : Oper) (a : Act) (w : World) : Prop :=
  ∀ K' : Act → World → Prop, Shut (∀ a w, (zs.contains i = false → S w) → wpAnyL P md ops Q S zs fuel (listed.setIfInBounds i true) a w → K' a w) → if Region.wanted o (yielded ops a.tmps) = true then Oper.wp P o a w K' Q else K' (a.put o.dst undef) w
theorem OneL.wp {fuel : Nat} {listed : Array Bool} {i : Nat} {o : Oper} {a : Act} {w : World} (ho : ops[i]? = some o) (h : OneL P md ops Q S zs fuel listed i o a w) :
    wpOp P ops Q i (fun a' w' => (zs.contains i = false → S w') ∧ wpAnyL P md ops Q S zs fuel (listed.setIfInBounds i true) a' w') a w :=
  wpOp_step ho (fun K' hK => h K' (fun a w hS hW => hK a w ⟨hS, hW⟩))
/-- the one operation that may come up is carried out -/
theorem wpAnyL_op (i : Nat) {o : Oper} {fuel : Nat} {listed : Array Bool} {a : Act} {w : World} (hr : Region.ready md ops listed = [i]) (ho : ops[i]? = some o)
    (h : OneL P md ops Q S zs fuel listed i o a w) : wpAnyL P md ops Q S zs (fuel + 1) listed a w :=
  ⟨(fun h0 => by rw [hr] at h0; cases h0), fun j hj => by
    rw [hr] at hj
    obtain rfl := List.mem_singleton.1 hj
    exact h.wp ho⟩
/-- either of two may come up -/
theorem wpAnyL_two (i j : Nat) {o o' : Oper} {fuel : Nat} {listed : Array Bool} {a : Act} {w : World} (hr : Region.ready md ops listed = [i, j]) (ho : ops[i]? = some o) (ho' : ops[j]? = some o')
    (h : OneL P md ops Q S zs fuel listed i o a w) (h' : OneL P md ops Q S zs fuel listed j o' a w) : wpAnyL P md ops Q S zs (fuel + 1) listed a w :=
  ⟨(fun h0 => by rw [hr] at h0; cases h0), fun k hk => by
    rw [hr] at hk
    rcases List.mem_cons.1 hk with rfl | hk
    · exact h.wp ho
    · obtain rfl := List.mem_singleton.1 hk
      exact h'.wp ho'⟩
/-- none is left -/
theorem wpAnyL_end {fuel : Nat} {listed : Array Bool} {a : Act} {w : World} (hr : Region.ready md ops listed = []) (h : Q .normal a w) : wpAnyL P md ops Q S zs fuel listed a w := by
  cases fuel with
  | zero => exact ⟨hr, h⟩
  | succ f => exact ⟨fun _ => h, by rw [hr]; simp⟩
end
end Go.Proofs.Ytglanajglhneeaa

namespace Go.Proofs.Ytglanajglhneeaa
open Go Go.RowKit Go.Lib

section
variable {P : Program} {ops : Array Oper} {Q : Exit → Act → World → Prop} {md : Region.Mode} {S : World → Prop} {zs : List Nat}
theorem count_set {l : List Bool} {i : Nat} (hi : i < l.length) (h : l.getD i true = false) : (l.set i true).count true = l.count true + 1 := by
  induction l generalizing i with
  | nil => cases hi
  | cons b l ih =>
    cases i with
    | zero =>
      have hb : b = false := h
      subst hb
      simp
    | succ j =>
      have := ih (i := j) (Nat.lt_of_succ_lt_succ hi) h
      simp only [List.set_cons_succ, List.count_cons]
      omega
theorem count_all {l : List Bool} (h : l.count true = l.length) (i : Nat) : l.getD i true = true := by
  induction l generalizing i with
  | nil => rfl
  | cons b l ih =>
    have hle := List.count_le_length (a := true) (l := l)
    simp only [List.count_cons, List.length_cons] at h
    cases b with
    | false => simp at h; omega
    | true =>
      simp at h
      cases i with
      | zero => rfl
      | succ j => exact ih h j
theorem getD_list (a : Array Bool) (i : Nat) (d : Bool) : a.getD i d = a.toList.getD i d := by
  rw [Array.getD_eq_getD_getElem?, List.getD_eq_getElem?_getD, Array.getElem?_toList]
/-- every operation but zs goes ahead of zs; each waits for earlier ones alone -/
def allL (md : Region.Mode) (ops : Array Oper) (zs : List Nat) : Bool := (List.range ops.size).all fun i => zs.contains i || allB md ops zs i
def ordB (md : Region.Mode) (ops : Array Oper) : Bool := (List.range ops.size).all fun j => (deps md ops j).all fun k => decide (k < j)
theorem least_ready (ho : ordB md ops = true) {listed : Array Bool} (hs : listed.size = ops.size) : ∀ (n i : Nat), i < n → i < ops.size → listed.getD i true = false → ∃ k, k ∈ Region.ready md ops listed
  | 0, _, h, _, _ => absurd h (Nat.not_lt_zero _)
  | n + 1, i, hi, hlt, hun => by
    by_cases hex : ∃ k, k ∈ deps md ops i ∧ listed.getD k false = false
    · obtain ⟨k, hk, hf⟩ := hex
      have h1 := List.all_eq_true.1 ho i (List.mem_range.2 hlt)
      have h2 : k < i := of_decide_eq_true (List.all_eq_true.1 h1 k hk)
      refine least_ready ho hs n k (by omega) (by omega) ?_
      have hk' : k < listed.size := by omega
      rw [getD_list, List.getD_eq_getElem?_getD, List.getElem?_eq_getElem (by rw [Array.length_toList]; exact hk')] at hf ⊢
      exact hf
    · refine ⟨i, mem_ready.2 ⟨hun, ops[i], Array.getElem?_eq_getElem hlt, fun e he hb => ?_⟩⟩
      cases hc : listed.getD e.on false
      · refine absurd ⟨e.on, ?_, hc⟩ hex
        unfold deps
        rw [Array.getElem?_eq_getElem hlt]
        exact List.mem_map.2 ⟨e, List.mem_filter.2 ⟨Array.mem_toList_iff.2 he, hb⟩, rfl⟩
      · rfl
theorem wpAnyL_inv {I : Array Bool → Act → World → Prop} (hL : allL md ops zs = true) (hO : ordB md ops = true) (hsz : ∀ listed a w, I listed a w → listed.size = ops.size)
    (hun : ∀ listed a w, I listed a w → ∃ z, z < ops.size ∧ listed.getD z true = false)
    (step : ∀ listed a w i o, I listed a w → i ∈ Region.ready md ops listed → zs.contains i = false → ops[i]? = some o →
      ∀ K' : Act → World → Prop, Shut (∀ a' w', S w' → I (listed.setIfInBounds i true) a' w' → K' a' w') → if Region.wanted o (yielded ops a.tmps) = true then Oper.wp P o a w K' Q else K' (a.put o.dst undef) w)
    (fin : ∀ fuel listed a w, I listed a w → fuel + listed.toList.count true = ops.size → (∀ i, i < ops.size → zs.contains i = false → listed.getD i false = true) → wpAnyL P md ops Q S zs fuel listed a w) :
    ∀ (fuel : Nat) (listed : Array Bool) (a : Act) (w : World), Closed md ops listed → I listed a w → fuel + listed.toList.count true = ops.size → wpAnyL P md ops Q S zs fuel listed a w
  | 0, listed, a, w, _, hI, hc => by
    obtain ⟨z, hz, hf⟩ := hun listed a w hI
    have := count_all (l := listed.toList) (by have := hsz listed a w hI; rw [Array.length_toList]; omega) z
    rw [getD_list] at hf
    have hlt : z < listed.toList.length := by rw [Array.length_toList, hsz listed a w hI]; exact hz
    rw [List.getD_eq_getElem?_getD, List.getElem?_eq_getElem hlt] at this hf
    rw [show listed.toList[z] = true from this] at hf
    cases hf
  | fuel + 1, listed, a, w, hC, hI, hc => by
    by_cases hex : ∃ j, j ∈ Region.ready md ops listed ∧ zs.contains j = true
    · obtain ⟨j, hj, hzj⟩ := hex
      refine fin _ listed a w hI hc (fun i hi hzi => late_listed hC ?_ hzj hj)
      have := List.all_eq_true.1 hL i (List.mem_range.2 hi)
      rw [hzi, Bool.false_or] at this
      exact this
    · have hno : ∀ i ∈ Region.ready md ops listed, zs.contains i = false := fun i hi => by
        cases h : zs.contains i
        · rfl
        · exact absurd ⟨i, hi, h⟩ hex
      refine ⟨fun h0 => ?_, fun i hi => ?_⟩
      · obtain ⟨z, hz, hf⟩ := hun listed a w hI
        obtain ⟨k, hk⟩ := least_ready hO (hsz listed a w hI) (z + 1) z (Nat.lt_succ_self _) hz hf
        rw [h0] at hk
        cases hk
      · obtain ⟨hun', o, ho, _⟩ := mem_ready.1 hi
        have hlt : i < listed.toList.length := by
          rw [Array.length_toList, hsz listed a w hI]
          exact (Array.getElem?_eq_some_iff.1 ho).1
        rw [getD_list] at hun'
        refine wpOp_step ho (fun K' hK => step listed a w i o hI hi (hno i hi) ho K' (fun a' w' hS hI' => hK a' w' ⟨fun _ => hS, wpAnyL_inv hL hO hsz hun step fin fuel _ a' w' (closed_set hC hi) hI' ?_⟩))
        rw [Array.toList_setIfInBounds, count_set hlt (by
          rw [List.getD_eq_getElem?_getD, List.getElem?_eq_getElem hlt] at hun' ⊢
          exact hun')]
        omega
theorem wpAnyL_named {fuel : Nat} {listed : Array Bool} {a : Act} {w : World} (h : ∀ A0, A0 = a → wpAnyL P md ops Q S zs fuel listed A0 w) : wpAnyL P md ops Q S zs fuel listed a w := h a rfl
end
def puts (A : Act) : List (Nat × Value) → Act
  | [] => A
  | (t, v) :: r => puts (A.put (some t) v) r
def upd {α : Type} (f : Nat → α) (k : Nat) (v : α) : Nat → α := fun j => if j = k then v else f j
theorem upd_same {α : Type} (f : Nat → α) (k : Nat) (v : α) : upd f k v k = v := if_pos rfl
theorem upd_else {α : Type} (f : Nat → α) (k : Nat) (v : α) {j : Nat} (h : j ≠ k) : upd f k v j = f j := if_neg h
/-- what has come back, so far -/
def rv (c : Nat) (r : Nat → Value) (k : Nat) : Value := if k < c then r k else undef
/-- which boxes are there, so far -/
def pv (x : Nat → Bool) (b : Nat → Nat) (m : Nat) : Value := if x m = true then .pointer (some ⟨b m, 0, none⟩) else undef
end Go.Proofs.Ytglanajglhneeaa

namespace Go.Proofs.Ytglanajglhneeaa
open Go Go.RowKit

/-- so many slots are written, each what is told of its operation -/
def putL : Act → List (Option Nat) → Nat → (Nat → Value) → Act
  | A, [], _, _ => A
  | A, d :: r, k, rr => putL (A.put d (rr k)) r (k + 1) rr
def apartL : List (Option Nat) → Bool
  | [] => true
  | none :: r => apartL r
  | some d :: r => !r.contains (some d) && apartL r
theorem put_put (A : Act) (d : Option Nat) (v v' : Value) : (A.put d v).put d v' = A.put d v' := by
  cases d with
  | none => rfl
  | some d => simp [Act.put, Array.setIfInBounds_setIfInBounds]
theorem put_comm (A : Act) {d d' : Option Nat} (h : d = none ∨ d' = none ∨ d ≠ d') (v v' : Value) : (A.put d v).put d' v' = (A.put d' v').put d v := by
  cases d with
  | none => rfl
  | some d =>
    cases d' with
    | none => rfl
    | some d' =>
      have hne : d ≠ d' := by
        rcases h with h | h | h
        · cases h
        · cases h
        · exact fun e => h (by rw [e])
      simp [Act.put, Array.setIfInBounds_comm _ _ hne]
theorem putL_put : ∀ (l : List (Option Nat)) (A : Act) (k : Nat) (rr : Nat → Value) (d : Option Nat) (v : Value), (d = none ∨ l.contains d = false) → (putL A l k rr).put d v = putL (A.put d v) l k rr
  | [], _, _, _, _, _, _ => rfl
  | d' :: r, A, k, rr, d, v, h => by
    show (putL (A.put d' (rr k)) r (k + 1) rr).put d v = putL ((A.put d v).put d' (rr k)) r (k + 1) rr
    have h' : d = none ∨ (d ≠ d' ∧ r.contains d = false) := by
      rcases h with h | h
      · exact .inl h
      · right
        simpa using h
    rw [putL_put r _ _ _ d v (h'.imp id (·.2)), put_comm A (d := d) (d' := d') (h'.elim .inl (fun h => .inr (.inr h.1)))]
theorem putL_upd_else : ∀ (l : List (Option Nat)) (A : Act) (k : Nat) (rr : Nat → Value) (i : Nat) (v : Value), i < k → putL A l k (upd rr i v) = putL A l k rr
  | [], _, _, _, _, _, _ => rfl
  | d :: r, A, k, rr, i, v, h => by
    show putL (A.put d (upd rr i v k)) r (k + 1) (upd rr i v) = _
    rw [upd_else _ _ _ (by omega), putL_upd_else r _ _ _ _ _ (by omega)]
    rfl
theorem putL_upd : ∀ (l : List (Option Nat)) (A : Act) (k : Nat) (rr : Nat → Value) (i : Nat) (v : Value), apartL l = true → i < l.length → putL A l k (upd rr (k + i) v) = (putL A l k rr).put (l.getD i none) v
  | [], _, _, _, _, _, _, h => by cases h
  | d :: r, A, k, rr, 0, v, ha, _ => by
    show putL (A.put d (upd rr k v k)) r (k + 1) (upd rr k v) = (putL (A.put d (rr k)) r (k + 1) rr).put d v
    rw [upd_same, putL_upd_else _ _ _ _ _ _ (Nat.lt_succ_self _), putL_put r _ _ _ d v ?_, put_put]
    cases d with
    | none => exact .inl rfl
    | some d =>
      right
      have := (Bool.and_eq_true_iff.1 ha).1
      simpa using this
  | d :: r, A, k, rr, i + 1, v, ha, h => by
    show putL (A.put d (upd rr (k + (i + 1)) v k)) r (k + 1) (upd rr (k + (i + 1)) v) = (putL (A.put d (rr k)) r (k + 1) rr).put (r.getD i none) v
    rw [upd_else _ _ _ (by omega), show k + (i + 1) = k + 1 + i by omega]
    refine putL_upd r _ (k + 1) rr i v ?_ (by simpa using h)
    cases d with
    | none => exact ha
    | some d => exact (Bool.and_eq_true_iff.1 ha).2
/-- what stands there already -/
def slotV (A : Act) : Option Nat → Value
  | some t => A.tmps.getD t undef
  | none => undef
theorem put_self (A : Act) (d : Option Nat) : A.put d (slotV A d) = A := by
  cases d with
  | none => rfl
  | some d =>
    cases A with
    | mk tmps defers =>
      simp only [slotV, Act.put, Act.mk.injEq, and_true]
      refine Array.ext_getElem? fun j => ?_
      rw [Array.getElem?_setIfInBounds]
      split
      · rename_i e
        subst e
        split
        · rename_i h
          simp [h]
        · rename_i h
          simp [Array.getElem?_eq_none (Nat.le_of_not_lt h)]
      · rfl
theorem putL_own : ∀ (l : List (Option Nat)) (A : Act) (k : Nat) (rr : Nat → Value), (∀ i, i < l.length → rr (k + i) = slotV A (l.getD i none)) → putL A l k rr = A
  | [], _, _, _, _ => rfl
  | d :: r, A, k, rr, h => by
    show putL (A.put d (rr k)) r (k + 1) rr = A
    have h0 : rr k = slotV A d := h 0 (Nat.zero_lt_succ _)
    rw [h0, put_self]
    exact putL_own r A (k + 1) rr (fun i hi => by
      have := h (i + 1) (Nat.succ_lt_succ hi)
      rw [show k + 1 + i = k + (i + 1) by omega]
      exact this)

section
variable {P : Program} {ops : Array Oper} {Q : Exit → Act → World → Prop} {md : Region.Mode} {zs : List Nat}

theorem wpAnyL_mono {dl : List (Option Nat)} (A0 : Act) (G : World → Prop) (F : Nat → Value → World → Prop) (hdl : ops.toList.map (·.dst) = dl) (hap : apartL dl = true)
    (hL : allL md ops zs = true) (hO : ordB md ops = true) (hz : ∃ z, z ∈ zs ∧ z < ops.size)
    (hG : ∀ W W', G W → Below W.heap.size W W' → G W') (hF : ∀ i v W W', F i v W → Below W.heap.size W W' → F i v W')
    (step : ∀ i o, ops[i]? = some o → zs.contains i = false → ∀ (rr : Nat → Value) W, G W → (∀ j, j ∈ deps md ops i → zs.contains j = false → F j (rr j) W) →
      ∀ K' : Act → World → Prop, Shut (∀ v W', F i v W' → Below W.heap.size W W' → K' ((putL A0 dl 0 rr).put o.dst v) W') →
        if Region.wanted o (yielded ops (putL A0 dl 0 rr).tmps) = true then Oper.wp P o (putL A0 dl 0 rr) W K' Q else K' ((putL A0 dl 0 rr).put o.dst undef) W)
    (fin : ∀ fuel listed rr W, G W → (∀ j, j < ops.size → zs.contains j = false → F j (rr j) W) → listed.size = ops.size → (∀ j, j < ops.size → listed.getD j false = !zs.contains j) → fuel + listed.toList.count true = ops.size →
      wpAnyL P md ops Q (fun _ => True) zs fuel listed (putL A0 dl 0 rr) W)
    (w : World) (hw : G w) : wpAnyL P md ops Q (fun _ => True) zs ops.size (Array.replicate ops.size false) A0 w := by
  have hlen : dl.length = ops.size := by rw [← hdl, List.length_map, Array.length_toList]
  have hd : ∀ i o, ops[i]? = some o → dl.getD i none = o.dst := fun i o ho => by
    rw [← hdl, List.getD_eq_getElem?_getD, List.getElem?_map, Array.getElem?_toList, ho]
    rfl
  refine wpAnyL_inv (I := fun listed a W => ∃ rr : Nat → Value, a = putL A0 dl 0 rr ∧ G W ∧ listed.size = ops.size ∧ (∀ z, z ∈ zs → z < ops.size → listed.getD z true = false) ∧ ∀ j, j < ops.size → zs.contains j = false → listed.getD j false = true → F j (rr j) W)
    hL hO (fun _ _ _ ⟨_, _, _, h, _⟩ => h) (fun _ _ _ ⟨_, _, _, _, h, _⟩ => by obtain ⟨z, h1, h2⟩ := hz; exact ⟨z, h2, h z h1 h2⟩) ?_ ?_ _ _ _ _ ?_ ?_ ?_
  · rintro listed a W i o ⟨rr, rfl, hg, hs, hzl, hf⟩ hi hzi ho K' hK
    have hlt : i < ops.size := (Array.getElem?_eq_some_iff.1 ho).1
    refine step i o ho hzi rr W hg (fun j hj hzj => ?_) K' (fun v W' hv hB => ?_)
    · have h1 := ready_deps hi j hj
      refine hf j ?_ hzj h1
      rcases Nat.lt_or_ge j ops.size with h | h
      · exact h
      · have : listed.getD j false = false := by simp [Array.getD, show ¬ j < listed.size by omega]
        rw [this] at h1
        cases h1
    · refine hK.out _ _ trivial ⟨upd rr i v, ?_, hG _ _ hg hB, by simpa using hs, fun z hz hzl' => ?_, fun j hj hzj hl => ?_⟩
      · have := putL_upd dl A0 0 rr i v hap (by omega)
        rw [Nat.zero_add, hd i o ho] at this
        exact this.symm
      · have hne : i ≠ z := fun e => by
          subst e
          simp [hz] at hzi
        rw [getD_set_ne true hne]
        exact hzl z hz hzl'
      · by_cases e : j = i
        · subst e
          rw [upd_same]
          exact hv
        · rw [upd_else _ _ _ e]
          rw [getD_set_ne false (Ne.symm e)] at hl
          exact hF _ _ _ _ (hf j hj hzj hl) hB
  · rintro fuel listed a W ⟨rr, rfl, hg, hs, hzl, hf⟩ hfu hall
    refine fin fuel listed rr W hg (fun j hj hzj => hf j hj hzj (hall j hj hzj)) hs (fun j hj => ?_) hfu
    cases hc : zs.contains j with
    | false => exact hall j hj hc
    | true =>
      have := hzl j (by simpa using hc) hj
      rw [Array.getD_eq_getD_getElem?, Array.getElem?_eq_getElem (by omega)] at this ⊢
      exact this
  · intro j hj
    simp [Array.getD] at hj
  · refine ⟨fun j => slotV A0 (dl.getD j none), (putL_own dl A0 0 _ (fun i _ => by rw [Nat.zero_add])).symm, hw, by simp, fun z _ hz => by simp [Array.getD, hz], fun j hj _ hl => by simp [Array.getD] at hl⟩
  · rw [Array.toList_replicate, List.count_replicate]; simp
end
/-- a drawn statement whose last operation waits for all others -/
theorem wp_region_mono {P : Program} {ops : Array Oper} {Q : Exit → Act → World → Prop} {id : Nat} {z : Nat} {oz : Oper} (dl : List (Option Nat)) (A0 : Act) (w : World) (G : World → Prop) (F : Nat → Value → World → Prop) (hm : P.follows .mixedOrders = true) (hdl : ops.toList.map (·.dst) = dl) (hap : apartL dl = true)
    (hL : allL .any ops [z] = true) (hO : ordB .any ops = true) (hoz : ops[z]? = some oz)
    (hG : ∀ W W', G W → Below W.heap.size W W' → G W') (hF : ∀ i v W W', F i v W → Below W.heap.size W W' → F i v W')
    (step : ∀ i o, ops[i]? = some o → i ≠ z → ∀ (rr : Nat → Value) W, G W → (∀ j, j ∈ deps .any ops i → j ≠ z → F j (rr j) W) →
      ∀ K' : Act → World → Prop, Shut (∀ v W', F i v W' → Below W.heap.size W W' → K' ((putL A0 dl 0 rr).put o.dst v) W') →
        if Region.wanted o (yielded ops (putL A0 dl 0 rr).tmps) = true then Oper.wp P o (putL A0 dl 0 rr) W K' Q else K' ((putL A0 dl 0 rr).put o.dst undef) W)
    (fin : ∀ rr W, G W → (∀ j, j < ops.size → j ≠ z → F j (rr j) W) → ∀ K' : Act → World → Prop, Shut (∀ a W', Q .normal a W' → K' a W') →
      if Region.wanted oz (yielded ops (putL A0 dl 0 rr).tmps) = true then Oper.wp P oz (putL A0 dl 0 rr) W K' Q else K' ((putL A0 dl 0 rr).put oz.dst undef) W)
    (hw : G w.drew) : (Code.region id ops true).wp P Q A0 w := by
  have hzlt : z < ops.size := (Array.getElem?_eq_some_iff.1 hoz).1
  have hc : ∀ j : Nat, [z].contains j = decide (j = z) := fun j => by rw [Bool.eq_iff_iff]; simp
  refine wp_region_late (S := fun _ => True) (zs := [z]) hm (wpAnyL_mono (dl := dl) A0 G F hdl hap hL hO ⟨z, by simp, hzlt⟩ hG hF (fun i o ho hz rr W hg hf => step i o ho (fun e => by rw [hc] at hz; simp [e] at hz) rr W hg (fun j hj hne => hf j hj (by rw [hc]; simp [hne]))) ?_ _ hw)
  intro fuel listed rr W hg hf hs hl hfu
  have hlz : listed.getD z false = false := by rw [hl z hzlt, hc]; simp
  have hrd : ∀ j, j ∈ Region.ready .any ops listed → j = z := fun j hj => by
    obtain ⟨hun, o, ho, _⟩ := mem_ready.1 hj
    have hlt := (Array.getElem?_eq_some_iff.1 ho).1
    have h1 := hl j hlt
    rw [hc] at h1
    rcases Decidable.em (j = z) with h | h
    · exact h
    · rw [decide_eq_false h] at h1
      rw [Array.getD_eq_getD_getElem?, Array.getElem?_eq_getElem (by omega)] at h1 hun
      rw [show listed[j] = true from h1] at hun
      cases hun
  have hzr : z ∈ Region.ready .any ops listed := by
    obtain ⟨k, hk⟩ := least_ready hO hs (z + 1) z (Nat.lt_succ_self _) hzlt (by
      rw [Array.getD_eq_getD_getElem?, Array.getElem?_eq_getElem (by omega)] at hlz ⊢
      exact hlz)
    rw [← hrd k hk]
    exact hk
  cases fuel with
  | zero =>
    exfalso
    have h1 := count_all (l := listed.toList) (by rw [Array.length_toList]; omega) z
    rw [getD_list] at hlz
    have hlt : z < listed.toList.length := by rw [Array.length_toList, hs]; exact hzlt
    rw [List.getD_eq_getElem?_getD, List.getElem?_eq_getElem hlt] at h1 hlz
    rw [show listed.toList[z] = true from h1] at hlz
    cases hlz
  | succ fuel =>
    refine ⟨(fun h0 => by rw [h0] at hzr; cases hzr), fun j hj => ?_⟩
    obtain rfl := hrd j hj
    refine wpOp_step hoz (fun K' hK => fin rr W hg (fun i hi hne => hf i hi (by rw [hc]; simp [hne])) K' (fun a W' hQ => hK a W' ⟨fun _ => trivial, wpAnyL_end ?_ hQ⟩))
    cases hr : Region.ready .any ops (listed.setIfInBounds j true) with
    | nil => rfl
    | cons i r =>
      exfalso
      have hi : i ∈ Region.ready .any ops (listed.setIfInBounds j true) := by rw [hr]; exact List.mem_cons_self ..
      obtain ⟨hun, o, ho, _⟩ := mem_ready.1 hi
      have hlt := (Array.getElem?_eq_some_iff.1 ho).1
      by_cases e : i = j
      · subst e
        rw [Array.getD_eq_getD_getElem?] at hun
        simp [show i < listed.size by omega] at hun
      · rw [getD_set_ne true (Ne.symm e)] at hun
        have h1 := hl i hlt
        rw [hc, decide_eq_false e] at h1
        rw [Array.getD_eq_getD_getElem?, Array.getElem?_eq_getElem (by omega)] at h1 hun
        rw [show listed[i] = true from h1] at hun
        cases hun
theorem put_get (A : Act) (d : Option Nat) (v : Value) (t : Nat) (h : d ≠ some t) : (A.put d v).tmps[t]? = A.tmps[t]? := by
  cases d with
  | none => rfl
  | some d =>
    have hne : d ≠ t := fun e => h (by rw [e])
    show (A.tmps.setIfInBounds d v)[t]? = _
    rw [Array.getElem?_setIfInBounds, if_neg hne]
theorem put_size (A : Act) (d : Option Nat) (v : Value) : (A.put d v).tmps.size = A.tmps.size := by
  cases d with
  | none => rfl
  | some d => exact Array.size_setIfInBounds
theorem put_defers (A : Act) (d : Option Nat) (v : Value) : (A.put d v).defers = A.defers := by
  cases d <;> rfl
theorem putL_old : ∀ (l : List (Option Nat)) (A : Act) (k : Nat) (rr : Nat → Value) (t : Nat), l.contains (some t) = false → (putL A l k rr).tmps[t]? = A.tmps[t]?
  | [], _, _, _, _, _ => rfl
  | d :: r, A, k, rr, t, h => by
    have h' : d ≠ some t ∧ r.contains (some t) = false := by
      rw [List.contains_cons, Bool.or_eq_false_iff] at h
      exact ⟨fun e => by rw [e] at h; simp at h, h.2⟩
    show (putL (A.put d (rr k)) r (k + 1) rr).tmps[t]? = _
    rw [putL_old r _ _ _ t h'.2, put_get _ _ _ _ h'.1]
theorem putL_new : ∀ (l : List (Option Nat)) (A : Act) (k : Nat) (rr : Nat → Value) (i t : Nat), apartL l = true → l.getD i none = some t → t < A.tmps.size → (putL A l k rr).tmps[t]? = some (rr (k + i))
  | [], _, _, _, _, _, _, h, _ => by simp at h
  | d :: r, A, k, rr, 0, t, ha, h, ht => by
    have h : d = some t := h
    subst h
    have := (Bool.and_eq_true_iff.1 ha).1
    show (putL (A.put (some t) (rr k)) r (k + 1) rr).tmps[t]? = _
    rw [putL_old r _ _ _ t (by simpa using this)]
    show (A.tmps.setIfInBounds t (rr k))[t]? = _
    rw [Array.getElem?_setIfInBounds, if_pos rfl, if_pos ht]
    rfl
  | d :: r, A, k, rr, i + 1, t, ha, h, ht => by
    show (putL (A.put d (rr k)) r (k + 1) rr).tmps[t]? = some (rr (k + (i + 1)))
    rw [show k + (i + 1) = k + 1 + i by omega]
    refine putL_new r _ (k + 1) rr i t ?_ h (by rw [put_size]; exact ht)
    cases d with
    | none => exact ha
    | some d => exact (Bool.and_eq_true_iff.1 ha).2
/-- .. each step over a frame of which only what it reads is known -/
theorem wp_region_steps {P : Program} {ops : Array Oper} {Q : Exit → Act → World → Prop} {id : Nat} {z : Nat} {oz : Oper} (dl : List (Option Nat)) (A0 : Act) (w : World) (G : World → Prop) (F : Nat → Value → World → Prop) (hm : P.follows .mixedOrders = true) (hdl : ops.toList.map (·.dst) = dl) (hap : apartL dl = true)
    (hsz : (dl.all fun d => match d with | some t => decide (t < A0.tmps.size) | none => true) = true)
    (hL : allL .any ops [z] = true) (hO : ordB .any ops = true) (hoz : ops[z]? = some oz)
    (hG : ∀ W W', G W → Below W.heap.size W W' → G W') (hF : ∀ i v W W', F i v W → Below W.heap.size W W' → F i v W')
    (step : ∀ i o, ops[i]? = some o → i ≠ z → ∀ (a : Act) W, G W → (∀ j t, dl.getD j none = some t → (deps .any ops i).contains j = true → j ≠ z → ∃ v, a.tmps[t]? = some v ∧ F j v W) → (∀ t, dl.contains (some t) = false → a.tmps[t]? = A0.tmps[t]?) →
      ∀ K' : Act → World → Prop, Shut (∀ v W', F i v W' → Below W.heap.size W W' → K' (a.put o.dst v) W') →
        if Region.wanted o (yielded ops a.tmps) = true then Oper.wp P o a W K' Q else K' (a.put o.dst undef) W)
    (fin : ∀ rr W, G W → (∀ j, j < ops.size → j ≠ z → F j (rr j) W) → ∀ K' : Act → World → Prop, Shut (∀ a W', Q .normal a W' → K' a W') →
      if Region.wanted oz (yielded ops (putL A0 dl 0 rr).tmps) = true then Oper.wp P oz (putL A0 dl 0 rr) W K' Q else K' ((putL A0 dl 0 rr).put oz.dst undef) W)
    (hw : G w.drew) : (Code.region id ops true).wp P Q A0 w :=
  wp_region_mono dl A0 w G F hm hdl hap hL hO hoz hG hF (fun i o ho hz rr W hg hf K' hK => step i o ho hz (putL A0 dl 0 rr) W hg (fun j t hj hd hjz => ⟨rr j, by
    have h1 := putL_new dl A0 0 rr j t hap hj (by
      have h2 := List.all_eq_true.1 hsz (some t) (by
        rw [List.getD_eq_getElem?_getD] at hj
        cases h3 : dl[j]? with
        | none => rw [h3] at hj; cases hj
        | some d =>
          rw [h3] at hj
          cases hj
          exact List.mem_of_getElem? h3)
      exact of_decide_eq_true h2)
    rw [Nat.zero_add] at h1
    exact h1, hf j (by simpa using hd) hjz⟩) (fun t ht => putL_old dl A0 0 rr t ht) K' hK) fin hw
def listedOf (n : Nat) (zs : List Nat) : Array Bool := ((List.range n).map fun j => !zs.contains j).toArray
/-- .. whose last operations, these, wait for all others -/
theorem wp_region_stepsZ {P : Program} {ops : Array Oper} {Q : Exit → Act → World → Prop} {id : Nat} (zs : List Nat) (dl : List (Option Nat)) (A0 : Act) (w : World) (G : World → Prop) (F : Nat → Value → World → Prop) (hm : P.follows .mixedOrders = true) (hdl : ops.toList.map (·.dst) = dl) (hap : apartL dl = true)
    (hsz : (dl.all fun d => match d with | some t => decide (t < A0.tmps.size) | none => true) = true)
    (hL : allL .any ops zs = true) (hO : ordB .any ops = true) (hz : ∃ z, z ∈ zs ∧ z < ops.size) (hfu : zs.length + (listedOf ops.size zs).toList.count true = ops.size)
    (hG : ∀ W W', G W → Below W.heap.size W W' → G W') (hF : ∀ i v W W', F i v W → Below W.heap.size W W' → F i v W')
    (step : ∀ i o, ops[i]? = some o → zs.contains i = false → ∀ (a : Act) W, G W → (∀ j t, dl.getD j none = some t → (deps .any ops i).contains j = true → zs.contains j = false → ∃ v, a.tmps[t]? = some v ∧ F j v W) → (∀ t, dl.contains (some t) = false → a.tmps[t]? = A0.tmps[t]?) →
      ∀ K' : Act → World → Prop, Shut (∀ v W', F i v W' → Below W.heap.size W W' → K' (a.put o.dst v) W') →
        if Region.wanted o (yielded ops a.tmps) = true then Oper.wp P o a W K' Q else K' (a.put o.dst undef) W)
    (fin : ∀ rr W, G W → (∀ j, j < ops.size → zs.contains j = false → F j (rr j) W) → wpAnyL P .any ops Q (fun _ => True) zs zs.length (listedOf ops.size zs) (putL A0 dl 0 rr) W)
    (hw : G w.drew) : (Code.region id ops true).wp P Q A0 w := by
  refine wp_region_late (S := fun _ => True) (zs := zs) hm (wpAnyL_mono (dl := dl) A0 G F hdl hap hL hO hz hG hF (fun i o ho hz rr W hg hf K' hK => step i o ho hz (putL A0 dl 0 rr) W hg (fun j t hj hd hjz => ⟨rr j, by
    have h1 := putL_new dl A0 0 rr j t hap hj (by
      have h2 := List.all_eq_true.1 hsz (some t) (by
        rw [List.getD_eq_getElem?_getD] at hj
        cases h3 : dl[j]? with
        | none => rw [h3] at hj; cases hj
        | some d =>
          rw [h3] at hj
          cases hj
          exact List.mem_of_getElem? h3)
      exact of_decide_eq_true h2)
    rw [Nat.zero_add] at h1
    exact h1, hf j (by simpa using hd) hjz⟩) (fun t ht => putL_old dl A0 0 rr t ht) K' hK) ?_ _ hw)
  intro fuel listed rr W hg hf hs hl hfu'
  have e : listed = listedOf ops.size zs := by
    refine Array.ext (by simp [listedOf, hs]) (fun j h1 h2 => ?_)
    have h3 := hl j (by omega)
    rw [Array.getD_eq_getD_getElem?, Array.getElem?_eq_getElem h1] at h3
    rw [show listed[j] = !zs.contains j from h3]
    simp [listedOf]
  subst e
  obtain rfl : fuel = zs.length := by omega
  exact fin rr W hg hf
theorem putL_defers : ∀ (l : List (Option Nat)) (A : Act) (k : Nat) (rr : Nat → Value), (putL A l k rr).defers = A.defers
  | [], _, _, _ => rfl
  | d :: r, A, k, rr => by
    show (putL (A.put d (rr k)) r (k + 1) rr).defers = _
    rw [putL_defers r, put_defers]
theorem dl_lt {dl : List (Option Nat)} {n j t : Nat} (hsz : (dl.all fun d => match d with | some t => decide (t < n) | none => true) = true) (hj : dl.getD j none = some t) : t < n := by
  have h2 := List.all_eq_true.1 hsz (some t) (by
    rw [List.getD_eq_getElem?_getD] at hj
    cases h3 : dl[j]? with
    | none => rw [h3] at hj; cases hj
    | some d =>
      rw [h3] at hj
      cases hj
      exact List.mem_of_getElem? h3)
  exact of_decide_eq_true h2
/-- .. and the last one too -/
theorem wp_region_stepsF {P : Program} {ops : Array Oper} {Q : Exit → Act → World → Prop} {id : Nat} {z : Nat} {oz : Oper} (dl : List (Option Nat)) (A0 : Act) (w : World) (G : World → Prop) (F : Nat → Value → World → Prop) (hm : P.follows .mixedOrders = true) (hdl : ops.toList.map (·.dst) = dl) (hap : apartL dl = true)
    (hsz : (dl.all fun d => match d with | some t => decide (t < A0.tmps.size) | none => true) = true)
    (hL : allL .any ops [z] = true) (hO : ordB .any ops = true) (hoz : ops[z]? = some oz)
    (hG : ∀ W W', G W → Below W.heap.size W W' → G W') (hF : ∀ i v W W', F i v W → Below W.heap.size W W' → F i v W')
    (step : ∀ i o, ops[i]? = some o → i ≠ z → ∀ (a : Act) W, G W → (∀ j t, dl.getD j none = some t → (deps .any ops i).contains j = true → j ≠ z → ∃ v, a.tmps[t]? = some v ∧ F j v W) → (∀ t, dl.contains (some t) = false → a.tmps[t]? = A0.tmps[t]?) →
      ∀ K' : Act → World → Prop, Shut (∀ v W', F i v W' → Below W.heap.size W W' → K' (a.put o.dst v) W') →
        if Region.wanted o (yielded ops a.tmps) = true then Oper.wp P o a W K' Q else K' (a.put o.dst undef) W)
    (fin : ∀ (a : Act) W, G W → (∀ j t, dl.getD j none = some t → j < ops.size → j ≠ z → ∃ v, a.tmps[t]? = some v ∧ F j v W) → (∀ t, dl.contains (some t) = false → a.tmps[t]? = A0.tmps[t]?) → a.defers = A0.defers → a.tmps.size = A0.tmps.size → ∀ K' : Act → World → Prop, Shut (∀ a W', Q .normal a W' → K' a W') →
      if Region.wanted oz (yielded ops a.tmps) = true then Oper.wp P oz a W K' Q else K' (a.put oz.dst undef) W)
    (hw : G w.drew) : (Code.region id ops true).wp P Q A0 w :=
  wp_region_steps dl A0 w G F hm hdl hap hsz hL hO hoz hG hF step (fun rr W hg hf K' hK => fin (putL A0 dl 0 rr) W hg (fun j t hj hlt hne => ⟨rr j, by
    have h1 := putL_new dl A0 0 rr j t hap hj (dl_lt hsz hj)
    rw [Nat.zero_add] at h1
    exact h1, hf j hlt hne⟩) (fun t ht => putL_old dl A0 0 rr t ht) (putL_defers dl A0 0 rr) (by
      have : ∀ (l : List (Option Nat)) (A : Act) (k : Nat), (putL A l k rr).tmps.size = A.tmps.size := by
        intro l
        induction l with
        | nil => intro A k; rfl
        | cons d r ih => intro A k; show (putL (A.put d (rr k)) r (k + 1) rr).tmps.size = _; rw [ih, put_size]
      exact this dl A0 0) K' hK) hw
end Go.Proofs.Ytglanajglhneeaa

namespace Go.Proofs.Ytglanajglhneeaa
open Go Go.RowKit
namespace RR
section
variable {P : Program} {ops : Array Oper} {Q : Exit → Act → World → Prop} {md : Region.Mode} {zs : List Nat} {Rl : World → World → Prop}
theorem wpAnyL_mono {dl : List (Option Nat)} (A0 : Act) (G : World → Prop) (F : Nat → Value → World → Prop) (hdl : ops.toList.map (·.dst) = dl) (hap : apartL dl = true)
    (hL : allL md ops zs = true) (hO : ordB md ops = true) (hz : ∃ z, z ∈ zs ∧ z < ops.size)
    (hG : ∀ W W', G W → Rl W W' → G W') (hF : ∀ i v W W', F i v W → Rl W W' → F i v W')
    (step : ∀ i o, ops[i]? = some o → zs.contains i = false → ∀ (rr : Nat → Value) W, G W → (∀ j, j ∈ deps md ops i → zs.contains j = false → F j (rr j) W) →
      ∀ K' : Act → World → Prop, Shut (∀ v W', F i v W' → Rl W W' → K' ((putL A0 dl 0 rr).put o.dst v) W') →
        if Region.wanted o (yielded ops (putL A0 dl 0 rr).tmps) = true then Oper.wp P o (putL A0 dl 0 rr) W K' Q else K' ((putL A0 dl 0 rr).put o.dst undef) W)
    (fin : ∀ fuel listed rr W, G W → (∀ j, j < ops.size → zs.contains j = false → F j (rr j) W) → listed.size = ops.size → (∀ j, j < ops.size → listed.getD j false = !zs.contains j) → fuel + listed.toList.count true = ops.size →
      wpAnyL P md ops Q (fun _ => True) zs fuel listed (putL A0 dl 0 rr) W)
    (w : World) (hw : G w) : wpAnyL P md ops Q (fun _ => True) zs ops.size (Array.replicate ops.size false) A0 w := by
  have hlen : dl.length = ops.size := by rw [← hdl, List.length_map, Array.length_toList]
  have hd : ∀ i o, ops[i]? = some o → dl.getD i none = o.dst := fun i o ho => by
    rw [← hdl, List.getD_eq_getElem?_getD, List.getElem?_map, Array.getElem?_toList, ho]
    rfl
  refine wpAnyL_inv (I := fun listed a W => ∃ rr : Nat → Value, a = putL A0 dl 0 rr ∧ G W ∧ listed.size = ops.size ∧ (∀ z, z ∈ zs → z < ops.size → listed.getD z true = false) ∧ ∀ j, j < ops.size → zs.contains j = false → listed.getD j false = true → F j (rr j) W)
    hL hO (fun _ _ _ ⟨_, _, _, h, _⟩ => h) (fun _ _ _ ⟨_, _, _, _, h, _⟩ => by obtain ⟨z, h1, h2⟩ := hz; exact ⟨z, h2, h z h1 h2⟩) ?_ ?_ _ _ _ _ ?_ ?_ ?_
  · rintro listed a W i o ⟨rr, rfl, hg, hs, hzl, hf⟩ hi hzi ho K' hK
    have hlt : i < ops.size := (Array.getElem?_eq_some_iff.1 ho).1
    refine step i o ho hzi rr W hg (fun j hj hzj => ?_) K' (fun v W' hv hB => ?_)
    · have h1 := ready_deps hi j hj
      refine hf j ?_ hzj h1
      rcases Nat.lt_or_ge j ops.size with h | h
      · exact h
      · have : listed.getD j false = false := by simp [Array.getD, show ¬ j < listed.size by omega]
        rw [this] at h1
        cases h1
    · refine hK.out _ _ trivial ⟨upd rr i v, ?_, hG _ _ hg hB, by simpa using hs, fun z hz hzl' => ?_, fun j hj hzj hl => ?_⟩
      · have := putL_upd dl A0 0 rr i v hap (by omega)
        rw [Nat.zero_add, hd i o ho] at this
        exact this.symm
      · have hne : i ≠ z := fun e => by
          subst e
          simp [hz] at hzi
        rw [getD_set_ne true hne]
        exact hzl z hz hzl'
      · by_cases e : j = i
        · subst e
          rw [upd_same]
          exact hv
        · rw [upd_else _ _ _ e]
          rw [getD_set_ne false (Ne.symm e)] at hl
          exact hF _ _ _ _ (hf j hj hzj hl) hB
  · rintro fuel listed a W ⟨rr, rfl, hg, hs, hzl, hf⟩ hfu hall
    refine fin fuel listed rr W hg (fun j hj hzj => hf j hj hzj (hall j hj hzj)) hs (fun j hj => ?_) hfu
    cases hc : zs.contains j with
    | false => exact hall j hj hc
    | true =>
      have := hzl j (by simpa using hc) hj
      rw [Array.getD_eq_getD_getElem?, Array.getElem?_eq_getElem (by omega)] at this ⊢
      exact this
  · intro j hj
    simp [Array.getD] at hj
  · refine ⟨fun j => slotV A0 (dl.getD j none), (putL_own dl A0 0 _ (fun i _ => by rw [Nat.zero_add])).symm, hw, by simp, fun z _ hz => by simp [Array.getD, hz], fun j hj _ hl => by simp [Array.getD] at hl⟩
  · rw [Array.toList_replicate, List.count_replicate]; simp
end
variable {Rl : World → World → Prop}
theorem wp_region_mono {P : Program} {ops : Array Oper} {Q : Exit → Act → World → Prop} {id : Nat} {z : Nat} {oz : Oper} (dl : List (Option Nat)) (A0 : Act) (w : World) (G : World → Prop) (F : Nat → Value → World → Prop) (hm : P.follows .mixedOrders = true) (hdl : ops.toList.map (·.dst) = dl) (hap : apartL dl = true)
    (hL : allL .any ops [z] = true) (hO : ordB .any ops = true) (hoz : ops[z]? = some oz)
    (hG : ∀ W W', G W → Rl W W' → G W') (hF : ∀ i v W W', F i v W → Rl W W' → F i v W')
    (step : ∀ i o, ops[i]? = some o → i ≠ z → ∀ (rr : Nat → Value) W, G W → (∀ j, j ∈ deps .any ops i → j ≠ z → F j (rr j) W) →
      ∀ K' : Act → World → Prop, Shut (∀ v W', F i v W' → Rl W W' → K' ((putL A0 dl 0 rr).put o.dst v) W') →
        if Region.wanted o (yielded ops (putL A0 dl 0 rr).tmps) = true then Oper.wp P o (putL A0 dl 0 rr) W K' Q else K' ((putL A0 dl 0 rr).put o.dst undef) W)
    (fin : ∀ rr W, G W → (∀ j, j < ops.size → j ≠ z → F j (rr j) W) → ∀ K' : Act → World → Prop, Shut (∀ a W', Q .normal a W' → K' a W') →
      if Region.wanted oz (yielded ops (putL A0 dl 0 rr).tmps) = true then Oper.wp P oz (putL A0 dl 0 rr) W K' Q else K' ((putL A0 dl 0 rr).put oz.dst undef) W)
    (hw : G w.drew) : (Code.region id ops true).wp P Q A0 w := by
  have hzlt : z < ops.size := (Array.getElem?_eq_some_iff.1 hoz).1
  have hc : ∀ j : Nat, [z].contains j = decide (j = z) := fun j => by rw [Bool.eq_iff_iff]; simp
  refine wp_region_late (S := fun _ => True) (zs := [z]) hm (wpAnyL_mono (dl := dl) A0 G F hdl hap hL hO ⟨z, by simp, hzlt⟩ hG hF (fun i o ho hz rr W hg hf => step i o ho (fun e => by rw [hc] at hz; simp [e] at hz) rr W hg (fun j hj hne => hf j hj (by rw [hc]; simp [hne]))) ?_ _ hw)
  intro fuel listed rr W hg hf hs hl hfu
  have hlz : listed.getD z false = false := by rw [hl z hzlt, hc]; simp
  have hrd : ∀ j, j ∈ Region.ready .any ops listed → j = z := fun j hj => by
    obtain ⟨hun, o, ho, _⟩ := mem_ready.1 hj
    have hlt := (Array.getElem?_eq_some_iff.1 ho).1
    have h1 := hl j hlt
    rw [hc] at h1
    rcases Decidable.em (j = z) with h | h
    · exact h
    · rw [decide_eq_false h] at h1
      rw [Array.getD_eq_getD_getElem?, Array.getElem?_eq_getElem (by omega)] at h1 hun
      rw [show listed[j] = true from h1] at hun
      cases hun
  have hzr : z ∈ Region.ready .any ops listed := by
    obtain ⟨k, hk⟩ := least_ready hO hs (z + 1) z (Nat.lt_succ_self _) hzlt (by
      rw [Array.getD_eq_getD_getElem?, Array.getElem?_eq_getElem (by omega)] at hlz ⊢
      exact hlz)
    rw [← hrd k hk]
    exact hk
  cases fuel with
  | zero =>
    exfalso
    have h1 := count_all (l := listed.toList) (by rw [Array.length_toList]; omega) z
    rw [getD_list] at hlz
    have hlt : z < listed.toList.length := by rw [Array.length_toList, hs]; exact hzlt
    rw [List.getD_eq_getElem?_getD, List.getElem?_eq_getElem hlt] at h1 hlz
    rw [show listed.toList[z] = true from h1] at hlz
    cases hlz
  | succ fuel =>
    refine ⟨(fun h0 => by rw [h0] at hzr; cases hzr), fun j hj => ?_⟩
    obtain rfl := hrd j hj
    refine wpOp_step hoz (fun K' hK => fin rr W hg (fun i hi hne => hf i hi (by rw [hc]; simp [hne])) K' (fun a W' hQ => hK a W' ⟨fun _ => trivial, wpAnyL_end ?_ hQ⟩))
    cases hr : Region.ready .any ops (listed.setIfInBounds j true) with
    | nil => rfl
    | cons i r =>
      exfalso
      have hi : i ∈ Region.ready .any ops (listed.setIfInBounds j true) := by rw [hr]; exact List.mem_cons_self ..
      obtain ⟨hun, o, ho, _⟩ := mem_ready.1 hi
      have hlt := (Array.getElem?_eq_some_iff.1 ho).1
      by_cases e : i = j
      · subst e
        rw [Array.getD_eq_getD_getElem?] at hun
        simp [show i < listed.size by omega] at hun
      · rw [getD_set_ne true (Ne.symm e)] at hun
        have h1 := hl i hlt
        rw [hc, decide_eq_false e] at h1
        rw [Array.getD_eq_getD_getElem?, Array.getElem?_eq_getElem (by omega)] at h1 hun
        rw [show listed[i] = true from h1] at hun
        cases hun
theorem wp_region_steps {P : Program} {ops : Array Oper} {Q : Exit → Act → World → Prop} {id : Nat} {z : Nat} {oz : Oper} (dl : List (Option Nat)) (A0 : Act) (w : World) (G : World → Prop) (F : Nat → Value → World → Prop) (hm : P.follows .mixedOrders = true) (hdl : ops.toList.map (·.dst) = dl) (hap : apartL dl = true)
    (hsz : (dl.all fun d => match d with | some t => decide (t < A0.tmps.size) | none => true) = true)
    (hL : allL .any ops [z] = true) (hO : ordB .any ops = true) (hoz : ops[z]? = some oz)
    (hG : ∀ W W', G W → Rl W W' → G W') (hF : ∀ i v W W', F i v W → Rl W W' → F i v W')
    (step : ∀ i o, ops[i]? = some o → i ≠ z → ∀ (a : Act) W, G W → (∀ j t, dl.getD j none = some t → (deps .any ops i).contains j = true → j ≠ z → ∃ v, a.tmps[t]? = some v ∧ F j v W) → (∀ t, dl.contains (some t) = false → a.tmps[t]? = A0.tmps[t]?) →
      ∀ K' : Act → World → Prop, Shut (∀ v W', F i v W' → Rl W W' → K' (a.put o.dst v) W') →
        if Region.wanted o (yielded ops a.tmps) = true then Oper.wp P o a W K' Q else K' (a.put o.dst undef) W)
    (fin : ∀ rr W, G W → (∀ j, j < ops.size → j ≠ z → F j (rr j) W) → ∀ K' : Act → World → Prop, Shut (∀ a W', Q .normal a W' → K' a W') →
      if Region.wanted oz (yielded ops (putL A0 dl 0 rr).tmps) = true then Oper.wp P oz (putL A0 dl 0 rr) W K' Q else K' ((putL A0 dl 0 rr).put oz.dst undef) W)
    (hw : G w.drew) : (Code.region id ops true).wp P Q A0 w :=
  wp_region_mono dl A0 w G F hm hdl hap hL hO hoz hG hF (fun i o ho hz rr W hg hf K' hK => step i o ho hz (putL A0 dl 0 rr) W hg (fun j t hj hd hjz => ⟨rr j, by
    have h1 := putL_new dl A0 0 rr j t hap hj (by
      have h2 := List.all_eq_true.1 hsz (some t) (by
        rw [List.getD_eq_getElem?_getD] at hj
        cases h3 : dl[j]? with
        | none => rw [h3] at hj; cases hj
        | some d =>
          rw [h3] at hj
          cases hj
          exact List.mem_of_getElem? h3)
      exact of_decide_eq_true h2)
    rw [Nat.zero_add] at h1
    exact h1, hf j (by simpa using hd) hjz⟩) (fun t ht => putL_old dl A0 0 rr t ht) K' hK) fin hw
theorem wp_region_stepsZ {P : Program} {ops : Array Oper} {Q : Exit → Act → World → Prop} {id : Nat} (zs : List Nat) (dl : List (Option Nat)) (A0 : Act) (w : World) (G : World → Prop) (F : Nat → Value → World → Prop) (hm : P.follows .mixedOrders = true) (hdl : ops.toList.map (·.dst) = dl) (hap : apartL dl = true)
    (hsz : (dl.all fun d => match d with | some t => decide (t < A0.tmps.size) | none => true) = true)
    (hL : allL .any ops zs = true) (hO : ordB .any ops = true) (hz : ∃ z, z ∈ zs ∧ z < ops.size) (hfu : zs.length + (listedOf ops.size zs).toList.count true = ops.size)
    (hG : ∀ W W', G W → Rl W W' → G W') (hF : ∀ i v W W', F i v W → Rl W W' → F i v W')
    (step : ∀ i o, ops[i]? = some o → zs.contains i = false → ∀ (a : Act) W, G W → (∀ j t, dl.getD j none = some t → (deps .any ops i).contains j = true → zs.contains j = false → ∃ v, a.tmps[t]? = some v ∧ F j v W) → (∀ t, dl.contains (some t) = false → a.tmps[t]? = A0.tmps[t]?) →
      ∀ K' : Act → World → Prop, Shut (∀ v W', F i v W' → Rl W W' → K' (a.put o.dst v) W') →
        if Region.wanted o (yielded ops a.tmps) = true then Oper.wp P o a W K' Q else K' (a.put o.dst undef) W)
    (fin : ∀ rr W, G W → (∀ j, j < ops.size → zs.contains j = false → F j (rr j) W) → wpAnyL P .any ops Q (fun _ => True) zs zs.length (listedOf ops.size zs) (putL A0 dl 0 rr) W)
    (hw : G w.drew) : (Code.region id ops true).wp P Q A0 w := by
  refine wp_region_late (S := fun _ => True) (zs := zs) hm (wpAnyL_mono (dl := dl) A0 G F hdl hap hL hO hz hG hF (fun i o ho hz rr W hg hf K' hK => step i o ho hz (putL A0 dl 0 rr) W hg (fun j t hj hd hjz => ⟨rr j, by
    have h1 := putL_new dl A0 0 rr j t hap hj (by
      have h2 := List.all_eq_true.1 hsz (some t) (by
        rw [List.getD_eq_getElem?_getD] at hj
        cases h3 : dl[j]? with
        | none => rw [h3] at hj; cases hj
        | some d =>
          rw [h3] at hj
          cases hj
          exact List.mem_of_getElem? h3)
      exact of_decide_eq_true h2)
    rw [Nat.zero_add] at h1
    exact h1, hf j (by simpa using hd) hjz⟩) (fun t ht => putL_old dl A0 0 rr t ht) K' hK) ?_ _ hw)
  intro fuel listed rr W hg hf hs hl hfu'
  have e : listed = listedOf ops.size zs := by
    refine Array.ext (by simp [listedOf, hs]) (fun j h1 h2 => ?_)
    have h3 := hl j (by omega)
    rw [Array.getD_eq_getD_getElem?, Array.getElem?_eq_getElem h1] at h3
    rw [show listed[j] = !zs.contains j from h3]
    simp [listedOf]
  subst e
  obtain rfl : fuel = zs.length := by omega
  exact fin rr W hg hf
theorem wp_region_stepsF {P : Program} {ops : Array Oper} {Q : Exit → Act → World → Prop} {id : Nat} {z : Nat} {oz : Oper} (dl : List (Option Nat)) (A0 : Act) (w : World) (G : World → Prop) (F : Nat → Value → World → Prop) (hm : P.follows .mixedOrders = true) (hdl : ops.toList.map (·.dst) = dl) (hap : apartL dl = true)
    (hsz : (dl.all fun d => match d with | some t => decide (t < A0.tmps.size) | none => true) = true)
    (hL : allL .any ops [z] = true) (hO : ordB .any ops = true) (hoz : ops[z]? = some oz)
    (hG : ∀ W W', G W → Rl W W' → G W') (hF : ∀ i v W W', F i v W → Rl W W' → F i v W')
    (step : ∀ i o, ops[i]? = some o → i ≠ z → ∀ (a : Act) W, G W → (∀ j t, dl.getD j none = some t → (deps .any ops i).contains j = true → j ≠ z → ∃ v, a.tmps[t]? = some v ∧ F j v W) → (∀ t, dl.contains (some t) = false → a.tmps[t]? = A0.tmps[t]?) →
      ∀ K' : Act → World → Prop, Shut (∀ v W', F i v W' → Rl W W' → K' (a.put o.dst v) W') →
        if Region.wanted o (yielded ops a.tmps) = true then Oper.wp P o a W K' Q else K' (a.put o.dst undef) W)
    (fin : ∀ (a : Act) W, G W → (∀ j t, dl.getD j none = some t → j < ops.size → j ≠ z → ∃ v, a.tmps[t]? = some v ∧ F j v W) → (∀ t, dl.contains (some t) = false → a.tmps[t]? = A0.tmps[t]?) → a.defers = A0.defers → a.tmps.size = A0.tmps.size → ∀ K' : Act → World → Prop, Shut (∀ a W', Q .normal a W' → K' a W') →
      if Region.wanted oz (yielded ops a.tmps) = true then Oper.wp P oz a W K' Q else K' (a.put oz.dst undef) W)
    (hw : G w.drew) : (Code.region id ops true).wp P Q A0 w :=
  wp_region_steps dl A0 w G F hm hdl hap hsz hL hO hoz hG hF step (fun rr W hg hf K' hK => fin (putL A0 dl 0 rr) W hg (fun j t hj hlt hne => ⟨rr j, by
    have h1 := putL_new dl A0 0 rr j t hap hj (dl_lt hsz hj)
    rw [Nat.zero_add] at h1
    exact h1, hf j hlt hne⟩) (fun t ht => putL_old dl A0 0 rr t ht) (putL_defers dl A0 0 rr) (by
      have : ∀ (l : List (Option Nat)) (A : Act) (k : Nat), (putL A l k rr).tmps.size = A.tmps.size := by
        intro l
        induction l with
        | nil => intro A k; rfl
        | cons d r ih => intro A k; show (putL (A.put d (rr k)) r (k + 1) rr).tmps.size = _; rw [ih, put_size]
      exact this dl A0 0) K' hK) hw
theorem wp_region_stepsP {P : Program} {ops : Array Oper} {Q : Exit → Act → World → Prop} {id : Nat} {z : Nat} {oz : Oper} (dl : List (Option Nat)) (A0 : Act) (w : World) (G : World → Prop) (F : Nat → Value → World → Prop) (hm : P.follows .mixedOrders = true) (hdl : ops.toList.map (·.dst) = dl) (hap : apartL dl = true)
    (hsz : (dl.all fun d => match d with | some t => decide (t < A0.tmps.size) | none => true) = true)
    (hL : allL .any ops [z] = true) (hO : ordB .any ops = true) (hoz : ops[z]? = some oz)
    (hG : ∀ W W', G W → Rl W W' → G W') (hF : ∀ i v W W', F i v W → Rl W W' → F i v W')
    (step : ∀ i o, ops[i]? = some o → i ≠ z → ∀ (a : Act) W, G W → (∀ j t, dl.getD j none = some t → (deps .any ops i).contains j = true → j ≠ z → ∃ v, a.tmps[t]? = some v ∧ F j v W) → (∀ t, dl.contains (some t) = false → a.tmps[t]? = A0.tmps[t]?) →
      ∀ K' : Act → World → Prop, Shut (∀ v W', F i v W' → Rl W W' → K' (a.put o.dst v) W') →
        if Region.wanted o (yielded ops a.tmps) = true then Oper.wp P o a W K' Q else K' (a.put o.dst undef) W)
    (fin : ∀ (a : Act) W, G W → (∀ j t, dl.getD j none = some t → j < ops.size → j ≠ z → ∃ v, a.tmps[t]? = some v ∧ F j v W) → (∀ t, dl.contains (some t) = false → a.tmps[t]? = A0.tmps[t]?) → Hid (∃ rr, a = putL A0 dl 0 rr) → (∀ j, j < ops.size → j ≠ z → ∃ v, F j v W) → ∀ K' : Act → World → Prop, Shut (∀ a W', Q .normal a W' → K' a W') →
      if Region.wanted oz (yielded ops a.tmps) = true then Oper.wp P oz a W K' Q else K' (a.put oz.dst undef) W)
    (hw : G w.drew) : (Code.region id ops true).wp P Q A0 w :=
  wp_region_steps dl A0 w G F hm hdl hap hsz hL hO hoz hG hF step (fun rr W hg hf K' hK => fin (putL A0 dl 0 rr) W hg (fun j t hj hlt hne => ⟨rr j, by
    have h1 := putL_new dl A0 0 rr j t hap hj (dl_lt hsz hj)
    rw [Nat.zero_add] at h1
    exact h1, hf j hlt hne⟩) (fun t ht => putL_old dl A0 0 rr t ht) (Lib.hid ⟨rr, rfl⟩) (fun j hlt hne => ⟨rr j, hf j hlt hne⟩) K' hK) hw
end RR
end Go.Proofs.Ytglanajglhneeaa
