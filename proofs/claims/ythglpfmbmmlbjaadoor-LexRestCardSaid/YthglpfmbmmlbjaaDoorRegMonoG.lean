/- A statement that leaves its order open, of operations each of which yields what is told of it wherever what it waits for has come up, and of which the world only grows: whatever the order, in the end all that is told holds. Conditions: none. -/
import Derived.Test.YthglpfmbmmlbjaaDoorRegBoxG
namespace Go.Proofs.YthglpfmbmmlbjaaDoor
open Go Go.RowKit

/-- so many slots are written, each what is told of its operation -/
def putL : Act → List (Option Nat) → Nat → (Nat → Value) → Act
  | A, [], _, _ => A
  | A, d :: r, k, rr => putL (A.put d (rr k)) r (k + 1) rr
def apartL : List (Option Nat) → Bool
  | [] => true
  | none :: r => apartL r
  | some d :: r => !r.contains (some d) && apartL r
theorem put_put (A : Act) (d : Option Nat) (v v' : Value) : (A.put d v).put d v' = A.put d v' := by
  cases d with
  | none => rfl
  | some d => simp [Act.put, Array.setIfInBounds_setIfInBounds]
theorem put_comm (A : Act) {d d' : Option Nat} (h : d = none ∨ d' = none ∨ d ≠ d') (v v' : Value) : (A.put d v).put d' v' = (A.put d' v').put d v := by
  cases d with
  | none => rfl
  | some d =>
    cases d' with
    | none => rfl
    | some d' =>
      have hne : d ≠ d' := by
        rcases h with h | h | h
        · cases h
        · cases h
        · exact fun e => h (by rw [e])
      simp [Act.put, Array.setIfInBounds_comm _ _ hne]
theorem putL_put : ∀ (l : List (Option Nat)) (A : Act) (k : Nat) (rr : Nat → Value) (d : Option Nat) (v : Value), (d = none ∨ l.contains d = false) → (putL A l k rr).put d v = putL (A.put d v) l k rr
  | [], _, _, _, _, _, _ => rfl
  | d' :: r, A, k, rr, d, v, h => by
    show (putL (A.put d' (rr k)) r (k + 1) rr).put d v = putL ((A.put d v).put d' (rr k)) r (k + 1) rr
    have h' : d = none ∨ (d ≠ d' ∧ r.contains d = false) := by
      rcases h with h | h
      · exact .inl h
      · right
        simpa using h
    rw [putL_put r _ _ _ d v (h'.imp id (·.2)), put_comm A (d := d) (d' := d') (h'.elim .inl (fun h => .inr (.inr h.1)))]
theorem putL_upd_else : ∀ (l : List (Option Nat)) (A : Act) (k : Nat) (rr : Nat → Value) (i : Nat) (v : Value), i < k → putL A l k (upd rr i v) = putL A l k rr
  | [], _, _, _, _, _, _ => rfl
  | d :: r, A, k, rr, i, v, h => by
    show putL (A.put d (upd rr i v k)) r (k + 1) (upd rr i v) = _
    rw [upd_else _ _ _ (by omega), putL_upd_else r _ _ _ _ _ (by omega)]
    rfl
theorem putL_upd : ∀ (l : List (Option Nat)) (A : Act) (k : Nat) (rr : Nat → Value) (i : Nat) (v : Value), apartL l = true → i < l.length → putL A l k (upd rr (k + i) v) = (putL A l k rr).put (l.getD i none) v
  | [], _, _, _, _, _, _, h => by cases h
  | d :: r, A, k, rr, 0, v, ha, _ => by
    show putL (A.put d (upd rr k v k)) r (k + 1) (upd rr k v) = (putL (A.put d (rr k)) r (k + 1) rr).put d v
    rw [upd_same, putL_upd_else _ _ _ _ _ _ (Nat.lt_succ_self _), putL_put r _ _ _ d v ?_, put_put]
    cases d with
    | none => exact .inl rfl
    | some d =>
      right
      have := (Bool.and_eq_true_iff.1 ha).1
      simpa using this
  | d :: r, A, k, rr, i + 1, v, ha, h => by
    show putL (A.put d (upd rr (k + (i + 1)) v k)) r (k + 1) (upd rr (k + (i + 1)) v) = (putL (A.put d (rr k)) r (k + 1) rr).put (r.getD i none) v
    rw [upd_else _ _ _ (by omega), show k + (i + 1) = k + 1 + i by omega]
    refine putL_upd r _ (k + 1) rr i v ?_ (by simpa using h)
    cases d with
    | none => exact ha
    | some d => exact (Bool.and_eq_true_iff.1 ha).2
/-- what stands there already -/
def slotV (A : Act) : Option Nat → Value
  | some t => A.tmps.getD t undef
  | none => undef
theorem put_self (A : Act) (d : Option Nat) : A.put d (slotV A d) = A := by
  cases d with
  | none => rfl
  | some d =>
    cases A with
    | mk tmps defers =>
      simp only [slotV, Act.put, Act.mk.injEq, and_true]
      refine Array.ext_getElem? fun j => ?_
      rw [Array.getElem?_setIfInBounds]
      split
      · rename_i e
        subst e
        split
        · rename_i h
          simp [h]
        · rename_i h
          simp [Array.getElem?_eq_none (Nat.le_of_not_lt h)]
      · rfl
theorem putL_own : ∀ (l : List (Option Nat)) (A : Act) (k : Nat) (rr : Nat → Value), (∀ i, i < l.length → rr (k + i) = slotV A (l.getD i none)) → putL A l k rr = A
  | [], _, _, _, _ => rfl
  | d :: r, A, k, rr, h => by
    show putL (A.put d (rr k)) r (k + 1) rr = A
    have h0 : rr k = slotV A d := h 0 (Nat.zero_lt_succ _)
    rw [h0, put_self]
    exact putL_own r A (k + 1) rr (fun i hi => by
      have := h (i + 1) (Nat.succ_lt_succ hi)
      rw [show k + 1 + i = k + (i + 1) by omega]
      exact this)

section
variable {P : Program} {ops : Array Oper} {Q : Exit → Act → World → Prop} {md : Region.Mode} {zs : List Nat}

theorem wpAnyL_mono {dl : List (Option Nat)} (A0 : Act) (G : World → Prop) (F : Nat → Value → World → Prop) (hdl : ops.toList.map (·.dst) = dl) (hap : apartL dl = true)
    (hL : allL md ops zs = true) (hO : ordB md ops = true) (hz : ∃ z, z ∈ zs ∧ z < ops.size)
    (hG : ∀ W W', G W → Below W.heap.size W W' → G W') (hF : ∀ i v W W', F i v W → Below W.heap.size W W' → F i v W')
    (step : ∀ i o, ops[i]? = some o → zs.contains i = false → ∀ (rr : Nat → Value) W, G W → (∀ j, j ∈ deps md ops i → zs.contains j = false → F j (rr j) W) →
      ∀ K' : Act → World → Prop, Shut (∀ v W', F i v W' → Below W.heap.size W W' → K' ((putL A0 dl 0 rr).put o.dst v) W') →
        if Region.wanted o (yielded ops (putL A0 dl 0 rr).tmps) = true then Oper.wp P o (putL A0 dl 0 rr) W K' Q else K' ((putL A0 dl 0 rr).put o.dst undef) W)
    (fin : ∀ fuel listed rr W, G W → (∀ j, j < ops.size → zs.contains j = false → F j (rr j) W) → listed.size = ops.size → (∀ j, j < ops.size → listed.getD j false = !zs.contains j) → fuel + listed.toList.count true = ops.size →
      wpAnyL P md ops Q (fun _ => True) zs fuel listed (putL A0 dl 0 rr) W)
    (w : World) (hw : G w) : wpAnyL P md ops Q (fun _ => True) zs ops.size (Array.replicate ops.size false) A0 w := by
  have hlen : dl.length = ops.size := by rw [← hdl, List.length_map, Array.length_toList]
  have hd : ∀ i o, ops[i]? = some o → dl.getD i none = o.dst := fun i o ho => by
    rw [← hdl, List.getD_eq_getElem?_getD, List.getElem?_map, Array.getElem?_toList, ho]
    rfl
  refine wpAnyL_inv (I := fun listed a W => ∃ rr : Nat → Value, a = putL A0 dl 0 rr ∧ G W ∧ listed.size = ops.size ∧ (∀ z, z ∈ zs → z < ops.size → listed.getD z true = false) ∧ ∀ j, j < ops.size → zs.contains j = false → listed.getD j false = true → F j (rr j) W)
    hL hO (fun _ _ _ ⟨_, _, _, h, _⟩ => h) (fun _ _ _ ⟨_, _, _, _, h, _⟩ => by obtain ⟨z, h1, h2⟩ := hz; exact ⟨z, h2, h z h1 h2⟩) ?_ ?_ _ _ _ _ ?_ ?_ ?_
  · rintro listed a W i o ⟨rr, rfl, hg, hs, hzl, hf⟩ hi hzi ho K' hK
    have hlt : i < ops.size := (Array.getElem?_eq_some_iff.1 ho).1
    refine step i o ho hzi rr W hg (fun j hj hzj => ?_) K' (fun v W' hv hB => ?_)
    · have h1 := ready_deps hi j hj
      refine hf j ?_ hzj h1
      rcases Nat.lt_or_ge j ops.size with h | h
      · exact h
      · have : listed.getD j false = false := by simp [Array.getD, show ¬ j < listed.size by omega]
        rw [this] at h1
        cases h1
    · refine hK.out _ _ trivial ⟨upd rr i v, ?_, hG _ _ hg hB, by simpa using hs, fun z hz hzl' => ?_, fun j hj hzj hl => ?_⟩
      · have := putL_upd dl A0 0 rr i v hap (by omega)
        rw [Nat.zero_add, hd i o ho] at this
        exact this.symm
      · have hne : i ≠ z := fun e => by
          subst e
          simp [hz] at hzi
        rw [getD_set_ne true hne]
        exact hzl z hz hzl'
      · by_cases e : j = i
        · subst e
          rw [upd_same]
          exact hv
        · rw [upd_else _ _ _ e]
          rw [getD_set_ne false (Ne.symm e)] at hl
          exact hF _ _ _ _ (hf j hj hzj hl) hB
  · rintro fuel listed a W ⟨rr, rfl, hg, hs, hzl, hf⟩ hfu hall
    refine fin fuel listed rr W hg (fun j hj hzj => hf j hj hzj (hall j hj hzj)) hs (fun j hj => ?_) hfu
    cases hc : zs.contains j with
    | false => exact hall j hj hc
    | true =>
      have := hzl j (by simpa using hc) hj
      rw [Array.getD_eq_getD_getElem?, Array.getElem?_eq_getElem (by omega)] at this ⊢
      exact this
  · intro j hj
    simp [Array.getD] at hj
  · refine ⟨fun j => slotV A0 (dl.getD j none), (putL_own dl A0 0 _ (fun i _ => by rw [Nat.zero_add])).symm, hw, by simp, fun z _ hz => by simp [Array.getD, hz], fun j hj _ hl => by simp [Array.getD] at hl⟩
  · rw [Array.toList_replicate, List.count_replicate]; simp
end
/-- a drawn statement whose last operation waits for all others -/
theorem wp_region_mono {P : Program} {ops : Array Oper} {Q : Exit → Act → World → Prop} {id : Nat} {z : Nat} {oz : Oper} (dl : List (Option Nat)) (A0 : Act) (w : World) (G : World → Prop) (F : Nat → Value → World → Prop) (hm : P.follows .mixedOrders = true) (hdl : ops.toList.map (·.dst) = dl) (hap : apartL dl = true)
    (hL : allL .any ops [z] = true) (hO : ordB .any ops = true) (hoz : ops[z]? = some oz)
    (hG : ∀ W W', G W → Below W.heap.size W W' → G W') (hF : ∀ i v W W', F i v W → Below W.heap.size W W' → F i v W')
    (step : ∀ i o, ops[i]? = some o → i ≠ z → ∀ (rr : Nat → Value) W, G W → (∀ j, j ∈ deps .any ops i → j ≠ z → F j (rr j) W) →
      ∀ K' : Act → World → Prop, Shut (∀ v W', F i v W' → Below W.heap.size W W' → K' ((putL A0 dl 0 rr).put o.dst v) W') →
        if Region.wanted o (yielded ops (putL A0 dl 0 rr).tmps) = true then Oper.wp P o (putL A0 dl 0 rr) W K' Q else K' ((putL A0 dl 0 rr).put o.dst undef) W)
    (fin : ∀ rr W, G W → (∀ j, j < ops.size → j ≠ z → F j (rr j) W) → ∀ K' : Act → World → Prop, Shut (∀ a W', Q .normal a W' → K' a W') →
      if Region.wanted oz (yielded ops (putL A0 dl 0 rr).tmps) = true then Oper.wp P oz (putL A0 dl 0 rr) W K' Q else K' ((putL A0 dl 0 rr).put oz.dst undef) W)
    (hw : G w.drew) : (Code.region id ops true).wp P Q A0 w := by
  have hzlt : z < ops.size := (Array.getElem?_eq_some_iff.1 hoz).1
  have hc : ∀ j : Nat, [z].contains j = decide (j = z) := fun j => by rw [Bool.eq_iff_iff]; simp
  refine wp_region_late (S := fun _ => True) (zs := [z]) hm (wpAnyL_mono (dl := dl) A0 G F hdl hap hL hO ⟨z, by simp, hzlt⟩ hG hF (fun i o ho hz rr W hg hf => step i o ho (fun e => by rw [hc] at hz; simp [e] at hz) rr W hg (fun j hj hne => hf j hj (by rw [hc]; simp [hne]))) ?_ _ hw)
  intro fuel listed rr W hg hf hs hl hfu
  have hlz : listed.getD z false = false := by rw [hl z hzlt, hc]; simp
  have hrd : ∀ j, j ∈ Region.ready .any ops listed → j = z := fun j hj => by
    obtain ⟨hun, o, ho, _⟩ := mem_ready.1 hj
    have hlt := (Array.getElem?_eq_some_iff.1 ho).1
    have h1 := hl j hlt
    rw [hc] at h1
    rcases Decidable.em (j = z) with h | h
    · exact h
    · rw [decide_eq_false h] at h1
      rw [Array.getD_eq_getD_getElem?, Array.getElem?_eq_getElem (by omega)] at h1 hun
      rw [show listed[j] = true from h1] at hun
      cases hun
  have hzr : z ∈ Region.ready .any ops listed := by
    obtain ⟨k, hk⟩ := least_ready hO hs (z + 1) z (Nat.lt_succ_self _) hzlt (by
      rw [Array.getD_eq_getD_getElem?, Array.getElem?_eq_getElem (by omega)] at hlz ⊢
      exact hlz)
    rw [← hrd k hk]
    exact hk
  cases fuel with
  | zero =>
    exfalso
    have h1 := count_all (l := listed.toList) (by rw [Array.length_toList]; omega) z
    rw [getD_list] at hlz
    have hlt : z < listed.toList.length := by rw [Array.length_toList, hs]; exact hzlt
    rw [List.getD_eq_getElem?_getD, List.getElem?_eq_getElem hlt] at h1 hlz
    rw [show listed.toList[z] = true from h1] at hlz
    cases hlz
  | succ fuel =>
    refine ⟨(fun h0 => by rw [h0] at hzr; cases hzr), fun j hj => ?_⟩
    obtain rfl := hrd j hj
    refine wpOp_step hoz (fun K' hK => fin rr W hg (fun i hi hne => hf i hi (by rw [hc]; simp [hne])) K' (fun a W' hQ => hK a W' ⟨fun _ => trivial, wpAnyL_end ?_ hQ⟩))
    cases hr : Region.ready .any ops (listed.setIfInBounds j true) with
    | nil => rfl
    | cons i r =>
      exfalso
      have hi : i ∈ Region.ready .any ops (listed.setIfInBounds j true) := by rw [hr]; exact List.mem_cons_self ..
      obtain ⟨hun, o, ho, _⟩ := mem_ready.1 hi
      have hlt := (Array.getElem?_eq_some_iff.1 ho).1
      by_cases e : i = j
      · subst e
        rw [Array.getD_eq_getD_getElem?] at hun
        simp [show i < listed.size by omega] at hun
      · rw [getD_set_ne true (Ne.symm e)] at hun
        have h1 := hl i hlt
        rw [hc, decide_eq_false e] at h1
        rw [Array.getD_eq_getD_getElem?, Array.getElem?_eq_getElem (by omega)] at h1 hun
        rw [show listed[i] = true from h1] at hun
        cases hun
theorem put_get (A : Act) (d : Option Nat) (v : Value) (t : Nat) (h : d ≠ some t) : (A.put d v).tmps[t]? = A.tmps[t]? := by
  cases d with
  | none => rfl
  | some d =>
    have hne : d ≠ t := fun e => h (by rw [e])
    show (A.tmps.setIfInBounds d v)[t]? = _
    rw [Array.getElem?_setIfInBounds, if_neg hne]
theorem put_size (A : Act) (d : Option Nat) (v : Value) : (A.put d v).tmps.size = A.tmps.size := by
  cases d with
  | none => rfl
  | some d => exact Array.size_setIfInBounds
theorem put_defers (A : Act) (d : Option Nat) (v : Value) : (A.put d v).defers = A.defers := by
  cases d <;> rfl
theorem putL_old : ∀ (l : List (Option Nat)) (A : Act) (k : Nat) (rr : Nat → Value) (t : Nat), l.contains (some t) = false → (putL A l k rr).tmps[t]? = A.tmps[t]?
  | [], _, _, _, _, _ => rfl
  | d :: r, A, k, rr, t, h => by
    have h' : d ≠ some t ∧ r.contains (some t) = false := by
      rw [List.contains_cons, Bool.or_eq_false_iff] at h
      exact ⟨fun e => by rw [e] at h; simp at h, h.2⟩
    show (putL (A.put d (rr k)) r (k + 1) rr).tmps[t]? = _
    rw [putL_old r _ _ _ t h'.2, put_get _ _ _ _ h'.1]
theorem putL_new : ∀ (l : List (Option Nat)) (A : Act) (k : Nat) (rr : Nat → Value) (i t : Nat), apartL l = true → l.getD i none = some t → t < A.tmps.size → (putL A l k rr).tmps[t]? = some (rr (k + i))
  | [], _, _, _, _, _, _, h, _ => by simp at h
  | d :: r, A, k, rr, 0, t, ha, h, ht => by
    have h : d = some t := h
    subst h
    have := (Bool.and_eq_true_iff.1 ha).1
    show (putL (A.put (some t) (rr k)) r (k + 1) rr).tmps[t]? = _
    rw [putL_old r _ _ _ t (by simpa using this)]
    show (A.tmps.setIfInBounds t (rr k))[t]? = _
    rw [Array.getElem?_setIfInBounds, if_pos rfl, if_pos ht]
    rfl
  | d :: r, A, k, rr, i + 1, t, ha, h, ht => by
    show (putL (A.put d (rr k)) r (k + 1) rr).tmps[t]? = some (rr (k + (i + 1)))
    rw [show k + (i + 1) = k + 1 + i by omega]
    refine putL_new r _ (k + 1) rr i t ?_ h (by rw [put_size]; exact ht)
    cases d with
    | none => exact ha
    | some d => exact (Bool.and_eq_true_iff.1 ha).2
/-- .. each step over a frame of which only what it reads is known -/
theorem wp_region_steps {P : Program} {ops : Array Oper} {Q : Exit → Act → World → Prop} {id : Nat} {z : Nat} {oz : Oper} (dl : List (Option Nat)) (A0 : Act) (w : World) (G : World → Prop) (F : Nat → Value → World → Prop) (hm : P.follows .mixedOrders = true) (hdl : ops.toList.map (·.dst) = dl) (hap : apartL dl = true)
    (hsz : (dl.all fun d => match d with | some t => decide (t < A0.tmps.size) | none => true) = true)
    (hL : allL .any ops [z] = true) (hO : ordB .any ops = true) (hoz : ops[z]? = some oz)
    (hG : ∀ W W', G W → Below W.heap.size W W' → G W') (hF : ∀ i v W W', F i v W → Below W.heap.size W W' → F i v W')
    (step : ∀ i o, ops[i]? = some o → i ≠ z → ∀ (a : Act) W, G W → (∀ j t, dl.getD j none = some t → (deps .any ops i).contains j = true → j ≠ z → ∃ v, a.tmps[t]? = some v ∧ F j v W) → (∀ t, dl.contains (some t) = false → a.tmps[t]? = A0.tmps[t]?) →
      ∀ K' : Act → World → Prop, Shut (∀ v W', F i v W' → Below W.heap.size W W' → K' (a.put o.dst v) W') →
        if Region.wanted o (yielded ops a.tmps) = true then Oper.wp P o a W K' Q else K' (a.put o.dst undef) W)
    (fin : ∀ rr W, G W → (∀ j, j < ops.size → j ≠ z → F j (rr j) W) → ∀ K' : Act → World → Prop, Shut (∀ a W', Q .normal a W' → K' a W') →
      if Region.wanted oz (yielded ops (putL A0 dl 0 rr).tmps) = true then Oper.wp P oz (putL A0 dl 0 rr) W K' Q else K' ((putL A0 dl 0 rr).put oz.dst undef) W)
    (hw : G w.drew) : (Code.region id ops true).wp P Q A0 w :=
  wp_region_mono dl A0 w G F hm hdl hap hL hO hoz hG hF (fun i o ho hz rr W hg hf K' hK => step i o ho hz (putL A0 dl 0 rr) W hg (fun j t hj hd hjz => ⟨rr j, by
    have h1 := putL_new dl A0 0 rr j t hap hj (by
      have h2 := List.all_eq_true.1 hsz (some t) (by
        rw [List.getD_eq_getElem?_getD] at hj
        cases h3 : dl[j]? with
        | none => rw [h3] at hj; cases hj
        | some d =>
          rw [h3] at hj
          cases hj
          exact List.mem_of_getElem? h3)
      exact of_decide_eq_true h2)
    rw [Nat.zero_add] at h1
    exact h1, hf j (by simpa using hd) hjz⟩) (fun t ht => putL_old dl A0 0 rr t ht) K' hK) fin hw
def listedOf (n : Nat) (zs : List Nat) : Array Bool := ((List.range n).map fun j => !zs.contains j).toArray
/-- .. whose last operations, these, wait for all others -/
theorem wp_region_stepsZ {P : Program} {ops : Array Oper} {Q : Exit → Act → World → Prop} {id : Nat} (zs : List Nat) (dl : List (Option Nat)) (A0 : Act) (w : World) (G : World → Prop) (F : Nat → Value → World → Prop) (hm : P.follows .mixedOrders = true) (hdl : ops.toList.map (·.dst) = dl) (hap : apartL dl = true)
    (hsz : (dl.all fun d => match d with | some t => decide (t < A0.tmps.size) | none => true) = true)
    (hL : allL .any ops zs = true) (hO : ordB .any ops = true) (hz : ∃ z, z ∈ zs ∧ z < ops.size) (hfu : zs.length + (listedOf ops.size zs).toList.count true = ops.size)
    (hG : ∀ W W', G W → Below W.heap.size W W' → G W') (hF : ∀ i v W W', F i v W → Below W.heap.size W W' → F i v W')
    (step : ∀ i o, ops[i]? = some o → zs.contains i = false → ∀ (a : Act) W, G W → (∀ j t, dl.getD j none = some t → (deps .any ops i).contains j = true → zs.contains j = false → ∃ v, a.tmps[t]? = some v ∧ F j v W) → (∀ t, dl.contains (some t) = false → a.tmps[t]? = A0.tmps[t]?) →
      ∀ K' : Act → World → Prop, Shut (∀ v W', F i v W' → Below W.heap.size W W' → K' (a.put o.dst v) W') →
        if Region.wanted o (yielded ops a.tmps) = true then Oper.wp P o a W K' Q else K' (a.put o.dst undef) W)
    (fin : ∀ rr W, G W → (∀ j, j < ops.size → zs.contains j = false → F j (rr j) W) → wpAnyL P .any ops Q (fun _ => True) zs zs.length (listedOf ops.size zs) (putL A0 dl 0 rr) W)
    (hw : G w.drew) : (Code.region id ops true).wp P Q A0 w := by
  refine wp_region_late (S := fun _ => True) (zs := zs) hm (wpAnyL_mono (dl := dl) A0 G F hdl hap hL hO hz hG hF (fun i o ho hz rr W hg hf K' hK => step i o ho hz (putL A0 dl 0 rr) W hg (fun j t hj hd hjz => ⟨rr j, by
    have h1 := putL_new dl A0 0 rr j t hap hj (by
      have h2 := List.all_eq_true.1 hsz (some t) (by
        rw [List.getD_eq_getElem?_getD] at hj
        cases h3 : dl[j]? with
        | none => rw [h3] at hj; cases hj
        | some d =>
          rw [h3] at hj
          cases hj
          exact List.mem_of_getElem? h3)
      exact of_decide_eq_true h2)
    rw [Nat.zero_add] at h1
    exact h1, hf j (by simpa using hd) hjz⟩) (fun t ht => putL_old dl A0 0 rr t ht) K' hK) ?_ _ hw)
  intro fuel listed rr W hg hf hs hl hfu'
  have e : listed = listedOf ops.size zs := by
    refine Array.ext (by simp [listedOf, hs]) (fun j h1 h2 => ?_)
    have h3 := hl j (by omega)
    rw [Array.getD_eq_getD_getElem?, Array.getElem?_eq_getElem h1] at h3
    rw [show listed[j] = !zs.contains j from h3]
    simp [listedOf]
  subst e
  obtain rfl : fuel = zs.length := by omega
  exact fin rr W hg hf
theorem putL_defers : ∀ (l : List (Option Nat)) (A : Act) (k : Nat) (rr : Nat → Value), (putL A l k rr).defers = A.defers
  | [], _, _, _ => rfl
  | d :: r, A, k, rr => by
    show (putL (A.put d (rr k)) r (k + 1) rr).defers = _
    rw [putL_defers r, put_defers]
theorem dl_lt {dl : List (Option Nat)} {n j t : Nat} (hsz : (dl.all fun d => match d with | some t => decide (t < n) | none => true) = true) (hj : dl.getD j none = some t) : t < n := by
  have h2 := List.all_eq_true.1 hsz (some t) (by
    rw [List.getD_eq_getElem?_getD] at hj
    cases h3 : dl[j]? with
    | none => rw [h3] at hj; cases hj
    | some d =>
      rw [h3] at hj
      cases hj
      exact List.mem_of_getElem? h3)
  exact of_decide_eq_true h2
/-- .. and the last one too -/
theorem wp_region_stepsF {P : Program} {ops : Array Oper} {Q : Exit → Act → World → Prop} {id : Nat} {z : Nat} {oz : Oper} (dl : List (Option Nat)) (A0 : Act) (w : World) (G : World → Prop) (F : Nat → Value → World → Prop) (hm : P.follows .mixedOrders = true) (hdl : ops.toList.map (·.dst) = dl) (hap : apartL dl = true)
    (hsz : (dl.all fun d => match d with | some t => decide (t < A0.tmps.size) | none => true) = true)
    (hL : allL .any ops [z] = true) (hO : ordB .any ops = true) (hoz : ops[z]? = some oz)
    (hG : ∀ W W', G W → Below W.heap.size W W' → G W') (hF : ∀ i v W W', F i v W → Below W.heap.size W W' → F i v W')
    (step : ∀ i o, ops[i]? = some o → i ≠ z → ∀ (a : Act) W, G W → (∀ j t, dl.getD j none = some t → (deps .any ops i).contains j = true → j ≠ z → ∃ v, a.tmps[t]? = some v ∧ F j v W) → (∀ t, dl.contains (some t) = false → a.tmps[t]? = A0.tmps[t]?) →
      ∀ K' : Act → World → Prop, Shut (∀ v W', F i v W' → Below W.heap.size W W' → K' (a.put o.dst v) W') →
        if Region.wanted o (yielded ops a.tmps) = true then Oper.wp P o a W K' Q else K' (a.put o.dst undef) W)
    (fin : ∀ (a : Act) W, G W → (∀ j t, dl.getD j none = some t → j < ops.size → j ≠ z → ∃ v, a.tmps[t]? = some v ∧ F j v W) → (∀ t, dl.contains (some t) = false → a.tmps[t]? = A0.tmps[t]?) → a.defers = A0.defers → a.tmps.size = A0.tmps.size → ∀ K' : Act → World → Prop, Shut (∀ a W', Q .normal a W' → K' a W') →
      if Region.wanted oz (yielded ops a.tmps) = true then Oper.wp P oz a W K' Q else K' (a.put oz.dst undef) W)
    (hw : G w.drew) : (Code.region id ops true).wp P Q A0 w :=
  wp_region_steps dl A0 w G F hm hdl hap hsz hL hO hoz hG hF step (fun rr W hg hf K' hK => fin (putL A0 dl 0 rr) W hg (fun j t hj hlt hne => ⟨rr j, by
    have h1 := putL_new dl A0 0 rr j t hap hj (dl_lt hsz hj)
    rw [Nat.zero_add] at h1
    exact h1, hf j hlt hne⟩) (fun t ht => putL_old dl A0 0 rr t ht) (putL_defers dl A0 0 rr) (by
      have : ∀ (l : List (Option Nat)) (A : Act) (k : Nat), (putL A l k rr).tmps.size = A.tmps.size := by
        intro l
        induction l with
        | nil => intro A k; rfl
        | cons d r ih => intro A k; show (putL (A.put d (rr k)) r (k + 1) rr).tmps.size = _; rw [ih, put_size]
      exact this dl A0 0) K' hK) hw
end Go.Proofs.YthglpfmbmmlbjaaDoor
