/- A statement that leaves its order open, of operations each of which yields what is told of it: as RegMono, but over any relation of worlds in the place of growing. Conditions: none. -/
import Derived.Test.YtglanajglhneeaaMX44
import Derived.Lib.Hide
namespace Go.Proofs.Ytglanajglhneeaa
open Go Go.RowKit
namespace RX
section
variable {P : Program} {ops : Array Oper} {Q : Exit → Act → World → Prop} {md : Region.Mode} {zs : List Nat}
theorem wpAnyL_mono {dl : List (Option Nat)} (A0 : Act) {Γ : Type} (γ0 : Γ) (Nn : Γ → Nat → Prop) (G : Γ → World → Prop) (F : Γ → Nat → Value → World → Prop) (hN0 : ∀ i, Nn γ0 i) (hdl : ops.toList.map (·.dst) = dl) (hap : apartL dl = true)
    (hL : allL md ops zs = true) (hO : ordB md ops = true) (hz : ∃ z, z ∈ zs ∧ z < ops.size)
    (step : ∀ i o, ops[i]? = some o → zs.contains i = false → ∀ (γ : Γ) (rr : Nat → Value) W, G γ W → Nn γ i → (∀ j, j ∈ deps md ops i → zs.contains j = false → F γ j (rr j) W) →
      ∀ K' : Act → World → Prop, Shut (∀ (γ' : Γ) v W', F γ' i v W' → G γ' W' → (∀ j, j ≠ i → Nn γ j → Nn γ' j) → (∀ j u, F γ j u W → F γ' j u W') → K' ((putL A0 dl 0 rr).put o.dst v) W') →
        if Region.wanted o (yielded ops (putL A0 dl 0 rr).tmps) = true then Oper.wp P o (putL A0 dl 0 rr) W K' Q else K' ((putL A0 dl 0 rr).put o.dst undef) W)
    (fin : ∀ fuel listed (γ : Γ) rr W, G γ W → (∀ j, j < ops.size → zs.contains j = false → F γ j (rr j) W) → listed.size = ops.size → (∀ j, j < ops.size → listed.getD j false = !zs.contains j) → fuel + listed.toList.count true = ops.size →
      wpAnyL P md ops Q (fun _ => True) zs fuel listed (putL A0 dl 0 rr) W)
    (w : World) (hw : G γ0 w) : wpAnyL P md ops Q (fun _ => True) zs ops.size (Array.replicate ops.size false) A0 w := by
  have hlen : dl.length = ops.size := by rw [← hdl, List.length_map, Array.length_toList]
  have hd : ∀ i o, ops[i]? = some o → dl.getD i none = o.dst := fun i o ho => by
    rw [← hdl, List.getD_eq_getElem?_getD, List.getElem?_map, Array.getElem?_toList, ho]
    rfl
  refine wpAnyL_inv (I := fun listed a W => ∃ (γ : Γ) (rr : Nat → Value), a = putL A0 dl 0 rr ∧ (G γ W ∧ ∀ j, listed.getD j false = false → Nn γ j) ∧ listed.size = ops.size ∧ (∀ z, z ∈ zs → z < ops.size → listed.getD z true = false) ∧ ∀ j, j < ops.size → zs.contains j = false → listed.getD j false = true → F γ j (rr j) W)
    hL hO (fun _ _ _ ⟨_, _, _, _, h, _⟩ => h) (fun _ _ _ ⟨_, _, _, _, _, h, _⟩ => by obtain ⟨z, h1, h2⟩ := hz; exact ⟨z, h2, h z h1 h2⟩) ?_ ?_ _ _ _ _ ?_ ?_ ?_
  · rintro listed a W i o ⟨γ, rr, rfl, ⟨hg, hnn⟩, hs, hzl, hf⟩ hi hzi ho K' hK
    have hlt : i < ops.size := (Array.getElem?_eq_some_iff.1 ho).1
    have hun : listed.getD i false = false := by
      have := (mem_ready.1 hi).1
      rw [Array.getD_eq_getD_getElem?, Array.getElem?_eq_getElem (by omega)] at this ⊢
      exact this
    refine step i o ho hzi γ rr W hg (hnn i hun) (fun j hj hzj => ?_) K' (fun γ' v W' hv hg' hn' hF' => ?_)
    · have h1 := ready_deps hi j hj
      refine hf j ?_ hzj h1
      rcases Nat.lt_or_ge j ops.size with h | h
      · exact h
      · have : listed.getD j false = false := by simp [Array.getD, show ¬ j < listed.size by omega]
        rw [this] at h1
        cases h1
    · refine hK.out _ _ trivial ⟨γ', upd rr i v, ?_, ⟨hg', fun j hj => ?_⟩, by simpa using hs, fun z hz hzl' => ?_, fun j hj hzj hl => ?_⟩
      · have := putL_upd dl A0 0 rr i v hap (by omega)
        rw [Nat.zero_add, hd i o ho] at this
        exact this.symm
      · by_cases e : j = i
        · subst e
          simp [Array.getD, hs, hlt] at hj
        · rw [getD_set_ne false (Ne.symm e)] at hj
          exact hn' j e (hnn j hj)
      · have hne : i ≠ z := fun e => by
          subst e
          simp [hz] at hzi
        rw [getD_set_ne true hne]
        exact hzl z hz hzl'
      · by_cases e : j = i
        · subst e
          rw [upd_same]
          exact hv
        · rw [upd_else _ _ _ e]
          rw [getD_set_ne false (Ne.symm e)] at hl
          exact hF' _ _ (hf j hj hzj hl)
  · rintro fuel listed a W ⟨γ, rr, rfl, ⟨hg, _⟩, hs, hzl, hf⟩ hfu hall
    refine fin fuel listed γ rr W hg (fun j hj hzj => hf j hj hzj (hall j hj hzj)) hs (fun j hj => ?_) hfu
    cases hc : zs.contains j with
    | false => exact hall j hj hc
    | true =>
      have := hzl j (by simpa using hc) hj
      rw [Array.getD_eq_getD_getElem?, Array.getElem?_eq_getElem (by omega)] at this ⊢
      exact this
  · intro j hj
    simp [Array.getD] at hj
  · refine ⟨γ0, fun j => slotV A0 (dl.getD j none), (putL_own dl A0 0 _ (fun i _ => by rw [Nat.zero_add])).symm, ⟨hw, fun j _ => hN0 j⟩, by simp, fun z _ hz => by simp [Array.getD, hz], fun j hj _ hl => by simp [Array.getD] at hl⟩
  · rw [Array.toList_replicate, List.count_replicate]; simp
end
theorem wp_region_mono {P : Program} {ops : Array Oper} {Q : Exit → Act → World → Prop} {id : Nat} {z : Nat} {oz : Oper} (dl : List (Option Nat)) (A0 : Act) (w : World) {Γ : Type} (γ0 : Γ) (Nn : Γ → Nat → Prop) (G : Γ → World → Prop) (F : Γ → Nat → Value → World → Prop) (hN0 : ∀ i, Nn γ0 i) (hm : P.follows .mixedOrders = true) (hdl : ops.toList.map (·.dst) = dl) (hap : apartL dl = true)
    (hL : allL .any ops [z] = true) (hO : ordB .any ops = true) (hoz : ops[z]? = some oz)
    (step : ∀ i o, ops[i]? = some o → i ≠ z → ∀ (γ : Γ) (rr : Nat → Value) W, G γ W → Nn γ i → (∀ j, j ∈ deps .any ops i → j ≠ z → F γ j (rr j) W) →
      ∀ K' : Act → World → Prop, Shut (∀ (γ' : Γ) v W', F γ' i v W' → G γ' W' → (∀ j, j ≠ i → Nn γ j → Nn γ' j) → (∀ j u, F γ j u W → F γ' j u W') → K' ((putL A0 dl 0 rr).put o.dst v) W') →
        if Region.wanted o (yielded ops (putL A0 dl 0 rr).tmps) = true then Oper.wp P o (putL A0 dl 0 rr) W K' Q else K' ((putL A0 dl 0 rr).put o.dst undef) W)
    (fin : ∀ (γ : Γ) rr W, G γ W → (∀ j, j < ops.size → j ≠ z → F γ j (rr j) W) → ∀ K' : Act → World → Prop, Shut (∀ a W', Q .normal a W' → K' a W') →
      if Region.wanted oz (yielded ops (putL A0 dl 0 rr).tmps) = true then Oper.wp P oz (putL A0 dl 0 rr) W K' Q else K' ((putL A0 dl 0 rr).put oz.dst undef) W)
    (hw : G γ0 w.drew) : (Code.region id ops true).wp P Q A0 w := by
  have hzlt : z < ops.size := (Array.getElem?_eq_some_iff.1 hoz).1
  have hc : ∀ j : Nat, [z].contains j = decide (j = z) := fun j => by rw [Bool.eq_iff_iff]; simp
  refine wp_region_late (S := fun _ => True) (zs := [z]) hm (wpAnyL_mono (dl := dl) A0 γ0 Nn G F hN0 hdl hap hL hO ⟨z, by simp, hzlt⟩ (fun i o ho hz γ rr W hg hn hf => step i o ho (fun e => by rw [hc] at hz; simp [e] at hz) γ rr W hg hn (fun j hj hne => hf j hj (by rw [hc]; simp [hne]))) ?_ _ hw)
  intro fuel listed γ rr W hg hf hs hl hfu
  have hlz : listed.getD z false = false := by rw [hl z hzlt, hc]; simp
  have hrd : ∀ j, j ∈ Region.ready .any ops listed → j = z := fun j hj => by
    obtain ⟨hun, o, ho, _⟩ := mem_ready.1 hj
    have hlt := (Array.getElem?_eq_some_iff.1 ho).1
    have h1 := hl j hlt
    rw [hc] at h1
    rcases Decidable.em (j = z) with h | h
    · exact h
    · rw [decide_eq_false h] at h1
      rw [Array.getD_eq_getD_getElem?, Array.getElem?_eq_getElem (by omega)] at h1 hun
      rw [show listed[j] = true from h1] at hun
      cases hun
  have hzr : z ∈ Region.ready .any ops listed := by
    obtain ⟨k, hk⟩ := least_ready hO hs (z + 1) z (Nat.lt_succ_self _) hzlt (by
      rw [Array.getD_eq_getD_getElem?, Array.getElem?_eq_getElem (by omega)] at hlz ⊢
      exact hlz)
    rw [← hrd k hk]
    exact hk
  cases fuel with
  | zero =>
    exfalso
    have h1 := count_all (l := listed.toList) (by rw [Array.length_toList]; omega) z
    rw [getD_list] at hlz
    have hlt : z < listed.toList.length := by rw [Array.length_toList, hs]; exact hzlt
    rw [List.getD_eq_getElem?_getD, List.getElem?_eq_getElem hlt] at h1 hlz
    rw [show listed.toList[z] = true from h1] at hlz
    cases hlz
  | succ fuel =>
    refine ⟨(fun h0 => by rw [h0] at hzr; cases hzr), fun j hj => ?_⟩
    obtain rfl := hrd j hj
    refine wpOp_step hoz (fun K' hK => fin γ rr W hg (fun i hi hne => hf i hi (by rw [hc]; simp [hne])) K' (fun a W' hQ => hK a W' ⟨fun _ => trivial, wpAnyL_end ?_ hQ⟩))
    cases hr : Region.ready .any ops (listed.setIfInBounds j true) with
    | nil => rfl
    | cons i r =>
      exfalso
      have hi : i ∈ Region.ready .any ops (listed.setIfInBounds j true) := by rw [hr]; exact List.mem_cons_self ..
      obtain ⟨hun, o, ho, _⟩ := mem_ready.1 hi
      have hlt := (Array.getElem?_eq_some_iff.1 ho).1
      by_cases e : i = j
      · subst e
        rw [Array.getD_eq_getD_getElem?] at hun
        simp [show i < listed.size by omega] at hun
      · rw [getD_set_ne true (Ne.symm e)] at hun
        have h1 := hl i hlt
        rw [hc, decide_eq_false e] at h1
        rw [Array.getD_eq_getD_getElem?, Array.getElem?_eq_getElem (by omega)] at h1 hun
        rw [show listed[i] = true from h1] at hun
        cases hun
theorem wp_region_steps {P : Program} {ops : Array Oper} {Q : Exit → Act → World → Prop} {id : Nat} {z : Nat} {oz : Oper} (dl : List (Option Nat)) (A0 : Act) (w : World) {Γ : Type} (γ0 : Γ) (Nn : Γ → Nat → Prop) (G : Γ → World → Prop) (F : Γ → Nat → Value → World → Prop) (hN0 : ∀ i, Nn γ0 i) (hm : P.follows .mixedOrders = true) (hdl : ops.toList.map (·.dst) = dl) (hap : apartL dl = true)
    (hsz : (dl.all fun d => match d with | some t => decide (t < A0.tmps.size) | none => true) = true)
    (hL : allL .any ops [z] = true) (hO : ordB .any ops = true) (hoz : ops[z]? = some oz)
    (step : ∀ i o, ops[i]? = some o → i ≠ z → ∀ (γ : Γ) (a : Act) W, G γ W → Nn γ i → (∀ j t, dl.getD j none = some t → (deps .any ops i).contains j = true → j ≠ z → ∃ v, a.tmps[t]? = some v ∧ F γ j v W) → (∀ t, dl.contains (some t) = false → a.tmps[t]? = A0.tmps[t]?) →
      ∀ K' : Act → World → Prop, Shut (∀ (γ' : Γ) v W', F γ' i v W' → G γ' W' → (∀ j, j ≠ i → Nn γ j → Nn γ' j) → (∀ j u, F γ j u W → F γ' j u W') → K' (a.put o.dst v) W') →
        if Region.wanted o (yielded ops a.tmps) = true then Oper.wp P o a W K' Q else K' (a.put o.dst undef) W)
    (fin : ∀ (γ : Γ) rr W, G γ W → (∀ j, j < ops.size → j ≠ z → F γ j (rr j) W) → ∀ K' : Act → World → Prop, Shut (∀ a W', Q .normal a W' → K' a W') →
      if Region.wanted oz (yielded ops (putL A0 dl 0 rr).tmps) = true then Oper.wp P oz (putL A0 dl 0 rr) W K' Q else K' ((putL A0 dl 0 rr).put oz.dst undef) W)
    (hw : G γ0 w.drew) : (Code.region id ops true).wp P Q A0 w :=
  wp_region_mono dl A0 w γ0 Nn G F hN0 hm hdl hap hL hO hoz (fun i o ho hz γ rr W hg hn hf K' hK => step i o ho hz γ (putL A0 dl 0 rr) W hg hn (fun j t hj hd hjz => ⟨rr j, by
    have h1 := putL_new dl A0 0 rr j t hap hj (by
      have h2 := List.all_eq_true.1 hsz (some t) (by
        rw [List.getD_eq_getElem?_getD] at hj
        cases h3 : dl[j]? with
        | none => rw [h3] at hj; cases hj
        | some d =>
          rw [h3] at hj
          cases hj
          exact List.mem_of_getElem? h3)
      exact of_decide_eq_true h2)
    rw [Nat.zero_add] at h1
    exact h1, hf j (by simpa using hd) hjz⟩) (fun t ht => putL_old dl A0 0 rr t ht) K' hK) fin hw
end RX
end Go.Proofs.Ytglanajglhneeaa
