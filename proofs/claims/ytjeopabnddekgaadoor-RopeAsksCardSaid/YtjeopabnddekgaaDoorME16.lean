/- A statement that leaves its order open, one of whose operations makes a box that the last one fills: what is told of the others keeps clear of the box. Conditions: none. -/
import Derived.Test.YtjeopabnddekgaaDoorME15
import Derived.Lib.Hide
namespace Go.Proofs.YtjeopabnddekgaaDoor
open Go Go.RowKit

section
variable {P : Program} {ops : Array Oper} {Q : Exit → Act → World → Prop} {md : Region.Mode} {zs : List Nat}
/-- the box is there, and is its object -/
def BxAt (ob : Option Nat) (o : Obj) (W : World) : Prop := ∀ b, ob = some b → W.heap[b]? = some o
theorem wpAnyL_monoA {dl : List (Option Nat)} (A0 : Act) (x M : Nat) (ox : Obj) (G : World → Prop) (F : Option Nat → Nat → Value → World → Prop) (hdl : ops.toList.map (·.dst) = dl) (hap : apartL dl = true)
    (hL : allL md ops zs = true) (hO : ordB md ops = true) (hz : ∃ z, z ∈ zs ∧ z < ops.size) (hxz : zs.contains x = false) (hxn : x < ops.size)
    (hM : ∀ W, G W → M ≤ W.heap.size) (hG : ∀ W W', G W → Below W.heap.size W W' → G W') (hF : ∀ ob i v W W', F ob i v W → Below W.heap.size W W' → F ob i v W') (hA : ∀ i v W, M ≤ W.heap.size → F none i v W → F (some W.heap.size) i v (W.alloc ox))
    (alloc : ∀ o, ops[x]? = some o → ∀ (rr : Nat → Value) W, G W → ∀ K' : Act → World → Prop, Shut (K' ((putL A0 dl 0 rr).put o.dst (.pointer (some ⟨W.heap.size, 0, none⟩))) (W.alloc ox)) →
        if Region.wanted o (yielded ops (putL A0 dl 0 rr).tmps) = true then Oper.wp P o (putL A0 dl 0 rr) W K' Q else K' ((putL A0 dl 0 rr).put o.dst undef) W)
    (step : ∀ i o, ops[i]? = some o → zs.contains i = false → i ≠ x → ∀ (ob : Option Nat) (rr : Nat → Value) W, G W → (∀ b, ob = some b → M ≤ b ∧ b < W.heap.size) → (∀ j, j ∈ deps md ops i → zs.contains j = false → j ≠ x → F ob j (rr j) W) →
      ∀ K' : Act → World → Prop, Shut (∀ v W', F ob i v W' → Below W.heap.size W W' → K' ((putL A0 dl 0 rr).put o.dst v) W') →
        if Region.wanted o (yielded ops (putL A0 dl 0 rr).tmps) = true then Oper.wp P o (putL A0 dl 0 rr) W K' Q else K' ((putL A0 dl 0 rr).put o.dst undef) W)
    (fin : ∀ fuel listed (b : Nat) rr W, G W → M ≤ b → W.heap[b]? = some ox → rr x = .pointer (some ⟨b, 0, none⟩) → (∀ j, j < ops.size → zs.contains j = false → j ≠ x → F (some b) j (rr j) W) → listed.size = ops.size → (∀ j, j < ops.size → listed.getD j false = !zs.contains j) → fuel + listed.toList.count true = ops.size →
      wpAnyL P md ops Q (fun _ => True) zs fuel listed (putL A0 dl 0 rr) W)
    (w : World) (hw : G w) : wpAnyL P md ops Q (fun _ => True) zs ops.size (Array.replicate ops.size false) A0 w := by
  have hlen : dl.length = ops.size := by rw [← hdl, List.length_map, Array.length_toList]
  have hd : ∀ i o, ops[i]? = some o → dl.getD i none = o.dst := fun i o ho => by
    rw [← hdl, List.getD_eq_getElem?_getD, List.getElem?_map, Array.getElem?_toList, ho]
    rfl
  refine wpAnyL_inv (I := fun listed a W => ∃ (rr : Nat → Value) (ob : Option Nat), a = putL A0 dl 0 rr ∧ G W ∧ listed.size = ops.size ∧ (∀ z, z ∈ zs → z < ops.size → listed.getD z true = false) ∧ (listed.getD x false = false → ob = none) ∧ (listed.getD x false = true → ∃ b, ob = some b ∧ M ≤ b ∧ W.heap[b]? = some ox ∧ rr x = .pointer (some ⟨b, 0, none⟩)) ∧ ∀ j, j < ops.size → zs.contains j = false → j ≠ x → listed.getD j false = true → F ob j (rr j) W)
    hL hO (fun _ _ _ ⟨_, _, _, _, h, _⟩ => h) (fun _ _ _ ⟨_, _, _, _, _, h, _⟩ => by obtain ⟨z, h1, h2⟩ := hz; exact ⟨z, h2, h z h1 h2⟩) ?_ ?_ _ _ _ _ ?_ ?_ ?_
  · rintro listed a W i o ⟨rr, ob, rfl, hg, hs, hzl, hx0, hx1, hf⟩ hi hzi ho K' hK
    have hlt : i < ops.size := (Array.getElem?_eq_some_iff.1 ho).1
    have hun : listed.getD i false = false := by
      have := (mem_ready.1 hi).1
      rw [Array.getD_eq_getD_getElem?, Array.getElem?_eq_getElem (by omega)] at this ⊢
      exact this
    have hzl' : ∀ z, z ∈ zs → z < ops.size → (listed.setIfInBounds i true).getD z true = false := fun z hz hzl' => by
      have hne : i ≠ z := fun e => by
        subst e
        simp [hz] at hzi
      rw [getD_set_ne true hne]
      exact hzl z hz hzl'
    have hput : ∀ v, (putL A0 dl 0 rr).put o.dst v = putL A0 dl 0 (upd rr i v) := fun v => by
      have := putL_upd dl A0 0 rr i v hap (by omega)
      rw [Nat.zero_add, hd i o ho] at this
      exact this.symm
    by_cases hix : i = x
    · subst hix
      obtain rfl := hx0 hun
      refine alloc o ho rr W hg K' ?_
      have hB := (Below.refl W.heap.size W).alloc (Nat.le_refl _) ox
      refine hK.out _ _ trivial ⟨upd rr i (.pointer (some ⟨W.heap.size, 0, none⟩)), some W.heap.size, hput _, hG _ _ hg hB, by simpa using hs, hzl', fun h => ?_, fun _ => ⟨_, rfl, hM _ hg, heap_alloc_new _ _, upd_same _ _ _⟩, fun j hj hzj hne hl => ?_⟩
      · simp [Array.getD, hs, hlt] at h
      · rw [upd_else _ _ _ hne]
        rw [getD_set_ne false (Ne.symm hne)] at hl
        exact hA _ _ _ (hM _ hg) (hf j hj hzj hne hl)
    · have hbx : ∀ b, ob = some b → M ≤ b ∧ b < W.heap.size := fun b hb => by
        cases hc : listed.getD x false with
        | false => rw [hx0 hc] at hb; cases hb
        | true =>
          obtain ⟨b', h1, h0, h2, _⟩ := hx1 hc
          rw [h1] at hb
          cases hb
          exact ⟨h0, (Array.getElem?_eq_some_iff.1 h2).1⟩
      refine step i o ho hzi hix ob rr W hg hbx (fun j hj hzj hne => ?_) K' (fun v W' hv hB => ?_)
      · have h1 := ready_deps hi j hj
        refine hf j ?_ hzj hne h1
        rcases Nat.lt_or_ge j ops.size with h | h
        · exact h
        · have : listed.getD j false = false := by simp [Array.getD, show ¬ j < listed.size by omega]
          rw [this] at h1
          cases h1
      · refine hK.out _ _ trivial ⟨upd rr i v, ob, hput v, hG _ _ hg hB, by simpa using hs, hzl', fun h => ?_, fun h => ?_, fun j hj hzj hne hl => ?_⟩
        · rw [getD_set_ne false hix] at h
          exact hx0 h
        · rw [getD_set_ne false hix] at h
          obtain ⟨b, h1, h0, h2, h3⟩ := hx1 h
          exact ⟨b, h1, h0, (hB.block b (hbx b h1).2).trans h2, by rw [upd_else _ _ _ (Ne.symm hix)]; exact h3⟩
        · by_cases e : j = i
          · subst e
            rw [upd_same]
            exact hv
          · rw [upd_else _ _ _ e]
            rw [getD_set_ne false (Ne.symm e)] at hl
            exact hF _ _ _ _ _ (hf j hj hzj hne hl) hB
  · rintro fuel listed a W ⟨rr, ob, rfl, hg, hs, hzl, hx0, hx1, hf⟩ hfu hall
    obtain ⟨b, rfl, hb0, hb1, hb2⟩ := hx1 (hall x hxn hxz)
    refine fin fuel listed b rr W hg hb0 hb1 hb2 (fun j hj hzj hne => hf j hj hzj hne (hall j hj hzj)) hs (fun j hj => ?_) hfu
    cases hc : zs.contains j with
    | false => exact hall j hj hc
    | true =>
      have := hzl j (by simpa using hc) hj
      rw [Array.getD_eq_getD_getElem?, Array.getElem?_eq_getElem (by omega)] at this ⊢
      exact this
  · intro j hj
    simp [Array.getD] at hj
  · refine ⟨fun j => slotV A0 (dl.getD j none), none, (putL_own dl A0 0 _ (fun i _ => by rw [Nat.zero_add])).symm, hw, by simp, fun z _ hz => by simp [Array.getD, hz], fun _ => rfl, fun h => by simp [Array.getD] at h, fun j hj _ _ hl => by simp [Array.getD] at hl⟩
  · rw [Array.toList_replicate, List.count_replicate]; simp
end
/-- a drawn statement that makes a box and fills it last -/
theorem wp_region_stepsA {P : Program} {ops : Array Oper} {Q : Exit → Act → World → Prop} {id : Nat} (x z M : Nat) (ox : Obj) (dl : List (Option Nat)) (A0 : Act) (w : World) (G : World → Prop) (F : Option Nat → Nat → Value → World → Prop) (hm : P.follows .mixedOrders = true) (hdl : ops.toList.map (·.dst) = dl) (hap : apartL dl = true)
    (hsz : (dl.all fun d => match d with | some t => decide (t < A0.tmps.size) | none => true) = true)
    (hL : allL .any ops [z] = true) (hO : ordB .any ops = true) (hzn : z < ops.size) (hxz : x ≠ z) (hxn : x < ops.size) (hfu : 1 + (listedOf ops.size [z]).toList.count true = ops.size)
    (hM : ∀ W, G W → M ≤ W.heap.size) (hG : ∀ W W', G W → Below W.heap.size W W' → G W') (hF : ∀ ob i v W W', F ob i v W → Below W.heap.size W W' → F ob i v W') (hA : ∀ i v W, M ≤ W.heap.size → F none i v W → F (some W.heap.size) i v (W.alloc ox))
    (alloc : ∀ o, ops[x]? = some o → ∀ (a : Act) W, G W → ∀ K' : Act → World → Prop, Shut (K' (a.put o.dst (.pointer (some ⟨W.heap.size, 0, none⟩))) (W.alloc ox)) →
        if Region.wanted o (yielded ops a.tmps) = true then Oper.wp P o a W K' Q else K' (a.put o.dst undef) W)
    (step : ∀ i o, ops[i]? = some o → i ≠ z → i ≠ x → ∀ (ob : Option Nat) (a : Act) W, G W → (∀ b, ob = some b → M ≤ b ∧ b < W.heap.size) → (∀ j t, dl.getD j none = some t → (deps .any ops i).contains j = true → j ≠ z → j ≠ x → ∃ v, a.tmps[t]? = some v ∧ F ob j v W) → (∀ t, dl.contains (some t) = false → a.tmps[t]? = A0.tmps[t]?) →
      ∀ K' : Act → World → Prop, Shut (∀ v W', F ob i v W' → Below W.heap.size W W' → K' (a.put o.dst v) W') →
        if Region.wanted o (yielded ops a.tmps) = true then Oper.wp P o a W K' Q else K' (a.put o.dst undef) W)
    (fin : ∀ (b : Nat) rr W, G W → M ≤ b → W.heap[b]? = some ox → rr x = .pointer (some ⟨b, 0, none⟩) → (∀ j, j < ops.size → j ≠ z → j ≠ x → F (some b) j (rr j) W) → wpAnyL P .any ops Q (fun _ => True) [z] 1 (listedOf ops.size [z]) (putL A0 dl 0 rr) W)
    (hw : G w.drew) : (Code.region id ops true).wp P Q A0 w := by
  have hc : ∀ j : Nat, [z].contains j = decide (j = z) := fun j => by rw [Bool.eq_iff_iff]; simp
  refine wp_region_late (S := fun _ => True) (zs := [z]) hm (wpAnyL_monoA (dl := dl) A0 x M ox G F hdl hap hL hO ⟨z, by simp, hzn⟩ (by rw [hc]; simp [hxz]) hxn hM hG hF hA (fun o ho rr W hg K' hK => alloc o ho _ W hg K' hK) (fun i o ho hzi hix ob rr W hg hb hf K' hK => step i o ho (fun e => by rw [hc] at hzi; simp [e] at hzi) hix ob (putL A0 dl 0 rr) W hg hb (fun j t hj hd hjz hjx => ⟨rr j, by
    have h1 := putL_new dl A0 0 rr j t hap hj (dl_lt hsz hj)
    rw [Nat.zero_add] at h1
    exact h1, hf j (by simpa using hd) (by rw [hc]; simp [hjz]) hjx⟩) (fun t ht => putL_old dl A0 0 rr t ht) K' hK) ?_ _ hw)
  intro fuel listed b rr W hg hb0 hb hx hf hs hl hfu'
  have e : listed = listedOf ops.size [z] := by
    refine Array.ext (by simp [listedOf, hs]) (fun j h1 h2 => ?_)
    have h3 := hl j (by omega)
    rw [Array.getD_eq_getD_getElem?, Array.getElem?_eq_getElem h1] at h3
    rw [show listed[j] = ![z].contains j from h3]
    simp [listedOf]
  subst e
  obtain rfl : fuel = 1 := by omega
  exact fin b rr W hg hb0 hb hx (fun j hj hjz hjx => hf j hj (by rw [hc]; simp [hjz]) hjx)
/-- as stepsF; the frame is handed on as it was written, too -/
theorem wp_region_stepsP {P : Program} {ops : Array Oper} {Q : Exit → Act → World → Prop} {id : Nat} {z : Nat} {oz : Oper} (dl : List (Option Nat)) (A0 : Act) (w : World) (G : World → Prop) (F : Nat → Value → World → Prop) (hm : P.follows .mixedOrders = true) (hdl : ops.toList.map (·.dst) = dl) (hap : apartL dl = true)
    (hsz : (dl.all fun d => match d with | some t => decide (t < A0.tmps.size) | none => true) = true)
    (hL : allL .any ops [z] = true) (hO : ordB .any ops = true) (hoz : ops[z]? = some oz)
    (hG : ∀ W W', G W → Below W.heap.size W W' → G W') (hF : ∀ i v W W', F i v W → Below W.heap.size W W' → F i v W')
    (step : ∀ i o, ops[i]? = some o → i ≠ z → ∀ (a : Act) W, G W → (∀ j t, dl.getD j none = some t → (deps .any ops i).contains j = true → j ≠ z → ∃ v, a.tmps[t]? = some v ∧ F j v W) → (∀ t, dl.contains (some t) = false → a.tmps[t]? = A0.tmps[t]?) →
      ∀ K' : Act → World → Prop, Shut (∀ v W', F i v W' → Below W.heap.size W W' → K' (a.put o.dst v) W') →
        if Region.wanted o (yielded ops a.tmps) = true then Oper.wp P o a W K' Q else K' (a.put o.dst undef) W)
    (fin : ∀ (a : Act) W, G W → (∀ j t, dl.getD j none = some t → j < ops.size → j ≠ z → ∃ v, a.tmps[t]? = some v ∧ F j v W) → (∀ t, dl.contains (some t) = false → a.tmps[t]? = A0.tmps[t]?) → Hid (∃ rr, a = putL A0 dl 0 rr) → ∀ K' : Act → World → Prop, Shut (∀ a W', Q .normal a W' → K' a W') →
      if Region.wanted oz (yielded ops a.tmps) = true then Oper.wp P oz a W K' Q else K' (a.put oz.dst undef) W)
    (hw : G w.drew) : (Code.region id ops true).wp P Q A0 w :=
  wp_region_steps dl A0 w G F hm hdl hap hsz hL hO hoz hG hF step (fun rr W hg hf K' hK => fin (putL A0 dl 0 rr) W hg (fun j t hj hlt hne => ⟨rr j, by
    have h1 := putL_new dl A0 0 rr j t hap hj (dl_lt hsz hj)
    rw [Nat.zero_add] at h1
    exact h1, hf j hlt hne⟩) (fun t ht => putL_old dl A0 0 rr t ht) (Lib.hid ⟨rr, rfl⟩) K' hK) hw
end Go.Proofs.YtjeopabnddekgaaDoor
