/- The reader of messages: made, asked for the next message, fed when it is dead. Conditions: such lengths as memory bears. -/
import Derived.Test.YtmaclplhphfkiaaDoorFrFed
namespace Go.Proofs.YtmaclplhphfkiaaDoor
open Go Go.RowKit Go.Lib F

/-- a reader is made -/
def NewOut (w : World) (e : Ending) (w' : World) : Prop := e = .returned (.pointer (some ⟨w.heap.size, 0, none⟩)) ∧ RdAt w' (fun b => b = w.heap.size) w.heap.size (.head []) [] ∧ Below w.heap.size w w' ∧ w'.heap.size = w.heap.size + 1
set_option maxRecDepth 100000 in
set_option maxHeartbeats 400000 in
theorem new_any (w : World) : Calls Tryd.prog 19 #[] w (NewOut w) := by
  go_enter Tryd.func19, Tryd.ntmps19
  go_wp2_with fail
  go_ret
  refine ⟨rfl, ⟨.slice none 0 0, .slice none 0 0, 0, heap_alloc_new _ _, Tail.nil _ _, Tail.nil _ _, trivial, rfl, (fun b hb => by cases hb), fun b hb => by cases hb⟩, (Below.refl w.heap.size w).alloc (Nat.le_refl _) _, by simp⟩
set_option maxRecDepth 100000 in
set_option maxHeartbeats 400000 in
theorem feed_dead (R E : Nat) (v : Value) (out : List Bs) (A : Nat → Prop) (w : World) (hR : RdAt w A R (.dead E) out) (hE : E ≠ 0) :
    Calls Tryd.prog 21 #[.pointer (some ⟨R, 0, none⟩), v] w (Stay (.int .i64 52) w) := by
  obtain ⟨part, bodies, size, hb, -, -, -, -⟩ := hR
  have hm := isMade_yes R _ _ _ _ _ w hb
  obtain ⟨-, -, -, -, -, c5⟩ := hb.cells
  simp only [St.err] at c5
  have t0 : (((E : Nat) : Int) != 0) = true := by simp; omega
  clear hb
  go_enter Tryd.func21, Tryd.ntmps21
  go_wp2_with fail
  refine hm.mono ?_
  rintro e w' ⟨rfl, rfl⟩
  go_wp2_with fail
  go_ret
  exact ⟨rfl, rfl⟩
theorem dead_at (R : Nat) (st : St) (out : List Bs) (A : Nat → Prop) (w : World) (hR : RdAt w A R st out) :
    Calls Tryd.prog 20 #[.pointer (some ⟨R, 0, none⟩)] w (Stay (.int .i64 (st.err : Nat)) w) := by
  obtain ⟨part, bodies, size, hb, -, -, -, -⟩ := hR
  exact dead_yes R _ _ _ _ _ w hb
set_option maxRecDepth 100000 in
set_option maxHeartbeats 400000 in
theorem next_none (R : Nat) (st : St) (A : Nat → Prop) (w : World) (hR : RdAt w A R st []) :
    Calls Tryd.prog 23 #[.pointer (some ⟨R, 0, none⟩)] w (Stay (.tuple #[.string ⟨#[]⟩, .bool false]) w) := by
  obtain ⟨part, bodies, size, hb, -, hTb, -, -⟩ := hR
  obtain ⟨z, c, rfl, -, -, -⟩ := hTb.form
  have hm := isMade_yes R _ _ _ _ _ w hb
  obtain ⟨-, -, -, -, c4, -⟩ := hb.cells
  clear hb hTb
  change w.cell? ⟨R, 4, none⟩ = some (.slice z 0 c) at c4
  go_enter Tryd.func23, Tryd.ntmps23
  go_wp2_with fail
  refine hm.mono ?_
  rintro e w' ⟨rfl, rfl⟩
  go_wp2_with fail
  go_ret2
  exact ⟨rfl, rfl⟩
/-- the first that waits is handed back -/
def NextOut (A : Nat → Prop) (R : Nat) (st : St) (b : Bs) (out : List Bs) (w : World) (e : Ending) (w' : World) : Prop :=
  e = .returned (.tuple #[.string (ba b), .bool true]) ∧ Alt A w w' ∧ RdAt w' A R st out ∧ w'.heap.size = w.heap.size
set_option maxRecDepth 100000 in
set_option maxHeartbeats 1000000 in
theorem next_some (R : Nat) (st : St) (b : Bs) (out : List Bs) (A : Nat → Prop) (w : World) (hR : RdAt w A R st (b :: out)) (ho : out.length ≤ 1000000000000) :
    Calls Tryd.prog 23 #[.pointer (some ⟨R, 0, none⟩)] w (NextOut A R st b out w) := by
  obtain ⟨part, bodies, size, hb, hTp, hTb, hsz, hP⟩ := hR
  rcases hTb with ⟨-, h0⟩ | ⟨g, off, cap, cur, rfl, hg, h1, h2, h3, h4⟩
  · cases h0
  have hm := isMade_yes R _ _ _ _ _ w hb
  have hlen : (strs (b :: out)).length = out.length + 1 := by rw [strs_len]; rfl
  rw [hlen] at hb h1 hP
  obtain ⟨hAR, hP2, hP3⟩ := hP
  have hgA := hP3 g rfl
  have hc0 : w.cell? ⟨g, off, none⟩ = some (.string (ba b)) := (cell_of_row w g off cur _ (0, 0) hg).trans (h4 0 _ rfl)
  have hfz : w.frozen? ⟨g, off, none⟩ = false := by simp [World.frozen?, hg]
  obtain ⟨-, -, -, -, c4, -⟩ := hb.cells
  have f4 := hb.free 4
  have hlt : g < w.heap.size := (Array.getElem?_eq_some_iff.1 hg).1
  have hWg : (w.setCell ⟨g, off, none⟩ (.string ⟨#[]⟩)).heap[g]? = some (.cells (cur.setIfInBounds off (.string ⟨#[]⟩)) 9 (0, 0)) := by
    obtain ⟨hlt, hk⟩ := Array.getElem?_eq_some_iff.1 hg
    show (w.heap.modify g _)[g]? = _
    rw [Array.getElem?_eq_getElem (by rw [Array.size_modify]; exact hlt), Array.getElem_modify_self, hk]
    rfl
  have hA1 := Alt.setCell (A := A) w (b := g) (o := off) (.string ⟨#[]⟩) hgA.1
  have hb1 := hb.same (Below.heap_setCell w ⟨g, off, none⟩ (.string ⟨#[]⟩) R (fun e => hgA.2 e.symm))
  have hTp1 := hTp.setOther (b := g) (o := off) (.string ⟨#[]⟩) (fun e => (hP2 g e).2.2 rfl)
  obtain ⟨-, -, -, -, d4, -⟩ := hb1.cells
  have fd4 := hb1.free 4
  have hn1 : (out.length : Int) + 1 ≤ (cap : Int) := by omega
  have hn2 : 1 ≤ cap := by omega
  -- the new row
  have hrow : ∀ z o2, (z = some (⟨g, o2, none⟩ : Addr)) → (0 < out.length → o2 = off + 1) → o2 + (cap - 1) ≤ cur.size → ∀ W : World, W.heap[g]? = some (.cells (cur.setIfInBounds off (.string ⟨#[]⟩)) 9 (0, 0)) → Tail W 9 (.slice z out.length (cap - 1)) (strs out) := by
    intro z o2 hz ho2 hfit W hW
    refine .inr ⟨g, o2, cap - 1, _, by rw [hz, strs_len], hW, by rw [strs_len]; omega, by omega, by rw [Array.size_setIfInBounds]; exact hfit, fun j u hj => ?_⟩
    have hjl := (List.getElem?_eq_some_iff.1 hj).1
    rw [strs_len] at hjl
    have := ho2 (by omega)
    subst this
    rw [Array.getElem?_setIfInBounds_ne (by omega)]
    have := h4 (j + 1) u (by simpa [strs] using hj)
    rwa [show off + (j + 1) = off + 1 + j by omega] at this
  have hfin : ∀ o2, (0 < out.length → o2 = off + 1) → o2 + (cap - 1) ≤ cur.size → NextOut A R st b out w (.returned (.tuple #[.string (ba b), .bool true])) ((w.setCell ⟨g, off, none⟩ (.string ⟨#[]⟩)).setCell ⟨R, 4, none⟩ (.slice (some ⟨g, o2, none⟩) out.length (cap - 1))) := by
    intro o2 ho2 hfit
    refine ⟨rfl, hA1.then (Alt.setCell _ _ hAR), ⟨part, _, size, hb1.set4 _, hTp1.setOther _ (fun e => (hP2 R e).2.1 rfl), hrow _ o2 rfl ho2 hfit _ ((Below.heap_setCell _ _ _ g hgA.2).trans hWg), hsz, hAR, fun c hc => ⟨(hP2 c hc).1, (hP2 c hc).2.1, fun e => (hP2 c hc).2.2 e⟩, fun c hc => ?_⟩, by simp⟩
    have e2 : g = c := by simpa [Value.ownBlock] using hc
    rw [← e2]; exact hgA
  have HR := Lib.hid hfin
  clear hfin hrow hA1 hb1 hTp1 hWg hb hTp hg h4 hP2 hP3 hgA
  by_cases hcm : cap = 1
  · have h00 : out.length = 0 := by omega
    have HR1 := Lib.hid (HR.out off (fun h => by omega) (by omega))
    rw [h00, hcm] at HR1
    clear HR
    go_enter Tryd.func23, Tryd.ntmps23
    go_wp2_with fail
    refine hm.mono ?_
    rintro e w' ⟨rfl, rfl⟩
    go_wp2_with fail
    go_ret2
    exact HR1.out
  · have hcm2 : ¬ cap = 0 := by omega
    have hls : out.length + 1 - 1 = out.length := Nat.add_sub_cancel _ _
    have hi0 : (0 : Int) < ((out.length + 1 : Nat) : Int) := by omega
    have hne : ¬ out.length + 1 = 0 := by omega
    have HR1 := Lib.hid (HR.out (off + 1) (fun _ => rfl) (by omega))
    clear HR
    go_enter Tryd.func23, Tryd.ntmps23
    go_wp2_with fail
    refine hm.mono ?_
    rintro e w' ⟨rfl, rfl⟩
    go_wp2_with fail
    go_ret2
    exact HR1.out
end Go.Proofs.YtmaclplhphfkiaaDoor
