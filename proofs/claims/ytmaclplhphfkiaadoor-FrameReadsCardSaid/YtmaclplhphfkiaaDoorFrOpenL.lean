/- An argument that is a slice of slices of bytes is opened: how it lies in memory. Conditions: none. -/
import Derived.Test.YtmaclplhphfkiaaDoorFrReads
namespace Go.Proofs.YtmaclplhphfkiaaDoor
open Go Go.ChangeShapes Go.WideShapes Go.ChangeAt Go.RowKit F

section
variable {H : Type} {enc : TypeId × Value → H} {W : World} {base : Nat} {v : Value} {d : DataW H} {p : List MemPlace}
theorem weights_in {P : Program} {e : TypeId} : ∀ {ds : List (DataW H)} {i : Nat} {d : DataW H}, ds[i]? = some d → ∀ n ∈ d.weights P e, n ∈ DataW.weightsAll P e ds
  | [], _, _, h => by simp at h
  | d' :: r, 0, d, h => by
    simp at h; subst h
    intro n hn
    unfold DataW.weightsAll
    exact List.mem_append_left _ hn
  | d' :: r, i + 1, d, h => by
    intro n hn
    unfold DataW.weightsAll
    exact List.mem_append_right _ (weights_in (by simpa using h) n hn)
theorem slice_cells {t e : TypeId} {fuel : Nat} {cs : List Value} {x : DataW H × List MemPlace} {Is : Value → Prop} (ht : Tryd.prog.underlying t = some (.slice e)) (hz : Tryd.prog.cellsOf e = 1) (hby : 1 ≤ Tryd.prog.bytesOf e)
    (hf : DataW.trod enc Tryd.prog W 0 (fun _ => true) true fuel t cs = some x) (hw : FReach (x.1.weights Tryd.prog t)) (his : ∀ n cs y, DataW.trod enc Tryd.prog W 0 (fun _ => true) true n e cs = some y → FReach (y.1.weights Tryd.prog e) → ∃ u, cs = [u] ∧ Is u) :
    ∃ (z : Option Addr) (len cap : Nat), cs = [.slice z len cap] ∧ len ≤ cap ∧ cap ≤ 1000000000000000 ∧ ∀ i, i < len → ∃ g off u, z = some ⟨g, off, none⟩ ∧ W.cell? ⟨g, off + i, none⟩ = some u ∧ Is u := by
  rcases DataW.trod_slice ht hf with ⟨h0, _⟩ | ⟨a, len, cap, elems, rest, n, hn, h0, rfl, _, hl, hm, hlen, hel, hsp, _⟩
  · exact ⟨none, 0, 0, h0, Nat.le_refl _, Nat.zero_le _, fun i hi => by omega⟩
  · have hw0 : (elems.length + rest.length) * Tryd.prog.bytesOf e ≤ reachBytes := hw _ (by
      unfold DataW.weights
      rw [ht]
      simp)
    have hrl := (hsp rfl).1
    have hcap : cap ≤ 1000000000000000 := by
      have h1 : (elems.length + rest.length) * 1 ≤ (elems.length + rest.length) * Tryd.prog.bytesOf e := Nat.mul_le_mul_left _ hby
      have h2 := Nat.le_trans h1 hw0
      unfold reachBytes at h2
      omega
    refine ⟨some a, len, cap, h0, hl, hcap, fun i hi => ?_⟩
    have he := hel i hi
    rw [hz, Nat.mul_one] at he
    obtain ⟨y, hy⟩ : ∃ y, elems[i]? = some y := ⟨_, List.getElem?_eq_getElem (by omega)⟩
    rw [hy] at he
    obtain ⟨cs1, h1, h2⟩ := Option.bind_eq_some_iff.1 he
    have h3 := (World.cells?_some h1).2.2 0 (by omega)
    have hspot : a.spot = none := by
      have he0 := hel 0 (by omega)
      rw [hz, Nat.zero_mul] at he0
      obtain ⟨y0, hy0⟩ : ∃ y, elems[0]? = some y := ⟨_, List.getElem?_eq_getElem (by omega)⟩
      rw [hy0] at he0
      obtain ⟨cs0, g1, _⟩ := Option.bind_eq_some_iff.1 he0
      have g3 := World.cells?_some g1
      have h4 := g3.2.2 0 (by omega)
      have e0 : (a.add 0).add 0 = a := by unfold Addr.add; simp
      obtain ⟨c0, hc0⟩ : ∃ c0, cs0[0]? = some c0 := ⟨_, List.getElem?_eq_getElem (by have := g3.2.1; omega)⟩
      rw [hc0, e0] at h4
      unfold World.cell? at h4
      split at h4
      · split at h4
        · cases h4
        · rename_i hs
          simpa using hs
      · cases h4
    obtain ⟨u, rfl, hu⟩ := his _ _ _ h2 (fun m hm => hw m (by
      unfold DataW.weights
      rw [ht]
      refine List.mem_cons_of_mem _ (List.mem_append_left _ (weights_in (i := i) (d := y.1) (by simp [hy]) m hm))))
    have ea : (a.add i).add 0 = ⟨a.block, a.off + i, none⟩ := by
      cases a with | mk b o s => (cases hspot; unfold Addr.add; split <;> simp_all)
    rw [ea] at h3
    refine ⟨a.block, a.off, u, ?_, h3, hu⟩
    cases a with | mk b o s => (cases hspot; rfl)
theorem c1_slice : Tryd.prog.cellsOf 44 = 1 := by kernel_rfl
theorem b1_slice : Tryd.prog.bytesOf 44 = 24 := by kernel_rfl
set_option maxRecDepth 100000 in
theorem elemB {n : Nat} {cs : List Value} {y : DataW H × List MemPlace} (h : DataW.trod enc Tryd.prog W 0 (fun _ => true) true n 44 cs = some y) (hw : FReach (y.1.weights Tryd.prog 44)) : ∃ u, cs = [u] ∧ ∃ x : Bs, ArgB W u x := by
  obtain ⟨z, len, cap, rfl, h1, h2, h3⟩ := slice_cells (Is := fun u => ∃ x : UInt8, u = .int .u8 (x.toNat : Int) ∧ True) Tryd.underlying44 c1_u8 (by rw [b1_u8]; decide) h hw (fun n cs y hy _ => by
    obtain ⟨k, rfl, _, hwf⟩ := DataW.trod_int Tryd.underlying5 hy
    have hk := bounds_u8 hwf
    refine ⟨_, rfl, UInt8.ofNat k.toNat, ?_, trivial⟩
    rw [show (UInt8.ofNat k.toNat).toNat = k.toNat from Nat.mod_eq_of_lt (by omega), Int.toNat_of_nonneg hk.1])
  obtain ⟨l, rfl, hr, -⟩ := row_list (fun x : UInt8 => Value.int .u8 (x.toNat : Int)) (fun _ => True) len h3
  exact ⟨_, rfl, l, z, cap, rfl, h1, h2, hr⟩
set_option maxRecDepth 100000 in
theorem openL (hval : Value.okWide Tryd.prog W .any base 38 v) (h : DataW.Trod enc Tryd.prog W 0 (fun _ => true) true 38 v d p) (hw : FReach (d.weights Tryd.prog 38)) : ∃ ls, ArgL W v ls := by
  obtain ⟨z, len, cap, rfl⟩ := okWide_slice Tryd.underlying38 hval
  obtain ⟨fuel, hf⟩ := h
  obtain ⟨z', len', cap', h0, h1, h2, h3⟩ := slice_cells (Is := fun u => ∃ x : Bs, ArgB W u x) Tryd.underlying38 c1_slice (by rw [b1_slice]; decide) hf hw (fun n cs y hy hw' => elemB hy hw')
  simp [Value.cells] at h0
  obtain ⟨rfl, rfl, rfl⟩ := h0
  have key : ∀ m, m ≤ len → ∃ ls : List Bs, ls.length = m ∧ ∀ j x, ls[j]? = some x → ∃ g off, z = some ⟨g, off, none⟩ ∧ ∃ u, W.cell? ⟨g, off + j, none⟩ = some u ∧ ArgB W u x := by
    intro m
    induction m with
    | zero => exact fun _ => ⟨[], rfl, fun j x h => by simp at h⟩
    | succ m ih =>
      intro hm
      obtain ⟨ls, hl, hr⟩ := ih (by omega)
      obtain ⟨g, off, u, hz, hc, x, hx⟩ := h3 m (by omega)
      refine ⟨ls ++ [x], by simp [hl], fun j y hj => ?_⟩
      by_cases hjn : j < m
      · rw [List.getElem?_append_left (by omega)] at hj; exact hr j y hj
      · have hlt := (List.getElem?_eq_some_iff.1 hj).1
        simp only [List.length_append, List.length_singleton] at hlt
        obtain rfl : j = m := by omega
        rw [List.getElem?_append_right (by omega), hl, Nat.sub_self] at hj
        obtain rfl : x = y := by simpa using hj
        exact ⟨g, off, hz, u, hc, hx⟩
  obtain ⟨ls, rfl, hr⟩ := key len (Nat.le_refl _)
  exact ⟨ls, z, cap, rfl, h1, h2, hr⟩
end
theorem readsLaw_any (vl : Value) (ls : List Bs) (vp : Value) (ps : List Int) (w : World) (hl : ArgL w vl ls) (hp : ArgI w vp ps) (hE : ∃ m, w.cell? ⟨10, 0, none⟩ = some (.int .i64 m)) :
    Calls Tryd.prog 5 #[vl, vp] w (SaysYes w) := reads_any vl vp ls ps w hE hl hp
end Go.Proofs.YtmaclplhphfkiaaDoor
