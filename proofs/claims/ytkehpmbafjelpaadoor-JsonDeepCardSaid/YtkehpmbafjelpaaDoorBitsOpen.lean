/- An argument that is a slice of bools is opened: how it lies in memory. Conditions: none. -/
import Derived.Test.YtkehpmbafjelpaaDoorJnDeep
import Derived.ProofKit
import Derived.OpenShut
import Derived.DataReads
namespace Go.Proofs.YtkehpmbafjelpaaDoor
open Go Go.ChangeShapes Go.WideShapes Go.ChangeAt Go.RowKit

theorem cells_bool : Tryd.prog.cellsOf 4 = 1 := by kernel_rfl
set_option maxRecDepth 100000 in
theorem bits_open {H : Type} {enc : TypeId × Value → H} {W : World} {base : Nat} {v : Value} {d : DataW H} {p : List MemPlace} (hval : Value.okWide Tryd.prog W .any base 36 v) (h : DataW.Trod enc Tryd.prog W 0 (fun _ => true) true 36 v d p) :
    ∃ (z : Option Addr) (len cap : Nat) (kd : Nat → Bool), v = .slice z len cap ∧ len ≤ cap ∧ cap ≤ 9223372036854775807 ∧ Bits W z len kd := by
  obtain ⟨z, len, cap, rfl⟩ := okWide_slice Tryd.underlying36 hval
  obtain ⟨fuel, hf⟩ := h
  refine ⟨z, len, cap, ?_⟩
  rcases DataW.trod_slice Tryd.underlying36 hf with ⟨h0, _⟩ | ⟨a, l, c, elems, rest, n, hn, h0, _, _, hl, hm, hlen, hel, _, _⟩
  · simp [Value.cells] at h0
    obtain ⟨rfl, rfl, rfl⟩ := h0
    exact ⟨fun _ => false, rfl, Nat.le_refl _, Nat.zero_le _, fun i hi => by omega⟩
  · simp [Value.cells] at h0
    obtain ⟨rfl, rfl, rfl⟩ := h0
    have each : ∀ i, i < len → ∃ b, a.spot = none ∧ W.cell? ⟨a.block, a.off + i, none⟩ = some (.bool b) := by
      intro i hi
      have he := hel i hi
      rw [cells_bool, Nat.mul_one] at he
      obtain ⟨y, hy⟩ : ∃ y, elems[i]? = some y := ⟨_, List.getElem?_eq_getElem (by omega)⟩
      rw [hy] at he
      obtain ⟨cs, h1, h2⟩ := Option.bind_eq_some_iff.1 he
      have h3 := (World.cells?_some h1).2.2 0 (by omega)
      have hspot : a.spot = none := by
        have he0 := hel 0 (by omega)
        rw [cells_bool, Nat.zero_mul] at he0
        obtain ⟨y0, hy0⟩ : ∃ y, elems[0]? = some y := ⟨_, List.getElem?_eq_getElem (by omega)⟩
        rw [hy0] at he0
        obtain ⟨cs0, g1, _⟩ := Option.bind_eq_some_iff.1 he0
        have g3 := World.cells?_some g1
        have h4 := g3.2.2 0 (by omega)
        have e0 : (a.add 0).add 0 = a := by unfold Addr.add; simp
        obtain ⟨c0, hc0⟩ : ∃ c0, cs0[0]? = some c0 := ⟨_, List.getElem?_eq_getElem (by have := g3.2.1; omega)⟩
        rw [hc0, e0] at h4
        unfold World.cell? at h4
        split at h4
        · split at h4
          · cases h4
          · rename_i hs
            simpa using hs
        · cases h4
      obtain ⟨b, hb, _⟩ : ∃ b, cs = [.bool b] ∧ True := by
        obtain ⟨b, hb⟩ := DataW.trod_bool Tryd.underlying4 h2
        exact ⟨b, hb.1, trivial⟩
      subst hb
      have ea : (a.add i).add 0 = ⟨a.block, a.off + i, none⟩ := by
        cases a with | mk b o s => (cases hspot; unfold Addr.add; split <;> simp_all)
      rw [ea] at h3
      exact ⟨b, hspot, h3⟩
    refine ⟨fun i => if h : i < len then Classical.choose (each i h) else false, rfl, hl, hm, fun i hi => ⟨a.block, a.off, ?_, ?_⟩⟩
    · have := (each i hi).choose_spec.1
      cases a with | mk b o s => (cases this; rfl)
    · rw [(each i hi).choose_spec.2]
      simp only [dif_pos hi]
end Go.Proofs.YtkehpmbafjelpaaDoor
