/- Arguments that are slices of bytes, of numbers, of texts are opened: how they lie in memory. Conditions: none. -/
import Derived.Test.YtmaclplhphfkiaaDoorFrLawA
import Derived.ProofKit
import Derived.OpenShut
import Derived.DataReads
import Derived.SizedLaws
namespace Go.Proofs.YtmaclplhphfkiaaDoor
open Go Go.ChangeShapes Go.WideShapes Go.ChangeAt Go.RowKit F

def FReach (ns : List Nat) : Prop := ∀ n ∈ ns, n ≤ reachBytes
section
variable {H : Type} {enc : TypeId × Value → H} {W : World} {base : Nat} {v : Value} {d : DataW H} {p : List MemPlace}
set_option maxRecDepth 100000 in
theorem slice1_open {t e : TypeId} {Is : Value → Prop} (ht : Tryd.prog.underlying t = some (.slice e)) (hz : Tryd.prog.cellsOf e = 1) (hby : 1 ≤ Tryd.prog.bytesOf e) (hval : Value.okWide Tryd.prog W .any base t v) (h : DataW.Trod enc Tryd.prog W 0 (fun _ => true) true t v d p)
    (hw : FReach (d.weights Tryd.prog t)) (his : ∀ n cs y, DataW.trod enc Tryd.prog W 0 (fun _ => true) true n e cs = some y → ∃ u, cs = [u] ∧ Is u) :
    ∃ (z : Option Addr) (len cap : Nat), v = .slice z len cap ∧ len ≤ cap ∧ cap ≤ 1000000000000000 ∧ ∀ i, i < len → ∃ g off u, z = some ⟨g, off, none⟩ ∧ W.cell? ⟨g, off + i, none⟩ = some u ∧ Is u := by
  obtain ⟨z, len, cap, rfl⟩ := okWide_slice ht hval
  obtain ⟨fuel, hf⟩ := h
  refine ⟨z, len, cap, rfl, ?_⟩
  rcases DataW.trod_slice ht hf with ⟨h0, _⟩ | ⟨a, l, c, elems, rest, n, hn, h0, hx, _, hl, hm, hlen, hel, hsp, _⟩
  · simp [Value.cells] at h0
    obtain ⟨rfl, rfl, rfl⟩ := h0
    exact ⟨Nat.le_refl _, Nat.zero_le _, fun i hi => by omega⟩
  · simp [Value.cells] at h0
    obtain ⟨rfl, rfl, rfl⟩ := h0
    have hd : d = .slice (elems.map (·.1)) (rest.map (·.1)) := (Prod.mk.inj hx).1
    have hw0 : (elems.length + rest.length) * Tryd.prog.bytesOf e ≤ reachBytes := hw _ (by
      rw [hd]
      unfold DataW.weights
      rw [ht]
      simp)
    have hrl := (hsp rfl).1
    have hcap : cap ≤ 1000000000000000 := by
      have h1 : (elems.length + rest.length) * 1 ≤ (elems.length + rest.length) * Tryd.prog.bytesOf e := Nat.mul_le_mul_left _ hby
      have h2 := Nat.le_trans h1 hw0
      unfold reachBytes at h2
      omega
    refine ⟨hl, hcap, fun i hi => ?_⟩
    have he := hel i hi
    rw [hz, Nat.mul_one] at he
    obtain ⟨y, hy⟩ : ∃ y, elems[i]? = some y := ⟨_, List.getElem?_eq_getElem (by omega)⟩
    rw [hy] at he
    obtain ⟨cs, h1, h2⟩ := Option.bind_eq_some_iff.1 he
    have h3 := (World.cells?_some h1).2.2 0 (by omega)
    have hspot : a.spot = none := by
      have he0 := hel 0 (by omega)
      rw [hz, Nat.zero_mul] at he0
      obtain ⟨y0, hy0⟩ : ∃ y, elems[0]? = some y := ⟨_, List.getElem?_eq_getElem (by omega)⟩
      rw [hy0] at he0
      obtain ⟨cs0, g1, _⟩ := Option.bind_eq_some_iff.1 he0
      have g3 := World.cells?_some g1
      have h4 := g3.2.2 0 (by omega)
      have e0 : (a.add 0).add 0 = a := by unfold Addr.add; simp
      obtain ⟨c0, hc0⟩ : ∃ c0, cs0[0]? = some c0 := ⟨_, List.getElem?_eq_getElem (by have := g3.2.1; omega)⟩
      rw [hc0, e0] at h4
      unfold World.cell? at h4
      split at h4
      · split at h4
        · cases h4
        · rename_i hs
          simpa using hs
      · cases h4
    obtain ⟨u, rfl, hu⟩ := his _ _ _ h2
    have ea : (a.add i).add 0 = ⟨a.block, a.off + i, none⟩ := by
      cases a with | mk b o s => (cases hspot; unfold Addr.add; split <;> simp_all)
    rw [ea] at h3
    refine ⟨a.block, a.off, u, ?_, h3, hu⟩
    cases a with | mk b o s => (cases hspot; rfl)
theorem row_list {α : Type} (f : α → Value) (Q : α → Prop) {z : Option Addr} : ∀ (len : Nat), (∀ i, i < len → ∃ g off u, z = some ⟨g, off, none⟩ ∧ W.cell? ⟨g, off + i, none⟩ = some u ∧ ∃ x, u = f x ∧ Q x) →
    ∃ l : List α, l.length = len ∧ (∀ j x, l[j]? = some x → ∃ g off, z = some ⟨g, off, none⟩ ∧ W.cell? ⟨g, off + j, none⟩ = some (f x)) ∧ ∀ x ∈ l, Q x
  | 0, _ => ⟨[], rfl, fun j x h => by simp at h, fun x h => by simp at h⟩
  | n + 1, h => by
    obtain ⟨l, hl, hr, hq⟩ := row_list f Q n (fun i hi => h i (by omega))
    obtain ⟨g, off, u, hz, hc, x, rfl, hx⟩ := h n (by omega)
    refine ⟨l ++ [x], by simp [hl], fun j y hj => ?_, fun y hy => ?_⟩
    · by_cases hjn : j < n
      · rw [List.getElem?_append_left (by omega)] at hj; exact hr j y hj
      · have hlt := (List.getElem?_eq_some_iff.1 hj).1
        simp only [List.length_append, List.length_singleton] at hlt
        obtain rfl : j = n := by omega
        rw [List.getElem?_append_right (by omega), hl, Nat.sub_self] at hj
        obtain rfl : x = y := by simpa using hj
        exact ⟨g, off, hz, hc⟩
    · rcases List.mem_append.1 hy with hy | hy
      · exact hq y hy
      · rw [List.mem_singleton.1 hy]; exact hx
theorem c1_u8 : Tryd.prog.cellsOf 5 = 1 := by kernel_rfl
theorem c1_int : Tryd.prog.cellsOf 3 = 1 := by kernel_rfl
theorem c1_string : Tryd.prog.cellsOf 9 = 1 := by kernel_rfl
theorem b1_u8 : Tryd.prog.bytesOf 5 = 1 := by kernel_rfl
theorem b1_int : Tryd.prog.bytesOf 3 = 8 := by kernel_rfl
theorem b1_string : Tryd.prog.bytesOf 9 = 16 := by kernel_rfl
set_option maxRecDepth 100000 in
theorem openB (hval : Value.okWide Tryd.prog W .any base 44 v) (h : DataW.Trod enc Tryd.prog W 0 (fun _ => true) true 44 v d p) (hw : FReach (d.weights Tryd.prog 44)) : ∃ l, ArgB W v l := by
  obtain ⟨z, len, cap, rfl, h1, h2, h3⟩ := slice1_open (Is := fun u => ∃ x : UInt8, u = .int .u8 (x.toNat : Int) ∧ True) Tryd.underlying44 c1_u8 (by rw [b1_u8]; decide) hval h hw (fun n cs y hy => by
    obtain ⟨k, rfl, _, hwf⟩ := DataW.trod_int Tryd.underlying5 hy
    have hk := bounds_u8 hwf
    refine ⟨_, rfl, UInt8.ofNat k.toNat, ?_, trivial⟩
    rw [show (UInt8.ofNat k.toNat).toNat = k.toNat from Nat.mod_eq_of_lt (by omega), Int.toNat_of_nonneg hk.1])
  obtain ⟨l, rfl, hr, -⟩ := row_list (fun x : UInt8 => Value.int .u8 (x.toNat : Int)) (fun _ => True) len h3
  exact ⟨l, z, cap, rfl, h1, h2, hr⟩
/-- a slice reads as these numbers -/
def ArgI (w : World) (v : Value) (l : List Int) : Prop := ∃ z cap, v = .slice z l.length cap ∧ l.length ≤ cap ∧ cap ≤ 1000000000000000 ∧ (∀ j x, l[j]? = some x → ∃ g off, z = some ⟨g, off, none⟩ ∧ w.cell? ⟨g, off + j, none⟩ = some (.int .i64 x)) ∧ ∀ x ∈ l, -9223372036854775808 ≤ x ∧ x ≤ 9223372036854775807
set_option maxRecDepth 100000 in
theorem openI (hval : Value.okWide Tryd.prog W .any base 39 v) (h : DataW.Trod enc Tryd.prog W 0 (fun _ => true) true 39 v d p) (hw : FReach (d.weights Tryd.prog 39)) : ∃ l, ArgI W v l := by
  obtain ⟨z, len, cap, rfl, h1, h2, h3⟩ := slice1_open (Is := fun u => ∃ x : Int, u = .int .i64 x ∧ (-9223372036854775808 ≤ x ∧ x ≤ 9223372036854775807)) Tryd.underlying39 c1_int (by rw [b1_int]; decide) hval h hw (fun n cs y hy => by
    obtain ⟨k, rfl, _, hwf⟩ := DataW.trod_int Tryd.underlying3 hy
    exact ⟨_, rfl, k, rfl, bounds_i64 hwf⟩)
  obtain ⟨l, rfl, hr, hq⟩ := row_list (fun x : Int => Value.int .i64 x) _ len h3
  exact ⟨l, z, cap, rfl, h1, h2, hr, hq⟩
/-- a slice reads as these texts -/
def ArgS (w : World) (v : Value) (l : List Bs) : Prop := ∃ z cap, v = .slice z l.length cap ∧ l.length ≤ cap ∧ cap ≤ 1000000000000000 ∧ (∀ j x, l[j]? = some x → ∃ g off, z = some ⟨g, off, none⟩ ∧ w.cell? ⟨g, off + j, none⟩ = some (.string (ba x))) ∧ ∀ x ∈ l, x.length ≤ maxLen
set_option maxRecDepth 100000 in
theorem openS (hval : Value.okWide Tryd.prog W .any base 46 v) (h : DataW.Trod enc Tryd.prog W 0 (fun _ => true) true 46 v d p) (hw : FReach (d.weights Tryd.prog 46)) : ∃ l, ArgS W v l := by
  obtain ⟨z, len, cap, rfl, h1, h2, h3⟩ := slice1_open (Is := fun u => ∃ x : Bs, u = .string (ba x) ∧ x.length ≤ maxLen) Tryd.underlying46 c1_string (by rw [b1_string]; decide) hval h hw (fun n cs y hy => by
    obtain ⟨s, rfl, _, hs⟩ := DataW.trod_string Tryd.underlying9 hy
    exact ⟨_, rfl, s.data.toList, rfl, hs⟩)
  obtain ⟨l, rfl, hr, hq⟩ := row_list (fun x : Bs => Value.string (ba x)) _ len h3
  exact ⟨l, z, cap, rfl, h1, h2, hr, hq⟩
end
end Go.Proofs.YtmaclplhphfkiaaDoor
