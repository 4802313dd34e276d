/- Arguments that are edits, or a slice of them, are opened: how they lie in memory. Conditions: none. -/
import Derived.Test.YtglanajglhneeaaMX42
import Derived.ProofKit
import Derived.OpenShut
import Derived.DataReads
import Derived.SizedLaws
import Derived.Carry
import Derived.Lib.SmallJoins
namespace Go.Proofs.Ytglanajglhneeaa
open Go Go.ChangeShapes Go.WideShapes Go.ChangeAt Go.RowKit Go.Joins

def EReach (ns : List Nat) : Prop := ∀ n ∈ ns, n ≤ reachBytes
/-- a slice reads as these splices -/
def ArgEd (W : World) (v : Value) (l : List EdE) : Prop := ∃ z cap, v = .slice z l.length cap ∧ l.length ≤ cap ∧ cap * 32 ≤ 281474976710656 ∧ (∀ j e, l[j]? = some e → ∃ b o, z = some ⟨b, o, none⟩ ∧ b < W.heap.size ∧ W.cell? ⟨b, o + j * 3, none⟩ = some (.int .i64 e.f) ∧ W.cell? ⟨b, o + j * 3 + 1, none⟩ = some (.int .i64 e.k) ∧ W.cell? ⟨b, o + j * 3 + 2, none⟩ = some (.string e.s)) ∧ ∀ e ∈ l, Ed.Ok e
theorem ArgEd.below {W W' : World} {v : Value} {l : List EdE} (h : ArgEd W v l) (hB : Below W.heap.size W W') : ArgEd W' v l := by
  obtain ⟨z, cap, rfl, h1, h2, h3, h4⟩ := h
  refine ⟨z, cap, rfl, h1, h2, fun j e hj => ?_, h4⟩
  obtain ⟨b, o, hz, hb, c0, c1, c2⟩ := h3 j e hj
  exact ⟨b, o, hz, Nat.lt_of_lt_of_le hb hB.size, (hB.cell (p := ⟨b, _, none⟩) hb).trans c0, (hB.cell (p := ⟨b, _, none⟩) hb).trans c1, (hB.cell (p := ⟨b, _, none⟩) hb).trans c2⟩
/-- a slice reads as these edits -/
def RdEd (W : World) (v : Value) (l : List EdE) : Prop := ∃ z cap, v = .slice z l.length cap ∧ l.length ≤ 10000000000000 ∧ ∀ (j : Nat) (e : EdE), l[j]? = some e → ∃ b o, z = some ⟨b, o, none⟩ ∧ b < W.heap.size ∧ W.cell? ⟨b, o + j * 3, none⟩ = some (.int .i64 e.f) ∧ W.cell? ⟨b, o + j * 3 + 1, none⟩ = some (.int .i64 e.k) ∧ W.cell? ⟨b, o + j * 3 + 2, none⟩ = some (.string e.s)
theorem ArgEd.rd {W : World} {v : Value} {l : List EdE} (h : ArgEd W v l) : RdEd W v l := by
  obtain ⟨z, cap, rfl, h1, h2, h3, h4⟩ := h
  exact ⟨z, cap, rfl, by omega, h3⟩
theorem RdEd.below {W W' : World} {v : Value} {l : List EdE} (h : RdEd W v l) (hB : Below W.heap.size W W') : RdEd W' v l := by
  obtain ⟨z, cap, rfl, h1, h3⟩ := h
  refine ⟨z, cap, rfl, h1, fun j e hj => ?_⟩
  obtain ⟨b, o, hz, hb, c0, c1, c2⟩ := h3 j e hj
  exact ⟨b, o, hz, Nat.lt_of_lt_of_le hb hB.size, (hB.cell (p := ⟨b, _, none⟩) hb).trans c0, (hB.cell (p := ⟨b, _, none⟩) hb).trans c1, (hB.cell (p := ⟨b, _, none⟩) hb).trans c2⟩
theorem cellsIntE : Try.prog.cellsOf 3 = 1 := by kernel_rfl
theorem cellsStringE : Try.prog.cellsOf 9 = 1 := by kernel_rfl
theorem cellsEd : Try.prog.cellsOf 48 = 3 := by kernel_rfl
theorem bytesEd : Try.prog.bytesOf 48 = 32 := by kernel_rfl
section
variable {H : Type} {enc : TypeId × Value → H} {W : World} {base : Nat} {v : Value} {d : DataW H} {p : List MemPlace} {spare : Nat → Bool}
theorem intE_is {fuel : Nat} {cs : List Value} {x : DataW H × List MemPlace} (h : DataW.trod enc Try.prog W 0 spare true fuel 3 cs = some x) : ∃ n : Int, cs = [.int .i64 n] ∧ Ed.I6 n := by
  obtain ⟨k, rfl, _, hwf⟩ := DataW.trod_int Try.underlying3 h
  exact ⟨k, rfl, bounds_i64 hwf⟩
theorem stringE_is {fuel : Nat} {cs : List Value} {x : DataW H × List MemPlace} (h : DataW.trod enc Try.prog W 0 spare true fuel 9 cs = some x) (w1 : EReach (x.1.weights Try.prog 9)) : ∃ s : ByteArray, cs = [.string s] ∧ s.size ≤ 281474976710656 := by
  obtain ⟨s, rfl, rfl, hs⟩ := DataW.trod_string Try.underlying9 h
  refine ⟨s, rfl, ?_⟩
  have := w1 s.data.toList.length (by unfold DataW.weights; exact List.mem_singleton_self _)
  rw [Array.length_toList] at this
  exact Nat.le_trans this (by decide)
theorem weightsE_mem {P : Program} {e : TypeId} : ∀ {ds : List (DataW H)} {i : Nat} {d : DataW H}, ds[i]? = some d → ∀ n ∈ d.weights P e, n ∈ DataW.weightsAll P e ds
  | [], _, _, h => by simp at h
  | d' :: r, 0, d, h => by
    simp at h; subst h
    intro n hn
    unfold DataW.weightsAll
    exact List.mem_append_left _ hn
  | d' :: r, i + 1, d, h => by
    intro n hn
    unfold DataW.weightsAll
    exact List.mem_append_right _ (weightsE_mem (by simpa using h) n hn)
theorem partE_reach {t : TypeId} {fs : Array Field} {xs : List (DataW H × List MemPlace)} (ht : Try.prog.underlying t = some (.struct fs)) (hw : EReach ((DataW.agg (xs.map (·.1))).weights Try.prog t)) {j : Nat} {f : Field} {x : DataW H × List MemPlace} (hf : fs[j]? = some f) (hx : xs[j]? = some x) : EReach (x.1.weights Try.prog f.type) := fun n hn => by
  refine hw n ?_
  unfold DataW.weights
  rw [ht]
  exact DataW.weights_mem_each (j := j) (t := f.type) (d := x.1) (by simp [hf]) (by simp [hx]) n hn
theorem threeE {α : Type} {l : List α} (h : l.length = 3) : ∃ a b c, l = [a, b, c] := by
  match l, h with
  | [a, b, c], _ => exact ⟨a, b, c, rfl⟩
theorem ed_is {fuel : Nat} {cs : List Value} {x : DataW H × List MemPlace} (h : DataW.trod enc Try.prog W 0 spare true fuel 48 cs = some x) (hw : EReach (x.1.weights Try.prog 48)) : ∃ e : EdE, cs = [.int .i64 e.f, .int .i64 e.k, .string e.s] ∧ Ed.Ok e := by
  obtain ⟨xs, n, rfl, rfl, hl, hxl, hp⟩ := DataW.trod_struct Try.underlying48 h
  rw [cellsEd] at hl
  obtain ⟨c0, c1, c2, rfl⟩ := threeE hl
  have hxl : xs.length = 3 := hxl
  obtain ⟨x0, x1, x2, rfl⟩ := threeE hxl
  have h0 := hp 0 _ rfl
  have h1 := hp 1 _ rfl
  have h2 := hp 2 _ rfl
  have w2 := partE_reach Try.underlying48 hw (j := 2) (x := x2) rfl rfl
  change DataW.trod enc Try.prog W 0 spare true n 3 (List.take (Try.prog.cellsOf 3) (List.drop 0 [c0, c1, c2])) = some x0 at h0
  change DataW.trod enc Try.prog W 0 spare true n 3 (List.take (Try.prog.cellsOf 3) (List.drop 1 [c0, c1, c2])) = some x1 at h1
  change DataW.trod enc Try.prog W 0 spare true n 9 (List.take (Try.prog.cellsOf 9) (List.drop 2 [c0, c1, c2])) = some x2 at h2
  change EReach (x2.1.weights Try.prog 9) at w2
  rw [cellsIntE] at h0 h1
  rw [cellsStringE] at h2
  obtain ⟨a, e0, ha⟩ := intE_is h0
  obtain ⟨b, e1, hb⟩ := intE_is h1
  obtain ⟨c, e2, hc⟩ := stringE_is h2 w2
  simp at e0 e1 e2
  subst e0 e1 e2
  exact ⟨⟨a, b, c⟩, rfl, ha, hb, hc⟩
set_option maxRecDepth 100000 in
theorem sliceE_open {t e : TypeId} {Is : List Value → Prop} (ht : Try.prog.underlying t = some (.slice e)) (hz : Try.prog.cellsOf e = 3) (hby : Try.prog.bytesOf e = 32) (hval : Value.okWide Try.prog W .any base t v) (h : DataW.Trod enc Try.prog W 0 (fun _ => true) true t v d p)
    (hw : EReach (d.weights Try.prog t)) (his : ∀ n cs y, DataW.trod enc Try.prog W 0 (fun _ => true) true n e cs = some y → EReach (y.1.weights Try.prog e) → Is cs) :
    ∃ (z : Option Addr) (len cap : Nat), v = .slice z len cap ∧ len ≤ cap ∧ cap * 32 ≤ 281474976710656 ∧ ∀ i, i < len → ∃ g off cs, z = some ⟨g, off, none⟩ ∧ cs.length = 3 ∧ (∀ k u, cs[k]? = some u → W.cell? ⟨g, off + i * 3 + k, none⟩ = some u) ∧ Is cs := by
  obtain ⟨z, len, cap, rfl⟩ := okWide_slice ht hval
  obtain ⟨fuel, hf⟩ := h
  refine ⟨z, len, cap, rfl, ?_⟩
  rcases DataW.trod_slice ht hf with ⟨h0, _⟩ | ⟨a, l, c, elems, rest, n, hn, h0, hx, _, hl, hm, hlen, hel, hsp, _⟩
  · simp [Value.cells] at h0
    obtain ⟨rfl, rfl, rfl⟩ := h0
    exact ⟨Nat.le_refl _, Nat.zero_le _, fun i hi => by omega⟩
  · simp [Value.cells] at h0
    obtain ⟨rfl, rfl, rfl⟩ := h0
    have hd : d = .slice (elems.map (·.1)) (rest.map (·.1)) := (Prod.mk.inj hx).1
    have hw0 : (elems.length + rest.length) * Try.prog.bytesOf e ≤ reachBytes := hw _ (by
      rw [hd]
      unfold DataW.weights
      rw [ht]
      simp)
    have hrl := (hsp rfl).1
    have hcap : cap * 32 ≤ 281474976710656 := by
      rw [hby] at hw0
      have h2 : (elems.length + rest.length) * 32 ≤ 281474976710656 := Nat.le_trans hw0 (by decide)
      omega
    refine ⟨hl, hcap, fun i hi => ?_⟩
    have he := hel i hi
    rw [hz] at he
    obtain ⟨y, hy⟩ : ∃ y, elems[i]? = some y := ⟨_, List.getElem?_eq_getElem (by omega)⟩
    rw [hy] at he
    obtain ⟨cs, h1, h2⟩ := Option.bind_eq_some_iff.1 he
    obtain ⟨_, hlen3, h3⟩ := World.cells?_some h1
    have hspot : a.spot = none := by
      have he0 := hel 0 (by omega)
      rw [hz, Nat.zero_mul] at he0
      obtain ⟨y0, hy0⟩ : ∃ y, elems[0]? = some y := ⟨_, List.getElem?_eq_getElem (by omega)⟩
      rw [hy0] at he0
      obtain ⟨cs0, g1, _⟩ := Option.bind_eq_some_iff.1 he0
      have g3 := World.cells?_some g1
      have h4 := g3.2.2 0 (by omega)
      have e0 : (a.add 0).add 0 = a := by unfold Addr.add; simp
      obtain ⟨c0, hc0⟩ : ∃ c0, cs0[0]? = some c0 := ⟨_, List.getElem?_eq_getElem (by have := g3.2.1; omega)⟩
      rw [hc0, e0] at h4
      unfold World.cell? at h4
      split at h4
      · split at h4
        · cases h4
        · rename_i hs
          simpa using hs
      · cases h4
    refine ⟨a.block, a.off, cs, ?_, hlen3, fun k u hu => ?_, his _ _ _ h2 (fun m hm => hw m (by
      rw [hd]
      unfold DataW.weights
      rw [ht]
      refine List.mem_cons_of_mem _ (List.mem_append_left _ (weightsE_mem (i := i) (d := y.1) (by simp [hy]) m hm))))⟩
    · cases a with | mk b o s => (cases hspot; rfl)
    · have hk := (List.getElem?_eq_some_iff.1 hu).1
      have h5 := h3 k (by omega)
      have ea : (a.add (i * 3)).add k = ⟨a.block, a.off + i * 3 + k, none⟩ := by
        cases a with | mk b o s => (cases hspot; unfold Addr.add; by_cases hi0 : i * 3 = 0 <;> by_cases hk0 : k = 0 <;> simp [hi0, hk0])
      rw [ea, hu] at h5
      exact h5
theorem rowsE {z : Option Addr} : ∀ (len : Nat), (∀ i, i < len → ∃ g off cs, z = some ⟨g, off, none⟩ ∧ cs.length = 3 ∧ (∀ k u, cs[k]? = some u → W.cell? ⟨g, off + i * 3 + k, none⟩ = some u) ∧ ∃ e : EdE, cs = [.int .i64 e.f, .int .i64 e.k, .string e.s] ∧ Ed.Ok e) →
    ∃ l : List EdE, l.length = len ∧ (∀ j e, l[j]? = some e → ∃ b o, z = some ⟨b, o, none⟩ ∧ b < W.heap.size ∧ W.cell? ⟨b, o + j * 3, none⟩ = some (.int .i64 e.f) ∧ W.cell? ⟨b, o + j * 3 + 1, none⟩ = some (.int .i64 e.k) ∧ W.cell? ⟨b, o + j * 3 + 2, none⟩ = some (.string e.s)) ∧ ∀ e ∈ l, Ed.Ok e
  | 0, _ => ⟨[], rfl, fun j x h => by simp at h, fun x h => by simp at h⟩
  | n + 1, h => by
    obtain ⟨l, hl, hr, hq⟩ := rowsE n (fun i hi => h i (by omega))
    obtain ⟨g, off, cs, hz, _, hc, x, rfl, hx⟩ := h n (by omega)
    refine ⟨l ++ [x], by simp [hl], fun j y hj => ?_, fun y hy => ?_⟩
    · by_cases hjn : j < n
      · rw [List.getElem?_append_left (by omega)] at hj; exact hr j y hj
      · have hlt := (List.getElem?_eq_some_iff.1 hj).1
        simp only [List.length_append, List.length_singleton] at hlt
        obtain rfl : j = n := by omega
        rw [List.getElem?_append_right (by omega), hl, Nat.sub_self] at hj
        obtain rfl : x = y := by simpa using hj
        have c0 := hc 0 _ rfl
        exact ⟨g, off, hz, World.block_lt_of_cell? W _ c0, c0, hc 1 _ rfl, hc 2 _ rfl⟩
    · rcases List.mem_append.1 hy with hy | hy
      · exact hq y hy
      · rw [List.mem_singleton.1 hy]; exact hx
set_option maxRecDepth 100000 in
theorem openEds (hval : Value.okWide Try.prog W .any base 49 v) (h : DataW.Trod enc Try.prog W 0 (fun _ => true) true 49 v d p) (hw : EReach (d.weights Try.prog 49)) : ∃ l, ArgEd W v l := by
  obtain ⟨z, len, cap, rfl, h1, h2, h3⟩ := sliceE_open (Is := fun cs => ∃ e : EdE, cs = [.int .i64 e.f, .int .i64 e.k, .string e.s] ∧ Ed.Ok e) Try.underlying49 cellsEd bytesEd hval h hw (fun n cs y hy hr => ed_is hy hr)
  obtain ⟨l, rfl, hr, hq⟩ := rowsE len h3
  exact ⟨l, z, cap, rfl, h1, h2, hr, hq⟩
end
end Go.Proofs.Ytglanajglhneeaa
