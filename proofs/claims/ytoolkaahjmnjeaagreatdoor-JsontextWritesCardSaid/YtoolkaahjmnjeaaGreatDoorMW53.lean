/- An argument that is a value of JSON is opened: how it lies in memory. Conditions: none. -/
import Derived.Test.YtoolkaahjmnjeaaGreatDoorMW03
import Derived.Test.YtoolkaahjmnjeaaGreatDoorProg
import Derived.ProofKit
import Derived.OpenShut
import Derived.SizedLaws
import Derived.DataReads
import Derived.Carry
import Derived.Lib.SmallJoins
namespace Go.Proofs.YtoolkaahjmnjeaaGreatDoor
open Go Go.RowKit

theorem cellsValue : Tryz.prog.cellsOf 25 = 4 := by kernel_rfl
theorem cellsField : Tryz.prog.cellsOf 80 = 5 := by kernel_rfl
theorem cells_u8 : Tryz.prog.cellsOf 5 = 1 := by kernel_rfl
theorem cells_string : Tryz.prog.cellsOf 9 = 1 := by kernel_rfl
theorem cells_values : Tryz.prog.cellsOf 22 = 1 := by kernel_rfl
theorem cells_fields : Tryz.prog.cellsOf 23 = 1 := by kernel_rfl
theorem bytesValue : Tryz.prog.bytesOf 25 = 72 := by kernel_rfl
theorem bytesField : Tryz.prog.bytesOf 80 = 88 := by kernel_rfl

section
variable {H : Type} {enc : TypeId × Value → H} {W : World} {spare : Nat → Bool}

def Reach (ns : List Nat) : Prop := ∀ n ∈ ns, n ≤ reachBytes
/-- what four cells that read as a value are -/
def IsV (W : World) (cs : List Value) : Prop := ∃ (k : Nat) (x : ByteArray) (v u : Value) (l f : V.T), cs = [.int .u8 k, .string x, v, u] ∧ k < 256 ∧ x.size ≤ 140737488355328 ∧ HS W (fun _ => True) 0 v l ∧ HS W (fun _ => True) 1 u f
def IsF (W : World) (cs : List Value) : Prop := ∃ (nm : ByteArray) (k : Nat) (x : ByteArray) (v u : Value) (l f : V.T), cs = [.string nm, .int .u8 k, .string x, v, u] ∧ Fit nm k x ∧ HS W (fun _ => True) 0 v l ∧ HS W (fun _ => True) 1 u f
theorem isV_row (b : Nat) : ∀ (n o : Nat), (∀ i, i < n → ∃ cs, W.cells? 0 ⟨b, o + i * 4, none⟩ 4 = some cs ∧ IsV W cs) → ∃ t : V.T, t.len = n ∧ HR W (fun _ => True) 0 b o t
  | 0, _, _ => ⟨.nil, rfl, trivial⟩
  | n + 1, o, h => by
    obtain ⟨t, ht, hr⟩ := isV_row b n (o + 4) (fun i hi => by
      have := h (i + 1) (by omega)
      rwa [show o + (i + 1) * 4 = o + 4 + i * 4 by omega] at this)
    obtain ⟨cs, hc, k, x, v, u, l, f, rfl, hk, hx, hl, hf⟩ := h 0 (by omega)
    obtain ⟨_, _, hcell⟩ := World.cells?_some hc
    rw [Nat.zero_mul, Nat.add_zero] at hcell
    have e : ∀ j, (⟨b, o, none⟩ : Addr).add j = ⟨b, o + j, none⟩ := fun j => by unfold Addr.add; split <;> simp_all
    have h0 := hcell 0 (by omega)
    have h1 := hcell 1 (by omega)
    have h2 := hcell 2 (by omega)
    have h3 := hcell 3 (by omega)
    rw [e] at h0 h1 h2 h3
    exact ⟨.cons ⟨#[]⟩ k x l f t, congrArg (· + 1) ht, trivial, fun _ => rfl, (fun e => by cases e), h0, h1, ⟨v, h2, hl⟩, ⟨u, h3, hf⟩, ⟨hk, hx, Nat.zero_le _⟩, hr⟩
theorem isF_row (b : Nat) : ∀ (n o : Nat), (∀ i, i < n → ∃ cs, W.cells? 0 ⟨b, o + i * 5, none⟩ 5 = some cs ∧ IsF W cs) → ∃ t : V.T, t.len = n ∧ HR W (fun _ => True) 1 b o t
  | 0, _, _ => ⟨.nil, rfl, trivial⟩
  | n + 1, o, h => by
    obtain ⟨t, ht, hr⟩ := isF_row b n (o + 5) (fun i hi => by
      have := h (i + 1) (by omega)
      rwa [show o + (i + 1) * 5 = o + 5 + i * 5 by omega] at this)
    obtain ⟨cs, hc, nm, k, x, v, u, l, f, rfl, hk, hl, hf⟩ := h 0 (by omega)
    obtain ⟨_, _, hcell⟩ := World.cells?_some hc
    rw [Nat.zero_mul, Nat.add_zero] at hcell
    have e : ∀ j, (⟨b, o, none⟩ : Addr).add j = ⟨b, o + j, none⟩ := fun j => by unfold Addr.add; split <;> simp_all
    have h0 := hcell 0 (by omega)
    have h1 := hcell 1 (by omega)
    have h2 := hcell 2 (by omega)
    have h3 := hcell 3 (by omega)
    have h4 := hcell 4 (by omega)
    rw [e] at h0 h1 h2 h3 h4
    exact ⟨.cons nm k x l f t, congrArg (· + 1) ht, trivial, (fun e => by cases e), fun _ => h0, h1, h2, ⟨v, h3, hl⟩, ⟨u, h4, hf⟩, hk, hr⟩
theorem weights_mem {P : Program} {e : TypeId} : ∀ {ds : List (DataW H)} {i : Nat} {d : DataW H}, ds[i]? = some d → ∀ n ∈ d.weights P e, n ∈ DataW.weightsAll P e ds
  | [], _, _, h => by simp at h
  | d' :: r, 0, d, h => by
    simp at h; subst h
    intro n hn
    unfold DataW.weightsAll
    exact List.mem_append_left _ hn
  | d' :: r, i + 1, d, h => by
    intro n hn
    unfold DataW.weightsAll
    exact List.mem_append_right _ (weights_mem (by simpa using h) n hn)
theorem slice_open {e : TypeId} {sz : Nat} {fuel : Nat} {t : TypeId} {cs : List Value} {x : DataW H × List MemPlace} {Is : List Value → Prop} (ht : Tryz.prog.underlying t = some (.slice e)) (hz : Tryz.prog.cellsOf e = sz) (hsz : 0 < sz)
    (h : DataW.trod enc Tryz.prog W 0 spare true fuel t cs = some x) (hw : Reach (x.1.weights Tryz.prog t)) (hb : 72 ≤ Tryz.prog.bytesOf e)
    (ih : ∀ n, n < fuel → ∀ cs' y, DataW.trod enc Tryz.prog W 0 spare true n e cs' = some y → Reach (y.1.weights Tryz.prog e) → Is cs') :
    (cs = [.slice none 0 0]) ∨ ∃ (a : Addr) (len cap : Nat), cs = [.slice (some a) len cap] ∧ len ≤ cap ∧ cap ≤ maxLen ∧ len ≤ 2000000000000 ∧ ∀ i, i < len → a.spot = none ∧ ∃ cs', W.cells? 0 ⟨a.block, a.off + i * sz, none⟩ sz = some cs' ∧ Is cs' := by
  rcases DataW.trod_slice ht h with ⟨h0, _⟩ | ⟨a, len, cap, elems, rest, n, hn, rfl, rfl, _, hl, hm, hlen, hel, _, _⟩
  · exact .inl h0
  · right
    have hw0 : (elems.length + rest.length) * Tryz.prog.bytesOf e ≤ reachBytes := hw _ (by
      unfold DataW.weights
      rw [ht]
      simp)
    have hw1 : len * 72 ≤ 140737488351232 := by
      have h1 : len * 72 ≤ (elems.length + rest.length) * Tryz.prog.bytesOf e := Nat.mul_le_mul (by omega) hb
      exact Nat.le_trans h1 hw0
    refine ⟨a, len, cap, rfl, hl, hm, by omega, fun i hi => ?_⟩
    have he := hel i hi
    rw [hz] at he
    obtain ⟨y, hy⟩ : ∃ y, elems[i]? = some y := ⟨_, List.getElem?_eq_getElem (by omega)⟩
    rw [hy] at he
    obtain ⟨cs', h1, h2⟩ := Option.bind_eq_some_iff.1 he
    have hspot : a.spot = none := by
      have he0 := hel 0 (by omega)
      rw [hz, Nat.zero_mul] at he0
      obtain ⟨y0, hy0⟩ : ∃ y, elems[0]? = some y := ⟨_, List.getElem?_eq_getElem (by omega)⟩
      rw [hy0] at he0
      obtain ⟨cs0, g1, _⟩ := Option.bind_eq_some_iff.1 he0
      have g3 := World.cells?_some g1
      have h4 := g3.2.2 0 hsz
      obtain ⟨c0, hc0⟩ : ∃ c0, cs0[0]? = some c0 := ⟨_, List.getElem?_eq_getElem (by omega)⟩
      rw [hc0] at h4
      have e0 : (a.add 0).add 0 = a := by unfold Addr.add; simp
      rw [e0] at h4
      unfold World.cell? at h4
      split at h4
      · split at h4
        · cases h4
        · rename_i hs
          simpa using hs
      · cases h4
    refine ⟨hspot, cs', ?_, ih n (by omega) cs' y h2 (fun m hm => hw m (by
      unfold DataW.weights
      rw [ht]
      refine List.mem_cons_of_mem _ (List.mem_append_left _ (weights_mem (i := i) (d := y.1) (by simp [hy]) m hm))))⟩
    have ea : a.add (i * sz) = ⟨a.block, a.off + i * sz, none⟩ := by
      cases a with | mk b o s => (cases hspot; unfold Addr.add; split <;> simp_all)
    rw [← ea]
    exact h1
theorem hs_of {d : Nat} {Is : List Value → Prop} {cs : List Value} (hrow : ∀ b n o, (∀ i, i < n → ∃ cs', W.cells? 0 ⟨b, o + i * (4 + d), none⟩ (4 + d) = some cs' ∧ Is cs') → ∃ t : V.T, t.len = n ∧ HR W (fun _ => True) d b o t)
    (h : (cs = [.slice none 0 0]) ∨ ∃ (a : Addr) (len cap : Nat), cs = [.slice (some a) len cap] ∧ len ≤ cap ∧ cap ≤ maxLen ∧ len ≤ 2000000000000 ∧ ∀ i, i < len → a.spot = none ∧ ∃ cs', W.cells? 0 ⟨a.block, a.off + i * (4 + d), none⟩ (4 + d) = some cs' ∧ Is cs') :
    ∃ v t, cs = [v] ∧ HS W (fun _ => True) d v t := by
  rcases h with rfl | ⟨a, len, cap, rfl, h1, h2, h3, h4⟩
  · exact ⟨_, .nil, rfl, HS.nil _ _ _⟩
  · by_cases h0 : len = 0
    · subst h0
      exact ⟨_, .nil, rfl, .inr (.inl ⟨rfl, a, cap, rfl, h2⟩)⟩
    · have hs := (h4 0 (by omega)).1
      obtain ⟨t, ht, hr⟩ := hrow a.block len a.off (fun i hi => (h4 i hi).2)
      refine ⟨_, t, rfl, .inr (.inr ⟨a.block, a.off, cap, ?_, by omega, ⟨h2, by omega⟩, hr⟩)⟩
      rw [ht]
      cases a with | mk b o s => (cases hs; rfl)
theorem four {l : List Value} (h : l.length = 4) : ∃ a b c d, l = [a, b, c, d] := by
  match l, h with
  | [a, b, c, d], _ => exact ⟨a, b, c, d, rfl⟩
theorem five {l : List Value} (h : l.length = 5) : ∃ a b c d e, l = [a, b, c, d, e] := by
  match l, h with
  | [a, b, c, d, e], _ => exact ⟨a, b, c, d, e, rfl⟩
theorem part_reach {t : TypeId} {fs : Array Field} {xs : List (DataW H × List MemPlace)} (ht : Tryz.prog.underlying t = some (.struct fs)) (hw : Reach ((DataW.agg (xs.map (·.1))).weights Tryz.prog t)) {j : Nat} {f : Field} {x : DataW H × List MemPlace} (hf : fs[j]? = some f) (hx : xs[j]? = some x) : Reach (x.1.weights Tryz.prog f.type) := fun n hn => by
  refine hw n ?_
  unfold DataW.weights
  rw [ht]
  exact DataW.weights_mem_each (j := j) (t := f.type) (d := x.1) (by simp [hf]) (by simp [hx]) n hn
theorem value_open : ∀ (fuel : Nat), (∀ (cs : List Value) (x : DataW H × List MemPlace), DataW.trod enc Tryz.prog W 0 spare true fuel 25 cs = some x → Reach (x.1.weights Tryz.prog 25) → IsV W cs) ∧
    (∀ (cs : List Value) (x : DataW H × List MemPlace), DataW.trod enc Tryz.prog W 0 spare true fuel 80 cs = some x → Reach (x.1.weights Tryz.prog 80) → IsF W cs) := by
  intro fuel
  induction fuel using Nat.strongRecOn with
  | ind fuel ih =>
    constructor
    · intro cs x h hw
      obtain ⟨xs, n, rfl, rfl, hl, hxl, hp⟩ := DataW.trod_struct Tryz.underlying25 h
      rw [cellsValue] at hl
      obtain ⟨c0, c1, c2, c3, rfl⟩ := four hl
      have hxl : xs.length = 4 := hxl
      obtain ⟨x0, hx0⟩ : ∃ y, xs[0]? = some y := ⟨_, List.getElem?_eq_getElem (by omega)⟩
      obtain ⟨x1, hx1⟩ : ∃ y, xs[1]? = some y := ⟨_, List.getElem?_eq_getElem (by omega)⟩
      obtain ⟨x2, hx2⟩ : ∃ y, xs[2]? = some y := ⟨_, List.getElem?_eq_getElem (by omega)⟩
      obtain ⟨x3, hx3⟩ : ∃ y, xs[3]? = some y := ⟨_, List.getElem?_eq_getElem (by omega)⟩
      have h0 := hp 0 _ rfl
      have h1 := hp 1 _ rfl
      have h2 := hp 2 _ rfl
      have h3 := hp 3 _ rfl
      have w1 := part_reach Tryz.underlying25 hw (j := 1) rfl hx1
      have w2 := part_reach Tryz.underlying25 hw (j := 2) rfl hx2
      have w3 := part_reach Tryz.underlying25 hw (j := 3) rfl hx3
      rw [hx0] at h0
      rw [hx1] at h1
      rw [hx2] at h2
      rw [hx3] at h3

      change DataW.trod enc Tryz.prog W 0 spare true n 5 (List.take (Tryz.prog.cellsOf 5) (List.drop 0 [c0, c1, c2, c3])) = some x0 at h0
      change DataW.trod enc Tryz.prog W 0 spare true n 9 (List.take (Tryz.prog.cellsOf 9) (List.drop 1 [c0, c1, c2, c3])) = some x1 at h1
      change DataW.trod enc Tryz.prog W 0 spare true n 22 (List.take (Tryz.prog.cellsOf 22) (List.drop 2 [c0, c1, c2, c3])) = some x2 at h2
      change DataW.trod enc Tryz.prog W 0 spare true n 23 (List.take (Tryz.prog.cellsOf 23) (List.drop 3 [c0, c1, c2, c3])) = some x3 at h3
      change Reach (x1.1.weights Tryz.prog 9) at w1
      change Reach (x2.1.weights Tryz.prog 22) at w2
      change Reach (x3.1.weights Tryz.prog 23) at w3
      rw [cells_u8] at h0
      rw [cells_string] at h1
      rw [cells_values] at h2
      rw [cells_fields] at h3
      obtain ⟨z, e0, _, hz⟩ := DataW.trod_int Tryz.underlying5 h0
      obtain ⟨s, e1, rfl, _⟩ := DataW.trod_string Tryz.underlying9 h1
      have hs : s.size ≤ 140737488351232 := by
        have := w1 s.data.toList.length (by unfold DataW.weights; exact List.mem_singleton_self _)
        rw [Array.length_toList] at this
        exact this
      obtain ⟨v, l, e2, hv⟩ := hs_of (d := 0) (fun b n o => isV_row b n o) (slice_open Tryz.underlying22 cellsValue (by decide) h2 w2 (by rw [bytesValue]; decide) (fun m hm cs' y hy => (ih m (by omega)).1 cs' y hy))
      obtain ⟨u, f, e3, hu⟩ := hs_of (d := 1) (fun b n o => isF_row b n o) (slice_open Tryz.underlying23 cellsField (by decide) h3 w3 (by rw [bytesField]; decide) (fun m hm cs' y hy => (ih m (by omega)).2 cs' y hy))
      simp at e0 e1 e2 e3
      subst e0 e1 e2 e3
      have hz2 : 0 ≤ z ∧ z < 256 := by
        simp only [Lit.wf, IntKind.min, IntKind.max, Bool.and_eq_true] at hz
        have a1 : (0 : Int) ≤ z := of_decide_eq_true hz.1
        have a2 : z ≤ 255 := of_decide_eq_true hz.2
        omega
      obtain ⟨k, rfl⟩ := Int.eq_ofNat_of_zero_le hz2.1
      exact ⟨k, s, c2, c3, l, f, rfl, by omega, by omega, hv, hu⟩
    · intro cs x h hw
      obtain ⟨xs, n, rfl, rfl, hl, hxl, hp⟩ := DataW.trod_struct Tryz.underlying80 h
      rw [cellsField] at hl
      obtain ⟨c0, c1, c2, c3, c4, rfl⟩ := five hl
      have hxl : xs.length = 2 := hxl
      obtain ⟨x0, hx0⟩ : ∃ y, xs[0]? = some y := ⟨_, List.getElem?_eq_getElem (by omega)⟩
      obtain ⟨x1, hx1⟩ : ∃ y, xs[1]? = some y := ⟨_, List.getElem?_eq_getElem (by omega)⟩
      have h0 := hp 0 _ rfl
      have h1 := hp 1 _ rfl
      have w0 := part_reach Tryz.underlying80 hw (j := 0) rfl hx0
      have w1 := part_reach Tryz.underlying80 hw (j := 1) rfl hx1
      rw [hx0] at h0
      rw [hx1] at h1

      change DataW.trod enc Tryz.prog W 0 spare true n 9 (List.take (Tryz.prog.cellsOf 9) (List.drop 0 [c0, c1, c2, c3, c4])) = some x0 at h0
      change DataW.trod enc Tryz.prog W 0 spare true n 25 (List.take (Tryz.prog.cellsOf 25) (List.drop 1 [c0, c1, c2, c3, c4])) = some x1 at h1
      change Reach (x0.1.weights Tryz.prog 9) at w0
      change Reach (x1.1.weights Tryz.prog 25) at w1
      rw [cells_string] at h0
      rw [cellsValue] at h1
      obtain ⟨s, e0, rfl, _⟩ := DataW.trod_string Tryz.underlying9 h0
      have hs : s.size ≤ 140737488351232 := by
        have := w0 s.data.toList.length (by unfold DataW.weights; exact List.mem_singleton_self _)
        rw [Array.length_toList] at this
        exact this
      obtain ⟨k, t, v, u, l, f, e1, hk, ht, hv, hu⟩ := (ih n (by omega)).1 _ _ h1 w1
      simp at e0 e1
      obtain ⟨rfl, rfl, rfl, rfl⟩ := e1
      subst e0
      exact ⟨s, k, t, c3, c4, l, f, rfl, ⟨hk, ht, by omega⟩, hv, hu⟩
end
end Go.Proofs.YtoolkaahjmnjeaaGreatDoor

namespace Go.Proofs.YtoolkaahjmnjeaaGreatDoor
open Go Go.ChangeShapes Go.WideShapes Go.ChangeAt Go.RowKit Go.Joins

set_option maxRecDepth 100000 in
theorem value_arg {H : Type} {enc : TypeId × Value → H} {W : World} {base : Nat} {v : Value} {d : DataW H} {p : List MemPlace} (hval : Value.okWide Tryz.prog W .any base 25 v)
    (h : DataW.Trod enc Tryz.prog W 0 (fun _ => true) true 25 v d p) (hr : Reach (d.weights Tryz.prog 25)) :
    ∃ (k : Nat) (x : ByteArray) (y z : Value) (l f : V.T), v = .agg #[.int .u8 k, .string x, y, z] ∧ k < 256 ∧ x.size ≤ 140737488355328 ∧ HS W (fun _ => True) 0 y l ∧ HS W (fun _ => True) 1 z f := by
  have h0 := h
  obtain ⟨a, b, c, e, y0, y1, y2, y3, n, rfl, _, _, t0, t1, t2, t3⟩ := open_agg4 Tryz.underlying25 (by kernel_rfl) cellsValue hval h
  obtain ⟨z, e0, _, _⟩ := DataW.trod_int Tryz.underlying5 t0
  obtain ⟨x, e1, _, _⟩ := DataW.trod_string Tryz.underlying9 t1
  have e2 : ∃ p n m, c = .slice p n m := by
    rcases DataW.trod_slice Tryz.underlying22 t2 with ⟨h, _⟩ | ⟨_, _, _, _, _, _, _, h, _⟩
    · exact ⟨_, _, _, List.head_eq_of_cons_eq h⟩
    · exact ⟨_, _, _, List.head_eq_of_cons_eq h⟩
  have e3 : ∃ p n m, e = .slice p n m := by
    rcases DataW.trod_slice Tryz.underlying23 t3 with ⟨h, _⟩ | ⟨_, _, _, _, _, _, _, h, _⟩
    · exact ⟨_, _, _, List.head_eq_of_cons_eq h⟩
    · exact ⟨_, _, _, List.head_eq_of_cons_eq h⟩
  obtain ⟨q1, n1, m1, rfl⟩ := e2
  obtain ⟨q2, n2, m2, rfl⟩ := e3
  obtain rfl := List.head_eq_of_cons_eq e0
  obtain rfl := List.head_eq_of_cons_eq e1
  obtain ⟨fuel, hf⟩ := h0
  obtain ⟨k, x', v, u, l, f, e4, hk, hx, hl, hfl⟩ := (value_open (enc := enc) (W := W) (spare := fun _ => true) fuel).1 _ _ hf hr
  simp [Value.cells] at e4
  obtain ⟨rfl, rfl, rfl, rfl⟩ := e4
  exact ⟨k, x, _, _, l, f, rfl, hk, hx, hl, hfl⟩
end Go.Proofs.YtoolkaahjmnjeaaGreatDoor
