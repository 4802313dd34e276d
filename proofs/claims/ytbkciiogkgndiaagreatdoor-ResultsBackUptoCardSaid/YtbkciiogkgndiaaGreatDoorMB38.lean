/- An argument that is a value of JSON is opened, of at most so much bulk: how it lies in memory, and that no string of it is longer. Conditions: none. -/
import Derived.Test.YtbkciiogkgndiaaGreatDoorMB37
import Derived.Test.YtbkciiogkgndiaaGreatDoorRows
import Derived.RangeFuncNested
import Derived.RangeFuncBound
import Derived.RangeFuncBox
import Derived.RangeFuncCalls
import Derived.RangeFuncLeaves
import Derived.Shelf.Abstract
import Derived.Shelf.RegionOpen
import Derived.OwnWalkIn
import Derived.TacticsInMore
import Derived.LoopNIn
import Derived.LoopIn
import Derived.Test.YtbkciiogkgndiaaGreatDoorMB13
namespace Go.Proofs.YtbkciiogkgndiaaGreatDoor
open Go Go.RowKit

/-- no string of the row is longer -/
def V.T.Sz : V.T → Prop
  | .nil => True
  | .cons nm _ x l f tl => nm.size ≤ 1048576 ∧ x.size ≤ 1048576 ∧ l.Sz ∧ f.Sz ∧ tl.Sz
theorem V.T.Sz.find : ∀ {t : V.T} {n : ByteArray} {k : Nat} {x : ByteArray} {l f : V.T}, t.Sz → t.find n = some (k, x, l, f) → x.size ≤ 1048576 ∧ l.Sz ∧ f.Sz
  | .nil, _, _, _, _, _, _, h => by cases h
  | .cons nm' k' x' l' f' tl, n, k, x, l, f, hs, h => by
    unfold V.T.find at h
    split at h
    · cases h
      exact ⟨hs.2.1, hs.2.2.1, hs.2.2.2.1⟩
    · exact V.T.Sz.find hs.2.2.2.2 h
namespace Bulk
theorem one_le {H : Type} (d : DataW H) : 1 ≤ Rows.uptoBulk d := by
  cases d with
  | lit l => cases l <;> simp [Rows.uptoBulk]
  | nil => simp [Rows.uptoBulk]
  | ptr d => simp [Rows.uptoBulk]
  | slice elems spare => simp [Rows.uptoBulk]
  | agg parts => simp [Rows.uptoBulk]
  | iface t d => simp [Rows.uptoBulk]
  | map entries => simp [Rows.uptoBulk]
  | held h => simp [Rows.uptoBulk]
theorem part_le {H : Type} {d : DataW H} {l : List (DataW H)} (h : d ∈ l) : Rows.uptoBulk d ≤ Rows.uptoBulkAll l := by
  induction l with
  | nil => cases h
  | cons x r ih =>
    simp only [Rows.uptoBulkAll]
    cases List.mem_cons.1 h with
    | inl e => subst e; omega
    | inr e => have := ih e; omega
theorem length_le {H : Type} (l : List (DataW H)) : l.length ≤ Rows.uptoBulkAll l := by
  induction l with
  | nil => simp [Rows.uptoBulkAll]
  | cons x r ih => have := one_le x; simp only [Rows.uptoBulkAll, List.length_cons]; omega
theorem string_le {H : Type} {bytes : List UInt8} (h : Rows.uptoBulk (DataW.lit (H := H) (.string bytes)) ≤ 1048576) : bytes.length ≤ 1048576 := by
  simp only [Rows.uptoBulk] at h
  omega
/-- the bound, as the builder hands it over -/
theorem bound {H : Type} {l : List (DataW H)} (h : Rows.uptoSmall H l = true) : Rows.uptoBulkAll l ≤ 1048576 := of_decide_eq_true h
theorem arg {H : Type} {l : List (DataW H)} (h : Rows.uptoSmall H l = true) {d : DataW H} (hd : d ∈ l) : Rows.uptoBulk d ≤ 1048576 := Nat.le_trans (part_le hd) (bound h)
end Bulk
section
variable {H : Type} {enc : TypeId × Value → H} {W : World} {spare : Nat → Bool}
/-- what four cells that read as a value are -/
def IsVU (W : World) (cs : List Value) : Prop := ∃ (k : Nat) (x : ByteArray) (v u : Value) (l f : V.T), cs = [.int .u8 k, .string x, v, u] ∧ k < 256 ∧ x.size ≤ 1048576 ∧ (HS W (fun _ => True) 0 v l ∧ l.Sz) ∧ (HS W (fun _ => True) 1 u f ∧ f.Sz)
def IsFU (W : World) (cs : List Value) : Prop := ∃ (nm : ByteArray) (k : Nat) (x : ByteArray) (v u : Value) (l f : V.T), cs = [.string nm, .int .u8 k, .string x, v, u] ∧ (k < 256 ∧ x.size ≤ 1048576 ∧ nm.size ≤ 1048576) ∧ (HS W (fun _ => True) 0 v l ∧ l.Sz) ∧ (HS W (fun _ => True) 1 u f ∧ f.Sz)
theorem isV_rowU (b : Nat) : ∀ (n o : Nat), (∀ i, i < n → ∃ cs, W.cells? 0 ⟨b, o + i * 4, none⟩ 4 = some cs ∧ IsVU W cs) → ∃ t : V.T, t.len = n ∧ HR W (fun _ => True) 0 b o t ∧ t.Sz
  | 0, _, _ => ⟨.nil, rfl, trivial, trivial⟩
  | n + 1, o, h => by
    obtain ⟨t, ht, hr, hz⟩ := isV_rowU b n (o + 4) (fun i hi => by
      have := h (i + 1) (by omega)
      rwa [show o + (i + 1) * 4 = o + 4 + i * 4 by omega] at this)
    obtain ⟨cs, hc, k, x, v, u, l, f, rfl, hk, hx, hl, hf⟩ := h 0 (by omega)
    obtain ⟨_, _, hcell⟩ := World.cells?_some hc
    rw [Nat.zero_mul, Nat.add_zero] at hcell
    have e : ∀ j, (⟨b, o, none⟩ : Addr).add j = ⟨b, o + j, none⟩ := fun j => by unfold Addr.add; split <;> simp_all
    have h0 := hcell 0 (by omega)
    have h1 := hcell 1 (by omega)
    have h2 := hcell 2 (by omega)
    have h3 := hcell 3 (by omega)
    rw [e] at h0 h1 h2 h3
    exact ⟨.cons ⟨#[]⟩ k x l f t, congrArg (· + 1) ht, ⟨trivial, fun _ => rfl, (fun e => by cases e), h0, h1, ⟨v, h2, hl.1⟩, ⟨u, h3, hf.1⟩, ⟨hk, Nat.le_trans hx (by decide), Nat.zero_le _⟩, hr⟩, Nat.zero_le _, hx, hl.2, hf.2, hz⟩
theorem isF_rowU (b : Nat) : ∀ (n o : Nat), (∀ i, i < n → ∃ cs, W.cells? 0 ⟨b, o + i * 5, none⟩ 5 = some cs ∧ IsFU W cs) → ∃ t : V.T, t.len = n ∧ HR W (fun _ => True) 1 b o t ∧ t.Sz
  | 0, _, _ => ⟨.nil, rfl, trivial, trivial⟩
  | n + 1, o, h => by
    obtain ⟨t, ht, hr, hz⟩ := isF_rowU b n (o + 5) (fun i hi => by
      have := h (i + 1) (by omega)
      rwa [show o + (i + 1) * 5 = o + 5 + i * 5 by omega] at this)
    obtain ⟨cs, hc, nm, k, x, v, u, l, f, rfl, hk, hl, hf⟩ := h 0 (by omega)
    obtain ⟨_, _, hcell⟩ := World.cells?_some hc
    rw [Nat.zero_mul, Nat.add_zero] at hcell
    have e : ∀ j, (⟨b, o, none⟩ : Addr).add j = ⟨b, o + j, none⟩ := fun j => by unfold Addr.add; split <;> simp_all
    have h0 := hcell 0 (by omega)
    have h1 := hcell 1 (by omega)
    have h2 := hcell 2 (by omega)
    have h3 := hcell 3 (by omega)
    have h4 := hcell 4 (by omega)
    rw [e] at h0 h1 h2 h3 h4
    exact ⟨.cons nm k x l f t, congrArg (· + 1) ht, ⟨trivial, (fun e => by cases e), fun _ => h0, h1, h2, ⟨v, h3, hl.1⟩, ⟨u, h4, hf.1⟩, ⟨hk.1, Nat.le_trans hk.2.1 (by decide), Nat.le_trans hk.2.2 (by decide)⟩, hr⟩, hk.2.2, hk.2.1, hl.2, hf.2, hz⟩
theorem slice_openU {e : TypeId} {sz : Nat} {fuel : Nat} {t : TypeId} {cs : List Value} {x : DataW H × List MemPlace} {Is : List Value → Prop} (ht : Tryz.prog.underlying t = some (.slice e)) (hz : Tryz.prog.cellsOf e = sz) (hsz : 0 < sz)
    (h : DataW.trod enc Tryz.prog W 0 spare true fuel t cs = some x) (hw : Rows.uptoBulk x.1 ≤ 1048576)
    (ih : ∀ n, n < fuel → ∀ cs' y, DataW.trod enc Tryz.prog W 0 spare true n e cs' = some y → Rows.uptoBulk y.1 ≤ 1048576 → Is cs') :
    (cs = [.slice none 0 0]) ∨ ∃ (a : Addr) (len cap : Nat), cs = [.slice (some a) len cap] ∧ len ≤ cap ∧ cap ≤ maxLen ∧ len ≤ 2000000000000 ∧ ∀ i, i < len → a.spot = none ∧ ∃ cs', W.cells? 0 ⟨a.block, a.off + i * sz, none⟩ sz = some cs' ∧ Is cs' := by
  rcases DataW.trod_slice ht h with ⟨h0, _⟩ | ⟨a, len, cap, elems, rest, n, hn, rfl, rfl, _, hl, hm, hlen, hel, _, _⟩
  · exact .inl h0
  · right
    have hw0 : elems.length + rest.length ≤ 1048576 := by
      have h1 := Bulk.length_le (elems.map fun z : DataW H × List MemPlace => z.1)
      have h2 := Bulk.length_le (rest.map fun z : DataW H × List MemPlace => z.1)
      rw [List.length_map] at h1 h2
      simp only [Rows.uptoBulk] at hw
      omega
    refine ⟨a, len, cap, rfl, hl, hm, by omega, fun i hi => ?_⟩
    have he := hel i hi
    rw [hz] at he
    obtain ⟨y, hy⟩ : ∃ y, elems[i]? = some y := ⟨_, List.getElem?_eq_getElem (by omega)⟩
    rw [hy] at he
    obtain ⟨cs', h1, h2⟩ := Option.bind_eq_some_iff.1 he
    have hspot : a.spot = none := by
      have he0 := hel 0 (by omega)
      rw [hz, Nat.zero_mul] at he0
      obtain ⟨y0, hy0⟩ : ∃ y, elems[0]? = some y := ⟨_, List.getElem?_eq_getElem (by omega)⟩
      rw [hy0] at he0
      obtain ⟨cs0, g1, _⟩ := Option.bind_eq_some_iff.1 he0
      have g3 := World.cells?_some g1
      have h4 := g3.2.2 0 hsz
      obtain ⟨c0, hc0⟩ : ∃ c0, cs0[0]? = some c0 := ⟨_, List.getElem?_eq_getElem (by omega)⟩
      rw [hc0] at h4
      have e0 : (a.add 0).add 0 = a := by unfold Addr.add; simp
      rw [e0] at h4
      unfold World.cell? at h4
      split at h4
      · split at h4
        · cases h4
        · rename_i hs
          simpa using hs
      · cases h4
    refine ⟨hspot, cs', ?_, ih n (by omega) cs' y h2 (by
      have h1 := Bulk.part_le (List.mem_map_of_mem (f := fun z : DataW H × List MemPlace => z.1) (List.mem_of_getElem? hy))
      simp only [Rows.uptoBulk] at hw
      omega)⟩
    have ea : a.add (i * sz) = ⟨a.block, a.off + i * sz, none⟩ := by
      cases a with | mk b o s => (cases hspot; unfold Addr.add; split <;> simp_all)
    rw [← ea]
    exact h1
theorem hs_ofU {d : Nat} {Is : List Value → Prop} {cs : List Value} (hrow : ∀ b n o, (∀ i, i < n → ∃ cs', W.cells? 0 ⟨b, o + i * (4 + d), none⟩ (4 + d) = some cs' ∧ Is cs') → ∃ t : V.T, t.len = n ∧ HR W (fun _ => True) d b o t ∧ t.Sz)
    (h : (cs = [.slice none 0 0]) ∨ ∃ (a : Addr) (len cap : Nat), cs = [.slice (some a) len cap] ∧ len ≤ cap ∧ cap ≤ maxLen ∧ len ≤ 2000000000000 ∧ ∀ i, i < len → a.spot = none ∧ ∃ cs', W.cells? 0 ⟨a.block, a.off + i * (4 + d), none⟩ (4 + d) = some cs' ∧ Is cs') :
    ∃ v t, cs = [v] ∧ HS W (fun _ => True) d v t ∧ t.Sz := by
  rcases h with rfl | ⟨a, len, cap, rfl, h1, h2, h3, h4⟩
  · exact ⟨_, .nil, rfl, HS.nil _ _ _, trivial⟩
  · by_cases h0 : len = 0
    · subst h0
      exact ⟨_, .nil, rfl, .inr (.inl ⟨rfl, a, cap, rfl, h2⟩), trivial⟩
    · have hs := (h4 0 (by omega)).1
      obtain ⟨t, ht, hr, hz⟩ := hrow a.block len a.off (fun i hi => (h4 i hi).2)
      refine ⟨_, t, rfl, .inr (.inr ⟨a.block, a.off, cap, ?_, by omega, ⟨h2, by omega⟩, hr⟩), hz⟩
      rw [ht]
      cases a with | mk b o s => (cases hs; rfl)
theorem part_bulk {xs : List (DataW H × List MemPlace)} (hw : Rows.uptoBulk (DataW.agg (xs.map (·.1))) ≤ 1048576) {j : Nat} {x : DataW H × List MemPlace} (hx : xs[j]? = some x) : Rows.uptoBulk x.1 ≤ 1048576 := by
  have h1 := Bulk.part_le (List.mem_map_of_mem (f := fun z : DataW H × List MemPlace => z.1) (List.mem_of_getElem? hx))
  simp only [Rows.uptoBulk] at hw
  omega
theorem value_openU : ∀ (fuel : Nat), (∀ (cs : List Value) (x : DataW H × List MemPlace), DataW.trod enc Tryz.prog W 0 spare true fuel 25 cs = some x → Rows.uptoBulk x.1 ≤ 1048576 → IsVU W cs) ∧
    (∀ (cs : List Value) (x : DataW H × List MemPlace), DataW.trod enc Tryz.prog W 0 spare true fuel 100 cs = some x → Rows.uptoBulk x.1 ≤ 1048576 → IsFU W cs) := by
  intro fuel
  induction fuel using Nat.strongRecOn with
  | ind fuel ih =>
    constructor
    · intro cs x h hw
      obtain ⟨xs, n, rfl, rfl, hl, hxl, hp⟩ := DataW.trod_struct Tryz.underlying25 h
      rw [cellsValue] at hl
      obtain ⟨c0, c1, c2, c3, rfl⟩ := four hl
      have hxl : xs.length = 4 := hxl
      obtain ⟨x0, hx0⟩ : ∃ y, xs[0]? = some y := ⟨_, List.getElem?_eq_getElem (by omega)⟩
      obtain ⟨x1, hx1⟩ : ∃ y, xs[1]? = some y := ⟨_, List.getElem?_eq_getElem (by omega)⟩
      obtain ⟨x2, hx2⟩ : ∃ y, xs[2]? = some y := ⟨_, List.getElem?_eq_getElem (by omega)⟩
      obtain ⟨x3, hx3⟩ : ∃ y, xs[3]? = some y := ⟨_, List.getElem?_eq_getElem (by omega)⟩
      have h0 := hp 0 _ rfl
      have h1 := hp 1 _ rfl
      have h2 := hp 2 _ rfl
      have h3 := hp 3 _ rfl
      have w1 := part_bulk hw (j := 1) hx1
      have w2 := part_bulk hw (j := 2) hx2
      have w3 := part_bulk hw (j := 3) hx3
      rw [hx0] at h0
      rw [hx1] at h1
      rw [hx2] at h2
      rw [hx3] at h3

      change DataW.trod enc Tryz.prog W 0 spare true n 5 (List.take (Tryz.prog.cellsOf 5) (List.drop 0 [c0, c1, c2, c3])) = some x0 at h0
      change DataW.trod enc Tryz.prog W 0 spare true n 9 (List.take (Tryz.prog.cellsOf 9) (List.drop 1 [c0, c1, c2, c3])) = some x1 at h1
      change DataW.trod enc Tryz.prog W 0 spare true n 22 (List.take (Tryz.prog.cellsOf 22) (List.drop 2 [c0, c1, c2, c3])) = some x2 at h2
      change DataW.trod enc Tryz.prog W 0 spare true n 23 (List.take (Tryz.prog.cellsOf 23) (List.drop 3 [c0, c1, c2, c3])) = some x3 at h3
      rw [cells_u8] at h0
      rw [cells_string] at h1
      rw [cells_values] at h2
      rw [cells_fields] at h3
      obtain ⟨z, e0, _, hz⟩ := DataW.trod_int Tryz.underlying5 h0
      obtain ⟨s, e1, rfl, _⟩ := DataW.trod_string Tryz.underlying9 h1
      have hs : s.size ≤ 1048576 := by
        have := Bulk.string_le w1
        rw [Array.length_toList] at this
        exact this
      obtain ⟨v, l, e2, hv, hvz⟩ := hs_ofU (d := 0) (fun b n o => isV_rowU b n o) (slice_openU Tryz.underlying22 cellsValue (by decide) h2 w2 (fun m hm cs' y hy => (ih m (by omega)).1 cs' y hy))
      obtain ⟨u, f, e3, hu, huz⟩ := hs_ofU (d := 1) (fun b n o => isF_rowU b n o) (slice_openU Tryz.underlying23 cellsField (by decide) h3 w3 (fun m hm cs' y hy => (ih m (by omega)).2 cs' y hy))
      simp at e0 e1 e2 e3
      subst e0 e1 e2 e3
      have hz2 : 0 ≤ z ∧ z < 256 := by
        simp only [Lit.wf, IntKind.min, IntKind.max, Bool.and_eq_true] at hz
        have a1 : (0 : Int) ≤ z := of_decide_eq_true hz.1
        have a2 : z ≤ 255 := of_decide_eq_true hz.2
        omega
      obtain ⟨k, rfl⟩ := Int.eq_ofNat_of_zero_le hz2.1
      exact ⟨k, s, c2, c3, l, f, rfl, by omega, by omega, ⟨hv, hvz⟩, ⟨hu, huz⟩⟩
    · intro cs x h hw
      obtain ⟨xs, n, rfl, rfl, hl, hxl, hp⟩ := DataW.trod_struct Tryz.underlying100 h
      rw [cellsField] at hl
      obtain ⟨c0, c1, c2, c3, c4, rfl⟩ := five hl
      have hxl : xs.length = 2 := hxl
      obtain ⟨x0, hx0⟩ : ∃ y, xs[0]? = some y := ⟨_, List.getElem?_eq_getElem (by omega)⟩
      obtain ⟨x1, hx1⟩ : ∃ y, xs[1]? = some y := ⟨_, List.getElem?_eq_getElem (by omega)⟩
      have h0 := hp 0 _ rfl
      have h1 := hp 1 _ rfl
      have w0 := part_bulk hw (j := 0) hx0
      have w1 := part_bulk hw (j := 1) hx1
      rw [hx0] at h0
      rw [hx1] at h1

      change DataW.trod enc Tryz.prog W 0 spare true n 9 (List.take (Tryz.prog.cellsOf 9) (List.drop 0 [c0, c1, c2, c3, c4])) = some x0 at h0
      change DataW.trod enc Tryz.prog W 0 spare true n 25 (List.take (Tryz.prog.cellsOf 25) (List.drop 1 [c0, c1, c2, c3, c4])) = some x1 at h1
      rw [cells_string] at h0
      rw [cellsValue] at h1
      obtain ⟨s, e0, rfl, _⟩ := DataW.trod_string Tryz.underlying9 h0
      have hs : s.size ≤ 1048576 := by
        have := Bulk.string_le w0
        rw [Array.length_toList] at this
        exact this
      obtain ⟨k, t, v, u, l, f, e1, hk, ht, hv, hu⟩ := (ih n (by omega)).1 _ _ h1 w1
      simp at e0 e1
      obtain ⟨rfl, rfl, rfl, rfl⟩ := e1
      subst e0
      exact ⟨s, k, t, c3, c4, l, f, rfl, ⟨hk, ht, by omega⟩, hv, hu⟩
end
end Go.Proofs.YtbkciiogkgndiaaGreatDoor

namespace Go.Proofs.YtbkciiogkgndiaaGreatDoor
open Go Go.RowKit Go.Shelf Go.Lib

attribute [local go_sem] Oper.semAt_some

/-- a round keeps what lay, and the slice's box -/
def KpR (M B : Nat) (sl : Value) (W W' : World) : Prop := Below M W W' ∧ (W.cell? ⟨B, 0, none⟩ = some sl → W'.cell? ⟨B, 0, none⟩ = some sl)
theorem kpR_t {M B : Nat} {sl : Value} {X Y Z : World} (h : KpR M B sl X Y) (k : KpR M B sl Y Z) : KpR M B sl X Z := ⟨h.1.trans k.1, fun c => k.2 (h.2 c)⟩
theorem kpR_b {M B : Nat} {sl : Value} {w : World} (hn : M ≤ w.heap.size) (W : World) (l : Nat) (o o' : Obj) (hl : w.heap.size ≤ l) (h : W.heap[l]? = some o) (ho : o.isCells = false) (hw : o.isWalk = false) : KpR M B sl W (W.putObj l o') :=
  ⟨belowK_b hn W l o o' hl h ho hw, fun c => cell_kept c (grownBy_putObj' W l o') (fun r e => by cases e; exact ⟨o, h, ho⟩)⟩
theorem backs_step {m i : Nat} (h : i < m) : backs m (m - i) = backs m (m - (i + 1)) ++ [i] := by
  rw [show m - i = (m - (i + 1)) + 1 by omega]
  show backs m (m - (i + 1)) ++ [m - 1 - (m - (i + 1))] = _
  rw [show m - 1 - (m - (i + 1)) = i by omega]

set_option maxHeartbeats 400000 in
theorem back_any (v : Value) (w : World) (hv : ∃ p n c, v = .slice p n c) :
    Calls Tryz.prog 159 #[v] w fun e w' => e = .returned (.func (.func 197) #[] #[.pointer (some ⟨w.heap.size, 0, none⟩)]) ∧ w' = w.alloc (.cells #[v] 165) := by
  obtain ⟨p, n, c, rfl⟩ := hv
  go_enter Tryz.func159, Tryz.ntmps159
  go_wp2_with fail
  go_ret
  exact ⟨rfl, rfl⟩
/-- where the iterator stands -/
def BkSt (m : Nat) (J : List Nat → World → Prop) (p : Value) (W : World) : Prop := (p = .int .i64 (-1) ∧ J (backs m m) W) ∨ ∃ i : Nat, p = .int .i64 (i : Int) ∧ i < m ∧ J (backs m (m - (i + 1))) W
theorem bkst_of {m i : Nat} {J : List Nat → World → Prop} {W : World} (hi : i ≤ m) (h : J (backs m (m - i)) W) : BkSt m J (.int .i64 ((i : Int) - 1)) W := by
  cases i with
  | zero => exact .inl ⟨rfl, h⟩
  | succ i => exact .inr ⟨i, by congr 1; omega, by omega, h⟩

set_option maxRecDepth 100000 in
set_option maxHeartbeats 1000000 in
theorem back1_in (n l B M m c : Nat) (p : Option Addr) (hn : 1 ≤ n) (ls : List Rg) (hm : m ≤ 1000000) (w0 : World) (hE : ∀ i, i < m → ∃ b o, p = some ⟨b, o, none⟩ ∧ ∀ W, Below M w0 W → W.cell? ⟨b, o + i * 4, none⟩ = some (.int .i64 (rgAt ls i).a) ∧ W.cell? ⟨b, o + i * 4 + 1, none⟩ = some (.int .i64 (rgAt ls i).b) ∧ W.cell? ⟨b, o + i * 4 + 2, none⟩ = some (.int .i64 (rgAt ls i).c) ∧ W.cell? ⟨b, o + i * 4 + 3, none⟩ = some (.int .i64 (rgAt ls i).d))
    (J Jx : List Nat → World → Prop)
    (hY : ∀ pre x W, J pre W → pre.length < m → YieldAt Fence.wide (n - 1) Tryz.prog l #[.int .i64 (x : Nat), (rgAt ls x).v] W fun e W' =>
      (e = .returned (.bool true) ∧ J (pre ++ [x]) W' ∧ KpR M B (.slice p m c) W W') ∨ (e = .returned (.bool false) ∧ Jx (pre ++ [x]) W'))
    (W : World) (hB : W.cell? ⟨B, 0, none⟩ = some (.slice p m c)) (hW : Below M w0 W) (h0 : J [] W) :
    CallsIn Fence.wide n Tryz.prog 197 #[.func (.yield l) #[] #[], .pointer (some ⟨B, 0, none⟩)] W fun e W' => (∃ v, e = .returned v) ∧
      ((∃ ys, ys = backs m m ∧ J ys W') ∨ (∃ pre, True ∧ Jx pre W')) := by
  have HE := Lib.hid hE
  have HM := Lib.hid hm
  have HY := Lib.hid hY
  have HJ := Lib.hid (bkst_of (i := m) (Nat.le_refl m) (by rw [Nat.sub_self]; exact h0))
  clear hE hY h0
  refine callsIn_of_wp Tryz.func197 rfl trivial ?_ rfl
  simp only [Tryz.ntmps197, List.size_toArray, List.length_cons, List.length_nil, Nat.reduceAdd, Nat.reduceSub, Array.replicate_succ, Array.replicate_zero, List.push_toArray, List.append_toArray, List.nil_append, List.cons_append]
  gi_wp2
  gi_loopw [3] (fun p' wr => Hid (BkSt m J p' wr) ∧ wr.cell? ⟨B, 0, none⟩ = some (.slice p m c) ∧ Hid (Below M w0 wr)) (fun p' _ => (RowKit.intOf p' + 1).toNat)
  case atStart => exact ⟨HJ, hB, Lib.hid hW⟩
  case round =>
    obtain ⟨HS, hc, HBw⟩ := hrel
    rcases HS.out with ⟨rfl, hJ⟩ | ⟨i, rfl, hi, hJ⟩
    · have HJ2 := Lib.hid hJ
      clear hJ HS
      gi_wp2
      exact ⟨rfl, _, results_none rfl _ _ _, ⟨_, rfl⟩, .inl ⟨_, rfl, HJ2.out⟩⟩
    · obtain ⟨b, o, rfl, hcl⟩ := HE.out i hi
      obtain ⟨c0, c1, c2, c3⟩ := hcl wr HBw.out
      obtain ⟨fn, tmps, assign, body, hy, hR⟩ := HY.out (backs m (m - (i + 1))) i wr hJ (by rw [backs_len]; omega)
      rw [← backs_step hi] at hR
      unfold Rg.v at hy
      have HI := Lib.hid hi
      have i1 : (0 : Int) ≤ (i : Int) := Int.natCast_nonneg i
      have i2 : (i : Int) < (m : Int) := by omega
      generalize rgAt ls i = g at *
      clear hcl hJ HS hi
      gi_wp2
      refine hR.mono ?_
      rintro e W3 (⟨rfl, hJ3, hk3⟩ | ⟨rfl, hJx3⟩)
      · have hc3 := hk3.2 hc
        have HJ3 := Lib.hid (bkst_of (by have := HI.out; omega) hJ3)
        have HB3 := Lib.hid (HBw.out.trans hk3.1)
        clear hJ3 hk3 hR
        gi_wp2
        go_roundw
        case rel => exact ⟨HJ3, hc3, HB3⟩
        case measure => simp [RowKit.intOf] <;> omega
      · gi_wp2
        refine bodyPost_ret (results_none rfl _ _ _) rfl ?_
        exact ⟨⟨_, rfl⟩, .inr ⟨_, trivial, hJx3⟩⟩

theorem back_stops (n B M m c : Nat) (p : Option Addr) (hn : 1 ≤ n) (ls : List Rg) (hm : m ≤ 1000000) (w0 w : World) (hE : ∀ i, i < m → ∃ b o, p = some ⟨b, o, none⟩ ∧ ∀ W, Below M w0 W → W.cell? ⟨b, o + i * 4, none⟩ = some (.int .i64 (rgAt ls i).a) ∧ W.cell? ⟨b, o + i * 4 + 1, none⟩ = some (.int .i64 (rgAt ls i).b) ∧ W.cell? ⟨b, o + i * 4 + 2, none⟩ = some (.int .i64 (rgAt ls i).c) ∧ W.cell? ⟨b, o + i * 4 + 3, none⟩ = some (.int .i64 (rgAt ls i).d))
    (hBw : B < w.heap.size) (hMw : M ≤ w.heap.size) (h0w : Below M w0 w) (hc : w.cell? ⟨B, 0, none⟩ = some (.slice p m c)) :
    SeqStopsK Fence.wide n Tryz.prog 197 #[.pointer (some ⟨B, 0, none⟩)] (fun k : Nat => #[Value.int .i64 k, (rgAt ls k).v]) (KpR M B (.slice p m c)) (fun ys => ys = backs m m) (fun _ => True) m w := fun l J Jx W hW _ _ hY h0 =>
  back1_in n l B M m c p hn ls hm w0 hE J Jx hY W ((hW.cell (p := ⟨B, 0, none⟩) hBw).trans hc) (h0w.trans (hW.mono hMw)) h0
end Go.Proofs.YtbkciiogkgndiaaGreatDoor
