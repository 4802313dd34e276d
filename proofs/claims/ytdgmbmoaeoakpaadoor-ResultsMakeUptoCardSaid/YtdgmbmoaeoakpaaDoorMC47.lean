/- An argument that is a value of JSON is opened, of at most so much bulk: how it lies in memory, and that no string of it is longer. Conditions: none. -/
import Derived.Test.YtdgmbmoaeoakpaaDoorMC46
import Derived.Test.YtdgmbmoaeoakpaaDoorRows
namespace Go.Proofs.YtdgmbmoaeoakpaaDoor
open Go Go.RowKit

/-- no string of the row is longer -/
def V.T.Sz : V.T → Prop
  | .nil => True
  | .cons nm _ x l f tl => nm.size ≤ 1048576 ∧ x.size ≤ 1048576 ∧ l.Sz ∧ f.Sz ∧ tl.Sz
theorem V.T.Sz.find : ∀ {t : V.T} {n : ByteArray} {k : Nat} {x : ByteArray} {l f : V.T}, t.Sz → t.find n = some (k, x, l, f) → x.size ≤ 1048576 ∧ l.Sz ∧ f.Sz
  | .nil, _, _, _, _, _, _, h => by cases h
  | .cons nm' k' x' l' f' tl, n, k, x, l, f, hs, h => by
    unfold V.T.find at h
    split at h
    · cases h
      exact ⟨hs.2.1, hs.2.2.1, hs.2.2.2.1⟩
    · exact V.T.Sz.find hs.2.2.2.2 h
namespace Bulk
theorem one_le {H : Type} (d : DataW H) : 1 ≤ Rows.uptoBulk d := by
  cases d with
  | lit l => cases l <;> simp [Rows.uptoBulk]
  | nil => simp [Rows.uptoBulk]
  | ptr d => simp [Rows.uptoBulk]
  | slice elems spare => simp [Rows.uptoBulk]
  | agg parts => simp [Rows.uptoBulk]
  | iface t d => simp [Rows.uptoBulk]
  | map entries => simp [Rows.uptoBulk]
  | held h => simp [Rows.uptoBulk]
theorem part_le {H : Type} {d : DataW H} {l : List (DataW H)} (h : d ∈ l) : Rows.uptoBulk d ≤ Rows.uptoBulkAll l := by
  induction l with
  | nil => cases h
  | cons x r ih =>
    simp only [Rows.uptoBulkAll]
    cases List.mem_cons.1 h with
    | inl e => subst e; omega
    | inr e => have := ih e; omega
theorem length_le {H : Type} (l : List (DataW H)) : l.length ≤ Rows.uptoBulkAll l := by
  induction l with
  | nil => simp [Rows.uptoBulkAll]
  | cons x r ih => have := one_le x; simp only [Rows.uptoBulkAll, List.length_cons]; omega
theorem string_le {H : Type} {bytes : List UInt8} (h : Rows.uptoBulk (DataW.lit (H := H) (.string bytes)) ≤ 1048576) : bytes.length ≤ 1048576 := by
  simp only [Rows.uptoBulk] at h
  omega
/-- the bound, as the builder hands it over -/
theorem bound {H : Type} {l : List (DataW H)} (h : Rows.uptoSmall H l = true) : Rows.uptoBulkAll l ≤ 1048576 := of_decide_eq_true h
theorem arg {H : Type} {l : List (DataW H)} (h : Rows.uptoSmall H l = true) {d : DataW H} (hd : d ∈ l) : Rows.uptoBulk d ≤ 1048576 := Nat.le_trans (part_le hd) (bound h)
end Bulk
section
variable {H : Type} {enc : TypeId × Value → H} {W : World} {spare : Nat → Bool}
/-- what four cells that read as a value are -/
def IsVU (W : World) (cs : List Value) : Prop := ∃ (k : Nat) (x : ByteArray) (v u : Value) (l f : V.T), cs = [.int .u8 k, .string x, v, u] ∧ k < 256 ∧ x.size ≤ 1048576 ∧ (HS W (fun _ => True) 0 v l ∧ l.Sz) ∧ (HS W (fun _ => True) 1 u f ∧ f.Sz)
def IsFU (W : World) (cs : List Value) : Prop := ∃ (nm : ByteArray) (k : Nat) (x : ByteArray) (v u : Value) (l f : V.T), cs = [.string nm, .int .u8 k, .string x, v, u] ∧ (k < 256 ∧ x.size ≤ 1048576 ∧ nm.size ≤ 1048576) ∧ (HS W (fun _ => True) 0 v l ∧ l.Sz) ∧ (HS W (fun _ => True) 1 u f ∧ f.Sz)
theorem isV_rowU (b : Nat) : ∀ (n o : Nat), (∀ i, i < n → ∃ cs, W.cells? 0 ⟨b, o + i * 4, none⟩ 4 = some cs ∧ IsVU W cs) → ∃ t : V.T, t.len = n ∧ HR W (fun _ => True) 0 b o t ∧ t.Sz
  | 0, _, _ => ⟨.nil, rfl, trivial, trivial⟩
  | n + 1, o, h => by
    obtain ⟨t, ht, hr, hz⟩ := isV_rowU b n (o + 4) (fun i hi => by
      have := h (i + 1) (by omega)
      rwa [show o + (i + 1) * 4 = o + 4 + i * 4 by omega] at this)
    obtain ⟨cs, hc, k, x, v, u, l, f, rfl, hk, hx, hl, hf⟩ := h 0 (by omega)
    obtain ⟨_, _, hcell⟩ := World.cells?_some hc
    rw [Nat.zero_mul, Nat.add_zero] at hcell
    have e : ∀ j, (⟨b, o, none⟩ : Addr).add j = ⟨b, o + j, none⟩ := fun j => by unfold Addr.add; split <;> simp_all
    have h0 := hcell 0 (by omega)
    have h1 := hcell 1 (by omega)
    have h2 := hcell 2 (by omega)
    have h3 := hcell 3 (by omega)
    rw [e] at h0 h1 h2 h3
    exact ⟨.cons ⟨#[]⟩ k x l f t, congrArg (· + 1) ht, ⟨trivial, fun _ => rfl, (fun e => by cases e), h0, h1, ⟨v, h2, hl.1⟩, ⟨u, h3, hf.1⟩, ⟨hk, Nat.le_trans hx (by decide), Nat.zero_le _⟩, hr⟩, Nat.zero_le _, hx, hl.2, hf.2, hz⟩
theorem isF_rowU (b : Nat) : ∀ (n o : Nat), (∀ i, i < n → ∃ cs, W.cells? 0 ⟨b, o + i * 5, none⟩ 5 = some cs ∧ IsFU W cs) → ∃ t : V.T, t.len = n ∧ HR W (fun _ => True) 1 b o t ∧ t.Sz
  | 0, _, _ => ⟨.nil, rfl, trivial, trivial⟩
  | n + 1, o, h => by
    obtain ⟨t, ht, hr, hz⟩ := isF_rowU b n (o + 5) (fun i hi => by
      have := h (i + 1) (by omega)
      rwa [show o + (i + 1) * 5 = o + 5 + i * 5 by omega] at this)
    obtain ⟨cs, hc, nm, k, x, v, u, l, f, rfl, hk, hl, hf⟩ := h 0 (by omega)
    obtain ⟨_, _, hcell⟩ := World.cells?_some hc
    rw [Nat.zero_mul, Nat.add_zero] at hcell
    have e : ∀ j, (⟨b, o, none⟩ : Addr).add j = ⟨b, o + j, none⟩ := fun j => by unfold Addr.add; split <;> simp_all
    have h0 := hcell 0 (by omega)
    have h1 := hcell 1 (by omega)
    have h2 := hcell 2 (by omega)
    have h3 := hcell 3 (by omega)
    have h4 := hcell 4 (by omega)
    rw [e] at h0 h1 h2 h3 h4
    exact ⟨.cons nm k x l f t, congrArg (· + 1) ht, ⟨trivial, (fun e => by cases e), fun _ => h0, h1, h2, ⟨v, h3, hl.1⟩, ⟨u, h4, hf.1⟩, ⟨hk.1, Nat.le_trans hk.2.1 (by decide), Nat.le_trans hk.2.2 (by decide)⟩, hr⟩, hk.2.2, hk.2.1, hl.2, hf.2, hz⟩
theorem slice_openU {e : TypeId} {sz : Nat} {fuel : Nat} {t : TypeId} {cs : List Value} {x : DataW H × List MemPlace} {Is : List Value → Prop} (ht : Tryd.prog.underlying t = some (.slice e)) (hz : Tryd.prog.cellsOf e = sz) (hsz : 0 < sz)
    (h : DataW.trod enc Tryd.prog W 0 spare true fuel t cs = some x) (hw : Rows.uptoBulk x.1 ≤ 1048576)
    (ih : ∀ n, n < fuel → ∀ cs' y, DataW.trod enc Tryd.prog W 0 spare true n e cs' = some y → Rows.uptoBulk y.1 ≤ 1048576 → Is cs') :
    (cs = [.slice none 0 0]) ∨ ∃ (a : Addr) (len cap : Nat), cs = [.slice (some a) len cap] ∧ len ≤ cap ∧ cap ≤ maxLen ∧ len ≤ 2000000000000 ∧ ∀ i, i < len → a.spot = none ∧ ∃ cs', W.cells? 0 ⟨a.block, a.off + i * sz, none⟩ sz = some cs' ∧ Is cs' := by
  rcases DataW.trod_slice ht h with ⟨h0, _⟩ | ⟨a, len, cap, elems, rest, n, hn, rfl, rfl, _, hl, hm, hlen, hel, _, _⟩
  · exact .inl h0
  · right
    have hw0 : elems.length + rest.length ≤ 1048576 := by
      have h1 := Bulk.length_le (elems.map fun z : DataW H × List MemPlace => z.1)
      have h2 := Bulk.length_le (rest.map fun z : DataW H × List MemPlace => z.1)
      rw [List.length_map] at h1 h2
      simp only [Rows.uptoBulk] at hw
      omega
    refine ⟨a, len, cap, rfl, hl, hm, by omega, fun i hi => ?_⟩
    have he := hel i hi
    rw [hz] at he
    obtain ⟨y, hy⟩ : ∃ y, elems[i]? = some y := ⟨_, List.getElem?_eq_getElem (by omega)⟩
    rw [hy] at he
    obtain ⟨cs', h1, h2⟩ := Option.bind_eq_some_iff.1 he
    have hspot : a.spot = none := by
      have he0 := hel 0 (by omega)
      rw [hz, Nat.zero_mul] at he0
      obtain ⟨y0, hy0⟩ : ∃ y, elems[0]? = some y := ⟨_, List.getElem?_eq_getElem (by omega)⟩
      rw [hy0] at he0
      obtain ⟨cs0, g1, _⟩ := Option.bind_eq_some_iff.1 he0
      have g3 := World.cells?_some g1
      have h4 := g3.2.2 0 hsz
      obtain ⟨c0, hc0⟩ : ∃ c0, cs0[0]? = some c0 := ⟨_, List.getElem?_eq_getElem (by omega)⟩
      rw [hc0] at h4
      have e0 : (a.add 0).add 0 = a := by unfold Addr.add; simp
      rw [e0] at h4
      unfold World.cell? at h4
      split at h4
      · split at h4
        · cases h4
        · rename_i hs
          simpa using hs
      · cases h4
    refine ⟨hspot, cs', ?_, ih n (by omega) cs' y h2 (by
      have h1 := Bulk.part_le (List.mem_map_of_mem (f := fun z : DataW H × List MemPlace => z.1) (List.mem_of_getElem? hy))
      simp only [Rows.uptoBulk] at hw
      omega)⟩
    have ea : a.add (i * sz) = ⟨a.block, a.off + i * sz, none⟩ := by
      cases a with | mk b o s => (cases hspot; unfold Addr.add; split <;> simp_all)
    rw [← ea]
    exact h1
theorem hs_ofU {d : Nat} {Is : List Value → Prop} {cs : List Value} (hrow : ∀ b n o, (∀ i, i < n → ∃ cs', W.cells? 0 ⟨b, o + i * (4 + d), none⟩ (4 + d) = some cs' ∧ Is cs') → ∃ t : V.T, t.len = n ∧ HR W (fun _ => True) d b o t ∧ t.Sz)
    (h : (cs = [.slice none 0 0]) ∨ ∃ (a : Addr) (len cap : Nat), cs = [.slice (some a) len cap] ∧ len ≤ cap ∧ cap ≤ maxLen ∧ len ≤ 2000000000000 ∧ ∀ i, i < len → a.spot = none ∧ ∃ cs', W.cells? 0 ⟨a.block, a.off + i * (4 + d), none⟩ (4 + d) = some cs' ∧ Is cs') :
    ∃ v t, cs = [v] ∧ HS W (fun _ => True) d v t ∧ t.Sz := by
  rcases h with rfl | ⟨a, len, cap, rfl, h1, h2, h3, h4⟩
  · exact ⟨_, .nil, rfl, HS.nil _ _ _, trivial⟩
  · by_cases h0 : len = 0
    · subst h0
      exact ⟨_, .nil, rfl, .inr (.inl ⟨rfl, a, cap, rfl, h2⟩), trivial⟩
    · have hs := (h4 0 (by omega)).1
      obtain ⟨t, ht, hr, hz⟩ := hrow a.block len a.off (fun i hi => (h4 i hi).2)
      refine ⟨_, t, rfl, .inr (.inr ⟨a.block, a.off, cap, ?_, by omega, ⟨h2, by omega⟩, hr⟩), hz⟩
      rw [ht]
      cases a with | mk b o s => (cases hs; rfl)
theorem part_bulk {xs : List (DataW H × List MemPlace)} (hw : Rows.uptoBulk (DataW.agg (xs.map (·.1))) ≤ 1048576) {j : Nat} {x : DataW H × List MemPlace} (hx : xs[j]? = some x) : Rows.uptoBulk x.1 ≤ 1048576 := by
  have h1 := Bulk.part_le (List.mem_map_of_mem (f := fun z : DataW H × List MemPlace => z.1) (List.mem_of_getElem? hx))
  simp only [Rows.uptoBulk] at hw
  omega
theorem value_openU : ∀ (fuel : Nat), (∀ (cs : List Value) (x : DataW H × List MemPlace), DataW.trod enc Tryd.prog W 0 spare true fuel 25 cs = some x → Rows.uptoBulk x.1 ≤ 1048576 → IsVU W cs) ∧
    (∀ (cs : List Value) (x : DataW H × List MemPlace), DataW.trod enc Tryd.prog W 0 spare true fuel 43 cs = some x → Rows.uptoBulk x.1 ≤ 1048576 → IsFU W cs) := by
  intro fuel
  induction fuel using Nat.strongRecOn with
  | ind fuel ih =>
    constructor
    · intro cs x h hw
      obtain ⟨xs, n, rfl, rfl, hl, hxl, hp⟩ := DataW.trod_struct Tryd.underlying25 h
      rw [cellsValue] at hl
      obtain ⟨c0, c1, c2, c3, rfl⟩ := four hl
      have hxl : xs.length = 4 := hxl
      obtain ⟨x0, hx0⟩ : ∃ y, xs[0]? = some y := ⟨_, List.getElem?_eq_getElem (by omega)⟩
      obtain ⟨x1, hx1⟩ : ∃ y, xs[1]? = some y := ⟨_, List.getElem?_eq_getElem (by omega)⟩
      obtain ⟨x2, hx2⟩ : ∃ y, xs[2]? = some y := ⟨_, List.getElem?_eq_getElem (by omega)⟩
      obtain ⟨x3, hx3⟩ : ∃ y, xs[3]? = some y := ⟨_, List.getElem?_eq_getElem (by omega)⟩
      have h0 := hp 0 _ rfl
      have h1 := hp 1 _ rfl
      have h2 := hp 2 _ rfl
      have h3 := hp 3 _ rfl
      have w1 := part_bulk hw (j := 1) hx1
      have w2 := part_bulk hw (j := 2) hx2
      have w3 := part_bulk hw (j := 3) hx3
      rw [hx0] at h0
      rw [hx1] at h1
      rw [hx2] at h2
      rw [hx3] at h3

      change DataW.trod enc Tryd.prog W 0 spare true n 5 (List.take (Tryd.prog.cellsOf 5) (List.drop 0 [c0, c1, c2, c3])) = some x0 at h0
      change DataW.trod enc Tryd.prog W 0 spare true n 9 (List.take (Tryd.prog.cellsOf 9) (List.drop 1 [c0, c1, c2, c3])) = some x1 at h1
      change DataW.trod enc Tryd.prog W 0 spare true n 22 (List.take (Tryd.prog.cellsOf 22) (List.drop 2 [c0, c1, c2, c3])) = some x2 at h2
      change DataW.trod enc Tryd.prog W 0 spare true n 23 (List.take (Tryd.prog.cellsOf 23) (List.drop 3 [c0, c1, c2, c3])) = some x3 at h3
      rw [cells_u8] at h0
      rw [cells_string] at h1
      rw [cells_values] at h2
      rw [cells_fields] at h3
      obtain ⟨z, e0, _, hz⟩ := DataW.trod_int Tryd.underlying5 h0
      obtain ⟨s, e1, rfl, _⟩ := DataW.trod_string Tryd.underlying9 h1
      have hs : s.size ≤ 1048576 := by
        have := Bulk.string_le w1
        rw [Array.length_toList] at this
        exact this
      obtain ⟨v, l, e2, hv, hvz⟩ := hs_ofU (d := 0) (fun b n o => isV_rowU b n o) (slice_openU Tryd.underlying22 cellsValue (by decide) h2 w2 (fun m hm cs' y hy => (ih m (by omega)).1 cs' y hy))
      obtain ⟨u, f, e3, hu, huz⟩ := hs_ofU (d := 1) (fun b n o => isF_rowU b n o) (slice_openU Tryd.underlying23 cellsField (by decide) h3 w3 (fun m hm cs' y hy => (ih m (by omega)).2 cs' y hy))
      simp at e0 e1 e2 e3
      subst e0 e1 e2 e3
      have hz2 : 0 ≤ z ∧ z < 256 := by
        simp only [Lit.wf, IntKind.min, IntKind.max, Bool.and_eq_true] at hz
        have a1 : (0 : Int) ≤ z := of_decide_eq_true hz.1
        have a2 : z ≤ 255 := of_decide_eq_true hz.2
        omega
      obtain ⟨k, rfl⟩ := Int.eq_ofNat_of_zero_le hz2.1
      exact ⟨k, s, c2, c3, l, f, rfl, by omega, by omega, ⟨hv, hvz⟩, ⟨hu, huz⟩⟩
    · intro cs x h hw
      obtain ⟨xs, n, rfl, rfl, hl, hxl, hp⟩ := DataW.trod_struct Tryd.underlying43 h
      rw [cellsField] at hl
      obtain ⟨c0, c1, c2, c3, c4, rfl⟩ := five hl
      have hxl : xs.length = 2 := hxl
      obtain ⟨x0, hx0⟩ : ∃ y, xs[0]? = some y := ⟨_, List.getElem?_eq_getElem (by omega)⟩
      obtain ⟨x1, hx1⟩ : ∃ y, xs[1]? = some y := ⟨_, List.getElem?_eq_getElem (by omega)⟩
      have h0 := hp 0 _ rfl
      have h1 := hp 1 _ rfl
      have w0 := part_bulk hw (j := 0) hx0
      have w1 := part_bulk hw (j := 1) hx1
      rw [hx0] at h0
      rw [hx1] at h1

      change DataW.trod enc Tryd.prog W 0 spare true n 9 (List.take (Tryd.prog.cellsOf 9) (List.drop 0 [c0, c1, c2, c3, c4])) = some x0 at h0
      change DataW.trod enc Tryd.prog W 0 spare true n 25 (List.take (Tryd.prog.cellsOf 25) (List.drop 1 [c0, c1, c2, c3, c4])) = some x1 at h1
      rw [cells_string] at h0
      rw [cellsValue] at h1
      obtain ⟨s, e0, rfl, _⟩ := DataW.trod_string Tryd.underlying9 h0
      have hs : s.size ≤ 1048576 := by
        have := Bulk.string_le w0
        rw [Array.length_toList] at this
        exact this
      obtain ⟨k, t, v, u, l, f, e1, hk, ht, hv, hu⟩ := (ih n (by omega)).1 _ _ h1 w1
      simp at e0 e1
      obtain ⟨rfl, rfl, rfl, rfl⟩ := e1
      subst e0
      exact ⟨s, k, t, c3, c4, l, f, rfl, ⟨hk, ht, by omega⟩, hv, hu⟩
end
end Go.Proofs.YtdgmbmoaeoakpaaDoor
