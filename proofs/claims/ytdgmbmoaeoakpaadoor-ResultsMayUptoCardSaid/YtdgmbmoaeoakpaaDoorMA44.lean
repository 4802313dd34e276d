/- Arguments that are slices of numbers, of splices, of folds, of chains are opened, of at most so much bulk: how they lie in memory. Conditions: none. -/
import Derived.Test.YtdgmbmoaeoakpaaDoorMA43
import Derived.Test.YtdgmbmoaeoakpaaDoorMA38
import Derived.Carry
import Derived.Lib.SmallJoins
import Derived.Test.YtdgmbmoaeoakpaaDoorMA03
import Derived.Test.YtdgmbmoaeoakpaaDoorMA31
namespace Go.Proofs.YtdgmbmoaeoakpaaDoor
open Go Go.ChangeShapes Go.WideShapes Go.ChangeAt Go.RowKit

section
variable {H : Type} {enc : TypeId × Value → H} {W : World} {base : Nat} {spare : Nat → Bool}
theorem rows_of {α : Type} {Is : List Value → Prop} (f : α → List Value) (Q : α → Prop) (his : ∀ cs, Is cs → ∃ x, cs = f x ∧ Q x) (b sz : Nat) : ∀ (n o : Nat), (∀ i, i < n → ∃ cs', W.cells? 0 ⟨b, o + i * sz, none⟩ sz = some cs' ∧ Is cs') →
    ∃ l : List α, l.length = n ∧ (∀ j x, l[j]? = some x → ∀ k u, (f x)[k]? = some u → W.cell? ⟨b, o + j * sz + k, none⟩ = some u) ∧ ∀ x ∈ l, Q x
  | 0, _, _ => ⟨[], rfl, fun j x h => by simp at h, fun x h => by simp at h⟩
  | n + 1, o, h => by
    obtain ⟨l, hl, hr, hq⟩ := rows_of f Q his b sz n (o + sz) (fun i hi => by
      have := h (i + 1) (by omega)
      rwa [show o + (i + 1) * sz = o + sz + i * sz by rw [Nat.succ_mul]; omega] at this)
    obtain ⟨cs, hc, hi⟩ := h 0 (by omega)
    obtain ⟨x, rfl, hx⟩ := his cs hi
    obtain ⟨_, hlen, hcell⟩ := World.cells?_some hc
    rw [Nat.zero_mul, Nat.add_zero] at hcell
    refine ⟨x :: l, congrArg (· + 1) hl, fun j y hj k u hu => ?_, fun y hy => ?_⟩
    · match j, hj with
      | 0, hj =>
        cases hj
        have hk := (List.getElem?_eq_some_iff.1 hu).1
        have h1 := hcell k (by omega)
        have ea : (⟨b, o, none⟩ : Addr).add k = ⟨b, o + k, none⟩ := by unfold Addr.add; split <;> simp_all
        rw [ea, hu] at h1
        rw [Nat.zero_mul, Nat.add_zero]
        exact h1
      | j + 1, hj =>
        have := hr j y hj k u hu
        rw [show o + (j + 1) * sz + k = o + sz + j * sz + k by rw [Nat.succ_mul]; omega]
        exact this
    · rcases List.mem_cons.1 hy with rfl | hy
      · exact hx
      · exact hq y hy
/-- a slice reads as these -/
def Src (W : World) {α : Type} (f : α → List Value) (sz : Nat) (Q : α → Prop) (v : Value) (l : List α) : Prop := (l = [] ∧ ∃ p c, v = .slice p 0 c ∧ c ≤ 9223372036854775807) ∨ ∃ b o c, v = .slice (some ⟨b, o, none⟩) l.length c ∧ l.length ≤ c ∧ c ≤ 9223372036854775807 ∧ b < W.heap.size ∧ (∀ j x, l[j]? = some x → ∀ k u, (f x)[k]? = some u → W.cell? ⟨b, o + j * sz + k, none⟩ = some u) ∧ ∀ x ∈ l, Q x
theorem src_of {α : Type} {e : TypeId} {sz : Nat} {fuel : Nat} {t : TypeId} {cs : List Value} {x : DataW H × List MemPlace} {Is : List Value → Prop} (f : α → List Value) (Q : α → Prop) (hf : ∀ x, (f x).length = sz) (his : ∀ cs, Is cs → ∃ x, cs = f x ∧ Q x) (ht : Tryd.prog.underlying t = some (.slice e)) (hz : Tryd.prog.cellsOf e = sz) (hsz : 0 < sz)
    (h : DataW.trod enc Tryd.prog W 0 spare true fuel t cs = some x) (hw : Rows.uptoBulk x.1 ≤ 1048576)
    (ih : ∀ n, n < fuel → ∀ cs' y, DataW.trod enc Tryd.prog W 0 spare true n e cs' = some y → Rows.uptoBulk y.1 ≤ 1048576 → Is cs') : ∃ v l, cs = [v] ∧ l.length ≤ 1048576 ∧ Src W f sz Q v l := by
  have hlen : ∀ (a : Option Addr) (n c : Nat), cs = [.slice a n c] → n ≤ 1048576 := fun a n c e1 => by
    rcases DataW.trod_slice ht h with ⟨h0, _⟩ | ⟨a', len, cap, elems, rest, m, hm, e2, rfl, _, hl, _, hle, _, _, _⟩
    · rw [h0] at e1
      cases e1
      exact Nat.zero_le _
    · rw [e2] at e1
      cases e1
      have h1 := Bulk.length_le (elems.map fun z : DataW H × List MemPlace => z.1)
      rw [List.length_map] at h1
      simp only [Rows.uptoBulk] at hw
      omega
  rcases slice_openU ht hz hsz h hw ih with rfl | ⟨a, len, cap, rfl, h1, h2, h3, h4⟩
  · exact ⟨_, [], rfl, Nat.zero_le _, .inl ⟨rfl, none, 0, rfl, Nat.zero_le _⟩⟩
  · have hl2 := hlen _ _ _ rfl
    by_cases h0 : len = 0
    · subst h0
      exact ⟨_, [], rfl, Nat.zero_le _, .inl ⟨rfl, some a, cap, rfl, h2⟩⟩
    · obtain ⟨hs, cs0, hc0, hi0⟩ := h4 0 (by omega)
      obtain ⟨l, hl, hr, hq⟩ := rows_of f Q his a.block sz len a.off (fun i hi => (h4 i hi).2)
      obtain ⟨x0, rfl, -⟩ := his cs0 hi0
      obtain ⟨_, hlen0, hcell⟩ := World.cells?_some hc0
      have hlt : a.block < W.heap.size := by
        obtain ⟨u, hu⟩ : ∃ u, (f x0)[0]? = some u := ⟨_, List.getElem?_eq_getElem (by rw [hf]; exact hsz)⟩
        have h5 := hcell 0 hsz
        rw [hu] at h5
        have h6 : ((⟨a.block, a.off + 0 * sz, none⟩ : Addr).add 0).block < W.heap.size := World.block_lt_of_cell? W _ h5
        have e6 : ((⟨a.block, a.off + 0 * sz, none⟩ : Addr).add 0).block = a.block := by unfold Addr.add; split <;> rfl
        rw [e6] at h6
        exact h6
      refine ⟨_, l, rfl, by omega, .inr ⟨a.block, a.off, cap, ?_, by omega, h2, hlt, hr, hq⟩⟩
      rw [hl]
      cases a with | mk b o s => (cases hs; rfl)
theorem cells_int : Tryd.prog.cellsOf 3 = 1 := by kernel_rfl
theorem cells_bool : Tryd.prog.cellsOf 4 = 1 := by kernel_rfl
theorem cells_ints : Tryd.prog.cellsOf 47 = 1 := by kernel_rfl
theorem cells_pos : Tryd.prog.cellsOf 72 = 2 := by kernel_rfl
theorem cells_range : Tryd.prog.cellsOf 74 = 4 := by kernel_rfl
theorem cells_ranges : Tryd.prog.cellsOf 58 = 1 := by kernel_rfl
theorem cells_splice : Tryd.prog.cellsOf 81 = 3 := by kernel_rfl
theorem cells_fold : Tryd.prog.cellsOf 89 = 3 := by kernel_rfl
theorem int_is {fuel : Nat} {cs : List Value} {x : DataW H × List MemPlace} (h : DataW.trod enc Tryd.prog W 0 spare true fuel 3 cs = some x) : ∃ n : Int, cs = [.int .i64 n] ∧ I64 n := by
  obtain ⟨k, rfl, _, hwf⟩ := DataW.trod_int Tryd.underlying3 h
  exact ⟨k, rfl, bounds_i64 hwf⟩
theorem ints_is {fuel : Nat} {cs : List Value} {x : DataW H × List MemPlace} (h : DataW.trod enc Tryd.prog W 0 spare true fuel 47 cs = some x) (hw : Rows.uptoBulk x.1 ≤ 1048576) : ∃ p n c li, cs = [.slice p n c] ∧ SrcI W (.slice p n c) li ∧ li.length ≤ 1048576 := by
  obtain ⟨v, l, rfl, hl, hs⟩ := src_of (Is := fun cs => ∃ n : Int, cs = [.int .i64 n] ∧ I64 n) (fun n : Int => [Value.int .i64 n]) I64 (fun _ => rfl) (fun _ h => h) Tryd.underlying47 cells_int (by decide) h hw (fun n _ cs' y hy _ => int_is hy)
  rcases hs with ⟨rfl, p, c, rfl, hc⟩ | ⟨b, o, c, rfl, h1, h2, h3, h4, h5⟩
  · exact ⟨_, _, _, [], rfl, .inl ⟨rfl, _, _, rfl, hc⟩, Nat.zero_le _⟩
  · refine ⟨_, _, _, l, rfl, .inr ⟨b, o, c, rfl, h1, h2, h3, fun j n hj => ?_, fun n hn => h5 n hn⟩, hl⟩
    have := h4 j n hj 0 _ rfl
    rwa [Nat.mul_one, Nat.add_zero] at this
/-- as a splice, a chain that is opened, of whatever length -/
def SpO (w : World) (e : Sp) : Prop := I64 e.st ∧ I64 e.de ∧ SrcI w (.slice e.p e.n e.c) e.li ∧ e.li.length ≤ 1048576
def ChO (w : World) (e : Ch) : Prop := SrcR w (.slice e.p e.n e.c) e.l ∧ e.l.length ≤ 1048576
def ArgSp (w : World) (v : Value) (l : List Sp) : Prop := Src w (fun e : Sp => [Value.int .i64 e.st, .int .i64 e.de, .slice e.p e.n e.c]) 3 (SpO w) v l ∧ l.length ≤ 1048576
def ArgFo (w : World) (v : Value) (l : List Fo) : Prop := Src w (fun e : Fo => [Value.int .i64 e.a, .int .i64 e.b, .bool e.cm]) 3 (FoOk w) v l ∧ l.length ≤ 1048576
def ArgCh (w : World) (v : Value) (l : List Ch) : Prop := Src w (fun e : Ch => [Value.slice e.p e.n e.c]) 1 (ChO w) v l ∧ l.length ≤ 1048576
theorem three' {α : Type} {l : List α} (h : l.length = 3) : ∃ a b c, l = [a, b, c] := by
  match l, h with
  | [a, b, c], _ => exact ⟨a, b, c, rfl⟩
theorem four' {α : Type} {l : List α} (h : l.length = 4) : ∃ a b c d, l = [a, b, c, d] := by
  match l, h with
  | [a, b, c, d], _ => exact ⟨a, b, c, d, rfl⟩
theorem two' {α : Type} {l : List α} (h : l.length = 2) : ∃ a b, l = [a, b] := by
  match l, h with
  | [a, b], _ => exact ⟨a, b, rfl⟩
theorem splice_is {fuel : Nat} {cs : List Value} {x : DataW H × List MemPlace} (h : DataW.trod enc Tryd.prog W 0 spare true fuel 81 cs = some x) (hw : Rows.uptoBulk x.1 ≤ 1048576) : ∃ e : Sp, cs = [.int .i64 e.st, .int .i64 e.de, .slice e.p e.n e.c] ∧ SpO W e := by
  obtain ⟨xs, n, rfl, rfl, hl, hxl, hp⟩ := DataW.trod_struct Tryd.underlying81 h
  rw [cells_splice] at hl
  obtain ⟨c0, c1, c2, rfl⟩ := three' hl
  have hxl : xs.length = 3 := hxl
  obtain ⟨x0, x1, x2, rfl⟩ := three' hxl
  have h0 := hp 0 _ rfl
  have h1 := hp 1 _ rfl
  have h2 := hp 2 _ rfl
  have w2 := part_bulk hw (j := 2) (x := x2) rfl
  change DataW.trod enc Tryd.prog W 0 spare true n 3 (List.take (Tryd.prog.cellsOf 3) (List.drop 0 [c0, c1, c2])) = some x0 at h0
  change DataW.trod enc Tryd.prog W 0 spare true n 3 (List.take (Tryd.prog.cellsOf 3) (List.drop 1 [c0, c1, c2])) = some x1 at h1
  change DataW.trod enc Tryd.prog W 0 spare true n 47 (List.take (Tryd.prog.cellsOf 47) (List.drop 2 [c0, c1, c2])) = some x2 at h2
  rw [cells_int] at h0 h1
  rw [cells_ints] at h2
  obtain ⟨a, e0, ha⟩ := int_is h0
  obtain ⟨b, e1, hb⟩ := int_is h1
  obtain ⟨p, m, c, li, e2, hs, hn⟩ := ints_is h2 w2
  simp at e0 e1 e2
  subst e0 e1 e2
  exact ⟨⟨a, b, p, m, c, li⟩, rfl, ha, hb, hs, hn⟩
theorem fold_is {fuel : Nat} {cs : List Value} {x : DataW H × List MemPlace} (h : DataW.trod enc Tryd.prog W 0 spare true fuel 89 cs = some x) : ∃ e : Fo, cs = [.int .i64 e.a, .int .i64 e.b, .bool e.cm] ∧ FoOk W e := by
  obtain ⟨xs, n, rfl, rfl, hl, hxl, hp⟩ := DataW.trod_struct Tryd.underlying89 h
  rw [cells_fold] at hl
  obtain ⟨c0, c1, c2, rfl⟩ := three' hl
  have hxl : xs.length = 3 := hxl
  obtain ⟨x0, x1, x2, rfl⟩ := three' hxl
  have h0 := hp 0 _ rfl
  have h1 := hp 1 _ rfl
  have h2 := hp 2 _ rfl
  change DataW.trod enc Tryd.prog W 0 spare true n 3 (List.take (Tryd.prog.cellsOf 3) (List.drop 0 [c0, c1, c2])) = some x0 at h0
  change DataW.trod enc Tryd.prog W 0 spare true n 3 (List.take (Tryd.prog.cellsOf 3) (List.drop 1 [c0, c1, c2])) = some x1 at h1
  change DataW.trod enc Tryd.prog W 0 spare true n 4 (List.take (Tryd.prog.cellsOf 4) (List.drop 2 [c0, c1, c2])) = some x2 at h2
  rw [cells_int] at h0 h1
  rw [cells_bool] at h2
  obtain ⟨a, e0, ha⟩ := int_is h0
  obtain ⟨b, e1, hb⟩ := int_is h1
  obtain ⟨c, e2, _⟩ := DataW.trod_bool Tryd.underlying4 h2
  simp at e0 e1 e2
  subst e0 e1 e2
  exact ⟨⟨a, b, c⟩, rfl, ha, hb⟩
theorem pos_is {fuel : Nat} {cs : List Value} {x : DataW H × List MemPlace} (h : DataW.trod enc Tryd.prog W 0 spare true fuel 72 cs = some x) : ∃ a b : Int, cs = [.int .i64 a, .int .i64 b] ∧ I64 a ∧ I64 b := by
  obtain ⟨xs, n, rfl, rfl, hl, hxl, hp⟩ := DataW.trod_struct Tryd.underlying72 h
  rw [cells_pos] at hl
  obtain ⟨c0, c1, rfl⟩ := two' hl
  have hxl : xs.length = 2 := hxl
  obtain ⟨x0, x1, rfl⟩ := two' hxl
  have h0 := hp 0 _ rfl
  have h1 := hp 1 _ rfl
  change DataW.trod enc Tryd.prog W 0 spare true n 3 (List.take (Tryd.prog.cellsOf 3) (List.drop 0 [c0, c1])) = some x0 at h0
  change DataW.trod enc Tryd.prog W 0 spare true n 3 (List.take (Tryd.prog.cellsOf 3) (List.drop 1 [c0, c1])) = some x1 at h1
  rw [cells_int] at h0 h1
  obtain ⟨a, e0, ha⟩ := int_is h0
  obtain ⟨b, e1, hb⟩ := int_is h1
  simp at e0 e1
  subst e0 e1
  exact ⟨a, b, rfl, ha, hb⟩
theorem range_is {fuel : Nat} {cs : List Value} {x : DataW H × List MemPlace} (h : DataW.trod enc Tryd.prog W 0 spare true fuel 74 cs = some x) : ∃ e : Rg, cs = [.int .i64 e.a, .int .i64 e.b, .int .i64 e.c, .int .i64 e.d] ∧ e.Ok := by
  obtain ⟨xs, n, rfl, rfl, hl, hxl, hp⟩ := DataW.trod_struct Tryd.underlying74 h
  rw [cells_range] at hl
  obtain ⟨c0, c1, c2, c3, rfl⟩ := four' hl
  have hxl : xs.length = 2 := hxl
  obtain ⟨x0, x1, rfl⟩ := two' hxl
  have h0 := hp 0 _ rfl
  have h1 := hp 1 _ rfl
  change DataW.trod enc Tryd.prog W 0 spare true n 72 (List.take (Tryd.prog.cellsOf 72) (List.drop 0 [c0, c1, c2, c3])) = some x0 at h0
  change DataW.trod enc Tryd.prog W 0 spare true n 72 (List.take (Tryd.prog.cellsOf 72) (List.drop 2 [c0, c1, c2, c3])) = some x1 at h1
  rw [cells_pos] at h0 h1
  obtain ⟨a, b, e0, ha, hb⟩ := pos_is h0
  obtain ⟨c, d, e1, hc, hd⟩ := pos_is h1
  simp at e0 e1
  obtain ⟨rfl, rfl⟩ := e0
  obtain ⟨rfl, rfl⟩ := e1
  exact ⟨⟨a, b, c, d⟩, rfl, ha, hb, hc, hd⟩
theorem chain_is {fuel : Nat} {cs : List Value} {x : DataW H × List MemPlace} (h : DataW.trod enc Tryd.prog W 0 spare true fuel 58 cs = some x) (hw : Rows.uptoBulk x.1 ≤ 1048576) : ∃ e : Ch, cs = [.slice e.p e.n e.c] ∧ ChO W e := by
  obtain ⟨v, l, rfl, hl, hs⟩ := src_of (Is := fun cs => ∃ e : Rg, cs = [.int .i64 e.a, .int .i64 e.b, .int .i64 e.c, .int .i64 e.d] ∧ e.Ok) (fun e : Rg => [Value.int .i64 e.a, .int .i64 e.b, .int .i64 e.c, .int .i64 e.d]) Rg.Ok (fun _ => rfl) (fun _ h => h) Tryd.underlying58 cells_range (by decide) h hw (fun n _ cs' y hy _ => range_is hy)
  rcases hs with ⟨rfl, p, c, rfl, hc⟩ | ⟨b, o, c, rfl, h1, h2, h3, h4, h5⟩
  · exact ⟨⟨_, _, _, []⟩, rfl, .inl ⟨rfl, _, _, rfl, hc⟩, Nat.zero_le _⟩
  · exact ⟨⟨_, _, _, l⟩, rfl, .inr ⟨b, o, c, rfl, h1, h2, h3, fun j e hj => ⟨h4 j e hj 0 _ rfl, h4 j e hj 1 _ rfl, h4 j e hj 2 _ rfl, h4 j e hj 3 _ rfl⟩, h5⟩, hl⟩
variable {v : Value} {d : DataW H} {p : List MemPlace}
theorem one_of {v u : Value} {n m c : Nat} {q : Option Addr} (h : v.cells.toList = [u]) (e : v = .slice q m c) : u = .slice q m c := by
  subst e
  simp [Value.cells] at h
  exact h.symm
set_option maxRecDepth 100000 in
theorem openIntsU (hval : Value.okWide Tryd.prog W .any base 47 v) (h : DataW.Trod enc Tryd.prog W 0 (fun _ => true) true 47 v d p) (hw : Rows.uptoBulk d ≤ 1048576) : ∃ li, SrcI W v li ∧ li.length ≤ 1048576 := by
  obtain ⟨z, len, cap, rfl⟩ := okWide_slice Tryd.underlying47 hval
  obtain ⟨fuel, hf⟩ := h
  obtain ⟨q, n, c, li, e, hs, hl⟩ := ints_is hf hw
  simp [Value.cells] at e
  obtain ⟨rfl, rfl, rfl⟩ := e
  exact ⟨li, hs, hl⟩
set_option maxRecDepth 100000 in
theorem openSpU (hval : Value.okWide Tryd.prog W .any base 48 v) (h : DataW.Trod enc Tryd.prog W 0 (fun _ => true) true 48 v d p) (hw : Rows.uptoBulk d ≤ 1048576) : ∃ l, ArgSp W v l := by
  obtain ⟨z, len, cap, rfl⟩ := okWide_slice Tryd.underlying48 hval
  obtain ⟨fuel, hf⟩ := h
  obtain ⟨u, l, e, hl, hs⟩ := src_of (fun e : Sp => [Value.int .i64 e.st, .int .i64 e.de, .slice e.p e.n e.c]) (SpO W) (fun _ => rfl) (fun _ h => h) Tryd.underlying48 cells_splice (by decide) hf hw (fun n _ cs' y hy hb => splice_is hy hb)
  simp [Value.cells] at e
  subst e
  exact ⟨l, hs, hl⟩
set_option maxRecDepth 100000 in
theorem openFoU (hval : Value.okWide Tryd.prog W .any base 49 v) (h : DataW.Trod enc Tryd.prog W 0 (fun _ => true) true 49 v d p) (hw : Rows.uptoBulk d ≤ 1048576) : ∃ l, ArgFo W v l := by
  obtain ⟨z, len, cap, rfl⟩ := okWide_slice Tryd.underlying49 hval
  obtain ⟨fuel, hf⟩ := h
  obtain ⟨u, l, e, hl, hs⟩ := src_of (fun e : Fo => [Value.int .i64 e.a, .int .i64 e.b, .bool e.cm]) (FoOk W) (fun _ => rfl) (fun _ h => h) Tryd.underlying49 cells_fold (by decide) hf hw (fun n _ cs' y hy _ => fold_is hy)
  simp [Value.cells] at e
  subst e
  exact ⟨l, hs, hl⟩
set_option maxRecDepth 100000 in
theorem openChU (hval : Value.okWide Tryd.prog W .any base 50 v) (h : DataW.Trod enc Tryd.prog W 0 (fun _ => true) true 50 v d p) (hw : Rows.uptoBulk d ≤ 1048576) : ∃ l, ArgCh W v l := by
  obtain ⟨z, len, cap, rfl⟩ := okWide_slice Tryd.underlying50 hval
  obtain ⟨fuel, hf⟩ := h
  obtain ⟨u, l, e, hl, hs⟩ := src_of (fun e : Ch => [Value.slice e.p e.n e.c]) (ChO W) (fun _ => rfl) (fun _ h => h) Tryd.underlying50 cells_ranges (by decide) hf hw (fun n _ cs' y hy hb => chain_is hy hb)
  simp [Value.cells] at e
  subst e
  exact ⟨l, hs, hl⟩
end
end Go.Proofs.YtdgmbmoaeoakpaaDoor

namespace Go.Proofs.YtdgmbmoaeoakpaaDoor
open Go Go.RowKit Go.Lib

/-- what is known where there is not too much -/
def Few (n0 n1 n2 n3 : Nat) (L1 L2 : Nat → Nat) : Prop := n0 + n1 + n2 + n3 ≤ 5000 ∧ n1 + n3 ≤ 900 ∧ (∀ j, j < n1 → L1 j ≤ 5000) ∧ ∀ j, j < n3 → L2 j ≤ 300
def GrIs (n0 n1 n2 n3 : Nat) (L1 L2 : Nat → Nat) (w : World) (e : Ending) (w' : World) : Prop := ∃ ok : Bool, e = .returned (.bool ok) ∧ w' = w ∧ (ok = false → Few n0 n1 n2 n3 L1 L2)
/-- so far -/
structure GrA (S : Int) (L : Nat → Nat) (i : Nat) (s : Int) : Prop where
  lo : S ≤ s
  hi : s ≤ S + 1048576 * (i : Int)
  all : ∀ j, j < i → ((L j : Nat) : Int) ≤ s
theorem GrA.step {S : Int} {L : Nat → Nat} {i : Nat} {s : Int} (h : GrA S L i s) (hS : 0 ≤ S) (hL : L i ≤ 1048576) : GrA S L (i + 1) (s + (L i : Int)) := by
  have h1 := h.lo
  have h2 := h.hi
  refine ⟨by omega, by have : ((i + 1 : Nat) : Int) = (i : Int) + 1 := by omega
                       rw [this]; omega, fun j hj => ?_⟩
  by_cases e : j = i
  · subst e; omega
  · have := h.all j (by omega); omega
structure GrB (S : Int) (L : Nat → Nat) (i : Nat) (s : Int) : Prop where
  lo : S ≤ s
  hi : s ≤ S + 300 * (i : Int)
  all : ∀ j, j < i → L j ≤ 300
theorem GrB.step {S : Int} {L : Nat → Nat} {i : Nat} {s : Int} (h : GrB S L i s) (hL : L i ≤ 300) : GrB S L (i + 1) (s + (L i : Int)) := by
  have h1 := h.lo
  have h2 := h.hi
  refine ⟨by omega, by have : ((i + 1 : Nat) : Int) = (i : Int) + 1 := by omega
                       rw [this]; omega, fun j hj => ?_⟩
  by_cases e : j = i
  · subst e; exact hL
  · exact h.all j (by omega)
def SameB (w w' : World) : Prop := w = w'
set_option maxRecDepth 100000 in
set_option maxHeartbeats 4000000 in
theorem great8_any (p0 p1 p2 p3 : Option Addr) (n0 n1 n2 n3 c0 c1 c2 c3 : Nat) (L1 L2 : Nat → Nat) (w : World) (h0 : n0 ≤ 1048576) (h1 : n1 ≤ 1048576) (h2 : n2 ≤ 1048576) (h3 : n3 ≤ 1048576)
    (hE1 : ∀ i, i < n1 → ∃ b o q c, p1 = some ⟨b, o, none⟩ ∧ w.cell? ⟨b, o + i * 3 + 2, none⟩ = some (.slice q (L1 i) c) ∧ L1 i ≤ 1048576)
    (hE2 : ∀ i, i < n3 → ∃ b o q c, p3 = some ⟨b, o, none⟩ ∧ w.cell? ⟨b, o + i, none⟩ = some (.slice q (L2 i) c) ∧ L2 i ≤ 1048576) :
    Calls Tryd.prog 23 #[.slice p0 n0 c0, .slice p1 n1 c1, .slice p2 n2 c2, .slice p3 n3 c3] w (GrIs n0 n1 n2 n3 L1 L2 w) := by
  have HE1 := Lib.hid hE1
  have HE2 := Lib.hid hE2
  have HZ := Lib.hid (And.intro h0 (And.intro h1 (And.intro h2 h3)))
  clear hE1 hE2
  go_enter Tryd.func23, Tryd.ntmps23
  go_wp2_with fail
  go_loopw [9, 10] (fun p q wr => ∃ (i : Nat) (s : Int), p = .int .i64 s ∧ q = .int .i64 (i : Int) ∧ i ≤ n1 ∧ i ≤ 1000 ∧ SameB w wr ∧ Hid (GrA ((n0 : Int) + (n2 : Int) + (n1 : Int) + (n3 : Int)) L1 i s)) (fun _ q _ => n1 - (RowKit.intOf q).toNat)
  case atStart => exact ⟨0, _, rfl, rfl, Nat.zero_le _, Nat.zero_le _, rfl, Lib.hid ⟨Int.le_refl _, by omega, fun j hj => (by cases hj)⟩⟩
  case round =>
    obtain ⟨i, s, rfl, rfl, hi, hi2, hw, HR⟩ := hrel
    obtain rfl : w = wr := hw
    have q1 := HR.out.lo
    have q2 := HR.out.hi
    by_cases hlt : i < n1 ∧ i < 1000
    · obtain ⟨hlt, hlk⟩ := hlt
      obtain ⟨b, o, q, c, rfl, hc, hL⟩ := HE1.out i hlt
      have HN := Lib.hid (HR.out.step (by omega) hL)
      have HL := Lib.hid (And.intro hlt hlk)
      have i1 : (0 : Int) ≤ (i : Int) := Int.natCast_nonneg i
      have i2 : (i : Int) < (n1 : Int) := by omega
      have i3 : (i : Int) < 1000 := by omega
      have s1 : s + (L1 i : Int) ≤ 1100000000 := by omega
      have s2 : 0 ≤ s := by omega
      generalize L1 i = m at *
      clear hlt hlk q1 q2 hi hi2
      go_wp2_with fail
      go_roundw
      case rel => exact ⟨i + 1, _, rfl, by go_num, by have := HL.out; omega, by have := HL.out; omega, rfl, HN⟩
      case measure => have := HL.out; simp [RowKit.intOf]; omega
    · have HX := Lib.hid (show ((n0 : Int) + (n2 : Int) + (n1 : Int) + (n3 : Int) ≤ s ∧ s ≤ 1100000000) ∧ (n1 ≤ 900 → ∀ j, j < n1 → ((L1 j : Nat) : Int) ≤ s) from ⟨⟨q1, by omega⟩, fun h j hj => HR.out.all j (by omega)⟩)
      have hex : (¬ (i : Int) < (n1 : Int)) ∨ ((i : Int) < (n1 : Int) ∧ ¬ (i : Int) < 1000) := by omega
      clear HR q1 q2 hi hi2 hlt
      rcases hex with ha | ⟨ha, hb⟩
      all_goals
        go_wp2_with fail
        go_loopw [9, 11] (fun p q wr => ∃ (i : Nat) (u : Int), p = .int .i64 u ∧ q = .int .i64 (i : Int) ∧ i ≤ n3 ∧ i ≤ 1000 ∧ SameB w wr ∧ Hid (GrB s L2 i u)) (fun _ q _ => n3 - (RowKit.intOf q).toNat)
        case atStart => exact ⟨0, _, rfl, rfl, Nat.zero_le _, Nat.zero_le _, rfl, Lib.hid ⟨Int.le_refl _, by omega, fun j hj => (by cases hj)⟩⟩
        case round =>
          obtain ⟨k, u, rfl, rfl, hk, hk2, hw, HR⟩ := hrel
          obtain rfl : w = wr := hw
          have q1 := HR.out.lo
          have q2 := HR.out.hi
          have q3 := HX.out.1
          by_cases hlt : k < n3 ∧ k < 1000
          · obtain ⟨hlt, hlk⟩ := hlt
            obtain ⟨b, o, q, c, rfl, hc, hL⟩ := HE2.out k hlt
            have HL := Lib.hid (And.intro hlt hlk)
            have i1 : (0 : Int) ≤ (k : Int) := Int.natCast_nonneg k
            have i2 : (k : Int) < (n3 : Int) := by omega
            have i3 : (k : Int) < 1000 := by omega
            by_cases h300 : L2 k ≤ 300
            · have HN := Lib.hid (HR.out.step h300)
              have s1 : u + (L2 k : Int) ≤ 1200000000 := by omega
              have s2 : 0 ≤ u := by omega
              generalize L2 k = m at *
              have s3 : (m : Int) ≤ 300 := by omega
              clear hlt hlk q1 q2 q3 hk hk2
              go_wp2_with fail
              go_roundw
              case rel => exact ⟨k + 1, _, rfl, by go_num, by have := HL.out; omega, by have := HL.out; omega, rfl, HN⟩
              case measure => have := HL.out; simp [RowKit.intOf]; omega
            · have s3 : ¬ ((L2 k : Nat) : Int) ≤ 300 := by omega
              have s4 : ((L2 k : Nat) : Int) > 300 := by omega
              generalize L2 k = m at *
              clear hlt hlk q1 q2 q3 hk hk2
              go_wp2_with fail
              go_ret
              exact ⟨true, rfl, rfl, fun h => by cases h⟩
          · have HY := Lib.hid (show s ≤ u ∧ (n3 ≤ 900 → ∀ j, j < n3 → L2 j ≤ 300) from ⟨q1, fun h j hj => HR.out.all j (by omega)⟩)
            have hex : (¬ (k : Int) < (n3 : Int)) ∨ ((k : Int) < (n3 : Int) ∧ ¬ (k : Int) < 1000) := by omega
            clear HR q1 q2 q3 hk hk2 hlt
            by_cases g1 : u > 5000
            · rcases hex with hc | ⟨hc, hd⟩
              all_goals
                go_wp2_with fail
                go_ret
                exact ⟨true, rfl, rfl, fun h => by cases h⟩
            · have HF := Lib.hid (show u ≤ 5000 by omega)
              by_cases g2 : (n1 : Int) + (n3 : Int) > 900
              · rcases hex with hc | ⟨hc, hd⟩
                all_goals
                  go_wp2_with fail
                  go_ret
                  exact ⟨true, rfl, rfl, fun h => by cases h⟩
              · have HG := Lib.hid (show n1 + n3 ≤ 900 by omega)
                rcases hex with hc | ⟨hc, hd⟩
                all_goals
                  go_wp2_with fail
                  go_ret
                  exact ⟨false, rfl, rfl, fun _ => ⟨by have := HF.out; have := HY.out.1; have := HX.out.1.1; omega, HG.out, fun j hj => by have := HF.out; have := HY.out.1; have := HX.out.2 (by have := HG.out; omega) j hj; omega, fun j hj => HY.out.2 (by have := HG.out; omega) j hj⟩⟩
end Go.Proofs.YtdgmbmoaeoakpaaDoor

namespace Go.Proofs.YtdgmbmoaeoakpaaDoor
open Go Go.RowKit Go.Lib

theorem srcI_sl {w : World} {v : Value} {li : List Int} (h : SrcI w v li) : ∃ p c, v = .slice p li.length c := by
  rcases h with ⟨rfl, p, c, rfl, _⟩ | ⟨b, o, c, rfl, _⟩
  · exact ⟨p, c, rfl⟩
  · exact ⟨_, c, rfl⟩
theorem srcI_n {w : World} {p : Option Addr} {n c : Nat} {li : List Int} (h : SrcI w (.slice p n c) li) : n = li.length := by
  obtain ⟨q, d, e⟩ := srcI_sl h
  cases e
  rfl
theorem srcI_all {w : World} {v : Value} {li : List Int} (h : SrcI w v li) : ∀ n ∈ li, I64 n := by
  rcases h with ⟨rfl, _⟩ | ⟨b, o, c, rfl, _, _, _, _, h⟩
  · exact fun n hn => by cases hn
  · exact fun n hn => h n hn
theorem srcR_n {w : World} {p : Option Addr} {n c : Nat} {l : List Rg} (h : SrcR w (.slice p n c) l) : n = l.length := by
  rcases h with ⟨rfl, p', c', e, _⟩ | ⟨b, o, c', e, _⟩
  · cases e; rfl
  · cases e; rfl
theorem srcR_all {w : World} {v : Value} {l : List Rg} (h : SrcR w v l) : ∀ r ∈ l, r.Ok := by
  rcases h with ⟨rfl, _⟩ | ⟨b, o, c, rfl, _, _, _, _, h⟩
  · exact fun n hn => by cases hn
  · exact h
section
variable {w : World} {α : Type} {f : α → List Value} {sz : Nat} {Q : α → Prop} {v : Value} {l : List α}
theorem src_sl (h : Src w f sz Q v l) : ∃ p c, v = .slice p l.length c ∧ c ≤ 9223372036854775807 ∧ l.length ≤ max l.length c ∧ (∀ e ∈ l, Q e) ∧ ∀ i e, l[i]? = some e → ∃ b o, p = some ⟨b, o, none⟩ ∧ b < w.heap.size ∧ ∀ k u, (f e)[k]? = some u → w.cell? ⟨b, o + i * sz + k, none⟩ = some u := by
  rcases h with ⟨rfl, p, c, rfl, hc⟩ | ⟨b, o, c, rfl, h1, h2, h3, h4, h5⟩
  · exact ⟨p, c, rfl, hc, Nat.zero_le _, (fun e he => by cases he), fun i e he => by simp at he⟩
  · exact ⟨_, c, rfl, h2, Nat.le_max_left _ _, h5, fun i e he => ⟨b, o, rfl, h3, h4 i e he⟩⟩
end
/-- the law's arguments, as they lie -/
theorem srcS_of {w : World} {v : Value} {l : List Sp} (h : ArgSp w v l) (hs : ∀ e ∈ l, e.li.length ≤ 1000000) : SrcS w v l := by
  rcases h.1 with ⟨rfl, p, c, rfl, hc⟩ | ⟨b, o, c, rfl, h1, h2, h3, h4, h5⟩
  · exact .inl ⟨rfl, p, c, rfl, hc⟩
  · exact .inr ⟨b, o, c, rfl, h1, h2, h3, fun j e hj => ⟨h4 j e hj 0 _ rfl, h4 j e hj 1 _ rfl, h4 j e hj 2 _ rfl⟩, fun e he => ⟨(h5 e he).1, (h5 e he).2.1, (h5 e he).2.2.1, hs e he⟩⟩
theorem srcF_of {w : World} {v : Value} {l : List Fo} (h : ArgFo w v l) : SrcF w v l := by
  rcases h.1 with ⟨rfl, p, c, rfl, hc⟩ | ⟨b, o, c, rfl, h1, h2, h3, h4, h5⟩
  · exact .inl ⟨rfl, p, c, rfl, hc⟩
  · exact .inr ⟨b, o, c, rfl, h1, h2, h3, fun j e hj => ⟨h4 j e hj 0 _ rfl, h4 j e hj 1 _ rfl, h4 j e hj 2 _ rfl⟩, h5⟩
theorem srcC_of {w : World} {v : Value} {l : List Ch} (h : ArgCh w v l) (hs : ∀ e ∈ l, e.l.length ≤ 1000000) : SrcC w v l := by
  rcases h.1 with ⟨rfl, p, c, rfl, hc⟩ | ⟨b, o, c, rfl, h1, h2, h3, h4, h5⟩
  · exact .inl ⟨rfl, p, c, rfl, hc⟩
  · refine .inr ⟨b, o, c, rfl, h1, h2, h3, fun j e hj => ?_, fun e he => ⟨(h5 e he).1, hs e he⟩⟩
    have := h4 j e hj 0 _ rfl
    rwa [Nat.mul_one, Nat.add_zero] at this
theorem argSp_fit {w : World} {v : Value} {l : List Sp} (h : ArgSp w v l) : ∀ e ∈ l, SpO w e := by
  obtain ⟨p, c, _, _, _, h5, _⟩ := src_sl h.1
  exact h5
theorem argFo_fit {w : World} {v : Value} {l : List Fo} (h : ArgFo w v l) : ∀ e ∈ l, FoOk w e := by
  obtain ⟨p, c, _, _, _, h5, _⟩ := src_sl h.1
  exact h5
theorem argCh_fit {w : World} {v : Value} {l : List Ch} (h : ArgCh w v l) : ∀ e ∈ l, ChO w e := by
  obtain ⟨p, c, _, _, _, h5, _⟩ := src_sl h.1
  exact h5
def lnS (l : List Sp) (i : Nat) : Nat := ((l[i]?).map fun e => e.li.length).getD 0
def lnC (l : List Ch) (i : Nat) : Nat := ((l[i]?).map fun e => e.l.length).getD 0
/-- great, of the arguments: where it says no, there are few -/
theorem great_args {w : World} {v1 v2 v3 v4 : Value} {li : List Int} {ls : List Sp} {fo : List Fo} {ch : List Ch} (W : World) (hB : Below w.heap.size w W) (h1 : SrcI w v1 li ∧ li.length ≤ 1048576) (h2 : ArgSp w v2 ls) (h3 : ArgFo w v3 fo) (h4 : ArgCh w v4 ch) :
    Calls Tryd.prog 23 #[v1, v2, v3, v4] W (GrIs li.length ls.length fo.length ch.length (lnS ls) (lnC ch) W) := by
  obtain ⟨p1, c1, rfl⟩ := srcI_sl h1.1
  obtain ⟨p2, c2, rfl, _, _, q2, r2⟩ := src_sl h2.1
  obtain ⟨p3, c3, rfl, _⟩ := src_sl h3.1
  obtain ⟨p4, c4, rfl, _, _, q4, r4⟩ := src_sl h4.1
  refine great8_any p1 p2 p3 p4 _ _ _ _ c1 c2 c3 c4 _ _ W h1.2 h2.2 h3.2 h4.2 (fun i hi => ?_) (fun i hi => ?_)
  · have he := List.getElem?_eq_getElem hi
    obtain ⟨b, o, rfl, hb, hc⟩ := r2 i _ he
    have hq := q2 _ (List.getElem_mem hi)
    have hn := srcI_n hq.2.2.1
    have hl : lnS ls i = ls[i].li.length := by unfold lnS; rw [he]; rfl
    refine ⟨b, o, ls[i].p, ls[i].c, rfl, ?_, by rw [hl]; exact hq.2.2.2⟩
    rw [hl, ← hn]
    exact (hB.cell (p := ⟨b, o + i * 3 + 2, none⟩) hb).trans (hc 2 _ rfl)
  · have he := List.getElem?_eq_getElem hi
    obtain ⟨b, o, rfl, hb, hc⟩ := r4 i _ he
    have hq := q4 _ (List.getElem_mem hi)
    have hn := srcR_n hq.1
    have hl : lnC ch i = ch[i].l.length := by unfold lnC; rw [he]; rfl
    refine ⟨b, o, ch[i].p, ch[i].c, rfl, ?_, by rw [hl]; exact hq.2⟩
    rw [hl, ← hn]
    have := hc 0 _ rfl
    rw [Nat.mul_one, Nat.add_zero] at this
    exact (hB.cell (p := ⟨b, o + i, none⟩) hb).trans this
theorem few_S {n0 n2 : Nat} {L2 : Nat → Nat} {ls : List Sp} {m : Nat} (h : Few n0 ls.length n2 m (lnS ls) L2) : ∀ e ∈ ls, e.li.length ≤ 5000 := fun e he => by
  obtain ⟨i, hi, rfl⟩ := List.getElem_of_mem he
  have := h.2.2.1 i hi
  unfold lnS at this
  rw [List.getElem?_eq_getElem hi] at this
  exact this
theorem few_C {n0 n1 n2 : Nat} {L1 : Nat → Nat} {ch : List Ch} (h : Few n0 n1 n2 ch.length L1 (lnC ch)) : ∀ e ∈ ch, e.l.length ≤ 300 := fun e he => by
  obtain ⟨i, hi, rfl⟩ := List.getElem_of_mem he
  have := h.2.2.2 i hi
  unfold lnC at this
  rw [List.getElem?_eq_getElem hi] at this
  exact this
end Go.Proofs.YtdgmbmoaeoakpaaDoor

namespace Go.Proofs.YtdgmbmoaeoakpaaDoor
open Go Go.RowKit Go.Lib

set_option maxRecDepth 100000 in
set_option maxHeartbeats 1000000 in
theorem listStr_any (b c : Nat) (l : List ByteArray) (w : World) (hc : l.length ≤ c ∧ c ≤ 9223372036854775807) (hn : l.length ≤ 1000) (hb : b < w.heap.size) (hS : StrsLie w b l) (hz : ∀ s ∈ l, s.size ≤ 1000) (hT : Tabs w) :
    Calls Tryd.prog 66 #[.slice (some ⟨b, 0, none⟩) l.length c, .func (.func 41) #[] #[]] w (ListR (txT l) w) := by
  have HTx := Lib.hid (fun W (hB : Below w.heap.size w W) (s : ByteArray) (hs : s.size ≤ 1000) => text4_any s W (by omega) (by have := U.fix_size s; omega) (tabs_below hT hB))
  have HEl := Lib.hid (fun i (hi : i < l.length) => (show ∃ s : ByteArray, s.size ≤ 1000 ∧ (∀ W, Below w.heap.size w W → W.cell? ⟨b, i, none⟩ = some (.string s)) ∧ (txT l).drop i = .cons ⟨#[]⟩ 4 (U.fixS s) .nil .nil (txT (l.drop (i + 1))) from
    ⟨l[i], hz l[i] (List.getElem_mem hi), fun W hB => (hB.cell (p := ⟨b, i, none⟩) hb).trans (hS i _ (List.getElem?_eq_getElem hi)), txT_drop l i l[i] (List.getElem?_eq_getElem hi)⟩))
  have HE := Lib.hid (txT_len l)
  generalize en : l.length = na at *
  have HN := Lib.hid en
  obtain ⟨i0, hi0, hz0, hz1, hz2⟩ := info_parts infoValue
  obtain ⟨M, hM⟩ : ∃ M, M = madeCells (Value.agg #[.int .u8 0, .string ⟨#[]⟩, .slice none 0 0, .slice none 0 0]).cells (((na : Nat) : Int).toNat * i0.size) := ⟨_, rfl⟩
  have hMs : M.size = na * 4 := by rw [hM, size_madeCells, hz1, Int.toNat_natCast]
  have hmk : ∀ W : World, (Instr.makeSlice 22 (.int .i64 (na : Int)) (.int .i64 (na : Int))).run Tryd.prog W = .ok (.slice (some ⟨W.heap.size, 0, none⟩) na na) (W.alloc (.cells M 25)) := fun W => by
    have h := run_make (P := Tryd.prog) W 22 25 i0 _ Tryd.underlying22 hi0 hz0 .i64 .i64 (na : Int) (na : Int) (by omega) (by omega) (by rw [hz2]; omega) (by omega)
    rw [← hM] at h
    simpa using h
  have hB0 := (Below.refl w.heap.size w).alloc (Nat.le_refl _) (.cells #[.int .u8 0, .string ⟨#[]⟩, .slice none 0 0, .slice none 0 0] 25)
  have b0 : Blk4 (w.alloc (.cells #[.int .u8 0, .string ⟨#[]⟩, .slice none 0 0, .slice none 0 0] 25)) w.heap.size 25 _ _ _ _ := heap_alloc_new _ _
  have hz0 := World.size_alloc w (.cells #[.int .u8 0, .string ⟨#[]⟩, .slice none 0 0, .slice none 0 0] 25)
  have HB := Lib.hid (And.intro b0 (And.intro hB0 hz0))
  clear hM hS hz hT en hB0 b0 hz0
  go_enter Tryd.func66, Tryd.ntmps66
  go_wp2_with fail
  generalize w.alloc (.cells #[.int .u8 0, .string ⟨#[]⟩, .slice none 0 0, .slice none 0 0] 25) = w1 at *
  have hB1 := (Below.refl w1.heap.size w1).alloc (Nat.le_refl _) (.cells M 25)
  have hg : w1.heap.size = w.heap.size + 1 := HB.out.2.2
  have HC := Lib.hid (show LsSt w1 w.heap.size (w.heap.size + 1) (txT l) 0 M (w1.alloc (.cells M 25)) from
    ⟨⟨hB1, hg ▸ heap_alloc_new _ _, by rw [hMs, HE.out], Nat.le_of_eq hg, by rw [Nat.zero_mul, List.take_zero]; exact RP.nil _ _ _ _⟩, HB.out.1.same (hB1.block _ HB.out.1.lt), HB.out.1.lt⟩)
  generalize w1.alloc (.cells M 25) = W0 at *
  have HG := Lib.hid hg
  clear hB1 hMs hmk hg
  go_loopw [13] (fun p wr => ∃ i : Nat, p = .int .i64 i ∧ i ≤ na ∧ Hid (∃ cur, LsSt w1 w.heap.size (w.heap.size + 1) (txT l) i cur wr)) (fun p _ => na - (RowKit.intOf p).toNat)
  case atStart => exact ⟨0, rfl, Nat.zero_le _, Lib.hid ⟨_, HC.out⟩⟩
  case round =>
    obtain ⟨i, rfl, hi, HR⟩ := hrel
    obtain ⟨cur, hR⟩ := HR.out
    by_cases hlt : i < na
    · have HQ := Lib.hid hR
      clear HR hR
      have hbw := HB.out.2.1.trans (HQ.out.ca.below.mono HB.out.2.1.size)
      obtain ⟨s, z1', e1', d1'⟩ := HEl.out i hlt
      have e1 := e1' wr hbw
      have D1 := Lib.hid d1'
      have Z1 := Lib.hid z1'
      have HL := Lib.hid hlt
      clear z1' e1' d1'
      have HW := Lib.hid hbw
      have hrow := HQ.out.ca.row
      have hgl := hrow.lt
      have hcs : i * 4 + 4 ≤ cur.size := by rw [HQ.out.ca.size, HE.out]; have := HL.out; omega
      clear hbw
      go_wp2_with fail
      go_at_call 41
      (with_reducible refine (HTx.out _ HW.out s Z1.out).mono ?_)
      rintro e w2 ⟨rfl, hB2⟩
      have hr1 := hrow.same (hB2.block _ hgl)
      have q0 := hr1.cell (j := i * 4) (by omega)
      have q1 := hr1.cell (j := i * 4 + 1) (by omega)
      have q2 := hr1.cell (j := i * 4 + 2) (by omega)
      have q3 := hr1.cell (j := i * 4 + 3) (by omega)
      have z0 := hr1.free (i * 4)
      have z1 := hr1.free (i * 4 + 1)
      have z2 := hr1.free (i * 4 + 2)
      have z3 := hr1.free (i * 4 + 3)
      have HB2 := Lib.hid hB2
      clear hB2 hr1
      go_wp2_with fail
      go_roundw
      case rel => exact ⟨i + 1, by go_num, HL.out, Lib.hid ⟨_, HQ.out.step (by rw [HE.out]; exact HL.out) D1.out rfl (fix_fit (by have := Z1.out; omega)) HB2.out (HS.nil _ _ _) (HS.nil _ _ _)⟩⟩
      case measure => have := HL.out; simp [RowKit.intOf]; omega
    · obtain rfl : i = na := by omega
      clear HR
      have hw := CaSt.whole (by rw [HE.out]; exact hR.ca) (by rw [HE.out]; omega)
      rw [HE.out] at hw
      have hb2 := hR.box
      have HF := Lib.hid (And.intro hw (And.intro hb2 (And.intro hR.ca.below hR.lt)))
      obtain ⟨x0, x1, x2, x3⟩ := hb2.box
      have f0 := hb2.free 0
      have f1 := hb2.free 1
      have f2 := hb2.free 2
      have f3 := hb2.free 3
      clear hw hR hb2
      go_wp2_with fail
      obtain ⟨g1, g2, g3⟩ := HF.out.2.1.all (.int .u8 5) (.string ⟨#[]⟩) (.slice (some ⟨w.heap.size + 1, 0, none⟩) i i) (.slice none 0 0)
      have hw3 := set4_else wr w.heap.size (.int .u8 5) (.string ⟨#[]⟩) (.slice (some ⟨w.heap.size + 1, 0, none⟩) i i) (.slice none 0 0)
      have g3' := g3 w.heap.size (Nat.le_refl _)
      clear x0 x1 x2 x3 f0 f1 f2 f3
      generalize (((wr.setCell ⟨w.heap.size, 0, none⟩ (.int .u8 5)).setCell ⟨w.heap.size, 1, none⟩ (.string ⟨#[]⟩)).setCell ⟨w.heap.size, 2, none⟩ (.slice (some ⟨w.heap.size + 1, 0, none⟩) i i)).setCell ⟨w.heap.size, 3, none⟩ (.slice none 0 0) = w3 at *
      obtain ⟨x0, x1, x2, x3⟩ := g1.box
      refine bodyPost_ret (v := .agg #[.int .u8 5, .string ⟨#[]⟩, .slice (some ⟨w.heap.size + 1, 0, none⟩) i i, .slice none 0 0]) (by simp [results, Tryd.results66, go_sem, x0, x1, x2, x3]) rfl ?_
      have hlt := HF.out.2.2.2
      have hg := HG.out
      exact ⟨_, rfl, HF.out.1.fre (fun b hb => by omega) (fun b hb _ => hw3 b (by omega)), (HB.out.2.1.trans (HF.out.2.2.1.mono HB.out.2.1.size)).trans g3'⟩
end Go.Proofs.YtdgmbmoaeoakpaaDoor
