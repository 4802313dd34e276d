/- Arguments that are slices of numbers, of splices, of folds, of chains are opened, of at most so much bulk: how they lie in memory. Conditions: none. -/
import Derived.Test.YtdgmbmoaeoakpaaDoorMC47
import Derived.Test.YtdgmbmoaeoakpaaDoorMC44
import Derived.Carry
import Derived.Lib.SmallJoins
namespace Go.Proofs.YtdgmbmoaeoakpaaDoor
open Go Go.ChangeShapes Go.WideShapes Go.ChangeAt Go.RowKit

section
variable {H : Type} {enc : TypeId × Value → H} {W : World} {base : Nat} {spare : Nat → Bool}
theorem rows_of {α : Type} {Is : List Value → Prop} (f : α → List Value) (Q : α → Prop) (his : ∀ cs, Is cs → ∃ x, cs = f x ∧ Q x) (b sz : Nat) : ∀ (n o : Nat), (∀ i, i < n → ∃ cs', W.cells? 0 ⟨b, o + i * sz, none⟩ sz = some cs' ∧ Is cs') →
    ∃ l : List α, l.length = n ∧ (∀ j x, l[j]? = some x → ∀ k u, (f x)[k]? = some u → W.cell? ⟨b, o + j * sz + k, none⟩ = some u) ∧ ∀ x ∈ l, Q x
  | 0, _, _ => ⟨[], rfl, fun j x h => by simp at h, fun x h => by simp at h⟩
  | n + 1, o, h => by
    obtain ⟨l, hl, hr, hq⟩ := rows_of f Q his b sz n (o + sz) (fun i hi => by
      have := h (i + 1) (by omega)
      rwa [show o + (i + 1) * sz = o + sz + i * sz by rw [Nat.succ_mul]; omega] at this)
    obtain ⟨cs, hc, hi⟩ := h 0 (by omega)
    obtain ⟨x, rfl, hx⟩ := his cs hi
    obtain ⟨_, hlen, hcell⟩ := World.cells?_some hc
    rw [Nat.zero_mul, Nat.add_zero] at hcell
    refine ⟨x :: l, congrArg (· + 1) hl, fun j y hj k u hu => ?_, fun y hy => ?_⟩
    · match j, hj with
      | 0, hj =>
        cases hj
        have hk := (List.getElem?_eq_some_iff.1 hu).1
        have h1 := hcell k (by omega)
        have ea : (⟨b, o, none⟩ : Addr).add k = ⟨b, o + k, none⟩ := by unfold Addr.add; split <;> simp_all
        rw [ea, hu] at h1
        rw [Nat.zero_mul, Nat.add_zero]
        exact h1
      | j + 1, hj =>
        have := hr j y hj k u hu
        rw [show o + (j + 1) * sz + k = o + sz + j * sz + k by rw [Nat.succ_mul]; omega]
        exact this
    · rcases List.mem_cons.1 hy with rfl | hy
      · exact hx
      · exact hq y hy
/-- a slice reads as these -/
def Src (W : World) {α : Type} (f : α → List Value) (sz : Nat) (Q : α → Prop) (v : Value) (l : List α) : Prop := (l = [] ∧ ∃ p c, v = .slice p 0 c ∧ c ≤ 9223372036854775807) ∨ ∃ b o c, v = .slice (some ⟨b, o, none⟩) l.length c ∧ l.length ≤ c ∧ c ≤ 9223372036854775807 ∧ b < W.heap.size ∧ (∀ j x, l[j]? = some x → ∀ k u, (f x)[k]? = some u → W.cell? ⟨b, o + j * sz + k, none⟩ = some u) ∧ ∀ x ∈ l, Q x
theorem src_of {α : Type} {e : TypeId} {sz : Nat} {fuel : Nat} {t : TypeId} {cs : List Value} {x : DataW H × List MemPlace} {Is : List Value → Prop} (f : α → List Value) (Q : α → Prop) (hf : ∀ x, (f x).length = sz) (his : ∀ cs, Is cs → ∃ x, cs = f x ∧ Q x) (ht : Tryd.prog.underlying t = some (.slice e)) (hz : Tryd.prog.cellsOf e = sz) (hsz : 0 < sz)
    (h : DataW.trod enc Tryd.prog W 0 spare true fuel t cs = some x) (hw : Rows.uptoBulk x.1 ≤ 1048576)
    (ih : ∀ n, n < fuel → ∀ cs' y, DataW.trod enc Tryd.prog W 0 spare true n e cs' = some y → Rows.uptoBulk y.1 ≤ 1048576 → Is cs') : ∃ v l, cs = [v] ∧ l.length ≤ 1048576 ∧ Src W f sz Q v l := by
  have hlen : ∀ (a : Option Addr) (n c : Nat), cs = [.slice a n c] → n ≤ 1048576 := fun a n c e1 => by
    rcases DataW.trod_slice ht h with ⟨h0, _⟩ | ⟨a', len, cap, elems, rest, m, hm, e2, rfl, _, hl, _, hle, _, _, _⟩
    · rw [h0] at e1
      cases e1
      exact Nat.zero_le _
    · rw [e2] at e1
      cases e1
      have h1 := Bulk.length_le (elems.map fun z : DataW H × List MemPlace => z.1)
      rw [List.length_map] at h1
      simp only [Rows.uptoBulk] at hw
      omega
  rcases slice_openU ht hz hsz h hw ih with rfl | ⟨a, len, cap, rfl, h1, h2, h3, h4⟩
  · exact ⟨_, [], rfl, Nat.zero_le _, .inl ⟨rfl, none, 0, rfl, Nat.zero_le _⟩⟩
  · have hl2 := hlen _ _ _ rfl
    by_cases h0 : len = 0
    · subst h0
      exact ⟨_, [], rfl, Nat.zero_le _, .inl ⟨rfl, some a, cap, rfl, h2⟩⟩
    · obtain ⟨hs, cs0, hc0, hi0⟩ := h4 0 (by omega)
      obtain ⟨l, hl, hr, hq⟩ := rows_of f Q his a.block sz len a.off (fun i hi => (h4 i hi).2)
      obtain ⟨x0, rfl, -⟩ := his cs0 hi0
      obtain ⟨_, hlen0, hcell⟩ := World.cells?_some hc0
      have hlt : a.block < W.heap.size := by
        obtain ⟨u, hu⟩ : ∃ u, (f x0)[0]? = some u := ⟨_, List.getElem?_eq_getElem (by rw [hf]; exact hsz)⟩
        have h5 := hcell 0 hsz
        rw [hu] at h5
        have h6 : ((⟨a.block, a.off + 0 * sz, none⟩ : Addr).add 0).block < W.heap.size := World.block_lt_of_cell? W _ h5
        have e6 : ((⟨a.block, a.off + 0 * sz, none⟩ : Addr).add 0).block = a.block := by unfold Addr.add; split <;> rfl
        rw [e6] at h6
        exact h6
      refine ⟨_, l, rfl, by omega, .inr ⟨a.block, a.off, cap, ?_, by omega, h2, hlt, hr, hq⟩⟩
      rw [hl]
      cases a with | mk b o s => (cases hs; rfl)
theorem cells_int : Tryd.prog.cellsOf 3 = 1 := by kernel_rfl
theorem cells_bool : Tryd.prog.cellsOf 4 = 1 := by kernel_rfl
theorem cells_ints : Tryd.prog.cellsOf 47 = 1 := by kernel_rfl
theorem cells_pos : Tryd.prog.cellsOf 72 = 2 := by kernel_rfl
theorem cells_range : Tryd.prog.cellsOf 74 = 4 := by kernel_rfl
theorem cells_ranges : Tryd.prog.cellsOf 58 = 1 := by kernel_rfl
theorem cells_splice : Tryd.prog.cellsOf 81 = 3 := by kernel_rfl
theorem cells_fold : Tryd.prog.cellsOf 89 = 3 := by kernel_rfl
theorem int_is {fuel : Nat} {cs : List Value} {x : DataW H × List MemPlace} (h : DataW.trod enc Tryd.prog W 0 spare true fuel 3 cs = some x) : ∃ n : Int, cs = [.int .i64 n] ∧ I64 n := by
  obtain ⟨k, rfl, _, hwf⟩ := DataW.trod_int Tryd.underlying3 h
  exact ⟨k, rfl, bounds_i64 hwf⟩
theorem ints_is {fuel : Nat} {cs : List Value} {x : DataW H × List MemPlace} (h : DataW.trod enc Tryd.prog W 0 spare true fuel 47 cs = some x) (hw : Rows.uptoBulk x.1 ≤ 1048576) : ∃ p n c li, cs = [.slice p n c] ∧ SrcI W (.slice p n c) li ∧ li.length ≤ 1048576 := by
  obtain ⟨v, l, rfl, hl, hs⟩ := src_of (Is := fun cs => ∃ n : Int, cs = [.int .i64 n] ∧ I64 n) (fun n : Int => [Value.int .i64 n]) I64 (fun _ => rfl) (fun _ h => h) Tryd.underlying47 cells_int (by decide) h hw (fun n _ cs' y hy _ => int_is hy)
  rcases hs with ⟨rfl, p, c, rfl, hc⟩ | ⟨b, o, c, rfl, h1, h2, h3, h4, h5⟩
  · exact ⟨_, _, _, [], rfl, .inl ⟨rfl, _, _, rfl, hc⟩, Nat.zero_le _⟩
  · refine ⟨_, _, _, l, rfl, .inr ⟨b, o, c, rfl, h1, h2, h3, fun j n hj => ?_, fun n hn => h5 n hn⟩, hl⟩
    have := h4 j n hj 0 _ rfl
    rwa [Nat.mul_one, Nat.add_zero] at this
/-- as a splice, a chain that is opened, of whatever length -/
def SpO (w : World) (e : Sp) : Prop := I64 e.st ∧ I64 e.de ∧ SrcI w (.slice e.p e.n e.c) e.li ∧ e.li.length ≤ 1048576
def ChO (w : World) (e : Ch) : Prop := SrcR w (.slice e.p e.n e.c) e.l ∧ e.l.length ≤ 1048576
def ArgSp (w : World) (v : Value) (l : List Sp) : Prop := Src w (fun e : Sp => [Value.int .i64 e.st, .int .i64 e.de, .slice e.p e.n e.c]) 3 (SpO w) v l ∧ l.length ≤ 1048576
def ArgFo (w : World) (v : Value) (l : List Fo) : Prop := Src w (fun e : Fo => [Value.int .i64 e.a, .int .i64 e.b, .bool e.cm]) 3 (FoOk w) v l ∧ l.length ≤ 1048576
def ArgCh (w : World) (v : Value) (l : List Ch) : Prop := Src w (fun e : Ch => [Value.slice e.p e.n e.c]) 1 (ChO w) v l ∧ l.length ≤ 1048576
theorem three' {α : Type} {l : List α} (h : l.length = 3) : ∃ a b c, l = [a, b, c] := by
  match l, h with
  | [a, b, c], _ => exact ⟨a, b, c, rfl⟩
theorem four' {α : Type} {l : List α} (h : l.length = 4) : ∃ a b c d, l = [a, b, c, d] := by
  match l, h with
  | [a, b, c, d], _ => exact ⟨a, b, c, d, rfl⟩
theorem two' {α : Type} {l : List α} (h : l.length = 2) : ∃ a b, l = [a, b] := by
  match l, h with
  | [a, b], _ => exact ⟨a, b, rfl⟩
theorem splice_is {fuel : Nat} {cs : List Value} {x : DataW H × List MemPlace} (h : DataW.trod enc Tryd.prog W 0 spare true fuel 81 cs = some x) (hw : Rows.uptoBulk x.1 ≤ 1048576) : ∃ e : Sp, cs = [.int .i64 e.st, .int .i64 e.de, .slice e.p e.n e.c] ∧ SpO W e := by
  obtain ⟨xs, n, rfl, rfl, hl, hxl, hp⟩ := DataW.trod_struct Tryd.underlying81 h
  rw [cells_splice] at hl
  obtain ⟨c0, c1, c2, rfl⟩ := three' hl
  have hxl : xs.length = 3 := hxl
  obtain ⟨x0, x1, x2, rfl⟩ := three' hxl
  have h0 := hp 0 _ rfl
  have h1 := hp 1 _ rfl
  have h2 := hp 2 _ rfl
  have w2 := part_bulk hw (j := 2) (x := x2) rfl
  change DataW.trod enc Tryd.prog W 0 spare true n 3 (List.take (Tryd.prog.cellsOf 3) (List.drop 0 [c0, c1, c2])) = some x0 at h0
  change DataW.trod enc Tryd.prog W 0 spare true n 3 (List.take (Tryd.prog.cellsOf 3) (List.drop 1 [c0, c1, c2])) = some x1 at h1
  change DataW.trod enc Tryd.prog W 0 spare true n 47 (List.take (Tryd.prog.cellsOf 47) (List.drop 2 [c0, c1, c2])) = some x2 at h2
  rw [cells_int] at h0 h1
  rw [cells_ints] at h2
  obtain ⟨a, e0, ha⟩ := int_is h0
  obtain ⟨b, e1, hb⟩ := int_is h1
  obtain ⟨p, m, c, li, e2, hs, hn⟩ := ints_is h2 w2
  simp at e0 e1 e2
  subst e0 e1 e2
  exact ⟨⟨a, b, p, m, c, li⟩, rfl, ha, hb, hs, hn⟩
theorem fold_is {fuel : Nat} {cs : List Value} {x : DataW H × List MemPlace} (h : DataW.trod enc Tryd.prog W 0 spare true fuel 89 cs = some x) : ∃ e : Fo, cs = [.int .i64 e.a, .int .i64 e.b, .bool e.cm] ∧ FoOk W e := by
  obtain ⟨xs, n, rfl, rfl, hl, hxl, hp⟩ := DataW.trod_struct Tryd.underlying89 h
  rw [cells_fold] at hl
  obtain ⟨c0, c1, c2, rfl⟩ := three' hl
  have hxl : xs.length = 3 := hxl
  obtain ⟨x0, x1, x2, rfl⟩ := three' hxl
  have h0 := hp 0 _ rfl
  have h1 := hp 1 _ rfl
  have h2 := hp 2 _ rfl
  change DataW.trod enc Tryd.prog W 0 spare true n 3 (List.take (Tryd.prog.cellsOf 3) (List.drop 0 [c0, c1, c2])) = some x0 at h0
  change DataW.trod enc Tryd.prog W 0 spare true n 3 (List.take (Tryd.prog.cellsOf 3) (List.drop 1 [c0, c1, c2])) = some x1 at h1
  change DataW.trod enc Tryd.prog W 0 spare true n 4 (List.take (Tryd.prog.cellsOf 4) (List.drop 2 [c0, c1, c2])) = some x2 at h2
  rw [cells_int] at h0 h1
  rw [cells_bool] at h2
  obtain ⟨a, e0, ha⟩ := int_is h0
  obtain ⟨b, e1, hb⟩ := int_is h1
  obtain ⟨c, e2, _⟩ := DataW.trod_bool Tryd.underlying4 h2
  simp at e0 e1 e2
  subst e0 e1 e2
  exact ⟨⟨a, b, c⟩, rfl, ha, hb⟩
theorem pos_is {fuel : Nat} {cs : List Value} {x : DataW H × List MemPlace} (h : DataW.trod enc Tryd.prog W 0 spare true fuel 72 cs = some x) : ∃ a b : Int, cs = [.int .i64 a, .int .i64 b] ∧ I64 a ∧ I64 b := by
  obtain ⟨xs, n, rfl, rfl, hl, hxl, hp⟩ := DataW.trod_struct Tryd.underlying72 h
  rw [cells_pos] at hl
  obtain ⟨c0, c1, rfl⟩ := two' hl
  have hxl : xs.length = 2 := hxl
  obtain ⟨x0, x1, rfl⟩ := two' hxl
  have h0 := hp 0 _ rfl
  have h1 := hp 1 _ rfl
  change DataW.trod enc Tryd.prog W 0 spare true n 3 (List.take (Tryd.prog.cellsOf 3) (List.drop 0 [c0, c1])) = some x0 at h0
  change DataW.trod enc Tryd.prog W 0 spare true n 3 (List.take (Tryd.prog.cellsOf 3) (List.drop 1 [c0, c1])) = some x1 at h1
  rw [cells_int] at h0 h1
  obtain ⟨a, e0, ha⟩ := int_is h0
  obtain ⟨b, e1, hb⟩ := int_is h1
  simp at e0 e1
  subst e0 e1
  exact ⟨a, b, rfl, ha, hb⟩
theorem range_is {fuel : Nat} {cs : List Value} {x : DataW H × List MemPlace} (h : DataW.trod enc Tryd.prog W 0 spare true fuel 74 cs = some x) : ∃ e : Rg, cs = [.int .i64 e.a, .int .i64 e.b, .int .i64 e.c, .int .i64 e.d] ∧ e.Ok := by
  obtain ⟨xs, n, rfl, rfl, hl, hxl, hp⟩ := DataW.trod_struct Tryd.underlying74 h
  rw [cells_range] at hl
  obtain ⟨c0, c1, c2, c3, rfl⟩ := four' hl
  have hxl : xs.length = 2 := hxl
  obtain ⟨x0, x1, rfl⟩ := two' hxl
  have h0 := hp 0 _ rfl
  have h1 := hp 1 _ rfl
  change DataW.trod enc Tryd.prog W 0 spare true n 72 (List.take (Tryd.prog.cellsOf 72) (List.drop 0 [c0, c1, c2, c3])) = some x0 at h0
  change DataW.trod enc Tryd.prog W 0 spare true n 72 (List.take (Tryd.prog.cellsOf 72) (List.drop 2 [c0, c1, c2, c3])) = some x1 at h1
  rw [cells_pos] at h0 h1
  obtain ⟨a, b, e0, ha, hb⟩ := pos_is h0
  obtain ⟨c, d, e1, hc, hd⟩ := pos_is h1
  simp at e0 e1
  obtain ⟨rfl, rfl⟩ := e0
  obtain ⟨rfl, rfl⟩ := e1
  exact ⟨⟨a, b, c, d⟩, rfl, ha, hb, hc, hd⟩
theorem chain_is {fuel : Nat} {cs : List Value} {x : DataW H × List MemPlace} (h : DataW.trod enc Tryd.prog W 0 spare true fuel 58 cs = some x) (hw : Rows.uptoBulk x.1 ≤ 1048576) : ∃ e : Ch, cs = [.slice e.p e.n e.c] ∧ ChO W e := by
  obtain ⟨v, l, rfl, hl, hs⟩ := src_of (Is := fun cs => ∃ e : Rg, cs = [.int .i64 e.a, .int .i64 e.b, .int .i64 e.c, .int .i64 e.d] ∧ e.Ok) (fun e : Rg => [Value.int .i64 e.a, .int .i64 e.b, .int .i64 e.c, .int .i64 e.d]) Rg.Ok (fun _ => rfl) (fun _ h => h) Tryd.underlying58 cells_range (by decide) h hw (fun n _ cs' y hy _ => range_is hy)
  rcases hs with ⟨rfl, p, c, rfl, hc⟩ | ⟨b, o, c, rfl, h1, h2, h3, h4, h5⟩
  · exact ⟨⟨_, _, _, []⟩, rfl, .inl ⟨rfl, _, _, rfl, hc⟩, Nat.zero_le _⟩
  · exact ⟨⟨_, _, _, l⟩, rfl, .inr ⟨b, o, c, rfl, h1, h2, h3, fun j e hj => ⟨h4 j e hj 0 _ rfl, h4 j e hj 1 _ rfl, h4 j e hj 2 _ rfl, h4 j e hj 3 _ rfl⟩, h5⟩, hl⟩
variable {v : Value} {d : DataW H} {p : List MemPlace}
theorem one_of {v u : Value} {n m c : Nat} {q : Option Addr} (h : v.cells.toList = [u]) (e : v = .slice q m c) : u = .slice q m c := by
  subst e
  simp [Value.cells] at h
  exact h.symm
set_option maxRecDepth 100000 in
theorem openIntsU (hval : Value.okWide Tryd.prog W .any base 47 v) (h : DataW.Trod enc Tryd.prog W 0 (fun _ => true) true 47 v d p) (hw : Rows.uptoBulk d ≤ 1048576) : ∃ li, SrcI W v li ∧ li.length ≤ 1048576 := by
  obtain ⟨z, len, cap, rfl⟩ := okWide_slice Tryd.underlying47 hval
  obtain ⟨fuel, hf⟩ := h
  obtain ⟨q, n, c, li, e, hs, hl⟩ := ints_is hf hw
  simp [Value.cells] at e
  obtain ⟨rfl, rfl, rfl⟩ := e
  exact ⟨li, hs, hl⟩
set_option maxRecDepth 100000 in
theorem openSpU (hval : Value.okWide Tryd.prog W .any base 48 v) (h : DataW.Trod enc Tryd.prog W 0 (fun _ => true) true 48 v d p) (hw : Rows.uptoBulk d ≤ 1048576) : ∃ l, ArgSp W v l := by
  obtain ⟨z, len, cap, rfl⟩ := okWide_slice Tryd.underlying48 hval
  obtain ⟨fuel, hf⟩ := h
  obtain ⟨u, l, e, hl, hs⟩ := src_of (fun e : Sp => [Value.int .i64 e.st, .int .i64 e.de, .slice e.p e.n e.c]) (SpO W) (fun _ => rfl) (fun _ h => h) Tryd.underlying48 cells_splice (by decide) hf hw (fun n _ cs' y hy hb => splice_is hy hb)
  simp [Value.cells] at e
  subst e
  exact ⟨l, hs, hl⟩
set_option maxRecDepth 100000 in
theorem openFoU (hval : Value.okWide Tryd.prog W .any base 49 v) (h : DataW.Trod enc Tryd.prog W 0 (fun _ => true) true 49 v d p) (hw : Rows.uptoBulk d ≤ 1048576) : ∃ l, ArgFo W v l := by
  obtain ⟨z, len, cap, rfl⟩ := okWide_slice Tryd.underlying49 hval
  obtain ⟨fuel, hf⟩ := h
  obtain ⟨u, l, e, hl, hs⟩ := src_of (fun e : Fo => [Value.int .i64 e.a, .int .i64 e.b, .bool e.cm]) (FoOk W) (fun _ => rfl) (fun _ h => h) Tryd.underlying49 cells_fold (by decide) hf hw (fun n _ cs' y hy _ => fold_is hy)
  simp [Value.cells] at e
  subst e
  exact ⟨l, hs, hl⟩
set_option maxRecDepth 100000 in
theorem openChU (hval : Value.okWide Tryd.prog W .any base 50 v) (h : DataW.Trod enc Tryd.prog W 0 (fun _ => true) true 50 v d p) (hw : Rows.uptoBulk d ≤ 1048576) : ∃ l, ArgCh W v l := by
  obtain ⟨z, len, cap, rfl⟩ := okWide_slice Tryd.underlying50 hval
  obtain ⟨fuel, hf⟩ := h
  obtain ⟨u, l, e, hl, hs⟩ := src_of (fun e : Ch => [Value.slice e.p e.n e.c]) (ChO W) (fun _ => rfl) (fun _ h => h) Tryd.underlying50 cells_ranges (by decide) hf hw (fun n _ cs' y hy hb => chain_is hy hb)
  simp [Value.cells] at e
  subst e
  exact ⟨l, hs, hl⟩
end
end Go.Proofs.YtdgmbmoaeoakpaaDoor
