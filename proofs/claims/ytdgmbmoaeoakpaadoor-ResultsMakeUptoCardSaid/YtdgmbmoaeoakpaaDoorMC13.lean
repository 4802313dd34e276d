/- The library's functions that this seat's program holds are laid at its numbers, in plain words. Conditions: none. -/
import Derived.Test.YtdgmbmoaeoakpaaDoorProg
import Derived.Shelf.Lays
import Derived.Shelf.LaysM
import Derived.KernelRfl
import Derived.Test.YtdgmbmoaeoakpaaDoorMC11
import Derived.Test.YtdgmbmoaeoakpaaDoorMC03
import Derived.Shelf.Strconv.Itoa3
import Derived.Lib.AppendIntMem
import Derived.Lib.ItoaLen
import Derived.Test.YtdgmbmoaeoakpaaDoorMC12
namespace Go.Proofs
open Go.Shelf

def Tryd.laysItoa_ren : Go.Shelf.Ren := ⟨fun | 129 => 159 | 171 => 81 | 243 => 100 | 246 => 127 | 283 => 148 | 284 => 149 | 285 => 150 | 286 => 151 | 317 => 158 | 318 => 160 | 319 => 161 | 320 => 162 | 337 => 170 | 338 => 171 | n => n, fun | 37 => 107 | 46 => 164 | 51 => 137 | 53 => 166 | 171 => 165 | 173 => 169 | 212 => 175 | 213 => 176 | 232 => 194 | 233 => 195 | n => n, fun | 17 => 2 | 18 => 4 | 19 => 5 | n => n⟩
theorem Tryd.laysItoa : LaysM.n171 Tryd.prog Tryd.laysItoa_ren := {
  mixed := by kernel_rfl,
  f129 := Tryd.func159.trans (congrArg some (by kernel_rfl)),
  f171 := Tryd.func81.trans (congrArg some (by kernel_rfl)),
  f243 := Tryd.func100.trans (congrArg some (by kernel_rfl)),
  f246 := Tryd.func127.trans (congrArg some (by kernel_rfl)),
  f283 := Tryd.func148.trans (congrArg some (by kernel_rfl)),
  f284 := Tryd.func149.trans (congrArg some (by kernel_rfl)),
  f285 := Tryd.func150.trans (congrArg some (by kernel_rfl)),
  f286 := Tryd.func151.trans (congrArg some (by kernel_rfl)),
  f317 := Tryd.func158.trans (congrArg some (by kernel_rfl)),
  f318 := Tryd.func160.trans (congrArg some (by kernel_rfl)),
  f319 := Tryd.func161.trans (congrArg some (by kernel_rfl)),
  f320 := Tryd.func162.trans (congrArg some (by kernel_rfl)),
  f337 := Tryd.func170.trans (congrArg some (by kernel_rfl)),
  f338 := Tryd.func171.trans (congrArg some (by kernel_rfl)),
  t0 := Tryd.underlying0,
  a0 := Tryd.isAgg0,
  z0 := Tryd.sizeOf0,
  v0 := Tryd.zeroValue0,
  t2 := Tryd.underlying2,
  a2 := Tryd.isAgg2,
  z2 := Tryd.sizeOf2,
  v2 := Tryd.zeroValue2,
  t3 := Tryd.underlying3,
  a3 := Tryd.isAgg3,
  z3 := Tryd.sizeOf3,
  v3 := Tryd.zeroValue3,
  t4 := Tryd.underlying4,
  a4 := Tryd.isAgg4,
  z4 := Tryd.sizeOf4,
  v4 := Tryd.zeroValue4,
  t5 := Tryd.underlying5,
  a5 := Tryd.isAgg5,
  z5 := Tryd.sizeOf5,
  v5 := Tryd.zeroValue5,
  t9 := Tryd.underlying9,
  a9 := Tryd.isAgg9,
  z9 := Tryd.sizeOf9,
  v9 := Tryd.zeroValue9,
  t20 := Tryd.underlying20,
  a20 := Tryd.isAgg20,
  z20 := Tryd.sizeOf20,
  v20 := Tryd.zeroValue20,
  t37 := Tryd.underlying107,
  a37 := Tryd.isAgg107,
  z37 := Tryd.sizeOf107,
  v37 := Tryd.zeroValue107,
  t46 := Tryd.underlying164,
  a46 := Tryd.isAgg164,
  z46 := Tryd.sizeOf164,
  v46 := Tryd.zeroValue164,
  t51 := Tryd.underlying137,
  a51 := Tryd.isAgg137,
  z51 := Tryd.sizeOf137,
  v51 := Tryd.zeroValue137,
  t53 := Tryd.underlying166,
  a53 := Tryd.isAgg166,
  z53 := Tryd.sizeOf166,
  v53 := Tryd.zeroValue166,
  t171 := Tryd.underlying165,
  a171 := Tryd.isAgg165,
  z171 := Tryd.sizeOf165,
  v171 := Tryd.zeroValue165,
  t173 := Tryd.underlying169,
  a173 := Tryd.isAgg169,
  z173 := Tryd.sizeOf169,
  v173 := Tryd.zeroValue169,
  t212 := Tryd.underlying175,
  a212 := Tryd.isAgg175,
  z212 := Tryd.sizeOf175,
  v212 := Tryd.zeroValue175,
  t213 := Tryd.underlying176,
  a213 := Tryd.isAgg176,
  z213 := Tryd.sizeOf176,
  t232 := Tryd.underlying194,
  a232 := Tryd.isAgg194,
  z232 := Tryd.sizeOf194,
  v232 := Tryd.zeroValue194,
  t233 := Tryd.underlying195,
  a233 := Tryd.isAgg195,
  z233 := Tryd.sizeOf195,
  v233 := Tryd.zeroValue195,
  g17 := by kernel_rfl,
  g18 := by kernel_rfl,
  g19 := by kernel_rfl,
  i0 := by kernel_rfl,
  i2 := by kernel_rfl,
  i3 := by kernel_rfl,
  i4 := by kernel_rfl,
  i5 := by kernel_rfl,
  i9 := by kernel_rfl,
  i20 := by kernel_rfl,
  i37 := by kernel_rfl,
  i46 := by kernel_rfl,
  i51 := by kernel_rfl,
  i53 := by kernel_rfl,
  i171 := by kernel_rfl,
  i173 := by kernel_rfl,
  i212 := by kernel_rfl,
  i232 := by kernel_rfl,
  i233 := by kernel_rfl,
  m17 := by kernel_rfl,
  m18 := by kernel_rfl,
  m19 := by kernel_rfl }
end Go.Proofs

namespace Go.Proofs
open Go Go.RowKit Go.Shelf Go.Lib

namespace YtdgmbmoaeoakpaaDoor
def PowTab (w : World) : Prop := Lib.TabIs Tryd.prog w "internal/strconv.uint64pow10" .u64 Lib.pow10Tab
def NumIs (x : List UInt8) (w : World) (e : Ending) (w' : World) : Prop := e = .returned (.agg #[.int .u8 3, .string ⟨x.toArray⟩, .slice none 0 0, .slice none 0 0]) ∧ Below w.heap.size w w'
theorem itoa_any (n : Int) (h0 : -9223372036854775808 ≤ n) (h1 : n ≤ 9223372036854775807) (w : World) (hP : PowTab w) :
    Calls Tryd.prog 81 #[.int .i64 n] w (StrIs ⟨(Lib.itoa n).toArray⟩ w) := by
  refine (Any.strconv_Itoa Tryd.laysItoa n h0 h1 w hP).mono ?_
  rintro e w' ⟨rfl, k, os, rfl⟩
  exact ⟨rfl, Lib.below_grow _ _ (Nat.le_refl _) k os⟩

set_option maxHeartbeats 1000000 in
set_option maxRecDepth 100000 in
theorem numberJ_any (n : Int) (h0 : -9223372036854775808 ≤ n) (h1 : n ≤ 9223372036854775807) (w : World) (hP : ∀ w', Below w.heap.size w w' → PowTab w') :
    Calls Tryd.prog 42 #[.int .i64 n] w (NumIs (Lib.itoa n) w) := by
  have hc := fun W hB => itoa_any n h0 h1 W (hP W hB)
  go_enter Tryd.func42, Tryd.ntmps42
  go_wp2_with fail
  have hB0 := (Below.refl w.heap.size w).alloc (Nat.le_refl _) (.cells #[.int .u8 0, .string ⟨#[]⟩, .slice none 0 0, .slice none 0 0] 25)
  have b0 : Blk4 (w.alloc (.cells #[.int .u8 0, .string ⟨#[]⟩, .slice none 0 0, .slice none 0 0] 25)) w.heap.size 25 _ _ _ _ := heap_alloc_new _ _
  refine (hc _ hB0).mono ?_
  rintro e w1 ⟨rfl, hB1⟩
  have b1 := b0.same (hB1.block _ b0.lt)
  have hB2 := hB0.trans (hB1.mono hB0.size)
  obtain ⟨x0, x1, x2, x3⟩ := b1.box
  have f0 := b1.free 0
  have f1 := b1.free 1
  have f2 := b1.free 2
  have f3 := b1.free 3
  have HB := Lib.hid (And.intro b1 hB2)
  clear b0 b1 hB0 hB1 hB2 hc
  go_wp2_with fail
  obtain ⟨g1, g2, g3⟩ := HB.out.1.all (.int .u8 3) (.string ⟨(Lib.itoa n).toArray⟩) (.slice none 0 0) (.slice none 0 0)
  have hfin := HB.out.2.trans (g3 _ (Nat.le_refl _))
  clear x0 x1 x2 x3 f0 f1 f2 f3
  generalize (((w1.setCell ⟨w.heap.size, 0, none⟩ (.int .u8 3)).setCell ⟨w.heap.size, 1, none⟩ (.string ⟨(Lib.itoa n).toArray⟩)).setCell ⟨w.heap.size, 2, none⟩ (.slice none 0 0)).setCell ⟨w.heap.size, 3, none⟩ (.slice none 0 0) = W' at *
  obtain ⟨x0, x1, x2, x3⟩ := g1.box
  refine bodyPost_ret (v := .agg #[.int .u8 3, .string ⟨(Lib.itoa n).toArray⟩, .slice none 0 0, .slice none 0 0]) (by simp [results, Tryd.results42, go_sem, x0, x1, x2, x3]) rfl ?_
  exact ⟨rfl, hfin⟩

end YtdgmbmoaeoakpaaDoor
end Go.Proofs

namespace Go.Proofs.YtdgmbmoaeoakpaaDoor
open Go Go.RowKit Go.Lib

/-- a number as a field -/
def numE (nm : ByteArray) (n : Int) : Fe := ⟨nm, 3, ⟨(Lib.itoa n).toArray⟩, .slice none 0 0, .slice none 0 0, .nil, .nil⟩
/-- a part: what the interface holds behind the name, and the field that it becomes -/
structure Pt where
  t : TypeId
  v : Value
  e : Fe
def Pt.Ok (w : World) (A : Nat → Prop) (p : Pt) : Prop :=
  (∃ n : Int, (-9223372036854775808 ≤ n ∧ n ≤ 9223372036854775807) ∧ p = ⟨3, .int .i64 n, numE p.e.nm n⟩ ∧ p.e.nm.size ≤ 1000) ∨
  (p.t = 25 ∧ p.v = .agg #[.int .u8 p.e.k, .string p.e.x, p.e.v, p.e.u] ∧ p.e.Ok w A)
def ifs : List Pt → List Value
  | [] => []
  | p :: r => .iface 9 (.string p.e.nm) :: .iface p.t p.v :: ifs r
def fes (ps : List Pt) : List Fe := ps.map (·.e)
theorem ifs_len (ps : List Pt) : (ifs ps).length = 2 * ps.length := by
  induction ps with
  | nil => rfl
  | cons p r ih => simp [ifs, ih]; omega
theorem ifs_at : ∀ (ps : List Pt) (j : Nat) (p : Pt), ps[j]? = some p → (ifs ps)[2 * j]? = some (.iface 9 (.string p.e.nm)) ∧ (ifs ps)[2 * j + 1]? = some (.iface p.t p.v)
  | [], _, _, h => by simp at h
  | q :: r, 0, p, h => by
    simp at h; subst h
    exact ⟨rfl, rfl⟩
  | q :: r, j + 1, p, h => by
    have := ifs_at r j p (by simpa using h)
    rw [show 2 * (j + 1) = 2 * j + 1 + 1 by omega]
    exact this
theorem num_fit {nm : ByteArray} (n : Int) (h : nm.size ≤ 140737488355328) (hn : -9223372036854775808 ≤ n ∧ n ≤ 9223372036854775807) : Fit nm 3 ⟨(Lib.itoa n).toArray⟩ :=
  ⟨by decide, by have := Lib.itoa_length_le n hn.1 hn.2; show (Lib.itoa n).toArray.size ≤ _; simp; omega, h⟩
theorem numE_ok {nm : ByteArray} (n : Int) (w : World) (A : Nat → Prop) (h : nm.size ≤ 140737488355328) (hn : -9223372036854775808 ≤ n ∧ n ≤ 9223372036854775807) : (numE nm n).Ok w A :=
  ⟨HS.nil _ _ _, HS.nil _ _ _, num_fit n h hn⟩
theorem Pt.Ok.fe {w : World} {A : Nat → Prop} {p : Pt} (h : p.Ok w A) : p.e.Ok w A := by
  rcases h with ⟨n, hn, e, hz⟩ | ⟨_, _, h⟩
  · rw [e]
    exact numE_ok n w A (by omega) hn
  · exact h
theorem Pt.Ok.imp {w w' : World} {A A' : Nat → Prop} {p : Pt} (h : p.Ok w A) (hA : ∀ b, A b → b < w.heap.size → A' b) (hk : ∀ b, A b → b < w.heap.size → w'.heap[b]? = w.heap[b]?) : p.Ok w' A' := by
  rcases h with h | ⟨h1, h2, h3⟩
  · exact .inl h
  · exact .inr ⟨h1, h2, h3.imp hA hk⟩
theorem Pt.Ok.below {w w' : World} {A : Nat → Prop} {p : Pt} (h : p.Ok w A) (hB : Below w.heap.size w w') : p.Ok w' A := h.imp (fun _ a _ => a) fun b _ hb => hB.block b hb
theorem pow_below {w w' : World} (h : PowTab w) (hb : Below w.heap.size w w') : PowTab w' := Lib.tabBelow_of_tabIs h w' hb
end Go.Proofs.YtdgmbmoaeoakpaaDoor
