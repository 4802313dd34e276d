/- Arguments that are changes, or a slice of them, are opened: how they lie in memory. Conditions: none. -/
import Derived.Test.YtjeopabnddekgaaDoorME42
import Derived.Test.YtjeopabnddekgaaDoorME54
namespace Go.Proofs.YtjeopabnddekgaaDoor
open Go Go.ChangeShapes Go.WideShapes Go.ChangeAt Go.RowKit Go.Joins

/-- a change, as it may be handed in -/
def ChOk (c : ChE) : Prop := I64 c.a ∧ I64 c.b ∧ I64 c.c ∧ I64 c.d ∧ c.s.size ≤ 281474976710656
/-- a slice reads as these changes -/
def ArgCh (W : World) (v : Value) (l : List ChE) : Prop := ∃ z cap, v = .slice z l.length cap ∧ l.length ≤ cap ∧ cap * 56 ≤ 281474976710656 ∧ (∀ (j : Nat) (c : ChE), l[j]? = some c → ChAt W z j c) ∧ ∀ c ∈ l, ChOk c
theorem cellsBoolC : Tryd.prog.cellsOf 4 = 1 := by kernel_rfl
theorem cellsPosC : Tryd.prog.cellsOf 38 = 2 := by kernel_rfl
theorem cellsRangeC : Tryd.prog.cellsOf 67 = 4 := by kernel_rfl
theorem cellsCh : Tryd.prog.cellsOf 69 = 6 := by kernel_rfl
theorem bytesCh : Tryd.prog.bytesOf 69 = 56 := by kernel_rfl
theorem twoC {α : Type} {l : List α} (h : l.length = 2) : ∃ a b, l = [a, b] := by
  match l, h with
  | [a, b], _ => exact ⟨a, b, rfl⟩
theorem fourC {α : Type} {l : List α} (h : l.length = 4) : ∃ a b c d, l = [a, b, c, d] := by
  match l, h with
  | [a, b, c, d], _ => exact ⟨a, b, c, d, rfl⟩
theorem sixC {α : Type} {l : List α} (h : l.length = 6) : ∃ a b c d e f, l = [a, b, c, d, e, f] := by
  match l, h with
  | [a, b, c, d, e, f], _ => exact ⟨a, b, c, d, e, f, rfl⟩
section
variable {H : Type} {enc : TypeId × Value → H} {W : World} {base : Nat} {v : Value} {d : DataW H} {p : List MemPlace} {spare : Nat → Bool}
theorem boolC_is {fuel : Nat} {cs : List Value} {x : DataW H × List MemPlace} (h : DataW.trod enc Tryd.prog W 0 spare true fuel 4 cs = some x) : ∃ b : Bool, cs = [.bool b] := by
  obtain ⟨b, rfl, _⟩ := DataW.trod_bool Tryd.underlying4 h
  exact ⟨b, rfl⟩
theorem posC_is {fuel : Nat} {cs : List Value} {x : DataW H × List MemPlace} (h : DataW.trod enc Tryd.prog W 0 spare true fuel 38 cs = some x) : ∃ a b : Int, cs = [.int .i64 a, .int .i64 b] ∧ I64 a ∧ I64 b := by
  obtain ⟨xs, n, rfl, rfl, hl, hxl, hp⟩ := DataW.trod_struct Tryd.underlying38 h
  rw [cellsPosC] at hl
  obtain ⟨c0, c1, rfl⟩ := twoC hl
  have hxl : xs.length = 2 := hxl
  obtain ⟨x0, x1, rfl⟩ := twoC hxl
  have h0 := hp 0 _ rfl
  have h1 := hp 1 _ rfl
  change DataW.trod enc Tryd.prog W 0 spare true n 3 (List.take (Tryd.prog.cellsOf 3) (List.drop 0 [c0, c1])) = some x0 at h0
  change DataW.trod enc Tryd.prog W 0 spare true n 3 (List.take (Tryd.prog.cellsOf 3) (List.drop 1 [c0, c1])) = some x1 at h1
  rw [cellsIntE] at h0 h1
  obtain ⟨a, e0, ha⟩ := intE_is h0
  obtain ⟨b, e1, hb⟩ := intE_is h1
  simp at e0 e1
  subst e0 e1
  exact ⟨a, b, rfl, ha, hb⟩
theorem rangeC_is {fuel : Nat} {cs : List Value} {x : DataW H × List MemPlace} (h : DataW.trod enc Tryd.prog W 0 spare true fuel 67 cs = some x) : ∃ a b c d : Int, cs = [.int .i64 a, .int .i64 b, .int .i64 c, .int .i64 d] ∧ I64 a ∧ I64 b ∧ I64 c ∧ I64 d := by
  obtain ⟨xs, n, rfl, rfl, hl, hxl, hp⟩ := DataW.trod_struct Tryd.underlying67 h
  rw [cellsRangeC] at hl
  obtain ⟨c0, c1, c2, c3, rfl⟩ := fourC hl
  have hxl : xs.length = 2 := hxl
  obtain ⟨x0, x1, rfl⟩ := twoC hxl
  have h0 := hp 0 _ rfl
  have h1 := hp 1 _ rfl
  change DataW.trod enc Tryd.prog W 0 spare true n 38 (List.take (Tryd.prog.cellsOf 38) (List.drop 0 [c0, c1, c2, c3])) = some x0 at h0
  change DataW.trod enc Tryd.prog W 0 spare true n 38 (List.take (Tryd.prog.cellsOf 38) (List.drop 2 [c0, c1, c2, c3])) = some x1 at h1
  rw [cellsPosC] at h0 h1
  obtain ⟨a, b, e0, ha, hb⟩ := posC_is h0
  obtain ⟨c, d, e1, hc, hd⟩ := posC_is h1
  simp at e0 e1
  obtain ⟨rfl, rfl⟩ := e0
  obtain ⟨rfl, rfl⟩ := e1
  exact ⟨a, b, c, d, rfl, ha, hb, hc, hd⟩
theorem ch_is {fuel : Nat} {cs : List Value} {x : DataW H × List MemPlace} (h : DataW.trod enc Tryd.prog W 0 spare true fuel 69 cs = some x) (hw : EReach (x.1.weights Tryd.prog 69)) : ∃ c : ChE, cs = [.bool c.r, .int .i64 c.a, .int .i64 c.b, .int .i64 c.c, .int .i64 c.d, .string c.s] ∧ ChOk c := by
  obtain ⟨xs, n, rfl, rfl, hl, hxl, hp⟩ := DataW.trod_struct Tryd.underlying69 h
  rw [cellsCh] at hl
  obtain ⟨c0, c1, c2, c3, c4, c5, rfl⟩ := sixC hl
  have hxl : xs.length = 3 := hxl
  obtain ⟨x0, x1, x2, rfl⟩ := threeE hxl
  have h0 := hp 0 _ rfl
  have h1 := hp 1 _ rfl
  have h2 := hp 2 _ rfl
  have w2 := partE_reach Tryd.underlying69 hw (j := 2) (x := x2) rfl rfl
  change DataW.trod enc Tryd.prog W 0 spare true n 4 (List.take (Tryd.prog.cellsOf 4) (List.drop 0 [c0, c1, c2, c3, c4, c5])) = some x0 at h0
  change DataW.trod enc Tryd.prog W 0 spare true n 67 (List.take (Tryd.prog.cellsOf 67) (List.drop 1 [c0, c1, c2, c3, c4, c5])) = some x1 at h1
  change DataW.trod enc Tryd.prog W 0 spare true n 9 (List.take (Tryd.prog.cellsOf 9) (List.drop 5 [c0, c1, c2, c3, c4, c5])) = some x2 at h2
  change EReach (x2.1.weights Tryd.prog 9) at w2
  rw [cellsBoolC] at h0
  rw [cellsRangeC] at h1
  rw [cellsStringE] at h2
  obtain ⟨r, e0⟩ := boolC_is h0
  obtain ⟨a, b, c, d, e1, ha, hb, hc, hd⟩ := rangeC_is h1
  obtain ⟨s, e2, hs⟩ := stringE_is h2 w2
  simp at e0 e1 e2
  obtain ⟨rfl, rfl, rfl, rfl⟩ := e1
  subst e0 e2
  exact ⟨⟨r, a, b, c, d, s⟩, rfl, ha, hb, hc, hd, hs⟩
set_option maxRecDepth 100000 in
theorem sliceC_open {t e : TypeId} {Is : List Value → Prop} (ht : Tryd.prog.underlying t = some (.slice e)) (hz : Tryd.prog.cellsOf e = 6) (hby : Tryd.prog.bytesOf e = 56) (hval : Value.okWide Tryd.prog W .any base t v) (h : DataW.Trod enc Tryd.prog W 0 (fun _ => true) true t v d p)
    (hw : EReach (d.weights Tryd.prog t)) (his : ∀ n cs y, DataW.trod enc Tryd.prog W 0 (fun _ => true) true n e cs = some y → EReach (y.1.weights Tryd.prog e) → Is cs) :
    ∃ (z : Option Addr) (len cap : Nat), v = .slice z len cap ∧ len ≤ cap ∧ cap * 56 ≤ 281474976710656 ∧ ∀ i, i < len → ∃ g off cs, z = some ⟨g, off, none⟩ ∧ cs.length = 6 ∧ (∀ k u, cs[k]? = some u → W.cell? ⟨g, off + i * 6 + k, none⟩ = some u) ∧ Is cs := by
  obtain ⟨z, len, cap, rfl⟩ := okWide_slice ht hval
  obtain ⟨fuel, hf⟩ := h
  refine ⟨z, len, cap, rfl, ?_⟩
  rcases DataW.trod_slice ht hf with ⟨h0, _⟩ | ⟨a, l, c, elems, rest, n, hn, h0, hx, _, hl, hm, hlen, hel, hsp, _⟩
  · simp [Value.cells] at h0
    obtain ⟨rfl, rfl, rfl⟩ := h0
    exact ⟨Nat.le_refl _, Nat.zero_le _, fun i hi => by omega⟩
  · simp [Value.cells] at h0
    obtain ⟨rfl, rfl, rfl⟩ := h0
    have hd : d = .slice (elems.map (·.1)) (rest.map (·.1)) := (Prod.mk.inj hx).1
    have hw0 : (elems.length + rest.length) * Tryd.prog.bytesOf e ≤ reachBytes := hw _ (by
      rw [hd]
      unfold DataW.weights
      rw [ht]
      simp)
    have hrl := (hsp rfl).1
    have hcap : cap * 56 ≤ 281474976710656 := by
      rw [hby] at hw0
      have h2 : (elems.length + rest.length) * 56 ≤ 281474976710656 := Nat.le_trans hw0 (by decide)
      omega
    refine ⟨hl, hcap, fun i hi => ?_⟩
    have he := hel i hi
    rw [hz] at he
    obtain ⟨y, hy⟩ : ∃ y, elems[i]? = some y := ⟨_, List.getElem?_eq_getElem (by omega)⟩
    rw [hy] at he
    obtain ⟨cs, h1, h2⟩ := Option.bind_eq_some_iff.1 he
    obtain ⟨_, hlen3, h3⟩ := World.cells?_some h1
    have hspot : a.spot = none := by
      have he0 := hel 0 (by omega)
      rw [hz, Nat.zero_mul] at he0
      obtain ⟨y0, hy0⟩ : ∃ y, elems[0]? = some y := ⟨_, List.getElem?_eq_getElem (by omega)⟩
      rw [hy0] at he0
      obtain ⟨cs0, g1, _⟩ := Option.bind_eq_some_iff.1 he0
      have g3 := World.cells?_some g1
      have h4 := g3.2.2 0 (by omega)
      have e0 : (a.add 0).add 0 = a := by unfold Addr.add; simp
      obtain ⟨c0, hc0⟩ : ∃ c0, cs0[0]? = some c0 := ⟨_, List.getElem?_eq_getElem (by have := g3.2.1; omega)⟩
      rw [hc0, e0] at h4
      unfold World.cell? at h4
      split at h4
      · split at h4
        · cases h4
        · rename_i hs
          simpa using hs
      · cases h4
    refine ⟨a.block, a.off, cs, ?_, hlen3, fun k u hu => ?_, his _ _ _ h2 (fun m hm => hw m (by
      rw [hd]
      unfold DataW.weights
      rw [ht]
      refine List.mem_cons_of_mem _ (List.mem_append_left _ (weightsE_mem (i := i) (d := y.1) (by simp [hy]) m hm))))⟩
    · cases a with | mk b o s => (cases hspot; rfl)
    · have hk := (List.getElem?_eq_some_iff.1 hu).1
      have h5 := h3 k (by omega)
      have ea : (a.add (i * 6)).add k = ⟨a.block, a.off + i * 6 + k, none⟩ := by
        cases a with | mk b o s => (cases hspot; unfold Addr.add; by_cases hi0 : i * 6 = 0 <;> by_cases hk0 : k = 0 <;> simp [hi0, hk0])
      rw [ea, hu] at h5
      exact h5
theorem rowsC {z : Option Addr} : ∀ (len : Nat), (∀ i, i < len → ∃ g off cs, z = some ⟨g, off, none⟩ ∧ cs.length = 6 ∧ (∀ k u, cs[k]? = some u → W.cell? ⟨g, off + i * 6 + k, none⟩ = some u) ∧ ∃ c : ChE, cs = [.bool c.r, .int .i64 c.a, .int .i64 c.b, .int .i64 c.c, .int .i64 c.d, .string c.s] ∧ ChOk c) →
    ∃ l : List ChE, l.length = len ∧ (∀ (j : Nat) (c : ChE), l[j]? = some c → ChAt W z j c) ∧ ∀ c ∈ l, ChOk c
  | 0, _ => ⟨[], rfl, fun j x h => by simp at h, fun x h => by simp at h⟩
  | n + 1, h => by
    obtain ⟨l, hl, hr, hq⟩ := rowsC n (fun i hi => h i (by omega))
    obtain ⟨g, off, cs, hz, _, hc, x, rfl, hx⟩ := h n (by omega)
    refine ⟨l ++ [x], by simp [hl], fun j y hj => ?_, fun y hy => ?_⟩
    · by_cases hjn : j < n
      · rw [List.getElem?_append_left (by omega)] at hj; exact hr j y hj
      · have hlt := (List.getElem?_eq_some_iff.1 hj).1
        simp only [List.length_append, List.length_singleton] at hlt
        obtain rfl : j = n := by omega
        rw [List.getElem?_append_right (by omega), hl, Nat.sub_self] at hj
        obtain rfl : x = y := by simpa using hj
        have c0 := hc 0 _ rfl
        exact ⟨g, off, hz, World.block_lt_of_cell? W _ c0, c0, hc 1 _ rfl, hc 2 _ rfl, hc 3 _ rfl, hc 4 _ rfl, hc 5 _ rfl⟩
    · rcases List.mem_append.1 hy with hy | hy
      · exact hq y hy
      · rw [List.mem_singleton.1 hy]; exact hx
set_option maxRecDepth 100000 in
theorem openChs (hval : Value.okWide Tryd.prog W .any base 53 v) (h : DataW.Trod enc Tryd.prog W 0 (fun _ => true) true 53 v d p) (hw : EReach (d.weights Tryd.prog 53)) : ∃ l, ArgCh W v l := by
  obtain ⟨z, len, cap, rfl, h1, h2, h3⟩ := sliceC_open (Is := fun cs => ∃ c : ChE, cs = [.bool c.r, .int .i64 c.a, .int .i64 c.b, .int .i64 c.c, .int .i64 c.d, .string c.s] ∧ ChOk c) Tryd.underlying53 cellsCh bytesCh hval h hw (fun n cs y hy hr => ch_is hy hr)
  obtain ⟨l, rfl, hr, hq⟩ := rowsC len h3
  exact ⟨l, z, cap, rfl, h1, h2, hr, hq⟩
set_option maxRecDepth 100000 in
theorem openCh (hval : Value.okWide Tryd.prog W .any base 69 v) (h : DataW.Trod enc Tryd.prog W 0 (fun _ => true) true 69 v d p) (hr : EReach (d.weights Tryd.prog 69)) : ∃ c : ChE, v = .agg #[.bool c.r, .int .i64 c.a, .int .i64 c.b, .int .i64 c.c, .int .i64 c.d, .string c.s] ∧ ChOk c := by
  obtain ⟨cs, rfl, hsz⟩ := okWide_struct Tryd.underlying69 hval
  obtain ⟨fuel, hf⟩ := h
  obtain ⟨c, e, hc⟩ := ch_is hf hr
  refine ⟨c, ?_, hc⟩
  have e' : cs.toList = [.bool c.r, .int .i64 c.a, .int .i64 c.b, .int .i64 c.c, .int .i64 c.d, .string c.s] := by simpa [Value.cells] using e
  congr 1
  exact Array.ext' e'
end
end Go.Proofs.YtjeopabnddekgaaDoor

namespace Go.Proofs.YtjeopabnddekgaaDoor
open Go Go.RowKit Go.Lib

/-- what is known where there is not too much -/
def Few10 (x : ByteArray) (n : Nat) (L : Nat → ByteArray) : Prop := x.size ≤ 70000 ∧ n ≤ 200 ∧ ∀ j, j < n → (L j).size ≤ 70000
def GrIs10 (x : ByteArray) (n : Nat) (L : Nat → ByteArray) (w : World) (e : Ending) (w' : World) : Prop := ∃ ok : Bool, e = .returned (.bool ok) ∧ w' = w ∧ (ok = false → Few10 x n L)
/-- so far -/
structure Gr10 (S : Int) (L : Nat → ByteArray) (i : Nat) (s : Int) : Prop where
  lo : S ≤ s
  hi : s ≤ S + 281474976710656 * (i : Int)
  all : ∀ j, j < i → (((L j).size : Nat) : Int) ≤ s
theorem Gr10.step {S : Int} {L : Nat → ByteArray} {i : Nat} {s : Int} (h : Gr10 S L i s) (hS : 0 ≤ S) (hL : (L i).size ≤ 281474976710656) : Gr10 S L (i + 1) (s + ((L i).size : Int)) := by
  have h1 := h.lo
  have h2 := h.hi
  refine ⟨by omega, by have : ((i + 1 : Nat) : Int) = (i : Int) + 1 := by omega
                       rw [this]; omega, fun j hj => ?_⟩
  by_cases e : j = i
  · subst e; omega
  · have := h.all j (by omega); omega
set_option maxRecDepth 100000 in
set_option maxHeartbeats 4000000 in
theorem great10_few (x : ByteArray) (p0 : Option Addr) (n c0 : Nat) (L : Nat → ByteArray) (w : World) (hx : x.size ≤ 281474976710656) (h0 : n ≤ 200)
    (hE : ∀ i, i < n → ∃ b o, p0 = some ⟨b, o, none⟩ ∧ w.cell? ⟨b, o + i * 6 + 5, none⟩ = some (.string (L i)) ∧ (L i).size ≤ 281474976710656) :
    Calls Tryd.prog 27 #[.string x, .slice p0 n c0] w (GrIs10 x n L w) := by
  have HE := Lib.hid hE
  have HZ := Lib.hid (And.intro h0 hx)
  clear hE h0 hx
  go_enter Tryd.func27, Tryd.ntmps27
  go_wp2_with fail
  go_loopw [5, 6] (fun p q wr => ∃ (i : Nat) (s : Int), p = .int .i64 s ∧ q = .int .i64 (i : Int) ∧ i ≤ n ∧ SameB w wr ∧ Hid (Gr10 (x.size : Int) L i s)) (fun _ q _ => n - (RowKit.intOf q).toNat)
  case atStart => exact ⟨0, _, rfl, rfl, Nat.zero_le _, rfl, Lib.hid ⟨Int.le_refl _, by omega, fun j hj => (by cases hj)⟩⟩
  case round =>
    obtain ⟨i, s, rfl, rfl, hi, hw, HR⟩ := hrel
    obtain rfl : w = wr := hw
    have q1 := HR.out.lo
    have q2 := HR.out.hi
    have q3 := HZ.out
    by_cases hlt : i < n
    · obtain ⟨b, o, rfl, hc, hL⟩ := HE.out i hlt
      have HN := Lib.hid (HR.out.step (by omega) hL)
      have HL := Lib.hid hlt
      have i1 : (0 : Int) ≤ (i : Int) := Int.natCast_nonneg i
      have i2 : (i : Int) < (n : Int) := by omega
      have i4 : (i : Int) ≤ 200 := by omega
      have s1 : s + ((L i).size : Int) ≤ 281474976710656000 := by omega
      have s2 : 0 ≤ s := by omega
      generalize L i = m at *
      clear hlt q1 q2 q3 hi
      go_wp2_with fail
      go_roundw
      case rel => exact ⟨i + 1, _, rfl, by go_num, by have := HL.out; omega, rfl, HN⟩
      case measure => have := HL.out; simp [RowKit.intOf]; omega
    · have HX := Lib.hid (show (x.size : Int) ≤ s ∧ ∀ j, j < n → (((L j).size : Nat) : Int) ≤ s from ⟨q1, fun j hj => HR.out.all j (by omega)⟩)
      have ha : ¬ (i : Int) < (n : Int) := by omega
      clear HR q1 q2 hi hlt
      by_cases g1 : s > 70000
      · clear q3
        go_wp2_with fail
        go_ret
        exact ⟨true, rfl, rfl, fun h => by cases h⟩
      · have HF := Lib.hid (show s ≤ 70000 by omega)
        have g2 : ¬ (n : Int) > 200 := by omega
        clear q3
        go_wp2_with fail
        go_ret
        exact ⟨false, rfl, rfl, fun _ => ⟨by have := HF.out; have := HX.out.1; omega, HZ.out.1, fun j hj => by have := HF.out; have := HX.out.2 j hj; omega⟩⟩
set_option maxRecDepth 100000 in
set_option maxHeartbeats 4000000 in
theorem great10_many (x : ByteArray) (p0 : Option Addr) (n c0 : Nat) (L : Nat → ByteArray) (w : World) (hx : x.size ≤ 281474976710656) (h0 : ¬ n ≤ 200) (hn : n ≤ 1000000000000000)
    (hE : ∀ i, i < n → ∃ b o, p0 = some ⟨b, o, none⟩ ∧ w.cell? ⟨b, o + i * 6 + 5, none⟩ = some (.string (L i)) ∧ (L i).size ≤ 281474976710656) :
    Calls Tryd.prog 27 #[.string x, .slice p0 n c0] w (GrIs10 x n L w) := by
  have HE := Lib.hid hE
  have HZ := Lib.hid (And.intro h0 hn)
  clear hE h0 hn
  go_enter Tryd.func27, Tryd.ntmps27
  go_wp2_with fail
  clear hx
  go_loopw [5, 6] (fun p q wr => ∃ (i : Nat) (s : Int), p = .int .i64 s ∧ q = .int .i64 (i : Int) ∧ i ≤ n ∧ SameB w wr) (fun _ q _ => n - (RowKit.intOf q).toNat)
  case atStart => exact ⟨0, _, rfl, rfl, Nat.zero_le _, rfl⟩
  case round =>
    obtain ⟨i, s, rfl, rfl, hi, hw⟩ := hrel
    obtain rfl : w = wr := hw
    have q3 := HZ.out
    by_cases hlt : i < n
    · obtain ⟨b, o, rfl, hc, hL⟩ := HE.out i hlt
      have HL := Lib.hid hlt
      have i1 : (0 : Int) ≤ (i : Int) := Int.natCast_nonneg i
      have i2 : (i : Int) < (n : Int) := by omega
      have i4 : (i : Int) ≤ 1000000000000000 := by omega
      generalize L i = m at *
      clear hlt q3 hi
      go_wp2_with fail
      go_roundw
      case rel => exact ⟨i + 1, _, rfl, by go_num, by have := HL.out; omega, rfl⟩
      case measure => have := HL.out; simp [RowKit.intOf]; omega
    · have ha : ¬ (i : Int) < (n : Int) := by omega
      have g2 : (n : Int) > 200 := by omega
      clear hi hlt q3
      by_cases g1 : s > 70000
      all_goals
        go_wp2_with fail
        go_ret
        exact ⟨true, rfl, rfl, fun h => by cases h⟩
theorem great10_any (x : ByteArray) (p0 : Option Addr) (n c0 : Nat) (L : Nat → ByteArray) (w : World) (hx : x.size ≤ 281474976710656) (hn : n ≤ 1000000000000000)
    (hE : ∀ i, i < n → ∃ b o, p0 = some ⟨b, o, none⟩ ∧ w.cell? ⟨b, o + i * 6 + 5, none⟩ = some (.string (L i)) ∧ (L i).size ≤ 281474976710656) :
    Calls Tryd.prog 27 #[.string x, .slice p0 n c0] w (GrIs10 x n L w) := by
  by_cases h0 : n ≤ 200
  · exact great10_few x p0 n c0 L w hx h0 hE
  · exact great10_many x p0 n c0 L w hx h0 hn hE
end Go.Proofs.YtjeopabnddekgaaDoor
