/- The chapter's rows hold: awake answers true. Conditions: the library's tables. -/
import Derived.Test.YtjeopabnddekgaaDoorME37
import Derived.Test.YtjeopabnddekgaaDoorME36
import Derived.ProofKit
import Derived.OpenShut
import Derived.DataReads
import Derived.SizedLaws
import Derived.Carry
import Derived.Lib.SmallJoins
namespace Go.Proofs.YtjeopabnddekgaaDoor
open Go Go.RowKit Go.Lib

def awS : ByteArray := ⟨#[97, 98, 13, 10, 99, 240, 159, 152, 128, 13]⟩
theorem aw_new : newE awS = 0 := by decide +kernel
theorem aw_u : (R.cn awS).u = 8 := by decide +kernel
theorem aw_k : (R.cn awS).k = 2 := by decide +kernel
theorem aw_spE : spE awS 2 4 ⟨#[120]⟩ = 0 := by decide +kernel
theorem aw_spk : (R.cn (spT awS 2 4 ⟨#[120]⟩)).k = 1 := by decide +kernel
theorem aw_start (t : R.T) (ht : t.Fit) (hx : t.tx = awS) : R.startV t 2 = (10, true) := by
  rw [R.start_spec t ht, hx]; decide +kernel
theorem aw_off (t : R.T) (ht : t.Fit) (hx : t.tx = awS) : R.offV t 1 2 = 5 := by
  have hc : R.conV t (max 1 0) = (4, 9, true) := (R.con_spec t ht 1).trans (by rw [hx]; decide +kernel)
  unfold R.offV R.chV
  rw [hc, R.cut_spec t ht, hx]
  decide +kernel
theorem aw_size : awS.size ≤ 1000000000 := by decide
set_option maxHeartbeats 4000000 in
set_option maxRecDepth 100000 in
theorem awake9_any (w : World) (hT : Tabs w) : Calls Tryd.prog 24 #[] w (BoolIs true w) := by
  have HN := Lib.hid (new_any awS w (by decide) hT)
  rw [aw_new] at HN
  have HF := Lib.hid (fun (t : R.T) (hx : t.tx = awS) (v : Value) (W : World) (h : RopeAt W v t) => (show
      Calls Tryd.prog 18 #[v, .int .i64 2] W (fun e w' => e = .returned (.tuple #[.int .i64 10, .bool true]) ∧ Below W.heap.size W w') ∧
      Calls Tryd.prog 42 #[v] W (fun e w' => e = .returned (.int .i64 8) ∧ Below W.heap.size W w') ∧
      Calls Tryd.prog 26 #[v] W (fun e w' => e = .returned (.int .i64 2) ∧ Below W.heap.size W w') ∧
      Calls Tryd.prog 20 #[v, .agg #[.int .i64 1, .int .i64 2]] W (fun e w' => e = .returned (.int .i64 5) ∧ Below W.heap.size W w') from by
    have hs : t.tx.size ≤ 1000000000 := by rw [hx]; exact aw_size
    have hf : t.Fit := by obtain ⟨b, rv, rfl, hb, hn, ht⟩ := h; exact ht
    refine ⟨?_, ?_, ?_, ?_⟩
    · have k := start_any 2 v t W h hs ⟨by decide, by decide⟩
      rw [aw_start t hf hx] at k; exact k
    · have k := unitsR_any v t W h
      rw [hx, aw_u] at k; exact k
    · have k := breaks_any v t W h
      rw [hx, aw_k] at k; exact k
    · have k := offset_any 1 2 v t W h hs ⟨by decide, by decide⟩ ⟨by decide, by decide⟩
      rw [aw_off t hf hx] at k; exact k))
  have HP := Lib.hid (fun (t : R.T) (hx : t.tx = awS) (v : Value) (W : World) (h : RopeAt W v t) (hB : Below w.heap.size w W) => (show
      Calls Tryd.prog 13 #[v, .int .i64 2, .int .i64 4, .string ⟨#[120]⟩] W (NewR 0 (spT awS 2 4 ⟨#[120]⟩) W) from by
    have k := splice_any v t 2 4 ⟨#[120]⟩ W h (by rw [hx]; exact aw_size) (by decide) ⟨by decide, by decide⟩ ⟨by decide, by decide⟩ (tabs_below hT hB)
    rw [hx, aw_spE] at k; exact k))
  have HQ := Lib.hid (fun (t : R.T) (hx : t.tx = spT awS 2 4 ⟨#[120]⟩) (v : Value) (W : World) (h : RopeAt W v t) => (show
      Calls Tryd.prog 26 #[v] W (fun e w' => e = .returned (.int .i64 1) ∧ Below W.heap.size W w') from by
    have k := breaks_any v t W h
    rw [hx, aw_spk] at k; exact k))
  clear hT
  go_enter Tryd.func24, Tryd.ntmps24
  go_wp2_with fail
  refine HN.out.mono ?_
  rintro e w1 ⟨v, rfl, hB, hr⟩
  have H1 := Lib.hid hB
  clear hB HN
  rcases hr with ⟨_, t, hr, hx⟩ | ⟨hno, _⟩
  rotate_left
  · exact absurd rfl hno
  have HR1 := Lib.hid hr
  obtain ⟨b, rv, rfl, hb, hn, hft⟩ := hr
  clear hb hn hft
  have HX := Lib.hid hx
  clear hx
  go_wp2_with fail
  refine (HF.out t HX.out _ _ HR1.out).1.mono ?_
  rintro e w2 ⟨rfl, hB⟩
  have H2 := Lib.hid (H1.out.trans (hB.mono H1.out.size))
  have HR2 := Lib.hid (HR1.out.below hB)
  clear hB
  go_wp2_with fail
  refine (HP.out t HX.out _ _ HR2.out H2.out).mono ?_
  rintro e w3 ⟨v3, rfl, hB, hr⟩
  have H3 := Lib.hid (H2.out.trans (hB.mono H2.out.size))
  have HR3 := Lib.hid (HR2.out.below hB)
  clear hB
  rcases hr with ⟨_, t3, hr, hx⟩ | ⟨hno, _⟩
  rotate_left
  · exact absurd rfl hno
  have HS3 := Lib.hid hr
  obtain ⟨b3, rv3, rfl, hb, hn, hft⟩ := hr
  clear hb hn hft
  have HX3 := Lib.hid hx
  clear hx
  go_wp2_with fail
  refine (HF.out t HX.out _ _ HR3.out).2.1.mono ?_
  rintro e w4 ⟨rfl, hB⟩
  have H4 := Lib.hid (H3.out.trans (hB.mono H3.out.size))
  have HR4 := Lib.hid (HR3.out.below hB)
  have HS4 := Lib.hid (HS3.out.below hB)
  clear hB
  go_wp2_with fail
  refine (HF.out t HX.out _ _ HR4.out).2.2.1.mono ?_
  rintro e w5 ⟨rfl, hB⟩
  have H5 := Lib.hid (H4.out.trans (hB.mono H4.out.size))
  have HR5 := Lib.hid (HR4.out.below hB)
  have HS5 := Lib.hid (HS4.out.below hB)
  clear hB
  go_wp2_with fail
  refine (HF.out t HX.out _ _ HR5.out).2.2.2.mono ?_
  rintro e w6 ⟨rfl, hB⟩
  have H6 := Lib.hid (H5.out.trans (hB.mono H5.out.size))
  have HS6 := Lib.hid (HS5.out.below hB)
  clear hB
  go_wp2_with fail
  refine (HQ.out t3 HX3.out _ _ HS6.out).mono ?_
  rintro e w7 ⟨rfl, hB⟩
  have H7 := Lib.hid (H6.out.trans (hB.mono H6.out.size))
  clear hB
  go_wp2_with fail
  go_ret
  exact ⟨rfl, H7.out⟩
end Go.Proofs.YtjeopabnddekgaaDoor

namespace Go.Proofs.YtjeopabnddekgaaDoor
open Go Go.RowKit Go.Lib

/-- what is known where there is not too much -/
def Few9 (x : ByteArray) (n : Nat) (L : Nat → ByteArray) : Prop := x.size ≤ 70000 ∧ n ≤ 60 ∧ ∀ j, j < n → (L j).size ≤ 70000
def GrIs9 (x : ByteArray) (n : Nat) (L : Nat → ByteArray) (w : World) (e : Ending) (w' : World) : Prop := ∃ ok : Bool, e = .returned (.bool ok) ∧ w' = w ∧ (ok = false → Few9 x n L)
/-- so far -/
structure Gr9 (S : Int) (L : Nat → ByteArray) (i : Nat) (s : Int) : Prop where
  lo : S ≤ s
  hi : s ≤ S + 281474976710656 * (i : Int)
  all : ∀ j, j < i → (((L j).size : Nat) : Int) ≤ s
theorem Gr9.step {S : Int} {L : Nat → ByteArray} {i : Nat} {s : Int} (h : Gr9 S L i s) (hS : 0 ≤ S) (hL : (L i).size ≤ 281474976710656) : Gr9 S L (i + 1) (s + ((L i).size : Int)) := by
  have h1 := h.lo
  have h2 := h.hi
  refine ⟨by omega, by have : ((i + 1 : Nat) : Int) = (i : Int) + 1 := by omega
                       rw [this]; omega, fun j hj => ?_⟩
  by_cases e : j = i
  · subst e; omega
  · have := h.all j (by omega); omega
def SameB (w w' : World) : Prop := w = w'
set_option maxRecDepth 100000 in
set_option maxHeartbeats 4000000 in
theorem great_few (x : ByteArray) (p0 : Option Addr) (n c0 : Nat) (L : Nat → ByteArray) (w : World) (hx : x.size ≤ 281474976710656) (h0 : n ≤ 60)
    (hE : ∀ i, i < n → ∃ b o, p0 = some ⟨b, o, none⟩ ∧ w.cell? ⟨b, o + i * 3 + 2, none⟩ = some (.string (L i)) ∧ (L i).size ≤ 281474976710656) :
    Calls Tryd.prog 10 #[.string x, .slice p0 n c0] w (GrIs9 x n L w) := by
  have HE := Lib.hid hE
  have HZ := Lib.hid (And.intro h0 hx)
  clear hE h0 hx
  go_enter Tryd.func10, Tryd.ntmps10
  go_wp2_with fail
  go_loopw [5, 6] (fun p q wr => ∃ (i : Nat) (s : Int), p = .int .i64 s ∧ q = .int .i64 (i : Int) ∧ i ≤ n ∧ SameB w wr ∧ Hid (Gr9 (x.size : Int) L i s)) (fun _ q _ => n - (RowKit.intOf q).toNat)
  case atStart => exact ⟨0, _, rfl, rfl, Nat.zero_le _, rfl, Lib.hid ⟨Int.le_refl _, by omega, fun j hj => (by cases hj)⟩⟩
  case round =>
    obtain ⟨i, s, rfl, rfl, hi, hw, HR⟩ := hrel
    obtain rfl : w = wr := hw
    have q1 := HR.out.lo
    have q2 := HR.out.hi
    have q3 := HZ.out
    by_cases hlt : i < n
    · obtain ⟨b, o, rfl, hc, hL⟩ := HE.out i hlt
      have HN := Lib.hid (HR.out.step (by omega) hL)
      have HL := Lib.hid hlt
      have i1 : (0 : Int) ≤ (i : Int) := Int.natCast_nonneg i
      have i2 : (i : Int) < (n : Int) := by omega
      have i4 : (i : Int) ≤ 60 := by omega
      have s1 : s + ((L i).size : Int) ≤ 281474976710656000 := by omega
      have s2 : 0 ≤ s := by omega
      generalize L i = m at *
      clear hlt q1 q2 q3 hi
      go_wp2_with fail
      go_roundw
      case rel => exact ⟨i + 1, _, rfl, by go_num, by have := HL.out; omega, rfl, HN⟩
      case measure => have := HL.out; simp [RowKit.intOf]; omega
    · have HX := Lib.hid (show (x.size : Int) ≤ s ∧ ∀ j, j < n → (((L j).size : Nat) : Int) ≤ s from ⟨q1, fun j hj => HR.out.all j (by omega)⟩)
      have ha : ¬ (i : Int) < (n : Int) := by omega
      clear HR q1 q2 hi hlt
      by_cases g1 : s > 70000
      · clear q3
        go_wp2_with fail
        go_ret
        exact ⟨true, rfl, rfl, fun h => by cases h⟩
      · have HF := Lib.hid (show s ≤ 70000 by omega)
        have g2 : ¬ (n : Int) > 60 := by omega
        clear q3
        go_wp2_with fail
        go_ret
        exact ⟨false, rfl, rfl, fun _ => ⟨by have := HF.out; have := HX.out.1; omega, HZ.out.1, fun j hj => by have := HF.out; have := HX.out.2 j hj; omega⟩⟩
set_option maxRecDepth 100000 in
set_option maxHeartbeats 4000000 in
theorem great_many (x : ByteArray) (p0 : Option Addr) (n c0 : Nat) (L : Nat → ByteArray) (w : World) (hx : x.size ≤ 281474976710656) (h0 : ¬ n ≤ 60) (hn : n ≤ 1000000000000000)
    (hE : ∀ i, i < n → ∃ b o, p0 = some ⟨b, o, none⟩ ∧ w.cell? ⟨b, o + i * 3 + 2, none⟩ = some (.string (L i)) ∧ (L i).size ≤ 281474976710656) :
    Calls Tryd.prog 10 #[.string x, .slice p0 n c0] w (GrIs9 x n L w) := by
  have HE := Lib.hid hE
  have HZ := Lib.hid (And.intro h0 hn)
  clear hE h0 hn
  go_enter Tryd.func10, Tryd.ntmps10
  go_wp2_with fail
  clear hx
  go_loopw [5, 6] (fun p q wr => ∃ (i : Nat) (s : Int), p = .int .i64 s ∧ q = .int .i64 (i : Int) ∧ i ≤ n ∧ SameB w wr) (fun _ q _ => n - (RowKit.intOf q).toNat)
  case atStart => exact ⟨0, _, rfl, rfl, Nat.zero_le _, rfl⟩
  case round =>
    obtain ⟨i, s, rfl, rfl, hi, hw⟩ := hrel
    obtain rfl : w = wr := hw
    have q3 := HZ.out
    by_cases hlt : i < n
    · obtain ⟨b, o, rfl, hc, hL⟩ := HE.out i hlt
      have HL := Lib.hid hlt
      have i1 : (0 : Int) ≤ (i : Int) := Int.natCast_nonneg i
      have i2 : (i : Int) < (n : Int) := by omega
      have i4 : (i : Int) ≤ 1000000000000000 := by omega
      generalize L i = m at *
      clear hlt q3 hi
      go_wp2_with fail
      go_roundw
      case rel => exact ⟨i + 1, _, rfl, by go_num, by have := HL.out; omega, rfl⟩
      case measure => have := HL.out; simp [RowKit.intOf]; omega
    · have ha : ¬ (i : Int) < (n : Int) := by omega
      have g2 : (n : Int) > 60 := by omega
      clear hi hlt q3
      by_cases g1 : s > 70000
      all_goals
        go_wp2_with fail
        go_ret
        exact ⟨true, rfl, rfl, fun h => by cases h⟩
theorem great9_any (x : ByteArray) (p0 : Option Addr) (n c0 : Nat) (L : Nat → ByteArray) (w : World) (hx : x.size ≤ 281474976710656) (hn : n ≤ 1000000000000000)
    (hE : ∀ i, i < n → ∃ b o, p0 = some ⟨b, o, none⟩ ∧ w.cell? ⟨b, o + i * 3 + 2, none⟩ = some (.string (L i)) ∧ (L i).size ≤ 281474976710656) :
    Calls Tryd.prog 10 #[.string x, .slice p0 n c0] w (GrIs9 x n L w) := by
  by_cases h0 : n ≤ 60
  · exact great_few x p0 n c0 L w hx h0 hE
  · exact great_many x p0 n c0 L w hx h0 hn hE
end Go.Proofs.YtjeopabnddekgaaDoor

namespace Go.Proofs.YtjeopabnddekgaaDoor
open Go Go.ChangeShapes Go.WideShapes Go.ChangeAt Go.RowKit Go.Joins

/-- a splice -/
structure OpE where
  f : Int
  k : Int
  s : ByteArray
def OpOk (e : OpE) : Prop := I64 e.f ∧ I64 e.k ∧ e.s.size ≤ 281474976710656
def OReach (ns : List Nat) : Prop := ∀ n ∈ ns, n ≤ reachBytes
/-- a slice reads as these splices -/
def ArgOp (W : World) (v : Value) (l : List OpE) : Prop := ∃ z cap, v = .slice z l.length cap ∧ l.length ≤ cap ∧ cap ≤ 1000000000000000 ∧ (∀ j e, l[j]? = some e → ∃ b o, z = some ⟨b, o, none⟩ ∧ b < W.heap.size ∧ W.cell? ⟨b, o + j * 3, none⟩ = some (.int .i64 e.f) ∧ W.cell? ⟨b, o + j * 3 + 1, none⟩ = some (.int .i64 e.k) ∧ W.cell? ⟨b, o + j * 3 + 2, none⟩ = some (.string e.s)) ∧ ∀ e ∈ l, OpOk e
theorem ArgOp.below {W W' : World} {v : Value} {l : List OpE} (h : ArgOp W v l) (hB : Below W.heap.size W W') : ArgOp W' v l := by
  obtain ⟨z, cap, rfl, h1, h2, h3, h4⟩ := h
  refine ⟨z, cap, rfl, h1, h2, fun j e hj => ?_, h4⟩
  obtain ⟨b, o, hz, hb, c0, c1, c2⟩ := h3 j e hj
  exact ⟨b, o, hz, Nat.lt_of_lt_of_le hb hB.size, (hB.cell (p := ⟨b, _, none⟩) hb).trans c0, (hB.cell (p := ⟨b, _, none⟩) hb).trans c1, (hB.cell (p := ⟨b, _, none⟩) hb).trans c2⟩
theorem cellsInt9 : Tryd.prog.cellsOf 3 = 1 := by kernel_rfl
theorem cellsString9 : Tryd.prog.cellsOf 9 = 1 := by kernel_rfl
theorem cellsOp : Tryd.prog.cellsOf 34 = 3 := by kernel_rfl
theorem bytesOp : Tryd.prog.bytesOf 34 = 32 := by kernel_rfl
section
variable {H : Type} {enc : TypeId × Value → H} {W : World} {base : Nat} {v : Value} {d : DataW H} {p : List MemPlace} {spare : Nat → Bool}
theorem int9_is {fuel : Nat} {cs : List Value} {x : DataW H × List MemPlace} (h : DataW.trod enc Tryd.prog W 0 spare true fuel 3 cs = some x) : ∃ n : Int, cs = [.int .i64 n] ∧ I64 n := by
  obtain ⟨k, rfl, _, hwf⟩ := DataW.trod_int Tryd.underlying3 h
  exact ⟨k, rfl, bounds_i64 hwf⟩
theorem string9_is {fuel : Nat} {cs : List Value} {x : DataW H × List MemPlace} (h : DataW.trod enc Tryd.prog W 0 spare true fuel 9 cs = some x) (w1 : OReach (x.1.weights Tryd.prog 9)) : ∃ s : ByteArray, cs = [.string s] ∧ s.size ≤ 281474976710656 := by
  obtain ⟨s, rfl, rfl, hs⟩ := DataW.trod_string Tryd.underlying9 h
  refine ⟨s, rfl, ?_⟩
  have := w1 s.data.toList.length (by unfold DataW.weights; exact List.mem_singleton_self _)
  rw [Array.length_toList] at this
  exact Nat.le_trans this (by decide)
theorem weights9_mem {P : Program} {e : TypeId} : ∀ {ds : List (DataW H)} {i : Nat} {d : DataW H}, ds[i]? = some d → ∀ n ∈ d.weights P e, n ∈ DataW.weightsAll P e ds
  | [], _, _, h => by simp at h
  | d' :: r, 0, d, h => by
    simp at h; subst h
    intro n hn
    unfold DataW.weightsAll
    exact List.mem_append_left _ hn
  | d' :: r, i + 1, d, h => by
    intro n hn
    unfold DataW.weightsAll
    exact List.mem_append_right _ (weights9_mem (by simpa using h) n hn)
theorem part9_reach {t : TypeId} {fs : Array Field} {xs : List (DataW H × List MemPlace)} (ht : Tryd.prog.underlying t = some (.struct fs)) (hw : OReach ((DataW.agg (xs.map (·.1))).weights Tryd.prog t)) {j : Nat} {f : Field} {x : DataW H × List MemPlace} (hf : fs[j]? = some f) (hx : xs[j]? = some x) : OReach (x.1.weights Tryd.prog f.type) := fun n hn => by
  refine hw n ?_
  unfold DataW.weights
  rw [ht]
  exact DataW.weights_mem_each (j := j) (t := f.type) (d := x.1) (by simp [hf]) (by simp [hx]) n hn
theorem three9 {α : Type} {l : List α} (h : l.length = 3) : ∃ a b c, l = [a, b, c] := by
  match l, h with
  | [a, b, c], _ => exact ⟨a, b, c, rfl⟩
theorem op_is {fuel : Nat} {cs : List Value} {x : DataW H × List MemPlace} (h : DataW.trod enc Tryd.prog W 0 spare true fuel 34 cs = some x) (hw : OReach (x.1.weights Tryd.prog 34)) : ∃ e : OpE, cs = [.int .i64 e.f, .int .i64 e.k, .string e.s] ∧ OpOk e := by
  obtain ⟨xs, n, rfl, rfl, hl, hxl, hp⟩ := DataW.trod_struct Tryd.underlying34 h
  rw [cellsOp] at hl
  obtain ⟨c0, c1, c2, rfl⟩ := three9 hl
  have hxl : xs.length = 3 := hxl
  obtain ⟨x0, x1, x2, rfl⟩ := three9 hxl
  have h0 := hp 0 _ rfl
  have h1 := hp 1 _ rfl
  have h2 := hp 2 _ rfl
  have w2 := part9_reach Tryd.underlying34 hw (j := 2) (x := x2) rfl rfl
  change DataW.trod enc Tryd.prog W 0 spare true n 3 (List.take (Tryd.prog.cellsOf 3) (List.drop 0 [c0, c1, c2])) = some x0 at h0
  change DataW.trod enc Tryd.prog W 0 spare true n 3 (List.take (Tryd.prog.cellsOf 3) (List.drop 1 [c0, c1, c2])) = some x1 at h1
  change DataW.trod enc Tryd.prog W 0 spare true n 9 (List.take (Tryd.prog.cellsOf 9) (List.drop 2 [c0, c1, c2])) = some x2 at h2
  change OReach (x2.1.weights Tryd.prog 9) at w2
  rw [cellsInt9] at h0 h1
  rw [cellsString9] at h2
  obtain ⟨a, e0, ha⟩ := int9_is h0
  obtain ⟨b, e1, hb⟩ := int9_is h1
  obtain ⟨c, e2, hc⟩ := string9_is h2 w2
  simp at e0 e1 e2
  subst e0 e1 e2
  exact ⟨⟨a, b, c⟩, rfl, ha, hb, hc⟩
set_option maxRecDepth 100000 in
theorem slice3_open {t e : TypeId} {Is : List Value → Prop} (ht : Tryd.prog.underlying t = some (.slice e)) (hz : Tryd.prog.cellsOf e = 3) (hby : 1 ≤ Tryd.prog.bytesOf e) (hval : Value.okWide Tryd.prog W .any base t v) (h : DataW.Trod enc Tryd.prog W 0 (fun _ => true) true t v d p)
    (hw : OReach (d.weights Tryd.prog t)) (his : ∀ n cs y, DataW.trod enc Tryd.prog W 0 (fun _ => true) true n e cs = some y → OReach (y.1.weights Tryd.prog e) → Is cs) :
    ∃ (z : Option Addr) (len cap : Nat), v = .slice z len cap ∧ len ≤ cap ∧ cap ≤ 1000000000000000 ∧ ∀ i, i < len → ∃ g off cs, z = some ⟨g, off, none⟩ ∧ cs.length = 3 ∧ (∀ k u, cs[k]? = some u → W.cell? ⟨g, off + i * 3 + k, none⟩ = some u) ∧ Is cs := by
  obtain ⟨z, len, cap, rfl⟩ := okWide_slice ht hval
  obtain ⟨fuel, hf⟩ := h
  refine ⟨z, len, cap, rfl, ?_⟩
  rcases DataW.trod_slice ht hf with ⟨h0, _⟩ | ⟨a, l, c, elems, rest, n, hn, h0, hx, _, hl, hm, hlen, hel, hsp, _⟩
  · simp [Value.cells] at h0
    obtain ⟨rfl, rfl, rfl⟩ := h0
    exact ⟨Nat.le_refl _, Nat.zero_le _, fun i hi => by omega⟩
  · simp [Value.cells] at h0
    obtain ⟨rfl, rfl, rfl⟩ := h0
    have hd : d = .slice (elems.map (·.1)) (rest.map (·.1)) := (Prod.mk.inj hx).1
    have hw0 : (elems.length + rest.length) * Tryd.prog.bytesOf e ≤ reachBytes := hw _ (by
      rw [hd]
      unfold DataW.weights
      rw [ht]
      simp)
    have hrl := (hsp rfl).1
    have hcap : cap ≤ 1000000000000000 := by
      have h1 : (elems.length + rest.length) * 1 ≤ (elems.length + rest.length) * Tryd.prog.bytesOf e := Nat.mul_le_mul_left _ hby
      have h2 := Nat.le_trans h1 hw0
      unfold reachBytes at h2
      omega
    refine ⟨hl, hcap, fun i hi => ?_⟩
    have he := hel i hi
    rw [hz] at he
    obtain ⟨y, hy⟩ : ∃ y, elems[i]? = some y := ⟨_, List.getElem?_eq_getElem (by omega)⟩
    rw [hy] at he
    obtain ⟨cs, h1, h2⟩ := Option.bind_eq_some_iff.1 he
    obtain ⟨_, hlen3, h3⟩ := World.cells?_some h1
    have hspot : a.spot = none := by
      have he0 := hel 0 (by omega)
      rw [hz, Nat.zero_mul] at he0
      obtain ⟨y0, hy0⟩ : ∃ y, elems[0]? = some y := ⟨_, List.getElem?_eq_getElem (by omega)⟩
      rw [hy0] at he0
      obtain ⟨cs0, g1, _⟩ := Option.bind_eq_some_iff.1 he0
      have g3 := World.cells?_some g1
      have h4 := g3.2.2 0 (by omega)
      have e0 : (a.add 0).add 0 = a := by unfold Addr.add; simp
      obtain ⟨c0, hc0⟩ : ∃ c0, cs0[0]? = some c0 := ⟨_, List.getElem?_eq_getElem (by have := g3.2.1; omega)⟩
      rw [hc0, e0] at h4
      unfold World.cell? at h4
      split at h4
      · split at h4
        · cases h4
        · rename_i hs
          simpa using hs
      · cases h4
    refine ⟨a.block, a.off, cs, ?_, hlen3, fun k u hu => ?_, his _ _ _ h2 (fun m hm => hw m (by
      rw [hd]
      unfold DataW.weights
      rw [ht]
      refine List.mem_cons_of_mem _ (List.mem_append_left _ (weights9_mem (i := i) (d := y.1) (by simp [hy]) m hm))))⟩
    · cases a with | mk b o s => (cases hspot; rfl)
    · have hk := (List.getElem?_eq_some_iff.1 hu).1
      have h5 := h3 k (by omega)
      have ea : (a.add (i * 3)).add k = ⟨a.block, a.off + i * 3 + k, none⟩ := by
        cases a with | mk b o s => (cases hspot; unfold Addr.add; by_cases hi0 : i * 3 = 0 <;> by_cases hk0 : k = 0 <;> simp [hi0, hk0])
      rw [ea, hu] at h5
      exact h5
theorem rows3 {z : Option Addr} : ∀ (len : Nat), (∀ i, i < len → ∃ g off cs, z = some ⟨g, off, none⟩ ∧ cs.length = 3 ∧ (∀ k u, cs[k]? = some u → W.cell? ⟨g, off + i * 3 + k, none⟩ = some u) ∧ ∃ e : OpE, cs = [.int .i64 e.f, .int .i64 e.k, .string e.s] ∧ OpOk e) →
    ∃ l : List OpE, l.length = len ∧ (∀ j e, l[j]? = some e → ∃ b o, z = some ⟨b, o, none⟩ ∧ b < W.heap.size ∧ W.cell? ⟨b, o + j * 3, none⟩ = some (.int .i64 e.f) ∧ W.cell? ⟨b, o + j * 3 + 1, none⟩ = some (.int .i64 e.k) ∧ W.cell? ⟨b, o + j * 3 + 2, none⟩ = some (.string e.s)) ∧ ∀ e ∈ l, OpOk e
  | 0, _ => ⟨[], rfl, fun j x h => by simp at h, fun x h => by simp at h⟩
  | n + 1, h => by
    obtain ⟨l, hl, hr, hq⟩ := rows3 n (fun i hi => h i (by omega))
    obtain ⟨g, off, cs, hz, _, hc, x, rfl, hx⟩ := h n (by omega)
    refine ⟨l ++ [x], by simp [hl], fun j y hj => ?_, fun y hy => ?_⟩
    · by_cases hjn : j < n
      · rw [List.getElem?_append_left (by omega)] at hj; exact hr j y hj
      · have hlt := (List.getElem?_eq_some_iff.1 hj).1
        simp only [List.length_append, List.length_singleton] at hlt
        obtain rfl : j = n := by omega
        rw [List.getElem?_append_right (by omega), hl, Nat.sub_self] at hj
        obtain rfl : x = y := by simpa using hj
        have c0 := hc 0 _ rfl
        exact ⟨g, off, hz, World.block_lt_of_cell? W _ c0, c0, hc 1 _ rfl, hc 2 _ rfl⟩
    · rcases List.mem_append.1 hy with hy | hy
      · exact hq y hy
      · rw [List.mem_singleton.1 hy]; exact hx
set_option maxRecDepth 100000 in
theorem openOps (hval : Value.okWide Tryd.prog W .any base 22 v) (h : DataW.Trod enc Tryd.prog W 0 (fun _ => true) true 22 v d p) (hw : OReach (d.weights Tryd.prog 22)) : ∃ l, ArgOp W v l := by
  obtain ⟨z, len, cap, rfl, h1, h2, h3⟩ := slice3_open (Is := fun cs => ∃ e : OpE, cs = [.int .i64 e.f, .int .i64 e.k, .string e.s] ∧ OpOk e) Tryd.underlying22 cellsOp (by rw [bytesOp]; decide) hval h hw (fun n cs y hy hr => op_is hy hr)
  obtain ⟨l, rfl, hr, hq⟩ := rows3 len h3
  exact ⟨l, z, cap, rfl, h1, h2, hr, hq⟩
end
end Go.Proofs.YtjeopabnddekgaaDoor
