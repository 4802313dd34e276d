/- Is a field that number, that text, that place? Is a value the list of these numbers? The statements' own functions, walked where the answer is yes. Conditions: such as Go can hold; the library's tables. -/
import Derived.Test.YtbkciiogkgndiaaGreatDoorMB13
import Derived.Test.YtbkciiogkgndiaaGreatDoorMB14
import Derived.Test.YtbkciiogkgndiaaGreatDoorMB15
import Derived.Test.YtbkciiogkgndiaaGreatDoorMB36
import Derived.Test.YtbkciiogkgndiaaGreatDoorMB12
import Derived.Test.YtbkciiogkgndiaaGreatDoorMB02
import Derived.Test.YtbkciiogkgndiaaGreatDoorMB01
import Derived.Test.YtbkciiogkgndiaaGreatDoorProg
import Derived.ProofKit
import Derived.OpenShut
import Derived.SizedLaws
import Derived.DataReads
namespace Go.Proofs.YtbkciiogkgndiaaGreatDoor
open Go Go.RowKit Go.Lib

def TrueB (w : World) (e : Ending) (w' : World) : Prop := e = .returned (.bool true) ∧ Below w.heap.size w w'
theorem int_num {n : Int} (h : I64 n) (va ua : Value) (w : World) : Calls Tryz.prog 13 #[.agg #[.int .u8 3, .string ⟨(Lib.itoa n).toArray⟩, va, ua]] w (IntR (n, true) w) :=
  int_some ⟨(Lib.itoa n).toArray⟩ va ua n w (by have := Lib.itoa_length_le n h.1 h.2; show (Lib.itoa n).toArray.size ≤ _; simp; omega) (int_itoa n) (atoi_itoa n h.1 h.2)
set_option maxHeartbeats 1000000 in
set_option maxRecDepth 100000 in
theorem number8_any (k : Nat) (x : ByteArray) (va ua : Value) (l f : V.T) (A : Nat → Prop) (nm : ByteArray) (n : Int) (w : World) (hva : HS w A 0 va l) (hua : HS w A 1 ua f) (hg : V.got k f nm = some (3, ⟨(Lib.itoa n).toArray⟩, .nil, .nil)) (hn : I64 n) :
    Calls Tryz.prog 52 #[.agg #[.int .u8 k, .string x, va, ua], .string nm, .int .i64 n] w (TrueB w) := by
  have hB0 := (Below.refl w.heap.size w).alloc (Nat.le_refl _) (.cells #[.int .u8 k, .string x, va, ua] 25)
  have HGe := Lib.hid (get_any k x nm va ua l f A (w.alloc (.cells #[.int .u8 k, .string x, va, ua] 25)) (hva.below hB0) (hua.below hB0))
  rw [hg] at HGe
  have HIn := Lib.hid (fun va ua W => int_num hn va ua W)
  have HB0 := Lib.hid hB0
  obtain ⟨pa, ca, rfl, -⟩ := hva.len
  obtain ⟨qa, da, rfl, -⟩ := hua.len
  clear hva hua hg hB0 hn
  go_enter Tryz.func52, Tryz.ntmps52
  go_wp2_with fail
  refine HGe.out.mono ?_
  rintro e w1 ⟨v, u, rfl, hv, hu, -, -, hB⟩
  change HS w1 _ 0 v .nil at hv
  change HS w1 _ 1 u .nil at hu
  obtain ⟨p, c, rfl, -⟩ := hv.len
  obtain ⟨q, d, rfl, -⟩ := hu.len
  have B1 := Lib.hid (HB0.out.trans (hB.mono HB0.out.size))
  clear hv hu hB HGe
  simp only [V.res]
  go_wp2_with fail
  refine (HIn.out _ _ _).mono ?_
  rintro e w2 ⟨rfl, hB⟩
  have B2 := Lib.hid ((B1.out.alloc B1.out.size _).trans (hB.mono (by simp; have := B1.out.size; omega)))
  clear hB
  go_wp2_with fail
  go_ret
  exact ⟨rfl, B2.out⟩
set_option maxHeartbeats 1000000 in
set_option maxRecDepth 100000 in
theorem text8_any (k : Nat) (x : ByteArray) (va ua : Value) (l f : V.T) (A : Nat → Prop) (nm s : ByteArray) (w : World) (hva : HS w A 0 va l) (hua : HS w A 1 ua f) (hg : V.got k f nm = some (4, s, .nil, .nil)) :
    Calls Tryz.prog 50 #[.agg #[.int .u8 k, .string x, va, ua], .string nm, .string s] w (TrueB w) := by
  have hB0 := (Below.refl w.heap.size w).alloc (Nat.le_refl _) (.cells #[.int .u8 k, .string x, va, ua] 25)
  have HGe := Lib.hid (get_any k x nm va ua l f A (w.alloc (.cells #[.int .u8 k, .string x, va, ua] 25)) (hva.below hB0) (hua.below hB0))
  rw [hg] at HGe
  have HB0 := Lib.hid hB0
  obtain ⟨pa, ca, rfl, -⟩ := hva.len
  obtain ⟨qa, da, rfl, -⟩ := hua.len
  clear hva hua hg hB0
  go_enter Tryz.func50, Tryz.ntmps50
  go_wp2_with fail
  refine HGe.out.mono ?_
  rintro e w1 ⟨v, u, rfl, hv, hu, -, -, hB⟩
  change HS w1 _ 0 v .nil at hv
  change HS w1 _ 1 u .nil at hu
  obtain ⟨p, c, rfl, -⟩ := hv.len
  obtain ⟨q, d, rfl, -⟩ := hu.len
  have B1 := Lib.hid (HB0.out.trans (hB.mono HB0.out.size))
  clear hv hu hB HGe
  simp only [V.res]
  have B2 := Lib.hid (B1.out.alloc B1.out.size (.cells #[.int .u8 (4 : Nat), .string s, .slice p V.T.nil.len c, .slice q V.T.nil.len d] 25))
  go_wp2_with fail
  go_ret
  exact ⟨rfl, B2.out⟩
theorem got_line (a b : Int) : V.got 6 (posT a b) ⟨#[108, 105, 110, 101]⟩ = some (3, ⟨(Lib.itoa a).toArray⟩, .nil, .nil) := by
  unfold V.got posT
  rw [if_pos rfl]
  unfold V.T.find
  rw [if_pos rfl]
theorem got_char (a b : Int) : V.got 6 (posT a b) ⟨#[99, 104, 97, 114, 97, 99, 116, 101, 114]⟩ = some (3, ⟨(Lib.itoa b).toArray⟩, .nil, .nil) := by
  unfold V.got posT
  rw [if_pos rfl]
  unfold V.T.find
  rw [if_neg (by decide +kernel)]
  unfold V.T.find
  rw [if_pos rfl]
set_option maxHeartbeats 1000000 in
set_option maxRecDepth 100000 in
theorem place8_any (k : Nat) (x : ByteArray) (va ua : Value) (l f : V.T) (A : Nat → Prop) (nm : ByteArray) (a b : Int) (w : World) (hva : HS w A 0 va l) (hua : HS w A 1 ua f) (hg : V.got k f nm = some (6, ⟨#[]⟩, .nil, posT a b)) (ha : I64 a) (hb : I64 b) :
    Calls Tryz.prog 114 #[.agg #[.int .u8 k, .string x, va, ua], .string nm, .agg #[.int .i64 a, .int .i64 b]] w (TrueB w) := by
  have h2n := two_new w (.cells #[.int .u8 k, .string x, va, ua] 25) (.cells #[.int .i64 a, .int .i64 b] 61)
  have h2b := two_below w (.cells #[.int .u8 k, .string x, va, ua] 25) (.cells #[.int .i64 a, .int .i64 b] 61)
  have h2s := two_size w (.cells #[.int .u8 k, .string x, va, ua] 25) (.cells #[.int .i64 a, .int .i64 b] 61)
  have HGe := Lib.hid (get_any k x nm va ua l f A _ (hva.below h2b) (hua.below h2b))
  rw [hg] at HGe
  have HB0 := Lib.hid (And.intro h2b (And.intro h2n.2 h2s))
  have HV0 := Lib.hid (show Blk4 _ w.heap.size 25 (.int .u8 k) (.string x) va ua from h2n.1)
  have HN1 := Lib.hid (fun (W : World) (v u : Value) (A : Nat → Prop) (hv : HS W A 0 v .nil) (hu : HS W A 1 u (posT a b)) => number8_any 6 ⟨#[]⟩ v u .nil (posT a b) A ⟨#[108, 105, 110, 101]⟩ a W hv hu (got_line a b) ha)
  have HN2 := Lib.hid (fun (W : World) (v u : Value) (A : Nat → Prop) (hv : HS W A 0 v .nil) (hu : HS W A 1 u (posT a b)) => number8_any 6 ⟨#[]⟩ v u .nil (posT a b) A ⟨#[99, 104, 97, 114, 97, 99, 116, 101, 114]⟩ b W hv hu (got_char a b) hb)
  obtain ⟨pa, ca, rfl, -⟩ := hva.len
  obtain ⟨qa, da, rfl, -⟩ := hua.len
  clear hva hua hg h2n h2b h2s ha hb
  go_enter Tryz.func114, Tryz.ntmps114
  go_upto_region 1 with fail
  generalize (w.alloc (.cells #[.int .u8 k, .string x, .slice pa l.len ca, .slice qa f.len da] 25)).alloc (.cells #[.int .i64 a, .int .i64 b] 61) = W0 at *
  obtain ⟨z0, z1, z2, z3⟩ := HV0.out.box
  go_wp2_with fail
  refine HGe.out.mono ?_
  clear z0 z1 z2 z3
  rintro e w1 ⟨v, u, rfl, hv, hu, -, -, hB⟩
  change HS w1 _ 0 v .nil at hv
  change HS w1 _ 1 u (posT a b) at hu
  obtain ⟨p, c, rfl, -⟩ := hv.len
  obtain ⟨q, d, rfl, -⟩ := hu.len
  have b1 : w1.heap[w.heap.size + 1]? = some (.cells #[.int .i64 a, .int .i64 b] 61 (0, 0)) := (hB.block _ (by have := HB0.out.2.2; omega)).trans HB0.out.2.1
  have B1 := Lib.hid (HB0.out.1.trans (hB.mono (by have := HB0.out.2.2; omega)))
  have hBx := (Below.refl w1.heap.size w1).alloc (Nat.le_refl _) (.cells #[.int .u8 (6 : Nat), .string ⟨#[]⟩, .slice p V.T.nil.len c, .slice q (posT a b).len d] 25)
  have b2 := (hBx.block (w.heap.size + 1) (Array.getElem?_eq_some_iff.1 b1).1).trans b1
  have HV := Lib.hid (And.intro (hv.below hBx) (hu.below hBx))
  have B2 := Lib.hid (B1.out.trans (hBx.mono B1.out.size))
  have HC := Lib.hid b2
  have HX := Lib.hid (show Blk4 (w1.alloc (.cells #[.int .u8 (6 : Nat), .string ⟨#[]⟩, .slice p V.T.nil.len c, .slice q (posT a b).len d] 25)) w1.heap.size 25 (.int .u8 (6 : Nat)) (.string ⟨#[]⟩) (.slice p V.T.nil.len c) (.slice q (posT a b).len d) from heap_alloc_new _ _)
  have hlen : (posT a b).len = 2 := rfl
  clear hv hu hB HGe b1 hBx b2
  simp only [V.res]
  rw [hlen] at HV B2 HC HX ⊢
  have c0 := (cell_of_row _ _ 0 _ _ (0, 0) HC.out).trans rfl
  have c1 := (cell_of_row _ _ 1 _ _ (0, 0) HC.out).trans rfl
  go_upto_region 2 with fail
  generalize w1.alloc (.cells #[.int .u8 (6 : Nat), .string ⟨#[]⟩, .slice p V.T.nil.len c, .slice q 2 d] 25) = W2 at *
  obtain ⟨x0, x1, x2, x3⟩ := HX.out.box
  go_wp2_with fail
  refine (HN1.out W2 _ _ _ HV.out.1 HV.out.2).mono ?_
  rintro e w3 ⟨rfl, hB⟩
  have B3 := Lib.hid (B2.out.trans (hB.mono B2.out.size))
  have HC3 := Lib.hid ((hB.block _ (Array.getElem?_eq_some_iff.1 HC.out).1).trans HC.out)
  have HX3 := Lib.hid (HX.out.same (hB.block _ HX.out.lt))
  have HV3 := Lib.hid (And.intro (HV.out.1.below hB) (HV.out.2.below hB))
  clear c0 c1 x0 x1 x2 x3 hB HX HC HV
  have c0 := (cell_of_row _ _ 0 _ _ (0, 0) HC3.out).trans rfl
  have c1 := (cell_of_row _ _ 1 _ _ (0, 0) HC3.out).trans rfl
  obtain ⟨x0, x1, x2, x3⟩ := HX3.out.box
  go_wp2_with fail
  refine (HN2.out w3 _ _ _ HV3.out.1 HV3.out.2).mono ?_
  rintro e w4 ⟨rfl, hB⟩
  have B4 := Lib.hid (B3.out.trans (hB.mono B3.out.size))
  clear c0 c1 x0 x1 x2 x3 hB
  go_wp2_with fail
  go_ret
  exact ⟨rfl, B4.out⟩
end Go.Proofs.YtbkciiogkgndiaaGreatDoor

namespace Go.Proofs.YtbkciiogkgndiaaGreatDoor
open Go Go.RowKit Go.Lib

set_option maxHeartbeats 2000000 in
set_option maxRecDepth 100000 in
theorem tells8_any (va ua : Value) (li : List Int) (A : Nat → Prop) (v1 : Value) (w : World) (hva : HS w A 0 va (nmT li)) (hua : HS w A 1 ua .nil) (h1 : SrcI w v1 li) (hn : li.length ≤ 1000000) :
    Calls Tryz.prog 51 #[.agg #[.int .u8 5, .string ⟨#[]⟩, va, ua], v1] w (TrueB w) := by
  have hB0 := (Below.refl w.heap.size w).alloc (Nat.le_refl _) (.cells #[.int .u8 5, .string ⟨#[]⟩, va, ua] 25)
  have b0 : Blk4 (w.alloc (.cells #[.int .u8 5, .string ⟨#[]⟩, va, ua] 25)) w.heap.size 25 _ _ _ _ := heap_alloc_new _ _
  have hlen := nmT_len li
  have HIn := Lib.hid (fun (n : Int) (hn : I64 n) va ua W => int_num hn va ua W)
  have HEl : Hid (∀ i, i < li.length → ∃ n : Int, I64 n ∧ (nmT li).drop i = .cons ⟨#[]⟩ 3 ⟨(Lib.itoa n).toArray⟩ .nil .nil (nmT (li.drop (i + 1))) ∧ ∃ b o c, v1 = .slice (some ⟨b, o, none⟩) li.length c ∧ ∀ W, Below w.heap.size w W → W.cell? ⟨b, o + i, none⟩ = some (.int .i64 n)) := Lib.hid (fun i hi => by
    refine ⟨li[i], ?_, nmT_drop li i _ (List.getElem?_eq_getElem hi), ?_⟩
    · rcases h1 with ⟨rfl, _⟩ | ⟨b, o, c, _, _, _, _, _, h⟩
      · cases hi
      · exact h _ (List.getElem_mem hi)
    · rcases h1 with ⟨rfl, _⟩ | ⟨b, o, c, rfl, _, _, hb, h, _⟩
      · cases hi
      · exact ⟨b, o, c, rfl, fun W hB => (hB.cell (p := ⟨b, o + i, none⟩) hb).trans (h i _ (List.getElem?_eq_getElem hi))⟩)
  have hv1 : ∃ p1 c1, v1 = .slice p1 li.length c1 := by
    rcases h1 with ⟨rfl, p, c, rfl, _⟩ | ⟨b, o, c, rfl, _⟩
    · exact ⟨p, c, rfl⟩
    · exact ⟨_, c, rfl⟩
  obtain ⟨p1, c1, rfl⟩ := hv1
  obtain ⟨pa, ca, rfl, -⟩ := hva.len
  obtain ⟨qa, da, rfl, -⟩ := hua.len
  have HVA := Lib.hid (fun W (hB : Below w.heap.size w W) => hva.below hB)
  have HB0 := Lib.hid (And.intro b0 hB0)
  rw [hlen] at HVA HB0 ⊢
  generalize en : li.length = na at *
  have HLn := Lib.hid hlen
  clear hva hua h1 hB0 b0 hlen en
  go_enter Tryz.func51, Tryz.ntmps51
  go_upto_region 1 with fail
  generalize w.alloc (.cells #[.int .u8 5, .string ⟨#[]⟩, .slice pa na ca, .slice qa V.T.nil.len da] 25) = W0 at *
  obtain ⟨s0, s1, s2, s3⟩ := HB0.out.1.box
  go_wp2_with fail
  clear s0 s1 s2 s3
  go_loopw [5] (fun p wr => ∃ i : Nat, p = .int .i64 (i : Int) ∧ i ≤ na ∧ Hid (Blk4 wr w.heap.size 25 (.int .u8 5) (.string ⟨#[]⟩) (.slice pa na ca) (.slice qa V.T.nil.len da) ∧ Below w.heap.size w wr)) (fun p _ => na - (RowKit.intOf p).toNat)
  case atStart => exact ⟨0, rfl, Nat.zero_le _, HB0⟩
  case round =>
    obtain ⟨i, rfl, hi, HR⟩ := hrel
    by_cases hlt : i < na
    · obtain ⟨n, z, hd, b, o, c, e1, hc⟩ := HEl.out i hlt
      obtain ⟨rfl, rfl⟩ : p1 = some ⟨b, o, none⟩ ∧ c1 = c := by cases e1; exact ⟨rfl, rfl⟩
      obtain ⟨b1, o1, v1, u1, rfl, E1⟩ := (HVA.out wr HR.out.2).elem (by rw [HLn.out]; exact hlt) hd
      have HZ := Lib.hid z
      have HC := Lib.hid hc
      have HL := Lib.hid hlt
      obtain ⟨p2, c2, rfl, -⟩ := E1.hl.len
      obtain ⟨p3, c3, rfl, -⟩ := E1.hf.len
      have k1 := E1.kind
      have k2 := E1.text
      have k3 := E1.list
      have k4 := E1.fields
      simp only [Nat.add_zero, Nat.reduceAdd] at k1 k2 k3 k4
      obtain ⟨s0, s1, s2, s3⟩ := HR.out.1.box
      have hi2 : (0 : Int) ≤ (i : Int) := Int.natCast_nonneg i
      have hi3 : (i : Int) < (na : Int) := by omega
      clear e1 z hc hd E1 hlt
      go_wp2_with fail
      refine (HIn.out n HZ.out _ _ wr).mono ?_
      rintro e w2 ⟨rfl, hB⟩
      have B2 := Lib.hid (show Blk4 w2 w.heap.size 25 (.int .u8 5) (.string ⟨#[]⟩) (.slice (some ⟨b1, o1, none⟩) na ca) (.slice qa V.T.nil.len da) ∧ Below w.heap.size w w2 from ⟨HR.out.1.same (hB.block _ HR.out.1.lt), HR.out.2.trans (hB.mono HR.out.2.size)⟩)
      have hcn := HC.out w2 B2.out.2
      clear s0 s1 s2 s3 k1 k2 k3 k4 hB
      go_wp2_with fail
      go_roundw
      case rel => exact ⟨i + 1, by go_num, HL.out, B2⟩
      case measure => have := HL.out; simp [RowKit.intOf]; omega
    · obtain rfl : i = na := by omega
      go_wp2_with fail
      go_ret
      exact ⟨rfl, HR.out.2⟩
end Go.Proofs.YtbkciiogkgndiaaGreatDoor

namespace Go.Proofs.YtbkciiogkgndiaaGreatDoor
open Go Go.RowKit

theorem cellsValue : Tryz.prog.cellsOf 25 = 4 := by kernel_rfl
theorem cellsField : Tryz.prog.cellsOf 100 = 5 := by kernel_rfl
theorem cells_u8 : Tryz.prog.cellsOf 5 = 1 := by kernel_rfl
theorem cells_string : Tryz.prog.cellsOf 9 = 1 := by kernel_rfl
theorem cells_values : Tryz.prog.cellsOf 22 = 1 := by kernel_rfl
theorem cells_fields : Tryz.prog.cellsOf 23 = 1 := by kernel_rfl
theorem bytesValue : Tryz.prog.bytesOf 25 = 72 := by kernel_rfl
theorem bytesField : Tryz.prog.bytesOf 100 = 88 := by kernel_rfl

section
variable {H : Type} {enc : TypeId × Value → H} {W : World} {spare : Nat → Bool}

def Reach (ns : List Nat) : Prop := ∀ n ∈ ns, n ≤ reachBytes
/-- what four cells that read as a value are -/
def IsV (W : World) (cs : List Value) : Prop := ∃ (k : Nat) (x : ByteArray) (v u : Value) (l f : V.T), cs = [.int .u8 k, .string x, v, u] ∧ k < 256 ∧ x.size ≤ 140737488355328 ∧ HS W (fun _ => True) 0 v l ∧ HS W (fun _ => True) 1 u f
def IsF (W : World) (cs : List Value) : Prop := ∃ (nm : ByteArray) (k : Nat) (x : ByteArray) (v u : Value) (l f : V.T), cs = [.string nm, .int .u8 k, .string x, v, u] ∧ Fit nm k x ∧ HS W (fun _ => True) 0 v l ∧ HS W (fun _ => True) 1 u f
theorem isV_row (b : Nat) : ∀ (n o : Nat), (∀ i, i < n → ∃ cs, W.cells? 0 ⟨b, o + i * 4, none⟩ 4 = some cs ∧ IsV W cs) → ∃ t : V.T, t.len = n ∧ HR W (fun _ => True) 0 b o t
  | 0, _, _ => ⟨.nil, rfl, trivial⟩
  | n + 1, o, h => by
    obtain ⟨t, ht, hr⟩ := isV_row b n (o + 4) (fun i hi => by
      have := h (i + 1) (by omega)
      rwa [show o + (i + 1) * 4 = o + 4 + i * 4 by omega] at this)
    obtain ⟨cs, hc, k, x, v, u, l, f, rfl, hk, hx, hl, hf⟩ := h 0 (by omega)
    obtain ⟨_, _, hcell⟩ := World.cells?_some hc
    rw [Nat.zero_mul, Nat.add_zero] at hcell
    have e : ∀ j, (⟨b, o, none⟩ : Addr).add j = ⟨b, o + j, none⟩ := fun j => by unfold Addr.add; split <;> simp_all
    have h0 := hcell 0 (by omega)
    have h1 := hcell 1 (by omega)
    have h2 := hcell 2 (by omega)
    have h3 := hcell 3 (by omega)
    rw [e] at h0 h1 h2 h3
    exact ⟨.cons ⟨#[]⟩ k x l f t, congrArg (· + 1) ht, trivial, fun _ => rfl, (fun e => by cases e), h0, h1, ⟨v, h2, hl⟩, ⟨u, h3, hf⟩, ⟨hk, hx, Nat.zero_le _⟩, hr⟩
theorem isF_row (b : Nat) : ∀ (n o : Nat), (∀ i, i < n → ∃ cs, W.cells? 0 ⟨b, o + i * 5, none⟩ 5 = some cs ∧ IsF W cs) → ∃ t : V.T, t.len = n ∧ HR W (fun _ => True) 1 b o t
  | 0, _, _ => ⟨.nil, rfl, trivial⟩
  | n + 1, o, h => by
    obtain ⟨t, ht, hr⟩ := isF_row b n (o + 5) (fun i hi => by
      have := h (i + 1) (by omega)
      rwa [show o + (i + 1) * 5 = o + 5 + i * 5 by omega] at this)
    obtain ⟨cs, hc, nm, k, x, v, u, l, f, rfl, hk, hl, hf⟩ := h 0 (by omega)
    obtain ⟨_, _, hcell⟩ := World.cells?_some hc
    rw [Nat.zero_mul, Nat.add_zero] at hcell
    have e : ∀ j, (⟨b, o, none⟩ : Addr).add j = ⟨b, o + j, none⟩ := fun j => by unfold Addr.add; split <;> simp_all
    have h0 := hcell 0 (by omega)
    have h1 := hcell 1 (by omega)
    have h2 := hcell 2 (by omega)
    have h3 := hcell 3 (by omega)
    have h4 := hcell 4 (by omega)
    rw [e] at h0 h1 h2 h3 h4
    exact ⟨.cons nm k x l f t, congrArg (· + 1) ht, trivial, (fun e => by cases e), fun _ => h0, h1, h2, ⟨v, h3, hl⟩, ⟨u, h4, hf⟩, hk, hr⟩
theorem weights_mem {P : Program} {e : TypeId} : ∀ {ds : List (DataW H)} {i : Nat} {d : DataW H}, ds[i]? = some d → ∀ n ∈ d.weights P e, n ∈ DataW.weightsAll P e ds
  | [], _, _, h => by simp at h
  | d' :: r, 0, d, h => by
    simp at h; subst h
    intro n hn
    unfold DataW.weightsAll
    exact List.mem_append_left _ hn
  | d' :: r, i + 1, d, h => by
    intro n hn
    unfold DataW.weightsAll
    exact List.mem_append_right _ (weights_mem (by simpa using h) n hn)
theorem slice_open {e : TypeId} {sz : Nat} {fuel : Nat} {t : TypeId} {cs : List Value} {x : DataW H × List MemPlace} {Is : List Value → Prop} (ht : Tryz.prog.underlying t = some (.slice e)) (hz : Tryz.prog.cellsOf e = sz) (hsz : 0 < sz)
    (h : DataW.trod enc Tryz.prog W 0 spare true fuel t cs = some x) (hw : Reach (x.1.weights Tryz.prog t)) (hb : 72 ≤ Tryz.prog.bytesOf e)
    (ih : ∀ n, n < fuel → ∀ cs' y, DataW.trod enc Tryz.prog W 0 spare true n e cs' = some y → Reach (y.1.weights Tryz.prog e) → Is cs') :
    (cs = [.slice none 0 0]) ∨ ∃ (a : Addr) (len cap : Nat), cs = [.slice (some a) len cap] ∧ len ≤ cap ∧ cap ≤ maxLen ∧ len ≤ 2000000000000 ∧ ∀ i, i < len → a.spot = none ∧ ∃ cs', W.cells? 0 ⟨a.block, a.off + i * sz, none⟩ sz = some cs' ∧ Is cs' := by
  rcases DataW.trod_slice ht h with ⟨h0, _⟩ | ⟨a, len, cap, elems, rest, n, hn, rfl, rfl, _, hl, hm, hlen, hel, _, _⟩
  · exact .inl h0
  · right
    have hw0 : (elems.length + rest.length) * Tryz.prog.bytesOf e ≤ reachBytes := hw _ (by
      unfold DataW.weights
      rw [ht]
      simp)
    have hw1 : len * 72 ≤ 140737488351232 := by
      have h1 : len * 72 ≤ (elems.length + rest.length) * Tryz.prog.bytesOf e := Nat.mul_le_mul (by omega) hb
      exact Nat.le_trans h1 hw0
    refine ⟨a, len, cap, rfl, hl, hm, by omega, fun i hi => ?_⟩
    have he := hel i hi
    rw [hz] at he
    obtain ⟨y, hy⟩ : ∃ y, elems[i]? = some y := ⟨_, List.getElem?_eq_getElem (by omega)⟩
    rw [hy] at he
    obtain ⟨cs', h1, h2⟩ := Option.bind_eq_some_iff.1 he
    have hspot : a.spot = none := by
      have he0 := hel 0 (by omega)
      rw [hz, Nat.zero_mul] at he0
      obtain ⟨y0, hy0⟩ : ∃ y, elems[0]? = some y := ⟨_, List.getElem?_eq_getElem (by omega)⟩
      rw [hy0] at he0
      obtain ⟨cs0, g1, _⟩ := Option.bind_eq_some_iff.1 he0
      have g3 := World.cells?_some g1
      have h4 := g3.2.2 0 hsz
      obtain ⟨c0, hc0⟩ : ∃ c0, cs0[0]? = some c0 := ⟨_, List.getElem?_eq_getElem (by omega)⟩
      rw [hc0] at h4
      have e0 : (a.add 0).add 0 = a := by unfold Addr.add; simp
      rw [e0] at h4
      unfold World.cell? at h4
      split at h4
      · split at h4
        · cases h4
        · rename_i hs
          simpa using hs
      · cases h4
    refine ⟨hspot, cs', ?_, ih n (by omega) cs' y h2 (fun m hm => hw m (by
      unfold DataW.weights
      rw [ht]
      refine List.mem_cons_of_mem _ (List.mem_append_left _ (weights_mem (i := i) (d := y.1) (by simp [hy]) m hm))))⟩
    have ea : a.add (i * sz) = ⟨a.block, a.off + i * sz, none⟩ := by
      cases a with | mk b o s => (cases hspot; unfold Addr.add; split <;> simp_all)
    rw [← ea]
    exact h1
theorem hs_of {d : Nat} {Is : List Value → Prop} {cs : List Value} (hrow : ∀ b n o, (∀ i, i < n → ∃ cs', W.cells? 0 ⟨b, o + i * (4 + d), none⟩ (4 + d) = some cs' ∧ Is cs') → ∃ t : V.T, t.len = n ∧ HR W (fun _ => True) d b o t)
    (h : (cs = [.slice none 0 0]) ∨ ∃ (a : Addr) (len cap : Nat), cs = [.slice (some a) len cap] ∧ len ≤ cap ∧ cap ≤ maxLen ∧ len ≤ 2000000000000 ∧ ∀ i, i < len → a.spot = none ∧ ∃ cs', W.cells? 0 ⟨a.block, a.off + i * (4 + d), none⟩ (4 + d) = some cs' ∧ Is cs') :
    ∃ v t, cs = [v] ∧ HS W (fun _ => True) d v t := by
  rcases h with rfl | ⟨a, len, cap, rfl, h1, h2, h3, h4⟩
  · exact ⟨_, .nil, rfl, HS.nil _ _ _⟩
  · by_cases h0 : len = 0
    · subst h0
      exact ⟨_, .nil, rfl, .inr (.inl ⟨rfl, a, cap, rfl, h2⟩)⟩
    · have hs := (h4 0 (by omega)).1
      obtain ⟨t, ht, hr⟩ := hrow a.block len a.off (fun i hi => (h4 i hi).2)
      refine ⟨_, t, rfl, .inr (.inr ⟨a.block, a.off, cap, ?_, by omega, ⟨h2, by omega⟩, hr⟩)⟩
      rw [ht]
      cases a with | mk b o s => (cases hs; rfl)
theorem four {l : List Value} (h : l.length = 4) : ∃ a b c d, l = [a, b, c, d] := by
  match l, h with
  | [a, b, c, d], _ => exact ⟨a, b, c, d, rfl⟩
theorem five {l : List Value} (h : l.length = 5) : ∃ a b c d e, l = [a, b, c, d, e] := by
  match l, h with
  | [a, b, c, d, e], _ => exact ⟨a, b, c, d, e, rfl⟩
theorem part_reach {t : TypeId} {fs : Array Field} {xs : List (DataW H × List MemPlace)} (ht : Tryz.prog.underlying t = some (.struct fs)) (hw : Reach ((DataW.agg (xs.map (·.1))).weights Tryz.prog t)) {j : Nat} {f : Field} {x : DataW H × List MemPlace} (hf : fs[j]? = some f) (hx : xs[j]? = some x) : Reach (x.1.weights Tryz.prog f.type) := fun n hn => by
  refine hw n ?_
  unfold DataW.weights
  rw [ht]
  exact DataW.weights_mem_each (j := j) (t := f.type) (d := x.1) (by simp [hf]) (by simp [hx]) n hn
theorem value_open : ∀ (fuel : Nat), (∀ (cs : List Value) (x : DataW H × List MemPlace), DataW.trod enc Tryz.prog W 0 spare true fuel 25 cs = some x → Reach (x.1.weights Tryz.prog 25) → IsV W cs) ∧
    (∀ (cs : List Value) (x : DataW H × List MemPlace), DataW.trod enc Tryz.prog W 0 spare true fuel 100 cs = some x → Reach (x.1.weights Tryz.prog 100) → IsF W cs) := by
  intro fuel
  induction fuel using Nat.strongRecOn with
  | ind fuel ih =>
    constructor
    · intro cs x h hw
      obtain ⟨xs, n, rfl, rfl, hl, hxl, hp⟩ := DataW.trod_struct Tryz.underlying25 h
      rw [cellsValue] at hl
      obtain ⟨c0, c1, c2, c3, rfl⟩ := four hl
      have hxl : xs.length = 4 := hxl
      obtain ⟨x0, hx0⟩ : ∃ y, xs[0]? = some y := ⟨_, List.getElem?_eq_getElem (by omega)⟩
      obtain ⟨x1, hx1⟩ : ∃ y, xs[1]? = some y := ⟨_, List.getElem?_eq_getElem (by omega)⟩
      obtain ⟨x2, hx2⟩ : ∃ y, xs[2]? = some y := ⟨_, List.getElem?_eq_getElem (by omega)⟩
      obtain ⟨x3, hx3⟩ : ∃ y, xs[3]? = some y := ⟨_, List.getElem?_eq_getElem (by omega)⟩
      have h0 := hp 0 _ rfl
      have h1 := hp 1 _ rfl
      have h2 := hp 2 _ rfl
      have h3 := hp 3 _ rfl
      have w1 := part_reach Tryz.underlying25 hw (j := 1) rfl hx1
      have w2 := part_reach Tryz.underlying25 hw (j := 2) rfl hx2
      have w3 := part_reach Tryz.underlying25 hw (j := 3) rfl hx3
      rw [hx0] at h0
      rw [hx1] at h1
      rw [hx2] at h2
      rw [hx3] at h3

      change DataW.trod enc Tryz.prog W 0 spare true n 5 (List.take (Tryz.prog.cellsOf 5) (List.drop 0 [c0, c1, c2, c3])) = some x0 at h0
      change DataW.trod enc Tryz.prog W 0 spare true n 9 (List.take (Tryz.prog.cellsOf 9) (List.drop 1 [c0, c1, c2, c3])) = some x1 at h1
      change DataW.trod enc Tryz.prog W 0 spare true n 22 (List.take (Tryz.prog.cellsOf 22) (List.drop 2 [c0, c1, c2, c3])) = some x2 at h2
      change DataW.trod enc Tryz.prog W 0 spare true n 23 (List.take (Tryz.prog.cellsOf 23) (List.drop 3 [c0, c1, c2, c3])) = some x3 at h3
      change Reach (x1.1.weights Tryz.prog 9) at w1
      change Reach (x2.1.weights Tryz.prog 22) at w2
      change Reach (x3.1.weights Tryz.prog 23) at w3
      rw [cells_u8] at h0
      rw [cells_string] at h1
      rw [cells_values] at h2
      rw [cells_fields] at h3
      obtain ⟨z, e0, _, hz⟩ := DataW.trod_int Tryz.underlying5 h0
      obtain ⟨s, e1, rfl, _⟩ := DataW.trod_string Tryz.underlying9 h1
      have hs : s.size ≤ 140737488351232 := by
        have := w1 s.data.toList.length (by unfold DataW.weights; exact List.mem_singleton_self _)
        rw [Array.length_toList] at this
        exact this
      obtain ⟨v, l, e2, hv⟩ := hs_of (d := 0) (fun b n o => isV_row b n o) (slice_open Tryz.underlying22 cellsValue (by decide) h2 w2 (by rw [bytesValue]; decide) (fun m hm cs' y hy => (ih m (by omega)).1 cs' y hy))
      obtain ⟨u, f, e3, hu⟩ := hs_of (d := 1) (fun b n o => isF_row b n o) (slice_open Tryz.underlying23 cellsField (by decide) h3 w3 (by rw [bytesField]; decide) (fun m hm cs' y hy => (ih m (by omega)).2 cs' y hy))
      simp at e0 e1 e2 e3
      subst e0 e1 e2 e3
      have hz2 : 0 ≤ z ∧ z < 256 := by
        simp only [Lit.wf, IntKind.min, IntKind.max, Bool.and_eq_true] at hz
        have a1 : (0 : Int) ≤ z := of_decide_eq_true hz.1
        have a2 : z ≤ 255 := of_decide_eq_true hz.2
        omega
      obtain ⟨k, rfl⟩ := Int.eq_ofNat_of_zero_le hz2.1
      exact ⟨k, s, c2, c3, l, f, rfl, by omega, by omega, hv, hu⟩
    · intro cs x h hw
      obtain ⟨xs, n, rfl, rfl, hl, hxl, hp⟩ := DataW.trod_struct Tryz.underlying100 h
      rw [cellsField] at hl
      obtain ⟨c0, c1, c2, c3, c4, rfl⟩ := five hl
      have hxl : xs.length = 2 := hxl
      obtain ⟨x0, hx0⟩ : ∃ y, xs[0]? = some y := ⟨_, List.getElem?_eq_getElem (by omega)⟩
      obtain ⟨x1, hx1⟩ : ∃ y, xs[1]? = some y := ⟨_, List.getElem?_eq_getElem (by omega)⟩
      have h0 := hp 0 _ rfl
      have h1 := hp 1 _ rfl
      have w0 := part_reach Tryz.underlying100 hw (j := 0) rfl hx0
      have w1 := part_reach Tryz.underlying100 hw (j := 1) rfl hx1
      rw [hx0] at h0
      rw [hx1] at h1

      change DataW.trod enc Tryz.prog W 0 spare true n 9 (List.take (Tryz.prog.cellsOf 9) (List.drop 0 [c0, c1, c2, c3, c4])) = some x0 at h0
      change DataW.trod enc Tryz.prog W 0 spare true n 25 (List.take (Tryz.prog.cellsOf 25) (List.drop 1 [c0, c1, c2, c3, c4])) = some x1 at h1
      change Reach (x0.1.weights Tryz.prog 9) at w0
      change Reach (x1.1.weights Tryz.prog 25) at w1
      rw [cells_string] at h0
      rw [cellsValue] at h1
      obtain ⟨s, e0, rfl, _⟩ := DataW.trod_string Tryz.underlying9 h0
      have hs : s.size ≤ 140737488351232 := by
        have := w0 s.data.toList.length (by unfold DataW.weights; exact List.mem_singleton_self _)
        rw [Array.length_toList] at this
        exact this
      obtain ⟨k, t, v, u, l, f, e1, hk, ht, hv, hu⟩ := (ih n (by omega)).1 _ _ h1 w1
      simp at e0 e1
      obtain ⟨rfl, rfl, rfl, rfl⟩ := e1
      subst e0
      exact ⟨s, k, t, c3, c4, l, f, rfl, ⟨hk, ht, by omega⟩, hv, hu⟩
end
end Go.Proofs.YtbkciiogkgndiaaGreatDoor
