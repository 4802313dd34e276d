/- A number's int, in plain functions: what the library's Atoi makes of an integer's text. Conditions: none. -/
import Derived.Test.YtagafedkfkmkbaaGreatDoorMO19
import Derived.Lib.AtoiAllCases
import Derived.Test.YtagafedkfkmkbaaGreatDoorMO04
import Derived.Test.YtagafedkfkmkbaaGreatDoorMO02
import Derived.Test.YtagafedkfkmkbaaGreatDoorMO03
import Derived.Deep.WholeRow
import Derived.Test.YtagafedkfkmkbaaGreatDoorMO05
import Derived.Deep.RegionHeld3
import Derived.Deep.DeepCutAuto
import Derived.Deep.CutBlock
import Derived.Test.YtagafedkfkmkbaaGreatDoorMO07
namespace Go.Proofs.YtagafedkfkmkbaaGreatDoor
open Go Go.RowKit Go.Lib

/-- what digits spell, from a place on, ahead of a place -/
def numF (s : ByteArray) : Nat → Nat → Nat → Nat
  | 0, _, acc => acc
  | f + 1, p, acc => numF s f (p + 1) (acc * 10 + ((s.get! p).toNat - 48))
def numL (acc : Nat) : List UInt8 → Nat
  | [] => acc
  | c :: r => numL (acc * 10 + (c.toNat - 48)) r
theorem numL_ge : ∀ (l : List UInt8) (acc : Nat), acc ≤ numL acc l
  | [], _ => Nat.le_refl _
  | c :: r, acc => by
    show acc ≤ numL (acc * 10 + (c.toNat - 48)) r
    have := numL_ge r (acc * 10 + (c.toNat - 48))
    omega
theorem parse_digits : ∀ (l : List UInt8) (acc : Nat), (∀ c ∈ l, 48 ≤ c.toNat ∧ c.toNat ≤ 57) → acc < 18446744073709551616 →
    Lib.parseUint10 acc l = if numL acc l < 18446744073709551616 then .ok (numL acc l) else .range
  | [], acc, _, ha => by
    show Lib.NumEnd.ok acc = _
    rw [if_pos (show numL acc [] < _ from ha)]; rfl
  | c :: r, acc, h, ha => by
    have hc := h c (List.mem_cons_self ..)
    have hr := fun d hd => h d (List.mem_cons_of_mem _ hd)
    have hg := numL_ge r (acc * 10 + (c.toNat - 48))
    have e : numL acc (c :: r) = numL (acc * 10 + (c.toNat - 48)) r := rfl
    rw [e]
    unfold Lib.parseUint10
    rw [if_pos hc]
    by_cases h1 : 1844674407370955162 ≤ acc
    · rw [if_pos h1, if_neg (by omega)]
    · rw [if_neg h1]
      by_cases h2 : 18446744073709551616 ≤ acc * 10 + (c.toNat - 48)
      · rw [if_pos h2, if_neg (by omega)]
      · rw [if_neg h2]
        exact parse_digits r _ hr (by omega)
/-- is there a sign? -/
def ngI (x : ByteArray) : Bool := J.is x 0 0 45
def atI (x : ByteArray) : Nat := J.bp x 0 0 45
/-- what an integer's digits spell -/
def magI (x : ByteArray) : Nat := numL 0 (x.data.toList.drop (atI x))
/-- a number's int -/
def intS (x : ByteArray) : Int × Bool :=
  if bothS (ciS x) = true then
    (if ngI x = true then (if magI x ≤ 9223372036854775808 then (-(magI x : Int), true) else (0, false))
     else (if magI x < 9223372036854775808 then ((magI x : Int), true) else (0, false)))
  else (0, false)
theorem both_cut (x : ByteArray) : bothS (ciS x) = decide (J.n2 x (atI x) 0 = (x.size, 0)) := by
  have h := ci_is x 0
  rw [suf_zero] at h
  have hle := (J.n2_le (s := x) (p := atI x) 0 (J.bp_le (s := x) (p := 0) 0 45 (Nat.zero_le _)).2).2
  rw [h]
  show bothS (cut2 x (J.n2 x (atI x) 0)) = _
  generalize J.n2 x (atI x) 0 = q at *
  obtain ⟨a, b⟩ := q
  unfold bothS cut2
  rw [suf_size]
  show (decide (b = 0) && decide (x.size - a = 0)) = _
  rw [← Bool.decide_and]
  refine decide_eq_decide.2 ⟨fun ⟨h1, h2⟩ => ?_, fun h => ?_⟩
  · have : a = x.size := by
      have : a ≤ x.size := hle
      omega
    rw [this, h1]
  · cases h
    exact ⟨rfl, by omega⟩
theorem dg_all (s : ByteArray) : ∀ (n p : Nat), J.dg s p = p + n → ∀ i, i < n → p + i < s.size ∧ J.dgt (s.get! (p + i)).toNat = true
  | 0, _, _, i, hi => absurd hi (Nat.not_lt_zero i)
  | n + 1, p, h, i, hi => by
    by_cases hp : p < s.size ∧ J.dgt (s.get! p).toNat = true
    · rw [J.dg_step hp.1 hp.2] at h
      cases i with
      | zero => exact hp
      | succ j =>
        have := dg_all s n (p + 1) (by omega) j (by omega)
        rw [show p + (j + 1) = p + 1 + j by omega]
        exact this
    · rw [J.dg_stop hp] at h
      omega
/-- an integer's text: digits behind the sign -/
theorem both_digits {x : ByteArray} (h : bothS (ciS x) = true) : atI x < x.size ∧ J.dg x (atI x) = x.size := by
  rw [both_cut, decide_eq_true_eq] at h
  have hat := (J.bp_le (s := x) (p := 0) 0 45 (Nat.zero_le _)).2
  change atI x ≤ x.size at hat
  generalize atI x = a at *
  unfold J.n2 at h
  split at h
  · rename_i h48
    have h1 : a + 1 = x.size := congrArg Prod.fst h
    have hd := of_decide_eq_true h48
    refine ⟨by omega, ?_⟩
    rw [J.dg_step hd.2.1 (by rw [hd.2.2]; rfl), h1]
    exact J.dg_stop (fun h => absurd h.1 (Nat.lt_irrefl _))
  · by_cases hd : J.dg x a = a
    · rw [J.ds_none hd] at h
      have := congrArg Prod.snd h
      cases this
    · rw [J.ds_some hd] at h
      have h1 : J.dg x a = x.size := congrArg Prod.fst h
      exact ⟨by omega, h1⟩
theorem drop_mem {x : ByteArray} {a : Nat} (h : J.dg x a = x.size) (ha : a ≤ x.size) : ∀ c ∈ x.data.toList.drop a, 48 ≤ c.toNat ∧ c.toNat ≤ 57 := by
  intro c hc
  obtain ⟨i, hi, e⟩ := List.getElem_of_mem hc
  have hlen : x.data.toList.length = x.size := (Lib.size_eq x).symm
  rw [List.length_drop, hlen] at hi
  have := dg_all x (x.size - a) a (by omega) i hi
  rw [U_get this.1] at this
  rw [List.getElem_drop] at e
  rw [← e]
  exact of_decide_eq_true this.2
theorem mag_at {x : ByteArray} {a : Nat} (h : J.dg x a = x.size) (ha : a < x.size) : Lib.parseMag (x.data.toList.drop a) = if numL 0 (x.data.toList.drop a) < 18446744073709551616 then .ok (numL 0 (x.data.toList.drop a)) else .range := by
  have hlen : x.data.toList.length = x.size := (Lib.size_eq x).symm
  have hne : ¬ x.data.toList.drop a = [] := fun e => by
    have := congrArg List.length e
    rw [List.length_drop, hlen] at this
    simp at this
    omega
  unfold Lib.parseMag
  rw [if_neg hne]
  exact parse_digits _ 0 (drop_mem h (Nat.le_of_lt ha)) (by decide)
/-- Atoi of an integer's text -/
theorem atoi_both {x : ByteArray} (h : bothS (ciS x) = true) : (Lib.atoiAll x.data.toList = .ok (intS x).1 ∧ (intS x).2 = true) ∨ (Lib.atoiAll x.data.toList = .range ∧ intS x = (0, false)) := by
  obtain ⟨h1, h2⟩ := both_digits h
  have hm := mag_at h2 h1
  have hd := drop_mem h2 (Nat.le_of_lt h1)
  have hlen : x.data.toList.length = x.size := (Lib.size_eq x).symm
  have hS : intS x = (if ngI x = true then (if magI x ≤ 9223372036854775808 then (-(magI x : Int), true) else (0, false)) else (if magI x < 9223372036854775808 then ((magI x : Int), true) else (0, false))) := by
    unfold intS
    rw [if_pos h]
  have hM : magI x = numL 0 (x.data.toList.drop (atI x)) := rfl
  rw [← hM] at hm
  rw [hS]
  clear hS hM
  generalize magI x = N at *
  cases hn : ngI x
  · have ha : atI x = 0 := J.bp_no hn
    rw [ha] at h1 hm hd
    rw [List.drop_zero] at hm hd
    rw [if_neg (by decide)]
    cases hl : x.data.toList with
    | nil => rw [hl] at hlen; simp at hlen; omega
    | cons c r =>
      rw [hl] at hm hd
      have hc := hd c (List.mem_cons_self ..)
      rw [Lib.atoiAll_plain c r (by omega) (by omega), hm]
      by_cases hN : N < 18446744073709551616
      · rw [if_pos hN]
        unfold Lib.signless
        by_cases hN2 : N < 9223372036854775808
        · rw [if_pos hN2]
          left
          constructor
          · simp only []
            first
              | rw [if_neg (by omega)]
              | rw [if_pos (by omega)]
          · rfl
        · rw [if_neg hN2]
          right
          constructor
          · simp only []
            first
              | rw [if_pos (by omega)]
              | rw [if_neg (by omega)]
          · rfl
      · rw [if_neg hN, if_neg (by omega)]
        exact .inr ⟨rfl, rfl⟩
  · have ha : atI x = 1 := J.bp_yes hn
    have h45 := of_decide_eq_true hn
    rw [ha] at h1 hm hd
    rw [if_pos rfl]
    cases hl : x.data.toList with
    | nil => rw [hl] at hlen; simp at hlen; omega
    | cons c r =>
      have e0 : x.get! 0 = c := by rw [U_get h45.2.1]; simp [hl]
      have e1 : c = 45 := UInt8.toNat_inj.1 (by rw [← e0]; exact h45.2.2)
      subst e1
      rw [hl, List.drop_succ_cons, List.drop_zero] at hm
      rw [Lib.atoiAll_minus, hm]
      by_cases hN : N < 18446744073709551616
      · rw [if_pos hN]
        unfold Lib.signed
        by_cases hN2 : N ≤ 9223372036854775808
        · rw [if_pos hN2]
          left
          constructor
          · simp only []
            first
              | rw [if_neg (by omega)]
              | rw [if_pos (by omega)]
          · rfl
        · rw [if_neg hN2]
          right
          constructor
          · simp only []
            first
              | rw [if_pos (by omega)]
              | rw [if_neg (by omega)]
          · rfl
      · rw [if_neg hN, if_neg (by omega)]
        exact .inr ⟨rfl, rfl⟩
end Go.Proofs.YtagafedkfkmkbaaGreatDoor

namespace Go.Proofs
open Go Go.RowKit Go.Shelf Go.Lib

namespace YtagafedkfkmkbaaGreatDoor
/-- the library's error of range is there -/
def ErrC (w : World) : Prop := ∃ ev, w.cell? ⟨3, 0, none⟩ = some ev ∧ (ev = .nilIface ∨ ∃ te pe, ev = .iface te pe)
theorem ErrC.on {w w' : World} (h : ErrC w) (hB : Below w.heap.size w w') : ErrC w' := by
  obtain ⟨ev, h1, h2⟩ := h
  exact ⟨ev, (hB.cell (p := ⟨3, 0, none⟩) (World.block_lt_of_cell? w _ h1)).trans h1, h2⟩
set_option maxHeartbeats 1000000 in
set_option maxRecDepth 100000 in
theorem int_range (x : ByteArray) (va ua : Value) (w : World) (hx : x.size ≤ 140737488355328) (h : bothS (ciS x) = true) (hv : Lib.atoiAll x.data.toList = .range) (hE : ErrC w) : Calls Tryz.prog 14 #[.agg #[.int .u8 3, .string x, va, ua]] w (IntR (0, false) w) := by
  have hB := Lib.hid ((Below.refl w.heap.size w).alloc (Nat.le_refl _) (.cells #[.int .u8 3, .string x, va, ua] 25))
  have hbk : Blk4 (w.alloc (.cells #[.int .u8 3, .string x, va, ua] 25)) w.heap.size 25 (.int .u8 3) (.string x) va ua := heap_alloc_new _ _
  have HBK := Lib.hid hbk
  have hI := fun W => isInteger_any x W hx
  rw [h] at hI
  unfold BoolB at hI
  have HA := Lib.hid (fun W (hB : Below w.heap.size w W) => Any.strconv_Atoi_range Tryz.laysAtoi x (by omega) hv (hE.on hB).choose W (hE.on hB).choose_spec.1 (hE.on hB).choose_spec.2)
  have HE := Lib.hid hE
  clear h hbk
  go_enter Tryz.func14, Tryz.ntmps14
  go_wp2_with fail
  refine (hI _).mono ?_
  rintro e w1 ⟨rfl, hB1⟩
  have H1 := Lib.hid (hB.out.trans (hB1.mono hB.out.size))
  have b1 := HBK.out.same (hB1.block _ HBK.out.lt)
  obtain ⟨d0, d1, d2, d3⟩ := b1.box
  clear hB1 hI b1
  go_wp2_with fail
  refine (HA.out _ H1.out).mono ?_
  rintro e w2 ⟨N, rfl, _, _, hB2⟩
  have H2 := Lib.hid (H1.out.trans (hB2.mono H1.out.size))
  clear hB2 d0 d1 d2 d3
  go_wp2_with fail
  go_ret2
  exact ⟨rfl, H2.out⟩
/-- a value's int, as the chapter says -/
def intV (k : Nat) (x : ByteArray) : Int × Bool := if k = 3 then intS x else (0, false)
theorem int_any (k : Nat) (x : ByteArray) (va ua : Value) (w : World) (hx : x.size ≤ 140737488355328) (hE : ErrC w) : Calls Tryz.prog 14 #[.agg #[.int .u8 k, .string x, va, ua]] w (IntR (intV k x) w) := by
  by_cases hk : k = 3
  · subst hk
    have e : intV 3 x = intS x := if_pos rfl
    rw [e]
    cases h : bothS (ciS x)
    · have e2 : intS x = (0, false) := by unfold intS; rw [h]; rfl
      rw [e2]
      exact int_text x va ua w hx h
    · rcases atoi_both h with ⟨h1, h2⟩ | ⟨h1, h2⟩
      · have e2 : intS x = ((intS x).1, true) := Prod.ext rfl h2
        rw [e2]
        exact int_some x va ua _ w hx h h1
      · rw [h2]
        exact int_range x va ua w hx h h1 hE
  · have e : intV k x = (0, false) := if_neg hk
    rw [e]
    exact int_kind k x va ua w hk
end YtagafedkfkmkbaaGreatDoor
end Go.Proofs

namespace Go.Proofs.YtagafedkfkmkbaaGreatDoor
open Go Go.RowKit Go.Shelf Go.Lib

def knds : Array Value := #[.func (.func 191) #[] #[], .func (.func 192) #[] #[], .func (.func 193) #[] #[], .func (.func 194) #[] #[], .func (.func 191) #[] #[], .func (.func 192) #[] #[], .func (.func 193) #[] #[], .func (.func 195) #[] #[], .func (.func 191) #[] #[], .func (.func 192) #[] #[], .func (.func 193) #[] #[], .func (.func 196) #[] #[], .func (.func 197) #[] #[], .func (.func 192) #[] #[], .func (.func 193) #[] #[], .func (.func 198) #[] #[], .func (.func 27) #[] #[], .func (.func 192) #[] #[], .func (.func 193) #[] #[], .func (.func 199) #[] #[], .func (.func 191) #[] #[], .func (.func 200) #[] #[], .func (.func 193) #[] #[], .func (.func 201) #[] #[], .func (.func 191) #[] #[], .func (.func 192) #[] #[], .func (.func 202) #[] #[], .func (.func 203) #[] #[]]
theorem info_knds : (Tryz.prog.info? 203).map (·.size) = some 28 := by kernel_rfl
theorem one_knds : knds.all (·.oneCell') = true := by kernel_rfl
set_option maxHeartbeats 4000000 in
set_option maxRecDepth 100000 in
theorem kinds_any (w : World) : Calls Tryz.prog 138 #[] w (fun e w' => e = .returned (.agg knds) ∧ Below w.heap.size w w') := by
  have hrow := heap_alloc_new w (.cells #[.nilFunc, .nilFunc, .nilFunc, .nilFunc, .nilFunc, .nilFunc, .nilFunc, .nilFunc, .nilFunc, .nilFunc, .nilFunc, .nilFunc, .nilFunc, .nilFunc, .nilFunc, .nilFunc, .nilFunc, .nilFunc, .nilFunc, .nilFunc, .nilFunc, .nilFunc, .nilFunc, .nilFunc, .nilFunc, .nilFunc, .nilFunc, .nilFunc] 203)
  have hB0 := (Below.refl w.heap.size w).alloc (Nat.le_refl _) (.cells knds 203)
  have hset := World.setRow_alloc_new w #[.nilFunc, .nilFunc, .nilFunc, .nilFunc, .nilFunc, .nilFunc, .nilFunc, .nilFunc, .nilFunc, .nilFunc, .nilFunc, .nilFunc, .nilFunc, .nilFunc, .nilFunc, .nilFunc, .nilFunc, .nilFunc, .nilFunc, .nilFunc, .nilFunc, .nilFunc, .nilFunc, .nilFunc, .nilFunc, .nilFunc, .nilFunc, .nilFunc] knds 203
  go_enter Tryz.func138, Tryz.ntmps138
  go_wp2_with (refine wpList_store_row rfl 203 _ _ rfl w.heap.size knds (by rfl) (by rfl) 203 _ hrow info_knds rfl one_knds ?_)
  rw [hset]
  exact bodyPost_ret (v := .agg knds) (results_cell_row Tryz.results138 _ _ w.heap.size 203 knds (0, 0) _ (by rfl) (heap_alloc_new w _) Tryz.underlying203 rfl info_knds) rfl ⟨rfl, hB0⟩
end Go.Proofs.YtagafedkfkmkbaaGreatDoor

namespace Go.Proofs.YtagafedkfkmkbaaGreatDoor
open Go Go.RowKit Go.Shelf Go.Lib

theorem blk4_new (w : World) (t : TypeId) (k x v u : Value) : Blk4 (w.alloc (.cells #[k, x, v, u] t)) w.heap.size t k x v u := heap_alloc_new _ _
theorem set4_below {B b : Nat} {W0 w1 : World} {k x v u : Value} (h : Below B W0 w1) (hb : B ≤ b) : Below B W0 ((((w1.setCell ⟨b, 0, none⟩ k).setCell ⟨b, 1, none⟩ x).setCell ⟨b, 2, none⟩ v).setCell ⟨b, 3, none⟩ u) :=
  (((h.setCell hb _).setCell hb _).setCell hb _).setCell hb _
theorem drew_trans {W0 w1 : World} (h : Below W0.drew.heap.size W0.drew w1) : Below W0.heap.size W0 w1 := (Below.refl W0.heap.size W0).drew.trans h
set_option maxHeartbeats 2000000 in
set_option maxRecDepth 100000 in
theorem valid_with (k : Nat) (x : ByteArray) (p q : Option Addr) (n c m e : Nat) (d : Nat) (ft fl ff fw : FuncId) (bt bl bf : Bool) (w : World) (hk6 : k ≤ 6)
    (hix : ∀ W : World, (Instr.index 203 (.agg knds) (.int .u8 k)).run Tryz.prog W = .ok (.agg #[.func (.func ft) #[] #[], .func (.func fl) #[] #[], .func (.func ff) #[] #[], .func (.func fw) #[] #[]]) W)
    (et : ∀ args w, (callFunc ft args).run Tryz.prog w = .ok (.enter ft args) w) (el : ∀ args w, (callFunc fl args).run Tryz.prog w = .ok (.enter fl args) w) (ef : ∀ args w, (callFunc ff args).run Tryz.prog w = .ok (.enter ff args) w)
    (ht : ∀ W, Below w.heap.size w W → Calls Tryz.prog ft #[.string x] W (Bools bt W)) (hl : ∀ W, Below w.heap.size w W → Calls Tryz.prog fl #[.slice p n c, .int .i64 d] W (Bools bl W)) (hf : ∀ W, Below w.heap.size w W → Calls Tryz.prog ff #[.slice q m e, .int .i64 d] W (Bools bf W)) :
    Calls Tryz.prog 73 #[.agg #[.int .u8 k, .string x, .slice p n c, .slice q m e], .int .i64 d] w (Bools (bt && bl && bf) w) := by
  have hk := fun W => kinds_any W
  have tk : decide ((6 : Int) < (k : Int)) = false := decide_eq_false (by omega)
  have hb : Blk4 (w.alloc (.cells #[.int .u8 k, .string x, .slice p n c, .slice q m e] 25)) w.heap.size 25 _ _ _ _ := heap_alloc_new _ _
  have hBw := Lib.hid ((Below.refl w.heap.size w).alloc (Nat.le_refl _) (.cells #[.int .u8 k, .string x, .slice p n c, .slice q m e] 25))
  have hsz : w.heap.size ≤ (w.alloc (.cells #[.int .u8 k, .string x, .slice p n c, .slice q m e] 25)).heap.size := by simp
  have hst : ∀ (W : World) (a : Addr) (f : FuncId), (store a (.func (.func f) #[] #[])).run Tryz.prog W = stored Tryz.prog W a (.func (.func f) #[] #[]) .plain := fun W a f => run_store Tryz.prog W a _ _ rfl
  obtain ⟨c0, c1, c2, c3⟩ := hb.box
  have keep : ∀ w', Below (w.alloc (.cells #[.int .u8 k, .string x, .slice p n c, .slice q m e] 25)).heap.size (w.alloc (.cells #[.int .u8 k, .string x, .slice p n c, .slice q m e] 25)) w' → w'.cell? ⟨w.heap.size, 0, none⟩ = some (.int .u8 k) := fun w' hB => bcellv hB c0
  have KEEP := Lib.hid keep
  clear keep
  go_enter Tryz.func73, Tryz.ntmps73
  go_wp2_with fail
  generalize w.alloc (.cells #[.int .u8 k, .string x, .slice p n c, .slice q m e] 25) = W0 at *
  have HB0 := Lib.hid hb
  have HF := Lib.hid (And.intro ht (And.intro hl hf))
  clear c1 c2 c3 ht hl hf hb hk6
  go_cut [5] (fun g wx => ∃ b, g = .pointer (some ⟨b, 0, none⟩) ∧ Hid (Blk4 wx b 202 (.func (.func ft) #[] #[]) (.func (.func fl) #[] #[]) (.func (.func ff) #[] #[]) (.func (.func fw) #[] #[]) ∧ Below W0.heap.size W0 wx))
  case first =>
    go_region_held3 (fun w' => w'.cell? ⟨w.heap.size, 0, none⟩ = some (.int .u8 k))
      (first | with_reducible exact KEEP.out _ hB2 | with_reducible exact KEEP.out _ (set4_below hB2 (Nat.le_refl _)) | with_reducible exact KEEP.out _ (set4_below (hB2.alloc hB2.size _) hB2.size) | with_reducible exact KEEP.out _ (hB2.alloc hB2.size _) | with_reducible exact KEEP.out _ ((Below.refl _ _).alloc (Nat.le_refl _) _).drew | with_reducible exact KEEP.out _ (Below.refl _ _).drew | with_reducible exact KEEP.out _ (Below.refl _ _))
      (first | (go_at_call 138; (with_reducible refine (hk _).mono ?_); rintro e w1 ⟨rfl, hB1⟩; first
        | (have hB2 : Below W0.heap.size W0 w1 := drew_trans hB1; clear hB1)
        | (have hB2 : Below W0.heap.size W0 w1 := ((Below.refl W0.heap.size W0).alloc (Nat.le_refl _) (.cells #[.nilFunc, .nilFunc, .nilFunc, .nilFunc] 202)).drew.trans (hB1.mono (by show W0.heap.size ≤ (W0.alloc _).heap.size; simp))
           have hbx : Blk4 w1 W0.heap.size 202 .nilFunc .nilFunc .nilFunc .nilFunc := (hB1.block W0.heap.size (by show W0.heap.size < (W0.alloc _).heap.size; simp)).trans (heap_alloc_new W0 _)
           obtain ⟨m0, m1, m2, m3⟩ := hbx.box
           have f0 := hbx.free 0
           have f1 := hbx.free 1
           have f2 := hbx.free 2
           have f3 := hbx.free 3
           clear hB1)))
    all_goals
      go_wp2_with fail
      go_simp
      go_meet
      first
      | with_reducible exact ⟨_, rfl, Lib.hid ⟨blk4_new _ _ _ _ _ _, hB2.alloc hB2.size _⟩⟩
      | with_reducible exact ⟨_, rfl, Lib.hid ⟨(hbx.all _ _ _ _).1, set4_below hB2 (Nat.le_refl _)⟩⟩
  case rest =>
  obtain ⟨b, rfl, HC⟩ := hcut
  have HW := Lib.hid (hBw.out.trans (HC.out.2.mono hsz))
  have b0 := HB0.out.same (HC.out.2.block _ HB0.out.lt)
  obtain ⟨x0, x1, x2, x3⟩ := b0.box
  obtain ⟨y0, y1, y2, y3⟩ := HC.out.1.box
  have HK := Lib.hid (And.intro b0 HC.out.1)
  clear b0
  go_wp2_with fail
  refine (HF.out.1 _ HW.out).mono ?_
  rintro e w1 ⟨rfl, hB1⟩
  have HW1 := Lib.hid (HW.out.trans (hB1.mono HW.out.size))
  have HK1 := Lib.hid (And.intro (HK.out.1.same (hB1.block _ HK.out.1.lt)) (HK.out.2.same (hB1.block _ HK.out.2.lt)))
  clear x0 x1 x2 x3 y0 y1 y2 y3 hB1
  obtain ⟨x0, x1, x2, x3⟩ := HK1.out.1.box
  obtain ⟨y0, y1, y2, y3⟩ := HK1.out.2.box
  cases bt
  · go_wp2_with fail
    go_ret
    exact ⟨rfl, HW1.out⟩
  · go_wp2_with fail
    refine (HF.out.2.1 _ HW1.out).mono ?_
    rintro e w2 ⟨rfl, hB2⟩
    have HW2 := Lib.hid (HW1.out.trans (hB2.mono HW1.out.size))
    have HK2 := Lib.hid (And.intro (HK1.out.1.same (hB2.block _ HK1.out.1.lt)) (HK1.out.2.same (hB2.block _ HK1.out.2.lt)))
    clear x0 x1 x2 x3 y0 y1 y2 y3 hB2
    obtain ⟨x0, x1, x2, x3⟩ := HK2.out.1.box
    obtain ⟨y0, y1, y2, y3⟩ := HK2.out.2.box
    cases bl
    · go_wp2_with fail
      go_ret
      exact ⟨rfl, HW2.out⟩
    · go_wp2_with fail
      refine (HF.out.2.2 _ HW2.out).mono ?_
      rintro e w3 ⟨rfl, hB3⟩
      have HW3 := Lib.hid (HW2.out.trans (hB3.mono HW2.out.size))
      clear x0 x1 x2 x3 y0 y1 y2 y3 hB3
      go_wp2_with fail
      go_ret
      exact ⟨rfl, HW3.out⟩
end Go.Proofs.YtagafedkfkmkbaaGreatDoor

namespace Go.Proofs.YtagafedkfkmkbaaGreatDoor
open Go Go.RowKit Go.Shelf Go.Lib

set_option maxRecDepth 100000 in
theorem noText_any (s : ByteArray) (w : World) : Calls Tryz.prog 191 #[.string s] w (Bools (decide (s.size = 0)) w) := by
  go_enter Tryz.func191, Tryz.ntmps191
  go_wp2_with fail
  go_ret
  refine ⟨?_, Below.refl _ _⟩
  first | (show Ending.returned (.bool s.toList.isEmpty) = _; rw [empty_isE]) | (show Ending.returned (.bool (decide (s = ByteArray.empty))) = _; rw [empty_dec])
set_option maxRecDepth 100000 in
theorem noList_any (p : Option Addr) (n c : Nat) (d : Int) (w : World) (h : n ≤ 2000000000000) (h2 : n ≤ c) (h3 : c ≤ 9223372036854775807) : Calls Tryz.prog 192 #[.slice p n c, .int .i64 d] w (Bools (decide (n = 0)) w) := by
  go_enter Tryz.func192, Tryz.ntmps192
  go_wp2_with fail
  go_ret
  refine ⟨?_, Below.refl _ _⟩
  by_cases h0 : n = 0
  · subst h0; rfl
  · show Ending.returned (.bool _) = _
    congr 2
    simp [h0]
set_option maxRecDepth 100000 in
theorem noFields_any (p : Option Addr) (n c : Nat) (d : Int) (w : World) (h : n ≤ 2000000000000) (h2 : n ≤ c) (h3 : c ≤ 9223372036854775807) : Calls Tryz.prog 193 #[.slice p n c, .int .i64 d] w (Bools (decide (n = 0)) w) := by
  go_enter Tryz.func193, Tryz.ntmps193
  go_wp2_with fail
  go_ret
  refine ⟨?_, Below.refl _ _⟩
  by_cases h0 : n = 0
  · subst h0; rfl
  · show Ending.returned (.bool _) = _
    congr 2
    simp [h0]
/-- a kind's text -/
def txk (k : Nat) (x : ByteArray) : Bool := if k = 3 then numS x else if k = 4 then U.valid x else decide (x.size = 0)
/-- a row of values, or of fields whose names are none of some -/
def mayT : V.T → Nat → List ByteArray → Nat → Bool
  | .nil, _, _, _ => true
  | .cons nm k x l f tl, d, seen, dep => (if d = 1 then !(seen.contains nm) && U.valid nm else true) &&
      (decide (k ≤ 6) && (txk k x && (if k = 5 then !(decide (dep = 64)) && mayT l 0 [] (dep + 1) else decide (l.len = 0)) && (if k = 6 then !(decide (dep = 64)) && mayT f 1 [] (dep + 1) else decide (f.len = 0)))) && mayT tl d (nm :: seen) dep
def mayV (k : Nat) (x : ByteArray) (l f : V.T) (dep : Nat) : Bool := decide (k ≤ 6) && (txk k x && (if k = 5 then !(decide (dep = 64)) && mayT l 0 [] (dep + 1) else decide (l.len = 0)) && (if k = 6 then !(decide (dep = 64)) && mayT f 1 [] (dep + 1) else decide (f.len = 0)))
theorem mayT_val {nm : ByteArray} {k : Nat} {x : ByteArray} {l f tl : V.T} {seen : List ByteArray} {dep : Nat} : mayT (.cons nm k x l f tl) 0 seen dep = (mayV k x l f dep && mayT tl 0 (nm :: seen) dep) := by
  unfold mayV
  conv => lhs; unfold mayT
  rw [if_neg (by decide), Bool.true_and]
theorem mayT_seen : ∀ (t : V.T) (a b : List ByteArray) (dep : Nat), mayT t 0 a dep = mayT t 0 b dep
  | .nil, _, _, _ => rfl
  | .cons nm k x l f tl, a, b, dep => by rw [mayT_val, mayT_val, mayT_seen tl (nm :: a) (nm :: b) dep]
/-- strings of a size that is gone through -/
def Sm : V.T → Prop
  | .nil => True
  | .cons nm _ x l f tl => nm.size ≤ 1000000000000 ∧ x.size ≤ 1000000000000 ∧ Sm l ∧ Sm f ∧ Sm tl
theorem Sm.drop {t : V.T} {i : Nat} {nm : ByteArray} {k : Nat} {x : ByteArray} {l f tl : V.T} (h : Sm t) (hd : t.drop i = .cons nm k x l f tl) : nm.size ≤ 1000000000000 ∧ x.size ≤ 1000000000000 ∧ Sm l ∧ Sm f ∧ Sm tl := by
  induction i generalizing t with
  | zero => rw [V.T.drop_zero] at hd; subst hd; exact h
  | succ i ih =>
    cases t with
    | nil => cases hd
    | cons a b c d e tl2 => exact ih (t := tl2) h.2.2.2.2 hd
/-- valid serves values of fewer than N elements -/
def MayOk (P : World → Prop) (N : Nat) : Prop := ∀ (k : Nat) (x : ByteArray) (va ua : Value) (l f : V.T) (A : Nat → Prop) (d : Nat) (w : World), l.size + f.size < N → k < 256 → x.size ≤ 1000000000000 → Sm l → Sm f → HS w A 0 va l → HS w A 1 ua f → d ≤ 64 → P w →
  Calls Tryz.prog 73 #[.agg #[.int .u8 k, .string x, va, ua], .int .i64 d] w (Bools (mayV k x l f d) w)

set_option maxHeartbeats 1000000 in
set_option maxRecDepth 100000 in
theorem validList_any (P : World → Prop) (hP : ∀ W W', P W → Below W.heap.size W W' → P W') (N : Nat) (ih : MayOk P N) (v : Value) (t : V.T) (A : Nat → Prop) (d : Nat) (w : World) (ht : t.size ≤ N) (hs : Sm t) (hv : HS w A 0 v t) (hd : d ≤ 64) (hPw : P w) :
    Calls Tryz.prog 200 #[v, .int .i64 d] w (Bools (!(decide (d = 64)) && mayT t 0 [] (d + 1)) w) := by
  obtain ⟨p, c, rfl, b0, b1, b2⟩ := hv.len
  by_cases h64 : d = 64
  · have td : ((d : Int) == 64) = true := by simp; omega
    rw [decide_eq_true h64]
    clear h64 hd
    go_enter Tryz.func200, Tryz.ntmps200
    go_wp2_with fail
    go_ret
    exact ⟨rfl, Below.refl _ _⟩
  · have td : ((d : Int) == 64) = false := by simp; omega
    rw [decide_eq_false h64]
    generalize hn : t.len = n at *
    have HN := Lib.hid hn
    have HA := Lib.hid hv
    have hd2 : d + 1 ≤ 64 := by omega
    have HH := Lib.hid (And.intro ht (And.intro hs hd2))
    have HP := Lib.hid (And.intro hP hPw)
    clear hn hv ht hs h64 hd hP hPw
    go_enter Tryz.func200, Tryz.ntmps200
    go_wp2_with fail
    go_loopw [11] (fun q wr => ∃ i : Nat, q = .int .i64 i ∧ i ≤ n ∧ Hid (mayT (t.drop i) 0 [] (d + 1) = mayT t 0 [] (d + 1)) ∧ Hid (Below w.heap.size w wr)) (fun q _ => n - (RowKit.intOf q).toNat)
    case atStart => exact ⟨0, rfl, Nat.zero_le _, Lib.hid (by rw [V.T.drop_zero]), Lib.hid (Below.refl _ _)⟩
    case round =>
      obtain ⟨i, rfl, hi, HR, HB⟩ := hrel
      by_cases hlt : i < n
      · obtain ⟨nm1, k1, x1, l1, f1, tl1, hd1⟩ := V.T.drop_some (t := t) (i := i) (by rw [HN.out]; exact hlt)
        obtain ⟨b1, o1, v1, u1, rfl, E1⟩ := (HA.out.below HB.out).elem (by rw [HN.out]; exact hlt) hd1
        obtain ⟨p1, c5, rfl, -⟩ := E1.hl.len
        obtain ⟨p2, c6, rfl, -⟩ := E1.hf.len
        have e1 := E1.kind
        have e2 := E1.text
        have e3 := E1.list
        have e4 := E1.fields
        simp only [Nat.add_zero] at e1 e2 e3 e4
        have hsz := V.T.drop_size hd1
        have hsm := HH.out.2.1.drop hd1
        have IH := fun W (hB : Below wr.heap.size wr W) => ih k1 x1 _ _ l1 f1 A (d + 1) W (by have := HH.out.1; omega) E1.small.1 hsm.2.1 hsm.2.2.1 hsm.2.2.2.1 (E1.hl.below hB) (E1.hf.below hB) HH.out.2.2 (HP.out.1 _ _ (HP.out.1 _ _ HP.out.2 HB.out) hB)
        have hcast : ((d + 1 : Nat) : Int) = (d : Int) + 1 := by omega
        simp only [hcast] at IH
        clear hcast
        have hstep : mayT (t.drop i) 0 [] (d + 1) = (mayV k1 x1 l1 f1 (d + 1) && mayT (t.drop (i + 1)) 0 [] (d + 1)) := by
          rw [hd1, V.T.drop_step hd1, mayT_val, mayT_seen tl1 [nm1] []]
        have HS := Lib.hid hstep
        have HL := Lib.hid hlt
        clear hstep hsz hsm E1 hd1
        cases hv : mayV k1 x1 l1 f1 (d + 1)
        · have hno : mayT t 0 [] (d + 1) = false := by rw [← HR.out, HS.out, hv]; rfl
          rw [hv] at IH
          have HNo := Lib.hid hno
          have hBa := Lib.hid ((Below.refl wr.heap.size wr).alloc (Nat.le_refl _) (.cells #[.int .u8 k1, .string x1, .slice p1 l1.len c5, .slice p2 f1.len c6] 25))
          clear hno hv
          go_wp2_with fail
          (with_reducible refine (IH _ hBa.out).mono ?_)
          rintro e w1 ⟨rfl, hB1⟩
          have HB2 := Lib.hid (HB.out.trans ((hBa.out.trans (hB1.mono hBa.out.size)).mono HB.out.size))
          clear hB1 IH e1 e2 e3 e4
          go_wp2_with fail
          go_ret
          refine ⟨?_, HB2.out⟩
          rw [HNo.out]
          rfl
        · have hyes : mayT (t.drop (i + 1)) 0 [] (d + 1) = mayT t 0 [] (d + 1) := by rw [← HR.out, HS.out, hv, Bool.true_and]
          rw [hv] at IH
          have HY := Lib.hid hyes
          have hBa := Lib.hid ((Below.refl wr.heap.size wr).alloc (Nat.le_refl _) (.cells #[.int .u8 k1, .string x1, .slice p1 l1.len c5, .slice p2 f1.len c6] 25))
          clear hyes hv
          go_wp2_with fail
          (with_reducible refine (IH _ hBa.out).mono ?_)
          rintro e w1 ⟨rfl, hB1⟩
          have HB2 := Lib.hid (HB.out.trans ((hBa.out.trans (hB1.mono hBa.out.size)).mono HB.out.size))
          clear hB1 IH e1 e2 e3 e4
          go_wp2_with fail
          go_roundw
          case rel => exact ⟨i + 1, by go_num, HL.out, HY, HB2⟩
          case measure => have := HL.out; simp [RowKit.intOf]; omega
      · obtain rfl : i = n := by omega
        have hyes : mayT t 0 [] (d + 1) = true := by rw [← HR.out, ← HN.out, V.T.drop_len]; rfl
        have HY := Lib.hid hyes
        clear hyes
        go_wp2_with fail
        go_ret
        refine ⟨?_, HB.out⟩
        rw [HY.out]
        rfl
end Go.Proofs.YtagafedkfkmkbaaGreatDoor
