/- The program's May: may a value be? Conditions: such as Go can hold. -/
import Derived.Test.YtoolkaahjmnjeaaGreatDoorMW04
import Derived.Test.YtoolkaahjmnjeaaGreatDoorMW05
import Derived.Deep.RegionHeld3
import Derived.Deep.DeepCutAuto
import Derived.Deep.CutBlock
import Derived.Lib.DecodeN
import Derived.Lib.RuneCount
import Derived.Lib.TrimUEq
import Derived.Lib.ValidU
import Derived.Lib.ValidAsc
namespace Go.Proofs.YtoolkaahjmnjeaaGreatDoor
open Go Go.RowKit Go.Shelf Go.Lib

theorem blk4_new (w : World) (t : TypeId) (k x v u : Value) : Blk4 (w.alloc (.cells #[k, x, v, u] t)) w.heap.size t k x v u := heap_alloc_new _ _
theorem set4_below {B b : Nat} {W0 w1 : World} {k x v u : Value} (h : Below B W0 w1) (hb : B ≤ b) : Below B W0 ((((w1.setCell ⟨b, 0, none⟩ k).setCell ⟨b, 1, none⟩ x).setCell ⟨b, 2, none⟩ v).setCell ⟨b, 3, none⟩ u) :=
  (((h.setCell hb _).setCell hb _).setCell hb _).setCell hb _
theorem drew_trans {W0 w1 : World} (h : Below W0.drew.heap.size W0.drew w1) : Below W0.heap.size W0 w1 := (Below.refl W0.heap.size W0).drew.trans h
set_option maxHeartbeats 2000000 in
set_option maxRecDepth 100000 in
theorem valid_with (k : Nat) (x : ByteArray) (p q : Option Addr) (n c m e : Nat) (d : Nat) (ft fl ff fw : FuncId) (bt bl bf : Bool) (w : World) (hk6 : k ≤ 6)
    (hix : ∀ W : World, (Instr.index 152 (.agg knds) (.int .u8 k)).run Tryz.prog W = .ok (.agg #[.func (.func ft) #[] #[], .func (.func fl) #[] #[], .func (.func ff) #[] #[], .func (.func fw) #[] #[]]) W)
    (et : ∀ args w, (callFunc ft args).run Tryz.prog w = .ok (.enter ft args) w) (el : ∀ args w, (callFunc fl args).run Tryz.prog w = .ok (.enter fl args) w) (ef : ∀ args w, (callFunc ff args).run Tryz.prog w = .ok (.enter ff args) w)
    (ht : ∀ W, Below w.heap.size w W → Calls Tryz.prog ft #[.string x] W (Bools bt W)) (hl : ∀ W, Below w.heap.size w W → Calls Tryz.prog fl #[.slice p n c, .int .i64 d] W (Bools bl W)) (hf : ∀ W, Below w.heap.size w W → Calls Tryz.prog ff #[.slice q m e, .int .i64 d] W (Bools bf W)) :
    Calls Tryz.prog 51 #[.agg #[.int .u8 k, .string x, .slice p n c, .slice q m e], .int .i64 d] w (Bools (bt && bl && bf) w) := by
  have hk := fun W => kinds_any W
  have tk : decide ((6 : Int) < (k : Int)) = false := decide_eq_false (by omega)
  have hb : Blk4 (w.alloc (.cells #[.int .u8 k, .string x, .slice p n c, .slice q m e] 25)) w.heap.size 25 _ _ _ _ := heap_alloc_new _ _
  have hBw := Lib.hid ((Below.refl w.heap.size w).alloc (Nat.le_refl _) (.cells #[.int .u8 k, .string x, .slice p n c, .slice q m e] 25))
  have hsz : w.heap.size ≤ (w.alloc (.cells #[.int .u8 k, .string x, .slice p n c, .slice q m e] 25)).heap.size := by simp
  have hst : ∀ (W : World) (a : Addr) (f : FuncId), (store a (.func (.func f) #[] #[])).run Tryz.prog W = stored Tryz.prog W a (.func (.func f) #[] #[]) .plain := fun W a f => run_store Tryz.prog W a _ _ rfl
  obtain ⟨c0, c1, c2, c3⟩ := hb.box
  have keep : ∀ w', Below (w.alloc (.cells #[.int .u8 k, .string x, .slice p n c, .slice q m e] 25)).heap.size (w.alloc (.cells #[.int .u8 k, .string x, .slice p n c, .slice q m e] 25)) w' → w'.cell? ⟨w.heap.size, 0, none⟩ = some (.int .u8 k) := fun w' hB => bcellv hB c0
  have KEEP := Lib.hid keep
  clear keep
  go_enter Tryz.func51, Tryz.ntmps51
  go_wp2_with fail
  generalize w.alloc (.cells #[.int .u8 k, .string x, .slice p n c, .slice q m e] 25) = W0 at *
  have HB0 := Lib.hid hb
  have HF := Lib.hid (And.intro ht (And.intro hl hf))
  clear c1 c2 c3 ht hl hf hb hk6
  go_cut [5] (fun g wx => ∃ b, g = .pointer (some ⟨b, 0, none⟩) ∧ Hid (Blk4 wx b 151 (.func (.func ft) #[] #[]) (.func (.func fl) #[] #[]) (.func (.func ff) #[] #[]) (.func (.func fw) #[] #[]) ∧ Below W0.heap.size W0 wx))
  case first =>
    go_region_held3 (fun w' => w'.cell? ⟨w.heap.size, 0, none⟩ = some (.int .u8 k))
      (first | with_reducible exact KEEP.out _ hB2 | with_reducible exact KEEP.out _ (set4_below hB2 (Nat.le_refl _)) | with_reducible exact KEEP.out _ (set4_below (hB2.alloc hB2.size _) hB2.size) | with_reducible exact KEEP.out _ (hB2.alloc hB2.size _) | with_reducible exact KEEP.out _ ((Below.refl _ _).alloc (Nat.le_refl _) _).drew | with_reducible exact KEEP.out _ (Below.refl _ _).drew | with_reducible exact KEEP.out _ (Below.refl _ _))
      (first | (go_at_call 97; (with_reducible refine (hk _).mono ?_); rintro e w1 ⟨rfl, hB1⟩; first
        | (have hB2 : Below W0.heap.size W0 w1 := drew_trans hB1; clear hB1)
        | (have hB2 : Below W0.heap.size W0 w1 := ((Below.refl W0.heap.size W0).alloc (Nat.le_refl _) (.cells #[.nilFunc, .nilFunc, .nilFunc, .nilFunc] 151)).drew.trans (hB1.mono (by show W0.heap.size ≤ (W0.alloc _).heap.size; simp))
           have hbx : Blk4 w1 W0.heap.size 151 .nilFunc .nilFunc .nilFunc .nilFunc := (hB1.block W0.heap.size (by show W0.heap.size < (W0.alloc _).heap.size; simp)).trans (heap_alloc_new W0 _)
           obtain ⟨m0, m1, m2, m3⟩ := hbx.box
           have f0 := hbx.free 0
           have f1 := hbx.free 1
           have f2 := hbx.free 2
           have f3 := hbx.free 3
           clear hB1)))
    all_goals
      go_wp2_with fail
      go_simp
      go_meet
      first
      | with_reducible exact ⟨_, rfl, Lib.hid ⟨blk4_new _ _ _ _ _ _, hB2.alloc hB2.size _⟩⟩
      | with_reducible exact ⟨_, rfl, Lib.hid ⟨(hbx.all _ _ _ _).1, set4_below hB2 (Nat.le_refl _)⟩⟩
  case rest =>
  obtain ⟨b, rfl, HC⟩ := hcut
  have HW := Lib.hid (hBw.out.trans (HC.out.2.mono hsz))
  have b0 := HB0.out.same (HC.out.2.block _ HB0.out.lt)
  obtain ⟨x0, x1, x2, x3⟩ := b0.box
  obtain ⟨y0, y1, y2, y3⟩ := HC.out.1.box
  have HK := Lib.hid (And.intro b0 HC.out.1)
  clear b0
  go_wp2_with fail
  refine (HF.out.1 _ HW.out).mono ?_
  rintro e w1 ⟨rfl, hB1⟩
  have HW1 := Lib.hid (HW.out.trans (hB1.mono HW.out.size))
  have HK1 := Lib.hid (And.intro (HK.out.1.same (hB1.block _ HK.out.1.lt)) (HK.out.2.same (hB1.block _ HK.out.2.lt)))
  clear x0 x1 x2 x3 y0 y1 y2 y3 hB1
  obtain ⟨x0, x1, x2, x3⟩ := HK1.out.1.box
  obtain ⟨y0, y1, y2, y3⟩ := HK1.out.2.box
  cases bt
  · go_wp2_with fail
    go_ret
    exact ⟨rfl, HW1.out⟩
  · go_wp2_with fail
    refine (HF.out.2.1 _ HW1.out).mono ?_
    rintro e w2 ⟨rfl, hB2⟩
    have HW2 := Lib.hid (HW1.out.trans (hB2.mono HW1.out.size))
    have HK2 := Lib.hid (And.intro (HK1.out.1.same (hB2.block _ HK1.out.1.lt)) (HK1.out.2.same (hB2.block _ HK1.out.2.lt)))
    clear x0 x1 x2 x3 y0 y1 y2 y3 hB2
    obtain ⟨x0, x1, x2, x3⟩ := HK2.out.1.box
    obtain ⟨y0, y1, y2, y3⟩ := HK2.out.2.box
    cases bl
    · go_wp2_with fail
      go_ret
      exact ⟨rfl, HW2.out⟩
    · go_wp2_with fail
      refine (HF.out.2.2 _ HW2.out).mono ?_
      rintro e w3 ⟨rfl, hB3⟩
      have HW3 := Lib.hid (HW2.out.trans (hB3.mono HW2.out.size))
      clear x0 x1 x2 x3 y0 y1 y2 y3 hB3
      go_wp2_with fail
      go_ret
      exact ⟨rfl, HW3.out⟩
end Go.Proofs.YtoolkaahjmnjeaaGreatDoor

namespace Go.Proofs.YtoolkaahjmnjeaaGreatDoor.U
open Go

def wd (s : ByteArray) (i : Nat) : Nat := (Utf8.decode s i).2
def ch (s : ByteArray) (i : Nat) : Nat := (Utf8.decode s i).1
def bad (s : ByteArray) (i : Nat) : Bool := decide (ch s i = 65533 ∧ wd s i = 1)
def un (s : ByteArray) (i : Nat) : Nat := if 65536 ≤ ch s i then 2 else 1
/-- what Next answers at an offset within the string -/
def nr (s : ByteArray) (i : Nat) : Int := if bad s i = true then 0 else (ch s i : Int)
def nk (s : ByteArray) (i : Nat) : Int := if bad s i = true then 0 else (wd s i : Int)
def nb (s : ByteArray) (i : Nat) : Bool := !bad s i

set_option maxRecDepth 100000 in
set_option maxHeartbeats 2000000 in
theorem dn_facts (n b0 b1 b2 b3 : Nat) (hn : 1 ≤ n) (h0 : b0 < 256) : 1 ≤ (Lib.decodeN n b0 b1 b2 b3).2 ∧ (Lib.decodeN n b0 b1 b2 b3).2 ≤ 4 ∧ (Lib.decodeN n b0 b1 b2 b3).2 ≤ n ∧ (65536 ≤ (Lib.decodeN n b0 b1 b2 b3).1 → (Lib.decodeN n b0 b1 b2 b3).2 = 4) ∧ ((Lib.decodeN n b0 b1 b2 b3).2 = 4 → 65536 ≤ (Lib.decodeN n b0 b1 b2 b3).1) ∧ (Lib.decodeN n b0 b1 b2 b3).1 ≤ 1114111 := by
  unfold Lib.decodeN
  repeat' split
  all_goals (refine ⟨?_, ?_, ?_, ?_, ?_, ?_⟩ <;> (try intro) <;> simp only at * <;> omega)

theorem facts (s : ByteArray) (i : Nat) (h : i < s.size) : 1 ≤ wd s i ∧ wd s i ≤ 4 ∧ i + wd s i ≤ s.size ∧ (65536 ≤ ch s i → wd s i = 4) ∧ (wd s i = 4 → 65536 ≤ ch s i) ∧ ch s i ≤ 1114111 := by
  have := dn_facts (s.size - i) (s.get! i).toNat (s.get! (i + 1)).toNat (s.get! (i + 2)).toNat (s.get! (i + 3)).toNat (by omega) (s.get! i).toNat_lt
  unfold wd ch
  rw [Lib.decode_at]
  omega
theorem wd_pos {s : ByteArray} {i : Nat} (h : i < s.size) : 1 ≤ wd s i := (facts s i h).1
theorem wd_le {s : ByteArray} {i : Nat} (h : i < s.size) : i + wd s i ≤ s.size := (facts s i h).2.2.1
theorem un_le {s : ByteArray} {i : Nat} (h : i < s.size) : 1 ≤ un s i ∧ un s i ≤ wd s i ∧ un s i ≤ 2 := by
  have := facts s i h
  unfold un
  split <;> omega
theorem bad_un {s : ByteArray} {i : Nat} (h : bad s i = true) : un s i = 1 ∧ wd s i = 1 := by
  unfold bad at h
  have h := of_decide_eq_true h
  unfold un
  rw [h.1]
  exact ⟨rfl, h.2⟩

def unitsFrom (s : ByteArray) : Nat → Nat → Nat
  | 0, _ => 0
  | f + 1, pos => if pos < s.size then un s pos + unitsFrom s f (pos + wd s pos) else 0
def units (s : ByteArray) : Nat := unitsFrom s s.size 0
theorem unitsFrom_end (s : ByteArray) (f pos : Nat) (h : ¬ pos < s.size) : unitsFrom s f pos = 0 := by
  cases f <;> simp [unitsFrom, h]
theorem unitsFrom_step (s : ByteArray) (f pos : Nat) (h : pos < s.size) : unitsFrom s (f + 1) pos = un s pos + unitsFrom s f (pos + wd s pos) := by
  simp [unitsFrom, h]
theorem unitsFrom_le (s : ByteArray) : ∀ f pos, pos ≤ s.size → pos + unitsFrom s f pos ≤ s.size
  | 0, pos, h => by simp [unitsFrom, h]
  | f + 1, pos, h => by
    by_cases hp : pos < s.size
    · rw [unitsFrom_step s f pos hp]
      have := unitsFrom_le s f (pos + wd s pos) (wd_le hp)
      have := un_le hp
      omega
    · rw [unitsFrom_end s _ pos hp]; omega
theorem units_le (s : ByteArray) : units s ≤ s.size := by have := unitsFrom_le s s.size 0 (Nat.zero_le _); unfold units; omega

def cutFrom (s : ByteArray) (u : Int) : Nat → Nat → Nat → Nat
  | 0, pos, _ => pos
  | f + 1, pos, n => if pos < s.size then (if u < ((n + un s pos : Nat) : Int) then pos else cutFrom s u f (pos + wd s pos) (n + un s pos)) else pos
def cut (s : ByteArray) (u : Int) : Nat := cutFrom s u s.size 0 0
theorem cutFrom_end (s : ByteArray) (u : Int) (f pos n : Nat) (h : ¬ pos < s.size) : cutFrom s u f pos n = pos := by
  cases f <;> simp [cutFrom, h]
theorem cutFrom_stop (s : ByteArray) (u : Int) (f pos n : Nat) (h : pos < s.size) (hu : u < ((n + un s pos : Nat) : Int)) : cutFrom s u (f + 1) pos n = pos := by
  simp only [cutFrom, if_pos h, if_pos hu]
theorem cutFrom_step (s : ByteArray) (u : Int) (f pos n : Nat) (h : pos < s.size) (hu : ¬ u < ((n + un s pos : Nat) : Int)) : cutFrom s u (f + 1) pos n = cutFrom s u f (pos + wd s pos) (n + un s pos) := by
  simp only [cutFrom, if_pos h, if_neg hu]
/-! ### the document's Next, class by class -/
theorem at_get {s : ByteArray} {i : Nat} (h : i < s.size) : s.get! i = s[i] := get_at s i h
theorem at_byte {s : ByteArray} {i : Nat} (h : i < s.size) : s[i].toNat = (s.get! i).toNat := by rw [at_get h]

def part (s : ByteArray) (i n0 : Nat) : Nat → Nat
  | 0 => n0
  | k + 1 => part s i n0 k * 64 + ((s.get! (i + (k + 1))).toNat % 64)
theorem part_0 (s : ByteArray) (i n0 : Nat) : part s i n0 0 = n0 := rfl
theorem part_1 (s : ByteArray) (i n0 : Nat) : part s i n0 1 = n0 * 64 + (s.get! (i + 1)).toNat % 64 := rfl
theorem part_2 (s : ByteArray) (i n0 : Nat) : part s i n0 2 = (n0 * 64 + (s.get! (i + 1)).toNat % 64) * 64 + (s.get! (i + 2)).toNat % 64 := rfl
theorem part_3 (s : ByteArray) (i n0 : Nat) : part s i n0 3 = ((n0 * 64 + (s.get! (i + 1)).toNat % 64) * 64 + (s.get! (i + 2)).toNat % 64) * 64 + (s.get! (i + 3)).toNat % 64 := rfl
theorem part_lt (s : ByteArray) (i n0 : Nat) (h : n0 < 32) : ∀ k, k ≤ 3 → part s i n0 k < 8388608
  | 0, _ => by rw [part_0]; omega
  | 1, _ => by rw [part_1]; omega
  | 2, _ => by rw [part_2]; omega
  | 3, _ => by rw [part_3]; omega
  | k + 4, h => by omega
/-- the class of a lead byte: how many bytes, and its payload -/
def Lead (b sz n0 : Nat) : Prop := (192 ≤ b ∧ b < 224 ∧ sz = 2 ∧ n0 = b - 192) ∨ (224 ≤ b ∧ b < 240 ∧ sz = 3 ∧ n0 = b - 224) ∨ (240 ≤ b ∧ b < 248 ∧ sz = 4 ∧ n0 = b - 240)
def least (sz : Nat) : Nat := if sz = 2 then 128 else if sz = 3 then 2048 else 65536

theorem bad_iff (s : ByteArray) (i : Nat) : bad s i = true ↔ (ch s i = 65533 ∧ wd s i = 1) := by unfold bad; simp
theorem ch_eq (s : ByteArray) (i : Nat) : ch s i = (Lib.decodeN (s.size - i) (s.get! i).toNat (s.get! (i + 1)).toNat (s.get! (i + 2)).toNat (s.get! (i + 3)).toNat).1 := by unfold ch; rw [Lib.decode_at]
theorem wd_eq (s : ByteArray) (i : Nat) : wd s i = (Lib.decodeN (s.size - i) (s.get! i).toNat (s.get! (i + 1)).toNat (s.get! (i + 2)).toNat (s.get! (i + 3)).toNat).2 := by unfold wd; rw [Lib.decode_at]

theorem next_ascii (s : ByteArray) (i : Nat) (h : (s.get! i).toNat < 128) : ch s i = (s.get! i).toNat ∧ wd s i = 1 ∧ bad s i = false := by
  have a : ch s i = (s.get! i).toNat := by rw [ch_eq]; unfold Lib.decodeN; rw [if_pos h]
  have b : wd s i = 1 := by rw [wd_eq]; unfold Lib.decodeN; rw [if_pos h]
  refine ⟨a, b, ?_⟩
  unfold bad
  rw [a]
  exact decide_eq_false (by omega)
theorem next_lone (s : ByteArray) (i : Nat) (h : 128 ≤ (s.get! i).toNat ∧ (s.get! i).toNat < 192 ∨ 248 ≤ (s.get! i).toNat) : bad s i = true := by
  have h0 := (s.get! i).toNat_lt
  rw [bad_iff, ch_eq, wd_eq]
  unfold Lib.decodeN
  rw [if_neg (by omega), if_neg (by omega), if_neg (by omega), if_neg (by omega)]
  exact ⟨rfl, rfl⟩
set_option maxRecDepth 100000 in
theorem next_short (s : ByteArray) (i sz n0 : Nat) (hl : Lead (s.get! i).toNat sz n0) (hi : i < s.size) (h : s.size < i + sz) : bad s i = true := by
  rw [bad_iff, ch_eq, wd_eq]
  unfold Lib.decodeN
  rcases hl with ⟨h1, h2, rfl, rfl⟩ | ⟨h1, h2, rfl, rfl⟩ | ⟨h1, h2, rfl, rfl⟩ <;>
  · rw [if_neg (by omega), if_neg (by omega), if_neg (by omega), if_neg (by omega)]
    exact ⟨rfl, rfl⟩
set_option maxRecDepth 100000 in
theorem next_broken (s : ByteArray) (i sz n0 k : Nat) (hl : Lead (s.get! i).toNat sz n0) (hk : 1 ≤ k ∧ k < sz) (h : (s.get! (i + k)).toNat < 128 ∨ 192 ≤ (s.get! (i + k)).toNat) : bad s i = true := by
  rw [bad_iff, ch_eq, wd_eq]
  unfold Lib.decodeN
  have hlt := (s.get! (i + k)).toNat_lt
  have hk' : k = 1 ∨ k = 2 ∨ k = 3 := by rcases hl with ⟨_, _, rfl, _⟩ | ⟨_, _, rfl, _⟩ | ⟨_, _, rfl, _⟩ <;> omega
  rcases hk' with rfl | rfl | rfl <;> rcases hl with ⟨h1, h2, rfl, rfl⟩ | ⟨h1, h2, rfl, rfl⟩ | ⟨h1, h2, rfl, rfl⟩ <;> first | (exfalso; omega) | skip
  all_goals
    rw [if_neg (by omega), if_neg (by omega), if_neg (by omega), if_neg (by omega)]
    exact ⟨rfl, rfl⟩
set_option maxRecDepth 100000 in
set_option maxHeartbeats 2000000 in
theorem next_whole (s : ByteArray) (i sz n0 : Nat) (hl : Lead (s.get! i).toNat sz n0) (h : i + sz ≤ s.size) (hc : ∀ k, 1 ≤ k → k < sz → 128 ≤ (s.get! (i + k)).toNat ∧ (s.get! (i + k)).toNat < 192) :
    (bad s i = true ∧ (part s i n0 (sz - 1) < least sz ∨ 1114111 < part s i n0 (sz - 1) ∨ (55296 ≤ part s i n0 (sz - 1) ∧ part s i n0 (sz - 1) < 57344))) ∨
    (bad s i = false ∧ ch s i = part s i n0 (sz - 1) ∧ wd s i = sz ∧ least sz ≤ part s i n0 (sz - 1) ∧ part s i n0 (sz - 1) ≤ 1114111 ∧ (part s i n0 (sz - 1) < 55296 ∨ 57344 ≤ part s i n0 (sz - 1))) := by
  have hf : bad s i = false ↔ ¬ (ch s i = 65533 ∧ wd s i = 1) := by rw [← bad_iff]; simp
  rw [bad_iff, hf, ch_eq, wd_eq]
  clear hf
  unfold Lib.decodeN
  rcases hl with ⟨h1, h2, rfl, rfl⟩ | ⟨h1, h2, rfl, rfl⟩ | ⟨h1, h2, rfl, rfl⟩
  · have c1 := hc 1 (by omega) (by omega)
    rw [show 2 - 1 = 1 from rfl, part_1, show least 2 = 128 from rfl]
    rw [if_neg (by omega), if_pos (by omega)]
    split
    · refine Or.inr ⟨fun hx => ?_, ?_, rfl, ?_, ?_, ?_⟩ <;> (try simp only at *) <;> omega
    · refine Or.inl ⟨⟨rfl, rfl⟩, ?_⟩
      omega
  · have c1 := hc 1 (by omega) (by omega)
    have c2 := hc 2 (by omega) (by omega)
    rw [show 3 - 1 = 2 from rfl, part_2, show least 3 = 2048 from rfl]
    rw [if_neg (by omega), if_neg (by omega), if_pos (by omega)]
    split
    · refine Or.inr ⟨fun hx => ?_, ?_, rfl, ?_, ?_, ?_⟩ <;> (try simp only at *) <;> omega
    · refine Or.inl ⟨⟨rfl, rfl⟩, ?_⟩
      omega
  · have c1 := hc 1 (by omega) (by omega)
    have c2 := hc 2 (by omega) (by omega)
    have c3 := hc 3 (by omega) (by omega)
    rw [show 4 - 1 = 3 from rfl, part_3, show least 4 = 65536 from rfl]
    rw [if_neg (by omega), if_neg (by omega), if_neg (by omega), if_pos (by omega)]
    split
    · refine Or.inr ⟨fun hx => ?_, ?_, rfl, ?_, ?_, ?_⟩ <;> (try simp only at *) <;> omega
    · refine Or.inl ⟨⟨rfl, rfl⟩, ?_⟩
      omega
end Go.Proofs.YtoolkaahjmnjeaaGreatDoor.U

namespace Go.Proofs.YtoolkaahjmnjeaaGreatDoor.U
open Go

theorem bad_wd {s : ByteArray} {i : Nat} (h : bad s i = true) : wd s i = 1 := ((bad_iff s i).1 h).2
theorem good_of_wd {s : ByteArray} {i : Nat} (h : wd s i ≠ 1) : bad s i = false := by
  cases hb : bad s i
  · rfl
  · exact absurd (bad_wd hb) h
theorem ext_decode (s : ByteArray) (k : Nat) : Utf8.decode (s.extract k s.size) 0 = Utf8.decode s k := by
  rw [← Lib.decodeL_drop s k, ← Lib.ext_list s k, ← Lib.decodeL_drop (s.extract k s.size) 0]
  rfl

/-! ### valid -/
def vFrom (s : ByteArray) : Nat → Nat → Bool
  | 0, _ => true
  | f + 1, pos => if pos < s.size then (if bad s pos = true then false else vFrom s f (pos + wd s pos)) else true
def valid (s : ByteArray) : Bool := vFrom s s.size 0
theorem vFrom_end (s : ByteArray) (f pos : Nat) (h : ¬ pos < s.size) : vFrom s f pos = true := by
  cases f <;> simp [vFrom, h]
theorem vFrom_bad (s : ByteArray) (f pos : Nat) (h : pos < s.size) (hb : bad s pos = true) : vFrom s (f + 1) pos = false := by
  simp only [vFrom, if_pos h, if_pos hb]
theorem vFrom_step (s : ByteArray) (f pos : Nat) (h : pos < s.size) (hb : bad s pos = false) : vFrom s (f + 1) pos = vFrom s f (pos + wd s pos) := by
  simp only [vFrom, if_pos h, hb, Bool.false_eq_true, if_false]
theorem validGo_eq (s : ByteArray) : ∀ f pos, Lib.validGoD f (s.data.toList.drop pos) = vFrom s f pos
  | 0, _ => rfl
  | f + 1, pos => by
    by_cases h : pos < s.size
    · have hl : s.data.toList.drop pos ≠ [] := by
        intro hh
        have := congrArg List.length hh
        rw [List.length_drop, ← Lib.size_eq] at this
        simp only [List.length_nil] at this
        omega
      rw [Lib.validGoD, if_neg hl, Lib.decodeL_drop]
      show (if ch s pos = 65533 ∧ wd s pos = 1 then false else Lib.validGoD f (List.drop (wd s pos) (List.drop pos s.data.toList))) = _
      by_cases hb : bad s pos = true
      · rw [vFrom_bad s f pos h hb, if_pos ((bad_iff s pos).1 hb)]
      · rw [vFrom_step s f pos h (by simpa using hb), if_neg (fun hx => hb ((bad_iff s pos).2 hx)), List.drop_drop]
        exact validGo_eq s f (pos + wd s pos)
    · have hl : s.data.toList.drop pos = [] := List.drop_eq_nil_of_le (by rw [← Lib.size_eq]; omega)
      rw [Lib.validGoD, if_pos hl, vFrom_end s _ pos h]
theorem validD_eq (s : ByteArray) : Lib.validD s.data.toList = valid s := by
  have := validGo_eq s s.data.toList.length 0
  rw [List.drop_zero] at this
  unfold Lib.validD valid
  rw [this, Lib.size_eq]

/-! ### where an item begins -/
def bg (s : ByteArray) : Nat → Nat → Nat → Nat
  | 0, pos, _ => pos
  | f + 1, pos, i => if i < pos + wd s pos then pos else bg s f (pos + wd s pos) i
def bgn (s : ByteArray) (i : Nat) : Nat := bg s s.size 0 i
theorem bg_stop (s : ByteArray) (f pos i : Nat) (h : i < pos + wd s pos) : bg s (f + 1) pos i = pos := by simp only [bg, if_pos h]
theorem bg_step (s : ByteArray) (f pos i : Nat) (h : ¬ i < pos + wd s pos) : bg s (f + 1) pos i = bg s f (pos + wd s pos) i := by simp only [bg, if_neg h]
theorem bg_has (s : ByteArray) : ∀ f pos i, pos ≤ i → i < s.size → s.size ≤ pos + f → pos ≤ bg s f pos i ∧ bg s f pos i ≤ i ∧ i < bg s f pos i + wd s (bg s f pos i)
  | 0, pos, i, h1, h2, h3 => by omega
  | f + 1, pos, i, h1, h2, h3 => by
    by_cases h : i < pos + wd s pos
    · rw [bg_stop s f pos i h]; omega
    · rw [bg_step s f pos i h]
      have hp := wd_pos (s := s) (i := pos) (by omega)
      have := bg_has s f (pos + wd s pos) i (by omega) h2 (by omega)
      omega
theorem bg_uni (s : ByteArray) : ∀ f pos q i, bg s f pos q = q → q ≤ i → i < q + wd s q → bg s f pos i = q
  | 0, pos, q, i, h, _, _ => h
  | f + 1, pos, q, i, h, h1, h2 => by
    by_cases hq : q < pos + wd s pos
    · rw [bg_stop s f pos q hq] at h
      subst h
      exact bg_stop s f pos i h2
    · rw [bg_step s f pos q hq] at h
      rw [bg_step s f pos i (by omega)]
      exact bg_uni s f _ q i h h1 h2
theorem bgn_has (s : ByteArray) (i : Nat) (h : i < s.size) : bgn s i ≤ i ∧ i < bgn s i + wd s (bgn s i) := (bg_has s s.size 0 i (Nat.zero_le _) h (by omega)).2

set_option maxRecDepth 100000 in
set_option maxHeartbeats 2000000 in
theorem dn_inner (n b0 b1 b2 b3 : Nat) : (2 ≤ (Lib.decodeN n b0 b1 b2 b3).2 → b1 / 64 = 2) ∧ (3 ≤ (Lib.decodeN n b0 b1 b2 b3).2 → b2 / 64 = 2) ∧ (4 ≤ (Lib.decodeN n b0 b1 b2 b3).2 → b3 / 64 = 2) := by
  unfold Lib.decodeN
  repeat' split
  all_goals (refine ⟨?_, ?_, ?_⟩ <;> intro <;> (try simp only at *) <;> omega)
/-- a byte within an item, behind its first one, goes on with a character -/
theorem inner (s : ByteArray) (p q : Nat) (hp : p < s.size) (h1 : p < q) (h2 : q < p + wd s p) : (s.get! q).toNat / 64 = 2 := by
  have h4 := (facts s p hp).2.1
  have hd := dn_inner (s.size - p) (s.get! p).toNat (s.get! (p + 1)).toNat (s.get! (p + 2)).toNat (s.get! (p + 3)).toNat
  rw [← wd_eq] at hd
  obtain ⟨k, rfl⟩ : ∃ k, q = p + k := ⟨q - p, by omega⟩
  have hk : k = 1 ∨ k = 2 ∨ k = 3 := by omega
  rcases hk with rfl | rfl | rfl
  · exact hd.1 (by omega)
  · exact hd.2.1 (by omega)
  · exact hd.2.2 (by omega)
theorem cont_bad (s : ByteArray) (q : Nat) (h : (s.get! q).toNat / 64 = 2) : bad s q = true := by
  rw [bad_iff, ch_eq, wd_eq, Lib.decodeN_cont _ _ _ _ _ h]
  exact ⟨rfl, rfl⟩
/-- a character is begun by the scan, wherever it stands -/
theorem good_start (s : ByteArray) (q : Nat) (hq : q < s.size) (hg : bad s q = false) : bgn s q = q := by
  have hb := bgn_has s q hq
  by_cases h : bgn s q = q
  · exact h
  · have := cont_bad s q (inner s (bgn s q) q (by omega) (by omega) hb.2)
    rw [hg] at this
    cases this
theorem good_bgn (s : ByteArray) (q i : Nat) (hq : q < s.size) (hg : bad s q = false) (h1 : q ≤ i) (h2 : i < q + wd s q) : bgn s i = q :=
  bg_uni s s.size 0 q i (good_start s q hq hg) h1 h2
theorem bgn_self (s : ByteArray) (i : Nat) (hi : i < s.size) (h : ∀ q, i ≤ q + 3 → q < i → ¬ (bad s q = false ∧ i < q + wd s q)) : bgn s i = i := by
  have hb := bgn_has s i hi
  by_cases hx : bgn s i = i
  · exact hx
  · have h4 := (facts s (bgn s i) (by omega)).2.1
    exact absurd ⟨good_of_wd (by omega), hb.2⟩ (h (bgn s i) (by omega) (by omega))
end Go.Proofs.YtoolkaahjmnjeaaGreatDoor.U
