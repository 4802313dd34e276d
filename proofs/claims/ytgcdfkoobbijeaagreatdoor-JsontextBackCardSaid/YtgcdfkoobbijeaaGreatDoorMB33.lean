/- A string quoted: character by character, or byte by byte of what is fixed. Conditions: none. -/
import Derived.Test.YtgcdfkoobbijeaaGreatDoorMB32
import Derived.Test.YtgcdfkoobbijeaaGreatDoorMB03
import Derived.Test.YtgcdfkoobbijeaaGreatDoorMB07
import Derived.Deep.WholeRow
import Derived.Test.YtgcdfkoobbijeaaGreatDoorMB06
import Derived.Deep.RegionHeld3
import Derived.Deep.DeepCutAuto
import Derived.Deep.CutBlock
import Derived.Test.YtgcdfkoobbijeaaGreatDoorMB11
namespace Go.Proofs.YtgcdfkoobbijeaaGreatDoor
open Go

theorem rb_else {c : Nat} (h1 : ¬ c < 32) (h2 : ¬ c = 34) (h3 : ¬ c = 92) : rb c = [c.toUInt8] := by
  unfold rb
  rw [if_neg h2, if_neg h3, if_neg (by omega), if_neg (by omega), if_neg (by omega), if_neg (by omega), if_neg (by omega), if_neg h1]

/-- bytes as they are written in quotes -/
def rbs (l : List UInt8) : List UInt8 := (l.map fun b => rb b.toNat).flatten
theorem rbs_append (a b : List UInt8) : rbs (a ++ b) = rbs a ++ rbs b := by unfold rbs; rw [List.map_append, List.flatten_append]
theorem rb_high {b : UInt8} (h : 128 ≤ b.toNat) : rb b.toNat = [b] := by
  rw [rb_else (by omega) (by omega) (by omega)]
  congr 1
  exact UInt8.ofNat_toNat
theorem rbs_high : ∀ (l : List UInt8), (∀ b ∈ l, 128 ≤ b.toNat) → rbs l = l
  | [], _ => rfl
  | b :: l, h => by
    have e := rbs_high l (fun x hx => h x (List.mem_cons_of_mem _ hx))
    unfold rbs at e ⊢
    rw [List.map_cons, List.flatten_cons, e, rb_high (h b (List.mem_cons_self ..))]
    rfl
set_option maxHeartbeats 2000000 in
set_option maxRecDepth 100000 in
theorem dn_high (n b0 b1 b2 b3 : Nat) (h0 : b0 < 256) (h : 128 ≤ b0) :
    (Lib.decodeN n b0 b1 b2 b3 = (65533, 1)) ∨ (128 ≤ (Lib.decodeN n b0 b1 b2 b3).1 ∧ (1 < (Lib.decodeN n b0 b1 b2 b3).2 → 128 ≤ b1) ∧ (2 < (Lib.decodeN n b0 b1 b2 b3).2 → 128 ≤ b2) ∧ (3 < (Lib.decodeN n b0 b1 b2 b3).2 → 128 ≤ b3)) := by
  unfold Lib.decodeN
  rw [if_neg (by omega)]
  split
  · split
    · right; refine ⟨?_, ?_, ?_, ?_⟩ <;> (try intro) <;> simp only at * <;> omega
    · left; rfl
  split
  · split
    · right; refine ⟨?_, ?_, ?_, ?_⟩ <;> (try intro) <;> simp only at * <;> omega
    · left; rfl
  split
  · split
    · right; refine ⟨?_, ?_, ?_, ?_⟩ <;> (try intro) <;> simp only at * <;> omega
    · left; rfl
  · left; rfl
theorem piece_rbs {s : ByteArray} {p : Nat} (hp : p < s.size) : rbs (U.piece s p) = pq s p := by
  have hf := U.facts s p hp
  by_cases ha : (s.get! p).toNat < 128
  · obtain ⟨e1, e2, e3⟩ := U.next_ascii s p ha
    have e4 : U.piece s p = [s.get! p] := by
      rw [U.piece_good e3, e2]
      unfold U.stretch
      rfl
    rw [e4]
    show rb (s.get! p).toNat ++ [] = _
    rw [List.append_nil]
    unfold pq
    rw [e1]
    split
    · rfl
    · rename_i hh
      rw [e4, rb_else (by omega) (by omega) (by omega)]
      congr 1
      exact UInt8.ofNat_toNat
  · have hd := dn_high (s.size - p) (s.get! p).toNat (s.get! (p + 1)).toNat (s.get! (p + 2)).toNat (s.get! (p + 3)).toNat (s.get! p).toNat_lt (by omega)
    rw [← U.wd_eq, ← U.ch_eq] at hd
    cases hb : U.bad s p
    · have hn : ¬ (U.ch s p = 65533 ∧ U.wd s p = 1) := fun hx => by rw [(U.bad_iff s p).2 hx] at hb; cases hb
      rcases hd with hd | ⟨h1, h2, h3, h4⟩
      · exfalso
        rw [← Lib.decode_at] at hd
        exact hn (Prod.mk.inj hd)
      · unfold pq
        rw [if_neg (by omega)]
        refine rbs_high _ ?_
        rw [U.piece_good hb]
        unfold U.stretch
        intro b hm
        obtain ⟨k, hk, rfl⟩ := List.mem_map.1 hm
        have hk := List.mem_range.1 hk
        have : k = 0 ∨ k = 1 ∨ k = 2 ∨ k = 3 := by omega
        rcases this with rfl | rfl | rfl | rfl
        · show 128 ≤ (s.get! p).toNat; omega
        · exact h2 (by omega)
        · exact h3 (by omega)
        · exact h4 (by omega)
    · have hx := (U.bad_iff s p).1 hb
      rw [U.piece_bad hb]
      unfold pq
      rw [if_neg (by omega), U.piece_bad hb]
      exact rbs_high _ (by decide)
theorem fix_rbs (s : ByteArray) : ∀ f pos, rbs (U.fixFrom s f pos) = qF s f pos
  | 0, _ => rfl
  | f + 1, pos => by
    by_cases hp : pos < s.size
    · rw [U.fixFrom_step s f pos hp, qF_step s f pos hp, rbs_append, piece_rbs hp, fix_rbs s f _]
    · rw [U.fixFrom_end s _ pos hp, qF_end s _ pos hp]; rfl
theorem fixFrom_len (s : ByteArray) : ∀ f pos, pos ≤ s.size → (U.fixFrom s f pos).length ≤ 3 * (s.size - pos)
  | 0, _, _ => Nat.zero_le _
  | f + 1, pos, h => by
    by_cases hp : pos < s.size
    · have h1 := (U.piece_le hp).1
      have h2 := U.wd_le hp
      have h3 := fixFrom_len s f (pos + U.wd s pos) h2
      rw [U.fixFrom_step s f pos hp, List.length_append]
      omega
    · rw [U.fixFrom_end s _ pos hp]; exact Nat.zero_le _
theorem fixS_len (s : ByteArray) : (U.fixS s).size ≤ 3 * s.size := by
  have h := fixFrom_len s s.size 0 (Nat.zero_le _)
  show (U.fixL s).toArray.size ≤ _
  rw [List.size_toArray]
  exact h
end Go.Proofs.YtgcdfkoobbijeaaGreatDoor

namespace Go.Proofs.YtgcdfkoobbijeaaGreatDoor
open Go Go.RowKit Go.Shelf Go.Lib

def knds : Array Value := #[.func (.func 92) #[] #[], .func (.func 93) #[] #[], .func (.func 94) #[] #[], .func (.func 95) #[] #[], .func (.func 92) #[] #[], .func (.func 93) #[] #[], .func (.func 94) #[] #[], .func (.func 96) #[] #[], .func (.func 92) #[] #[], .func (.func 93) #[] #[], .func (.func 94) #[] #[], .func (.func 97) #[] #[], .func (.func 98) #[] #[], .func (.func 93) #[] #[], .func (.func 94) #[] #[], .func (.func 99) #[] #[], .func (.func 34) #[] #[], .func (.func 93) #[] #[], .func (.func 94) #[] #[], .func (.func 100) #[] #[], .func (.func 92) #[] #[], .func (.func 101) #[] #[], .func (.func 94) #[] #[], .func (.func 102) #[] #[], .func (.func 92) #[] #[], .func (.func 93) #[] #[], .func (.func 103) #[] #[], .func (.func 104) #[] #[]]
theorem info_knds : (Tryz.prog.info? 96).map (·.size) = some 28 := by kernel_rfl
theorem one_knds : knds.all (·.oneCell') = true := by kernel_rfl
set_option maxHeartbeats 4000000 in
set_option maxRecDepth 100000 in
theorem kinds_any (w : World) : Calls Tryz.prog 66 #[] w (fun e w' => e = .returned (.agg knds) ∧ Below w.heap.size w w') := by
  have hrow := heap_alloc_new w (.cells #[.nilFunc, .nilFunc, .nilFunc, .nilFunc, .nilFunc, .nilFunc, .nilFunc, .nilFunc, .nilFunc, .nilFunc, .nilFunc, .nilFunc, .nilFunc, .nilFunc, .nilFunc, .nilFunc, .nilFunc, .nilFunc, .nilFunc, .nilFunc, .nilFunc, .nilFunc, .nilFunc, .nilFunc, .nilFunc, .nilFunc, .nilFunc, .nilFunc] 96)
  have hB0 := (Below.refl w.heap.size w).alloc (Nat.le_refl _) (.cells knds 96)
  have hset := World.setRow_alloc_new w #[.nilFunc, .nilFunc, .nilFunc, .nilFunc, .nilFunc, .nilFunc, .nilFunc, .nilFunc, .nilFunc, .nilFunc, .nilFunc, .nilFunc, .nilFunc, .nilFunc, .nilFunc, .nilFunc, .nilFunc, .nilFunc, .nilFunc, .nilFunc, .nilFunc, .nilFunc, .nilFunc, .nilFunc, .nilFunc, .nilFunc, .nilFunc, .nilFunc] knds 96
  go_enter Tryz.func66, Tryz.ntmps66
  go_wp2_with (refine wpList_store_row rfl 96 _ _ rfl w.heap.size knds (by rfl) (by rfl) 96 _ hrow info_knds rfl one_knds ?_)
  rw [hset]
  exact bodyPost_ret (v := .agg knds) (results_cell_row Tryz.results66 _ _ w.heap.size 96 knds (0, 0) _ (by rfl) (heap_alloc_new w _) Tryz.underlying96 rfl info_knds) rfl ⟨rfl, hB0⟩
end Go.Proofs.YtgcdfkoobbijeaaGreatDoor

namespace Go.Proofs.YtgcdfkoobbijeaaGreatDoor
open Go Go.RowKit Go.Shelf Go.Lib

theorem blk4_new (w : World) (t : TypeId) (k x v u : Value) : Blk4 (w.alloc (.cells #[k, x, v, u] t)) w.heap.size t k x v u := heap_alloc_new _ _
theorem set4_below {B b : Nat} {W0 w1 : World} {k x v u : Value} (h : Below B W0 w1) (hb : B ≤ b) : Below B W0 ((((w1.setCell ⟨b, 0, none⟩ k).setCell ⟨b, 1, none⟩ x).setCell ⟨b, 2, none⟩ v).setCell ⟨b, 3, none⟩ u) :=
  (((h.setCell hb _).setCell hb _).setCell hb _).setCell hb _
theorem drew_trans {W0 w1 : World} (h : Below W0.drew.heap.size W0.drew w1) : Below W0.heap.size W0 w1 := (Below.refl W0.heap.size W0).drew.trans h
set_option maxHeartbeats 2000000 in
set_option maxRecDepth 100000 in
theorem valid_with (k : Nat) (x : ByteArray) (p q : Option Addr) (n c m e : Nat) (d : Nat) (ft fl ff fw : FuncId) (bt bl bf : Bool) (w : World) (hk6 : k ≤ 6)
    (hix : ∀ W : World, (Instr.index 96 (.agg knds) (.int .u8 k)).run Tryz.prog W = .ok (.agg #[.func (.func ft) #[] #[], .func (.func fl) #[] #[], .func (.func ff) #[] #[], .func (.func fw) #[] #[]]) W)
    (et : ∀ args w, (callFunc ft args).run Tryz.prog w = .ok (.enter ft args) w) (el : ∀ args w, (callFunc fl args).run Tryz.prog w = .ok (.enter fl args) w) (ef : ∀ args w, (callFunc ff args).run Tryz.prog w = .ok (.enter ff args) w)
    (ht : ∀ W, Below w.heap.size w W → Calls Tryz.prog ft #[.string x] W (Bools bt W)) (hl : ∀ W, Below w.heap.size w W → Calls Tryz.prog fl #[.slice p n c, .int .i64 d] W (Bools bl W)) (hf : ∀ W, Below w.heap.size w W → Calls Tryz.prog ff #[.slice q m e, .int .i64 d] W (Bools bf W)) :
    Calls Tryz.prog 43 #[.agg #[.int .u8 k, .string x, .slice p n c, .slice q m e], .int .i64 d] w (Bools (bt && bl && bf) w) := by
  have hk := fun W => kinds_any W
  have tk : decide ((6 : Int) < (k : Int)) = false := decide_eq_false (by omega)
  have hb : Blk4 (w.alloc (.cells #[.int .u8 k, .string x, .slice p n c, .slice q m e] 25)) w.heap.size 25 _ _ _ _ := heap_alloc_new _ _
  have hBw := Lib.hid ((Below.refl w.heap.size w).alloc (Nat.le_refl _) (.cells #[.int .u8 k, .string x, .slice p n c, .slice q m e] 25))
  have hsz : w.heap.size ≤ (w.alloc (.cells #[.int .u8 k, .string x, .slice p n c, .slice q m e] 25)).heap.size := by simp
  have hst : ∀ (W : World) (a : Addr) (f : FuncId), (store a (.func (.func f) #[] #[])).run Tryz.prog W = stored Tryz.prog W a (.func (.func f) #[] #[]) .plain := fun W a f => run_store Tryz.prog W a _ _ rfl
  obtain ⟨c0, c1, c2, c3⟩ := hb.box
  have keep : ∀ w', Below (w.alloc (.cells #[.int .u8 k, .string x, .slice p n c, .slice q m e] 25)).heap.size (w.alloc (.cells #[.int .u8 k, .string x, .slice p n c, .slice q m e] 25)) w' → w'.cell? ⟨w.heap.size, 0, none⟩ = some (.int .u8 k) := fun w' hB => bcellv hB c0
  have KEEP := Lib.hid keep
  clear keep
  go_enter Tryz.func43, Tryz.ntmps43
  go_wp2_with fail
  generalize w.alloc (.cells #[.int .u8 k, .string x, .slice p n c, .slice q m e] 25) = W0 at *
  have HB0 := Lib.hid hb
  have HF := Lib.hid (And.intro ht (And.intro hl hf))
  clear c1 c2 c3 ht hl hf hb hk6
  go_cut [5] (fun g wx => ∃ b, g = .pointer (some ⟨b, 0, none⟩) ∧ Hid (Blk4 wx b 95 (.func (.func ft) #[] #[]) (.func (.func fl) #[] #[]) (.func (.func ff) #[] #[]) (.func (.func fw) #[] #[]) ∧ Below W0.heap.size W0 wx))
  case first =>
    go_region_held3 (fun w' => w'.cell? ⟨w.heap.size, 0, none⟩ = some (.int .u8 k))
      (first | with_reducible exact KEEP.out _ hB2 | with_reducible exact KEEP.out _ (set4_below hB2 (Nat.le_refl _)) | with_reducible exact KEEP.out _ (set4_below (hB2.alloc hB2.size _) hB2.size) | with_reducible exact KEEP.out _ (hB2.alloc hB2.size _) | with_reducible exact KEEP.out _ ((Below.refl _ _).alloc (Nat.le_refl _) _).drew | with_reducible exact KEEP.out _ (Below.refl _ _).drew | with_reducible exact KEEP.out _ (Below.refl _ _))
      (first | (go_at_call 66; (with_reducible refine (hk _).mono ?_); rintro e w1 ⟨rfl, hB1⟩; first
        | (have hB2 : Below W0.heap.size W0 w1 := drew_trans hB1; clear hB1)
        | (have hB2 : Below W0.heap.size W0 w1 := ((Below.refl W0.heap.size W0).alloc (Nat.le_refl _) (.cells #[.nilFunc, .nilFunc, .nilFunc, .nilFunc] 95)).drew.trans (hB1.mono (by show W0.heap.size ≤ (W0.alloc _).heap.size; simp))
           have hbx : Blk4 w1 W0.heap.size 95 .nilFunc .nilFunc .nilFunc .nilFunc := (hB1.block W0.heap.size (by show W0.heap.size < (W0.alloc _).heap.size; simp)).trans (heap_alloc_new W0 _)
           obtain ⟨m0, m1, m2, m3⟩ := hbx.box
           have f0 := hbx.free 0
           have f1 := hbx.free 1
           have f2 := hbx.free 2
           have f3 := hbx.free 3
           clear hB1)))
    all_goals
      go_wp2_with fail
      go_simp
      go_meet
      first
      | with_reducible exact ⟨_, rfl, Lib.hid ⟨blk4_new _ _ _ _ _ _, hB2.alloc hB2.size _⟩⟩
      | with_reducible exact ⟨_, rfl, Lib.hid ⟨(hbx.all _ _ _ _).1, set4_below hB2 (Nat.le_refl _)⟩⟩
  case rest =>
  obtain ⟨b, rfl, HC⟩ := hcut
  have HW := Lib.hid (hBw.out.trans (HC.out.2.mono hsz))
  have b0 := HB0.out.same (HC.out.2.block _ HB0.out.lt)
  obtain ⟨x0, x1, x2, x3⟩ := b0.box
  obtain ⟨y0, y1, y2, y3⟩ := HC.out.1.box
  have HK := Lib.hid (And.intro b0 HC.out.1)
  clear b0
  go_wp2_with fail
  refine (HF.out.1 _ HW.out).mono ?_
  rintro e w1 ⟨rfl, hB1⟩
  have HW1 := Lib.hid (HW.out.trans (hB1.mono HW.out.size))
  have HK1 := Lib.hid (And.intro (HK.out.1.same (hB1.block _ HK.out.1.lt)) (HK.out.2.same (hB1.block _ HK.out.2.lt)))
  clear x0 x1 x2 x3 y0 y1 y2 y3 hB1
  obtain ⟨x0, x1, x2, x3⟩ := HK1.out.1.box
  obtain ⟨y0, y1, y2, y3⟩ := HK1.out.2.box
  cases bt
  · go_wp2_with fail
    go_ret
    exact ⟨rfl, HW1.out⟩
  · go_wp2_with fail
    refine (HF.out.2.1 _ HW1.out).mono ?_
    rintro e w2 ⟨rfl, hB2⟩
    have HW2 := Lib.hid (HW1.out.trans (hB2.mono HW1.out.size))
    have HK2 := Lib.hid (And.intro (HK1.out.1.same (hB2.block _ HK1.out.1.lt)) (HK1.out.2.same (hB2.block _ HK1.out.2.lt)))
    clear x0 x1 x2 x3 y0 y1 y2 y3 hB2
    obtain ⟨x0, x1, x2, x3⟩ := HK2.out.1.box
    obtain ⟨y0, y1, y2, y3⟩ := HK2.out.2.box
    cases bl
    · go_wp2_with fail
      go_ret
      exact ⟨rfl, HW2.out⟩
    · go_wp2_with fail
      refine (HF.out.2.2 _ HW2.out).mono ?_
      rintro e w3 ⟨rfl, hB3⟩
      have HW3 := Lib.hid (HW2.out.trans (hB3.mono HW2.out.size))
      clear x0 x1 x2 x3 y0 y1 y2 y3 hB3
      go_wp2_with fail
      go_ret
      exact ⟨rfl, HW3.out⟩
end Go.Proofs.YtgcdfkoobbijeaaGreatDoor

namespace Go.Proofs.YtgcdfkoobbijeaaGreatDoor
open Go Go.RowKit Go.Shelf Go.Lib

set_option maxRecDepth 100000 in
theorem noText_any (s : ByteArray) (w : World) : Calls Tryz.prog 92 #[.string s] w (Bools (decide (s.size = 0)) w) := by
  go_enter Tryz.func92, Tryz.ntmps92
  go_wp2_with fail
  go_ret
  refine ⟨?_, Below.refl _ _⟩
  first | (show Ending.returned (.bool s.toList.isEmpty) = _; rw [empty_isE]) | (show Ending.returned (.bool (decide (s = ByteArray.empty))) = _; rw [empty_dec])
set_option maxRecDepth 100000 in
theorem noList_any (p : Option Addr) (n c : Nat) (d : Int) (w : World) (h : n ≤ 2000000000000) (h2 : n ≤ c) (h3 : c ≤ 9223372036854775807) : Calls Tryz.prog 93 #[.slice p n c, .int .i64 d] w (Bools (decide (n = 0)) w) := by
  go_enter Tryz.func93, Tryz.ntmps93
  go_wp2_with fail
  go_ret
  refine ⟨?_, Below.refl _ _⟩
  by_cases h0 : n = 0
  · subst h0; rfl
  · show Ending.returned (.bool _) = _
    congr 2
    simp [h0]
set_option maxRecDepth 100000 in
theorem noFields_any (p : Option Addr) (n c : Nat) (d : Int) (w : World) (h : n ≤ 2000000000000) (h2 : n ≤ c) (h3 : c ≤ 9223372036854775807) : Calls Tryz.prog 94 #[.slice p n c, .int .i64 d] w (Bools (decide (n = 0)) w) := by
  go_enter Tryz.func94, Tryz.ntmps94
  go_wp2_with fail
  go_ret
  refine ⟨?_, Below.refl _ _⟩
  by_cases h0 : n = 0
  · subst h0; rfl
  · show Ending.returned (.bool _) = _
    congr 2
    simp [h0]
/-- a kind's text -/
def txk (k : Nat) (x : ByteArray) : Bool := if k = 3 then numS x else if k = 4 then U.valid x else decide (x.size = 0)
/-- a row of values, or of fields whose names are none of some -/
def mayT : V.T → Nat → List ByteArray → Nat → Bool
  | .nil, _, _, _ => true
  | .cons nm k x l f tl, d, seen, dep => (if d = 1 then !(seen.contains nm) && U.valid nm else true) &&
      (decide (k ≤ 6) && (txk k x && (if k = 5 then !(decide (dep = 64)) && mayT l 0 [] (dep + 1) else decide (l.len = 0)) && (if k = 6 then !(decide (dep = 64)) && mayT f 1 [] (dep + 1) else decide (f.len = 0)))) && mayT tl d (nm :: seen) dep
def mayV (k : Nat) (x : ByteArray) (l f : V.T) (dep : Nat) : Bool := decide (k ≤ 6) && (txk k x && (if k = 5 then !(decide (dep = 64)) && mayT l 0 [] (dep + 1) else decide (l.len = 0)) && (if k = 6 then !(decide (dep = 64)) && mayT f 1 [] (dep + 1) else decide (f.len = 0)))
theorem mayT_val {nm : ByteArray} {k : Nat} {x : ByteArray} {l f tl : V.T} {seen : List ByteArray} {dep : Nat} : mayT (.cons nm k x l f tl) 0 seen dep = (mayV k x l f dep && mayT tl 0 (nm :: seen) dep) := by
  unfold mayV
  conv => lhs; unfold mayT
  rw [if_neg (by decide), Bool.true_and]
theorem mayT_seen : ∀ (t : V.T) (a b : List ByteArray) (dep : Nat), mayT t 0 a dep = mayT t 0 b dep
  | .nil, _, _, _ => rfl
  | .cons nm k x l f tl, a, b, dep => by rw [mayT_val, mayT_val, mayT_seen tl (nm :: a) (nm :: b) dep]
/-- strings of a size that is gone through -/
def Sm : V.T → Prop
  | .nil => True
  | .cons nm _ x l f tl => nm.size ≤ 1000000000000 ∧ x.size ≤ 1000000000000 ∧ Sm l ∧ Sm f ∧ Sm tl
theorem Sm.drop {t : V.T} {i : Nat} {nm : ByteArray} {k : Nat} {x : ByteArray} {l f tl : V.T} (h : Sm t) (hd : t.drop i = .cons nm k x l f tl) : nm.size ≤ 1000000000000 ∧ x.size ≤ 1000000000000 ∧ Sm l ∧ Sm f ∧ Sm tl := by
  induction i generalizing t with
  | zero => rw [V.T.drop_zero] at hd; subst hd; exact h
  | succ i ih =>
    cases t with
    | nil => cases hd
    | cons a b c d e tl2 => exact ih (t := tl2) h.2.2.2.2 hd
/-- valid serves values of fewer than N elements -/
def MayOk (P : World → Prop) (N : Nat) : Prop := ∀ (k : Nat) (x : ByteArray) (va ua : Value) (l f : V.T) (A : Nat → Prop) (d : Nat) (w : World), l.size + f.size < N → k < 256 → x.size ≤ 1000000000000 → Sm l → Sm f → HS w A 0 va l → HS w A 1 ua f → d ≤ 64 → P w →
  Calls Tryz.prog 43 #[.agg #[.int .u8 k, .string x, va, ua], .int .i64 d] w (Bools (mayV k x l f d) w)

set_option maxHeartbeats 1000000 in
set_option maxRecDepth 100000 in
theorem validList_any (P : World → Prop) (hP : ∀ W W', P W → Below W.heap.size W W' → P W') (N : Nat) (ih : MayOk P N) (v : Value) (t : V.T) (A : Nat → Prop) (d : Nat) (w : World) (ht : t.size ≤ N) (hs : Sm t) (hv : HS w A 0 v t) (hd : d ≤ 64) (hPw : P w) :
    Calls Tryz.prog 101 #[v, .int .i64 d] w (Bools (!(decide (d = 64)) && mayT t 0 [] (d + 1)) w) := by
  obtain ⟨p, c, rfl, b0, b1, b2⟩ := hv.len
  by_cases h64 : d = 64
  · have td : ((d : Int) == 64) = true := by simp; omega
    rw [decide_eq_true h64]
    clear h64 hd
    go_enter Tryz.func101, Tryz.ntmps101
    go_wp2_with fail
    go_ret
    exact ⟨rfl, Below.refl _ _⟩
  · have td : ((d : Int) == 64) = false := by simp; omega
    rw [decide_eq_false h64]
    generalize hn : t.len = n at *
    have HN := Lib.hid hn
    have HA := Lib.hid hv
    have hd2 : d + 1 ≤ 64 := by omega
    have HH := Lib.hid (And.intro ht (And.intro hs hd2))
    have HP := Lib.hid (And.intro hP hPw)
    clear hn hv ht hs h64 hd hP hPw
    go_enter Tryz.func101, Tryz.ntmps101
    go_wp2_with fail
    go_loopw [11] (fun q wr => ∃ i : Nat, q = .int .i64 i ∧ i ≤ n ∧ Hid (mayT (t.drop i) 0 [] (d + 1) = mayT t 0 [] (d + 1)) ∧ Hid (Below w.heap.size w wr)) (fun q _ => n - (RowKit.intOf q).toNat)
    case atStart => exact ⟨0, rfl, Nat.zero_le _, Lib.hid (by rw [V.T.drop_zero]), Lib.hid (Below.refl _ _)⟩
    case round =>
      obtain ⟨i, rfl, hi, HR, HB⟩ := hrel
      by_cases hlt : i < n
      · obtain ⟨nm1, k1, x1, l1, f1, tl1, hd1⟩ := V.T.drop_some (t := t) (i := i) (by rw [HN.out]; exact hlt)
        obtain ⟨b1, o1, v1, u1, rfl, E1⟩ := (HA.out.below HB.out).elem (by rw [HN.out]; exact hlt) hd1
        obtain ⟨p1, c5, rfl, -⟩ := E1.hl.len
        obtain ⟨p2, c6, rfl, -⟩ := E1.hf.len
        have e1 := E1.kind
        have e2 := E1.text
        have e3 := E1.list
        have e4 := E1.fields
        simp only [Nat.add_zero] at e1 e2 e3 e4
        have hsz := V.T.drop_size hd1
        have hsm := HH.out.2.1.drop hd1
        have IH := fun W (hB : Below wr.heap.size wr W) => ih k1 x1 _ _ l1 f1 A (d + 1) W (by have := HH.out.1; omega) E1.small.1 hsm.2.1 hsm.2.2.1 hsm.2.2.2.1 (E1.hl.below hB) (E1.hf.below hB) HH.out.2.2 (HP.out.1 _ _ (HP.out.1 _ _ HP.out.2 HB.out) hB)
        have hcast : ((d + 1 : Nat) : Int) = (d : Int) + 1 := by omega
        simp only [hcast] at IH
        clear hcast
        have hstep : mayT (t.drop i) 0 [] (d + 1) = (mayV k1 x1 l1 f1 (d + 1) && mayT (t.drop (i + 1)) 0 [] (d + 1)) := by
          rw [hd1, V.T.drop_step hd1, mayT_val, mayT_seen tl1 [nm1] []]
        have HS := Lib.hid hstep
        have HL := Lib.hid hlt
        clear hstep hsz hsm E1 hd1
        cases hv : mayV k1 x1 l1 f1 (d + 1)
        · have hno : mayT t 0 [] (d + 1) = false := by rw [← HR.out, HS.out, hv]; rfl
          rw [hv] at IH
          have HNo := Lib.hid hno
          have hBa := Lib.hid ((Below.refl wr.heap.size wr).alloc (Nat.le_refl _) (.cells #[.int .u8 k1, .string x1, .slice p1 l1.len c5, .slice p2 f1.len c6] 25))
          clear hno hv
          go_wp2_with fail
          (with_reducible refine (IH _ hBa.out).mono ?_)
          rintro e w1 ⟨rfl, hB1⟩
          have HB2 := Lib.hid (HB.out.trans ((hBa.out.trans (hB1.mono hBa.out.size)).mono HB.out.size))
          clear hB1 IH e1 e2 e3 e4
          go_wp2_with fail
          go_ret
          refine ⟨?_, HB2.out⟩
          rw [HNo.out]
          rfl
        · have hyes : mayT (t.drop (i + 1)) 0 [] (d + 1) = mayT t 0 [] (d + 1) := by rw [← HR.out, HS.out, hv, Bool.true_and]
          rw [hv] at IH
          have HY := Lib.hid hyes
          have hBa := Lib.hid ((Below.refl wr.heap.size wr).alloc (Nat.le_refl _) (.cells #[.int .u8 k1, .string x1, .slice p1 l1.len c5, .slice p2 f1.len c6] 25))
          clear hyes hv
          go_wp2_with fail
          (with_reducible refine (IH _ hBa.out).mono ?_)
          rintro e w1 ⟨rfl, hB1⟩
          have HB2 := Lib.hid (HB.out.trans ((hBa.out.trans (hB1.mono hBa.out.size)).mono HB.out.size))
          clear hB1 IH e1 e2 e3 e4
          go_wp2_with fail
          go_roundw
          case rel => exact ⟨i + 1, by go_num, HL.out, HY, HB2⟩
          case measure => have := HL.out; simp [RowKit.intOf]; omega
      · obtain rfl : i = n := by omega
        have hyes : mayT t 0 [] (d + 1) = true := by rw [← HR.out, ← HN.out, V.T.drop_len]; rfl
        have HY := Lib.hid hyes
        clear hyes
        go_wp2_with fail
        go_ret
        refine ⟨?_, HB.out⟩
        rw [HY.out]
        rfl
end Go.Proofs.YtgcdfkoobbijeaaGreatDoor
