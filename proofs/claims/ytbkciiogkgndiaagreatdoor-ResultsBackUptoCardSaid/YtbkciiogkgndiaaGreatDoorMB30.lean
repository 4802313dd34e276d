/- The program's Quote: a string in quotes. Conditions: a string of at most 10^12 bytes. -/
import Derived.Test.YtbkciiogkgndiaaGreatDoorMB29
import Derived.Shelf.Strings.FieldsFuncAny
import Derived.Test.YtbkciiogkgndiaaGreatDoorMB01
import Derived.Test.YtbkciiogkgndiaaGreatDoorMB15
import Derived.Test.YtbkciiogkgndiaaGreatDoorMB03
import Derived.Deep.WholeRow
import Derived.Test.YtbkciiogkgndiaaGreatDoorMB02
import Derived.Deep.RegionHeld3
import Derived.Deep.DeepCutAuto
import Derived.Deep.CutBlock
namespace Go.Proofs.YtbkciiogkgndiaaGreatDoor
open Go Go.RowKit Go.Shelf Go.Lib

def qF (s : ByteArray) : Nat → Nat → List UInt8
  | 0, _ => []
  | f + 1, pos => if pos < s.size then pq s pos ++ qF s f (pos + U.wd s pos) else []
def qL (s : ByteArray) : List UInt8 := [34] ++ qF s s.size 0 ++ [34]
theorem qF_end (s : ByteArray) (f pos : Nat) (h : ¬ pos < s.size) : qF s f pos = [] := by cases f <;> simp [qF, h]
theorem qF_step (s : ByteArray) (f pos : Nat) (h : pos < s.size) : qF s (f + 1) pos = pq s pos ++ qF s f (pos + U.wd s pos) := by simp [qF, h]
theorem rb_le (b : Nat) : (rb b).length ≤ 6 := by
  unfold rb
  repeat' split
  all_goals simp
theorem pq_le {s : ByteArray} {p : Nat} (h : p < s.size) : (pq s p).length ≤ 6 := by
  unfold pq
  split
  · exact rb_le _
  · have := (U.piece_le h).2.2; omega
theorem grows_below {w w' : World} {row : Option Nat} {B : Nat} {w0 : World} (hb : Below B w0 w) (hB : B ≤ w.heap.size) (hg : Grows w w' row) (hr : ∀ k, row = some k → B ≤ k) : Below B w0 w' := by
  rcases hg with hg | ⟨o, hg | hg⟩
  · exact hb.grown hg hB hr
  · exact (hb.alloc hB o).grown hg (by simp; omega) hr
  · exact (hb.alloc hB o).drew.grown hg (by show B ≤ (w.alloc o).heap.size; simp; omega) hr
theorem grows_iter {w w' : World} {row : Option Nat} {k : Nat} {s : ByteArray} {pos : Nat} (hk : w.heap[k]? = some (.stringIter s pos)) (hg : Grows w w' row) (hne : some k ≠ row) : w'.heap[k]? = some (.stringIter s pos) := by
  have hlt : k < w.heap.size := (Array.getElem?_eq_some_iff.1 hk).1
  rcases hg with hg | ⟨o, hg | hg⟩
  · rw [hg.block k hlt hne]; exact hk
  · exact iter_grown hk hg hne
  · rw [hg.block k (by show k < (w.alloc o).heap.size; simp; omega) hne]
    exact (Below.heap_alloc w o k hlt).trans hk

set_option maxHeartbeats 1000000 in
set_option maxRecDepth 100000 in
theorem quoted_any (B : Nat) (v : Value) (l0 : List UInt8) (s : ByteArray) (w : World) (hs : s.size ≤ 1000000000000) (hl0 : l0.length ≤ 1000000000000) (hown : w.ownsRow B 5 1 v l0.length (U.cellsOf l0)) (hBw : B ≤ w.heap.size) :
    Calls Tryz.prog 199 #[v, .string s] w fun e w' => ∃ v', e = .returned v' ∧ w'.ownsRow B 5 1 v' (l0 ++ qL s).length (U.cellsOf (l0 ++ qL s)) ∧ Below B w w' := by
  obtain ⟨i0, hi, hz0, hz1, hz2⟩ := info_parts infoByte
  go_enter Tryz.func199, Tryz.ntmps199
  go_wp2_with (at_builtin; refine wpList_append_own _ rfl _ _ 101 rfl B 5 i0 (.int .u8 0) 1 1 Tryz.underlying101 hi hz0 hz1 hz2 rfl (by decide) _ l0.length (U.cellsOf l0) rfl (hown.alloc _) ⟨w.heap.size, 0, none⟩ 1 1 [.int .u8 34] rfl rfl ?c1 ?c2 ?c3 ?c4 ?c5 ?_)
  case c1 => exact cells1
  case c2 => intro u hu; simp at hu; rcases hu with rfl; rfl
  case c3 => unfold maxLen; omega
  case c4 => omega
  case c5 => simp; omega
  intro v1 w1 hown1 hgrow1 _
  have hb1 : Below B w w1 := grows_below (Below.refl B w) hBw (.inr ⟨_, .inl hgrow1⟩) (fun k hk => (hown.lt k hk).1)
  have hown1' : w1.ownsRow B 5 1 v1 (l0 ++ [34]).length (U.cellsOf (l0 ++ [34])) := by
    rw [List.length_append, ← U.cellsOf_append]
    exact hown1
  clear hown1 hgrow1
  go_wp2_with fail
  go_loopw [0] (fun v wr => ∃ (f pos : Nat) (l : List UInt8), Hid (wr.heap[w1.heap.size]? = some (.stringIter s pos)) ∧ pos ≤ s.size ∧ l.length ≤ l0.length + 1 + 6 * pos ∧ wr.ownsRow B 5 1 v l.length (U.cellsOf l) ∧ Hid (l ++ qF s f pos = l0 ++ [34] ++ qF s s.size 0 ∧ s.size ≤ pos + f) ∧ Below B w wr) (fun _ wr => s.size - wr.iterPos w1.heap.size)
  case atStart => exact ⟨s.size, 0, l0 ++ [34], Lib.hid (World.iter_heap _ _ _), by omega, by simp, hown1'.alloc _, Lib.hid ⟨rfl, by omega⟩, hb1.alloc (Nat.le_trans hBw hb1.size) _⟩
  case round =>
    obtain ⟨f, pos, l, HI, hp, hl, hown2, HU, hbl⟩ := hrel
    have HM := Lib.hid (iterPos_of HI.out)
    by_cases hlt : pos < s.size
    · have hw1 := U.wd_pos hlt
      have hw2 := U.wd_le hlt
      obtain ⟨f', rfl⟩ : ∃ f', f = f' + 1 := ⟨f - 1, by have := HU.out.2; omega⟩
      have HS := Lib.hid (qF_step s f' pos hlt)
      have hpl := pq_le hlt
      have hnx : ∀ ty, (Instr.next (.pointer (some ⟨w1.heap.size, 0, none⟩)) true ty).run Tryz.prog wr = .ok (.tuple #[.bool true, .int .i64 pos, .int .i32 (U.ch s pos)]) (wr.iterAt w1.heap.size s (pos + U.wd s pos)) := fun ty => Lib.run_next_any_at wr _ s pos ty HI.out hlt
      have hI1 := Lib.hid (Lib.iterAt_heap wr _ s pos (pos + U.wd s pos) HI.out)
      have hown1 := own_iterAt hown2 HI.out (pos + U.wd s pos)
      have hbl1 := Lib.below_iterAt hbl (Nat.le_trans hBw hb1.size) s (pos + U.wd s pos)
      have hc := char_any B u0 l s pos hlt _ hown1 (by omega) (Nat.le_trans hBw hbl1.size)
      generalize U.wd s pos = d at *
      generalize U.ch s pos = c at *
      clear hown2 hbl
      go_wp2_with fail
      refine hc.mono ?_
      rintro e w3 ⟨v', rfl, hown3, hgrow⟩
      have hI3 := Lib.hid (grows_iter hI1.out hgrow (own_ne_iter hown1 hI1.out))
      have hb3 := grows_below hbl1 (Nat.le_trans hBw hbl1.size) hgrow (fun k hk => (hown1.lt k hk).1)
      have HM3 := Lib.hid (iterPos_of hI3.out)
      clear hbl1 hown1 hgrow hc
      go_wp2_with fail
      go_roundw
      case rel =>
        refine ⟨f', pos + d, l ++ pq s pos, hI3, by omega, by rw [List.length_append]; omega, hown3, Lib.hid ⟨?_, ?_⟩, hb3⟩
        · rw [List.append_assoc, ← HS.out]; exact HU.out.1
        · have := HU.out.2; omega
      case measure =>
        rw [HM3.out, HM.out]
        omega
    · have hnx : ∀ ty, (Instr.next (.pointer (some ⟨w1.heap.size, 0, none⟩)) true ty).run Tryz.prog wr = _ := fun ty => Lib.run_next_end_at wr _ s pos ty HI.out hlt
      have HE := Lib.hid (qF_end s f pos hlt)
      go_wp2_with (at_builtin; refine wpList_append_own _ rfl _ _ 101 rfl B 5 i0 (.int .u8 0) 1 1 Tryz.underlying101 hi hz0 hz1 hz2 rfl (by decide) _ l.length (U.cellsOf l) rfl (hown2.alloc _) ⟨wr.heap.size, 0, none⟩ 1 1 [.int .u8 34] rfl rfl ?c1 ?c2 ?c3 ?c4 ?c5 ?_)
      case c1 => exact cells1
      case c2 => intro u hu; simp at hu; rcases hu with rfl; rfl
      case c3 => unfold maxLen; omega
      case c4 => omega
      case c5 => have := hbl.size; simp; omega
      intro v5 w5 hown5 hgrow5 _
      have hb5 : Below B w w5 := grows_below hbl (Nat.le_trans hBw hbl.size) (.inr ⟨_, .inl hgrow5⟩) (fun k hk => (hown2.lt k hk).1)
      go_wp2_with fail
      go_ret
      refine ⟨v5, rfl, ?_, hb5⟩
      have e : l ++ [34] = l0 ++ qL s := by
        have h := HU.out.1
        rw [HE.out, List.append_nil] at h
        unfold qL
        rw [h, List.append_assoc, List.append_assoc, List.append_assoc]
      rw [← e, List.length_append, ← U.cellsOf_append]
      exact hown5

end Go.Proofs.YtbkciiogkgndiaaGreatDoor

namespace Go.Proofs.YtbkciiogkgndiaaGreatDoor
open Go Go.RowKit Go.Shelf Go.Lib

/-- a value that is neither list nor object -/
def lf (k : Nat) (x : ByteArray) : List UInt8 :=
  if k = 0 then [110, 117, 108, 108] else if k = 1 then [102, 97, 108, 115, 101] else if k = 2 then [116, 114, 117, 101] else if k = 3 then x.data.toList else qL x
/-- what stands ahead of an item: a comma, but ahead of the first one; a field's name -/
def ahead (d : Nat) (first : Bool) (nm : ByteArray) : List UInt8 := (if first then [] else [44]) ++ (if d = 1 then qL nm ++ [58] else [])
/-- items behind what is written already: nothing is written behind what is too long, but for commas, names and brackets -/
def aT : V.T → Nat → Bool → List UInt8 → List UInt8
  | .nil, _, _, b => b
  | .cons nm k x l f tl, d, first, b =>
    aT tl d false (if (b ++ ahead d first nm).length > 262144 then b ++ ahead d first nm
      else if k = 5 then aT l 0 true (b ++ ahead d first nm ++ [91]) ++ [93]
      else if k = 6 then aT f 1 true (b ++ ahead d first nm ++ [123]) ++ [125]
      else b ++ ahead d first nm ++ lf k x)
def aV (k : Nat) (x : ByteArray) (l f : V.T) (b : List UInt8) : List UInt8 :=
  if b.length > 262144 then b else if k = 5 then aT l 0 true (b ++ [91]) ++ [93] else if k = 6 then aT f 1 true (b ++ [123]) ++ [125] else b ++ lf k x
theorem aT_cons (nm : ByteArray) (k : Nat) (x : ByteArray) (l f tl : V.T) (d : Nat) (first : Bool) (b : List UInt8) : aT (.cons nm k x l f tl) d first b = aT tl d false (aV k x l f (b ++ ahead d first nm)) := by
  conv => lhs; unfold aT
  rfl
/-- how much may come -/
def wgt : V.T → Nat
  | .nil => 0
  | .cons nm _ x l f tl => 6 * nm.size + 6 * x.size + 20 + wgt l + wgt f + wgt tl
theorem qF_len (s : ByteArray) : ∀ (f pos : Nat), pos ≤ s.size → (qF s f pos).length ≤ 6 * (s.size - pos)
  | 0, _, _ => by simp [qF]
  | f + 1, pos, hp => by
    by_cases h : pos < s.size
    · rw [qF_step s f pos h, List.length_append]
      have h1 := U.wd_pos h
      have h2 := U.wd_le h
      have h3 := qF_len s f (pos + U.wd s pos) (by omega)
      have h4 := pq_le h
      omega
    · rw [qF_end s (f + 1) pos h]; simp
theorem qL_len (s : ByteArray) : (qL s).length ≤ 6 * s.size + 2 := by
  have := qF_len s s.size 0 (Nat.zero_le _)
  unfold qL
  simp only [List.length_append, List.length_singleton]
  omega
theorem lf_len (k : Nat) (x : ByteArray) : (lf k x).length ≤ 6 * x.size + 5 := by
  have h1 := qL_len x
  have h2 : x.data.toList.length = x.size := by simp
  unfold lf
  split
  · simp
  · split
    · simp
    · split
      · simp
      · split
        · omega
        · omega
theorem ahead_len (d : Nat) (first : Bool) (nm : ByteArray) : (ahead d first nm).length ≤ 6 * nm.size + 4 := by
  have := qL_len nm
  unfold ahead
  rw [List.length_append]
  split <;> split <;> simp <;> omega
theorem aT_len : ∀ (t : V.T) (d : Nat) (first : Bool) (b : List UInt8), (aT t d first b).length ≤ b.length + wgt t
  | .nil, _, _, b => by simp [aT, wgt]
  | .cons nm k x l f tl, d, first, b => by
    have h1 := ahead_len d first nm
    have h2 := aT_len l 0 true (b ++ ahead d first nm ++ [91])
    have h3 := aT_len f 1 true (b ++ ahead d first nm ++ [123])
    have h4 := lf_len k x
    have h5 := aT_len tl d false (aV k x l f (b ++ ahead d first nm))
    rw [aT_cons]
    have h6 : (aV k x l f (b ++ ahead d first nm)).length ≤ b.length + 6 * nm.size + 6 * x.size + 20 + wgt l + wgt f := by
      unfold aV
      simp only [List.length_append, List.length_singleton] at h2 h3 ⊢
      split
      · simp only [List.length_append]; omega
      · split
        · simp only [List.length_append, List.length_singleton]; omega
        · split
          · simp only [List.length_append, List.length_singleton]; omega
          · simp only [List.length_append]; omega
    unfold wgt
    omega
theorem aV_len (k : Nat) (x : ByteArray) (l f : V.T) (b : List UInt8) : (aV k x l f b).length ≤ b.length + 6 * x.size + 10 + wgt l + wgt f := by
  have h2 := aT_len l 0 true (b ++ [91])
  have h3 := aT_len f 1 true (b ++ [123])
  have h4 := lf_len k x
  unfold aV
  simp only [List.length_append, List.length_singleton] at h2 h3
  split
  · omega
  · split
    · simp only [List.length_append, List.length_singleton]; omega
    · split
      · simp only [List.length_append, List.length_singleton]; omega
      · simp only [List.length_append]; omega
end Go.Proofs.YtbkciiogkgndiaaGreatDoor

namespace Go.Proofs.YtbkciiogkgndiaaGreatDoor
open Go

theorem rb_else {c : Nat} (h1 : ¬ c < 32) (h2 : ¬ c = 34) (h3 : ¬ c = 92) : rb c = [c.toUInt8] := by
  unfold rb
  rw [if_neg h2, if_neg h3, if_neg (by omega), if_neg (by omega), if_neg (by omega), if_neg (by omega), if_neg (by omega), if_neg h1]

/-- bytes as they are written in quotes -/
def rbs (l : List UInt8) : List UInt8 := (l.map fun b => rb b.toNat).flatten
theorem rbs_append (a b : List UInt8) : rbs (a ++ b) = rbs a ++ rbs b := by unfold rbs; rw [List.map_append, List.flatten_append]
theorem rb_high {b : UInt8} (h : 128 ≤ b.toNat) : rb b.toNat = [b] := by
  rw [rb_else (by omega) (by omega) (by omega)]
  congr 1
  exact UInt8.ofNat_toNat
theorem rbs_high : ∀ (l : List UInt8), (∀ b ∈ l, 128 ≤ b.toNat) → rbs l = l
  | [], _ => rfl
  | b :: l, h => by
    have e := rbs_high l (fun x hx => h x (List.mem_cons_of_mem _ hx))
    unfold rbs at e ⊢
    rw [List.map_cons, List.flatten_cons, e, rb_high (h b (List.mem_cons_self ..))]
    rfl
set_option maxHeartbeats 2000000 in
set_option maxRecDepth 100000 in
theorem dn_high (n b0 b1 b2 b3 : Nat) (h0 : b0 < 256) (h : 128 ≤ b0) :
    (Lib.decodeN n b0 b1 b2 b3 = (65533, 1)) ∨ (128 ≤ (Lib.decodeN n b0 b1 b2 b3).1 ∧ (1 < (Lib.decodeN n b0 b1 b2 b3).2 → 128 ≤ b1) ∧ (2 < (Lib.decodeN n b0 b1 b2 b3).2 → 128 ≤ b2) ∧ (3 < (Lib.decodeN n b0 b1 b2 b3).2 → 128 ≤ b3)) := by
  unfold Lib.decodeN
  rw [if_neg (by omega)]
  split
  · split
    · right; refine ⟨?_, ?_, ?_, ?_⟩ <;> (try intro) <;> simp only at * <;> omega
    · left; rfl
  split
  · split
    · right; refine ⟨?_, ?_, ?_, ?_⟩ <;> (try intro) <;> simp only at * <;> omega
    · left; rfl
  split
  · split
    · right; refine ⟨?_, ?_, ?_, ?_⟩ <;> (try intro) <;> simp only at * <;> omega
    · left; rfl
  · left; rfl
theorem piece_rbs {s : ByteArray} {p : Nat} (hp : p < s.size) : rbs (U.piece s p) = pq s p := by
  have hf := U.facts s p hp
  by_cases ha : (s.get! p).toNat < 128
  · obtain ⟨e1, e2, e3⟩ := U.next_ascii s p ha
    have e4 : U.piece s p = [s.get! p] := by
      rw [U.piece_good e3, e2]
      unfold U.stretch
      rfl
    rw [e4]
    show rb (s.get! p).toNat ++ [] = _
    rw [List.append_nil]
    unfold pq
    rw [e1]
    split
    · rfl
    · rename_i hh
      rw [e4, rb_else (by omega) (by omega) (by omega)]
      congr 1
      exact UInt8.ofNat_toNat
  · have hd := dn_high (s.size - p) (s.get! p).toNat (s.get! (p + 1)).toNat (s.get! (p + 2)).toNat (s.get! (p + 3)).toNat (s.get! p).toNat_lt (by omega)
    rw [← U.wd_eq, ← U.ch_eq] at hd
    cases hb : U.bad s p
    · have hn : ¬ (U.ch s p = 65533 ∧ U.wd s p = 1) := fun hx => by rw [(U.bad_iff s p).2 hx] at hb; cases hb
      rcases hd with hd | ⟨h1, h2, h3, h4⟩
      · exfalso
        rw [← Lib.decode_at] at hd
        exact hn (Prod.mk.inj hd)
      · unfold pq
        rw [if_neg (by omega)]
        refine rbs_high _ ?_
        rw [U.piece_good hb]
        unfold U.stretch
        intro b hm
        obtain ⟨k, hk, rfl⟩ := List.mem_map.1 hm
        have hk := List.mem_range.1 hk
        have : k = 0 ∨ k = 1 ∨ k = 2 ∨ k = 3 := by omega
        rcases this with rfl | rfl | rfl | rfl
        · show 128 ≤ (s.get! p).toNat; omega
        · exact h2 (by omega)
        · exact h3 (by omega)
        · exact h4 (by omega)
    · have hx := (U.bad_iff s p).1 hb
      rw [U.piece_bad hb]
      unfold pq
      rw [if_neg (by omega), U.piece_bad hb]
      exact rbs_high _ (by decide)
theorem fix_rbs (s : ByteArray) : ∀ f pos, rbs (U.fixFrom s f pos) = qF s f pos
  | 0, _ => rfl
  | f + 1, pos => by
    by_cases hp : pos < s.size
    · rw [U.fixFrom_step s f pos hp, qF_step s f pos hp, rbs_append, piece_rbs hp, fix_rbs s f _]
    · rw [U.fixFrom_end s _ pos hp, qF_end s _ pos hp]; rfl
theorem fixFrom_len (s : ByteArray) : ∀ f pos, pos ≤ s.size → (U.fixFrom s f pos).length ≤ 3 * (s.size - pos)
  | 0, _, _ => Nat.zero_le _
  | f + 1, pos, h => by
    by_cases hp : pos < s.size
    · have h1 := (U.piece_le hp).1
      have h2 := U.wd_le hp
      have h3 := fixFrom_len s f (pos + U.wd s pos) h2
      rw [U.fixFrom_step s f pos hp, List.length_append]
      omega
    · rw [U.fixFrom_end s _ pos hp]; exact Nat.zero_le _
theorem fixS_len (s : ByteArray) : (U.fixS s).size ≤ 3 * s.size := by
  have h := fixFrom_len s s.size 0 (Nat.zero_le _)
  show (U.fixL s).toArray.size ≤ _
  rw [List.size_toArray]
  exact h
end Go.Proofs.YtbkciiogkgndiaaGreatDoor

namespace Go.Proofs.YtbkciiogkgndiaaGreatDoor
open Go Go.RowKit Go.Shelf Go.Lib

def knds : Array Value := #[.func (.func 161) #[] #[], .func (.func 162) #[] #[], .func (.func 163) #[] #[], .func (.func 164) #[] #[], .func (.func 161) #[] #[], .func (.func 162) #[] #[], .func (.func 163) #[] #[], .func (.func 165) #[] #[], .func (.func 161) #[] #[], .func (.func 162) #[] #[], .func (.func 163) #[] #[], .func (.func 166) #[] #[], .func (.func 167) #[] #[], .func (.func 162) #[] #[], .func (.func 163) #[] #[], .func (.func 168) #[] #[], .func (.func 97) #[] #[], .func (.func 162) #[] #[], .func (.func 163) #[] #[], .func (.func 169) #[] #[], .func (.func 161) #[] #[], .func (.func 170) #[] #[], .func (.func 163) #[] #[], .func (.func 171) #[] #[], .func (.func 161) #[] #[], .func (.func 162) #[] #[], .func (.func 172) #[] #[], .func (.func 173) #[] #[]]
theorem info_knds : (Tryz.prog.info? 180).map (·.size) = some 28 := by kernel_rfl
theorem one_knds : knds.all (·.oneCell') = true := by kernel_rfl
set_option maxHeartbeats 4000000 in
set_option maxRecDepth 100000 in
theorem kinds_any (w : World) : Calls Tryz.prog 119 #[] w (fun e w' => e = .returned (.agg knds) ∧ Below w.heap.size w w') := by
  have hrow := heap_alloc_new w (.cells #[.nilFunc, .nilFunc, .nilFunc, .nilFunc, .nilFunc, .nilFunc, .nilFunc, .nilFunc, .nilFunc, .nilFunc, .nilFunc, .nilFunc, .nilFunc, .nilFunc, .nilFunc, .nilFunc, .nilFunc, .nilFunc, .nilFunc, .nilFunc, .nilFunc, .nilFunc, .nilFunc, .nilFunc, .nilFunc, .nilFunc, .nilFunc, .nilFunc] 180)
  have hB0 := (Below.refl w.heap.size w).alloc (Nat.le_refl _) (.cells knds 180)
  have hset := World.setRow_alloc_new w #[.nilFunc, .nilFunc, .nilFunc, .nilFunc, .nilFunc, .nilFunc, .nilFunc, .nilFunc, .nilFunc, .nilFunc, .nilFunc, .nilFunc, .nilFunc, .nilFunc, .nilFunc, .nilFunc, .nilFunc, .nilFunc, .nilFunc, .nilFunc, .nilFunc, .nilFunc, .nilFunc, .nilFunc, .nilFunc, .nilFunc, .nilFunc, .nilFunc] knds 180
  go_enter Tryz.func119, Tryz.ntmps119
  go_wp2_with (refine wpList_store_row rfl 180 _ _ rfl w.heap.size knds (by rfl) (by rfl) 180 _ hrow info_knds rfl one_knds ?_)
  rw [hset]
  exact bodyPost_ret (v := .agg knds) (results_cell_row Tryz.results119 _ _ w.heap.size 180 knds (0, 0) _ (by rfl) (heap_alloc_new w _) Tryz.underlying180 rfl info_knds) rfl ⟨rfl, hB0⟩
end Go.Proofs.YtbkciiogkgndiaaGreatDoor

namespace Go.Proofs.YtbkciiogkgndiaaGreatDoor
open Go Go.RowKit Go.Shelf Go.Lib

theorem blk4_new (w : World) (t : TypeId) (k x v u : Value) : Blk4 (w.alloc (.cells #[k, x, v, u] t)) w.heap.size t k x v u := heap_alloc_new _ _
theorem set4_below {B b : Nat} {W0 w1 : World} {k x v u : Value} (h : Below B W0 w1) (hb : B ≤ b) : Below B W0 ((((w1.setCell ⟨b, 0, none⟩ k).setCell ⟨b, 1, none⟩ x).setCell ⟨b, 2, none⟩ v).setCell ⟨b, 3, none⟩ u) :=
  (((h.setCell hb _).setCell hb _).setCell hb _).setCell hb _
theorem drew_trans {W0 w1 : World} (h : Below W0.drew.heap.size W0.drew w1) : Below W0.heap.size W0 w1 := (Below.refl W0.heap.size W0).drew.trans h
set_option maxHeartbeats 2000000 in
set_option maxRecDepth 100000 in
theorem valid_with (k : Nat) (x : ByteArray) (p q : Option Addr) (n c m e : Nat) (d : Nat) (ft fl ff fw : FuncId) (bt bl bf : Bool) (w : World) (hk6 : k ≤ 6)
    (hix : ∀ W : World, (Instr.index 180 (.agg knds) (.int .u8 k)).run Tryz.prog W = .ok (.agg #[.func (.func ft) #[] #[], .func (.func fl) #[] #[], .func (.func ff) #[] #[], .func (.func fw) #[] #[]]) W)
    (et : ∀ args w, (callFunc ft args).run Tryz.prog w = .ok (.enter ft args) w) (el : ∀ args w, (callFunc fl args).run Tryz.prog w = .ok (.enter fl args) w) (ef : ∀ args w, (callFunc ff args).run Tryz.prog w = .ok (.enter ff args) w)
    (ht : ∀ W, Below w.heap.size w W → Calls Tryz.prog ft #[.string x] W (Bools bt W)) (hl : ∀ W, Below w.heap.size w W → Calls Tryz.prog fl #[.slice p n c, .int .i64 d] W (Bools bl W)) (hf : ∀ W, Below w.heap.size w W → Calls Tryz.prog ff #[.slice q m e, .int .i64 d] W (Bools bf W)) :
    Calls Tryz.prog 63 #[.agg #[.int .u8 k, .string x, .slice p n c, .slice q m e], .int .i64 d] w (Bools (bt && bl && bf) w) := by
  have hk := fun W => kinds_any W
  have tk : decide ((6 : Int) < (k : Int)) = false := decide_eq_false (by omega)
  have hb : Blk4 (w.alloc (.cells #[.int .u8 k, .string x, .slice p n c, .slice q m e] 25)) w.heap.size 25 _ _ _ _ := heap_alloc_new _ _
  have hBw := Lib.hid ((Below.refl w.heap.size w).alloc (Nat.le_refl _) (.cells #[.int .u8 k, .string x, .slice p n c, .slice q m e] 25))
  have hsz : w.heap.size ≤ (w.alloc (.cells #[.int .u8 k, .string x, .slice p n c, .slice q m e] 25)).heap.size := by simp
  have hst : ∀ (W : World) (a : Addr) (f : FuncId), (store a (.func (.func f) #[] #[])).run Tryz.prog W = stored Tryz.prog W a (.func (.func f) #[] #[]) .plain := fun W a f => run_store Tryz.prog W a _ _ rfl
  obtain ⟨c0, c1, c2, c3⟩ := hb.box
  have keep : ∀ w', Below (w.alloc (.cells #[.int .u8 k, .string x, .slice p n c, .slice q m e] 25)).heap.size (w.alloc (.cells #[.int .u8 k, .string x, .slice p n c, .slice q m e] 25)) w' → w'.cell? ⟨w.heap.size, 0, none⟩ = some (.int .u8 k) := fun w' hB => bcellv hB c0
  have KEEP := Lib.hid keep
  clear keep
  go_enter Tryz.func63, Tryz.ntmps63
  go_wp2_with fail
  generalize w.alloc (.cells #[.int .u8 k, .string x, .slice p n c, .slice q m e] 25) = W0 at *
  have HB0 := Lib.hid hb
  have HF := Lib.hid (And.intro ht (And.intro hl hf))
  clear c1 c2 c3 ht hl hf hb hk6
  go_cut [5] (fun g wx => ∃ b, g = .pointer (some ⟨b, 0, none⟩) ∧ Hid (Blk4 wx b 179 (.func (.func ft) #[] #[]) (.func (.func fl) #[] #[]) (.func (.func ff) #[] #[]) (.func (.func fw) #[] #[]) ∧ Below W0.heap.size W0 wx))
  case first =>
    go_region_held3 (fun w' => w'.cell? ⟨w.heap.size, 0, none⟩ = some (.int .u8 k))
      (first | with_reducible exact KEEP.out _ hB2 | with_reducible exact KEEP.out _ (set4_below hB2 (Nat.le_refl _)) | with_reducible exact KEEP.out _ (set4_below (hB2.alloc hB2.size _) hB2.size) | with_reducible exact KEEP.out _ (hB2.alloc hB2.size _) | with_reducible exact KEEP.out _ ((Below.refl _ _).alloc (Nat.le_refl _) _).drew | with_reducible exact KEEP.out _ (Below.refl _ _).drew | with_reducible exact KEEP.out _ (Below.refl _ _))
      (first | (go_at_call 119; (with_reducible refine (hk _).mono ?_); rintro e w1 ⟨rfl, hB1⟩; first
        | (have hB2 : Below W0.heap.size W0 w1 := drew_trans hB1; clear hB1)
        | (have hB2 : Below W0.heap.size W0 w1 := ((Below.refl W0.heap.size W0).alloc (Nat.le_refl _) (.cells #[.nilFunc, .nilFunc, .nilFunc, .nilFunc] 179)).drew.trans (hB1.mono (by show W0.heap.size ≤ (W0.alloc _).heap.size; simp))
           have hbx : Blk4 w1 W0.heap.size 179 .nilFunc .nilFunc .nilFunc .nilFunc := (hB1.block W0.heap.size (by show W0.heap.size < (W0.alloc _).heap.size; simp)).trans (heap_alloc_new W0 _)
           obtain ⟨m0, m1, m2, m3⟩ := hbx.box
           have f0 := hbx.free 0
           have f1 := hbx.free 1
           have f2 := hbx.free 2
           have f3 := hbx.free 3
           clear hB1)))
    all_goals
      go_wp2_with fail
      go_simp
      go_meet
      first
      | with_reducible exact ⟨_, rfl, Lib.hid ⟨blk4_new _ _ _ _ _ _, hB2.alloc hB2.size _⟩⟩
      | with_reducible exact ⟨_, rfl, Lib.hid ⟨(hbx.all _ _ _ _).1, set4_below hB2 (Nat.le_refl _)⟩⟩
  case rest =>
  obtain ⟨b, rfl, HC⟩ := hcut
  have HW := Lib.hid (hBw.out.trans (HC.out.2.mono hsz))
  have b0 := HB0.out.same (HC.out.2.block _ HB0.out.lt)
  obtain ⟨x0, x1, x2, x3⟩ := b0.box
  obtain ⟨y0, y1, y2, y3⟩ := HC.out.1.box
  have HK := Lib.hid (And.intro b0 HC.out.1)
  clear b0
  go_wp2_with fail
  refine (HF.out.1 _ HW.out).mono ?_
  rintro e w1 ⟨rfl, hB1⟩
  have HW1 := Lib.hid (HW.out.trans (hB1.mono HW.out.size))
  have HK1 := Lib.hid (And.intro (HK.out.1.same (hB1.block _ HK.out.1.lt)) (HK.out.2.same (hB1.block _ HK.out.2.lt)))
  clear x0 x1 x2 x3 y0 y1 y2 y3 hB1
  obtain ⟨x0, x1, x2, x3⟩ := HK1.out.1.box
  obtain ⟨y0, y1, y2, y3⟩ := HK1.out.2.box
  cases bt
  · go_wp2_with fail
    go_ret
    exact ⟨rfl, HW1.out⟩
  · go_wp2_with fail
    refine (HF.out.2.1 _ HW1.out).mono ?_
    rintro e w2 ⟨rfl, hB2⟩
    have HW2 := Lib.hid (HW1.out.trans (hB2.mono HW1.out.size))
    have HK2 := Lib.hid (And.intro (HK1.out.1.same (hB2.block _ HK1.out.1.lt)) (HK1.out.2.same (hB2.block _ HK1.out.2.lt)))
    clear x0 x1 x2 x3 y0 y1 y2 y3 hB2
    obtain ⟨x0, x1, x2, x3⟩ := HK2.out.1.box
    obtain ⟨y0, y1, y2, y3⟩ := HK2.out.2.box
    cases bl
    · go_wp2_with fail
      go_ret
      exact ⟨rfl, HW2.out⟩
    · go_wp2_with fail
      refine (HF.out.2.2 _ HW2.out).mono ?_
      rintro e w3 ⟨rfl, hB3⟩
      have HW3 := Lib.hid (HW2.out.trans (hB3.mono HW2.out.size))
      clear x0 x1 x2 x3 y0 y1 y2 y3 hB3
      go_wp2_with fail
      go_ret
      exact ⟨rfl, HW3.out⟩
end Go.Proofs.YtbkciiogkgndiaaGreatDoor
