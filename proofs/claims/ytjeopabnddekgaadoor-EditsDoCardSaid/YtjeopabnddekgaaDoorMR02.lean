/- Places by lines in a text of pieces, plainly. Conditions: none. -/
import Derived.Test.YtjeopabnddekgaaDoorME42
import Derived.Test.YtjeopabnddekgaaDoorMR01
import Derived.Test.YtjeopabnddekgaaDoorME34
import Derived.Maps.AppendAt
import Derived.Test.YtjeopabnddekgaaDoorME11
import Derived.Deep.RegionHeld3
import Derived.IntWalk
import Derived.Test.YtjeopabnddekgaaDoorME32
import Derived.Test.YtjeopabnddekgaaDoorME39
import Derived.Test.YtjeopabnddekgaaDoorME41
import Derived.Test.YtjeopabnddekgaaDoorME46
import Derived.Deep.AppendLies
import Derived.Test.YtjeopabnddekgaaDoorME55
import Derived.Test.YtjeopabnddekgaaDoorME44
import Derived.Test.YtjeopabnddekgaaDoorME49
namespace Go.Proofs.YtjeopabnddekgaaDoor
open Go Go.RowKit Go.Lib

theorem bga_at {x : ByteArray} {p : Nat} (h : U.At x p) (hp : p ≤ x.size) : U.bga x (p : Int) = p := U.bgn_at h hp
theorem bga_bgn (x : ByteArray) (i : Int) : U.bga x i = bgnAt x i := rfl
theorem ext_mid (u m v : ByteArray) : (u ++ m ++ v).extract u.size (u.size + m.size) = m ∧ (u ++ m ++ v).extract 0 u.size = u ∧ (u ++ m ++ v).extract 0 (u.size + m.size) = u ++ m ∧ (u ++ m ++ v).extract (u.size + m.size) (u ++ m ++ v).size = v := by
  have lu := Ed.bl_len u
  have lm := Ed.bl_len m
  have lv := Ed.bl_len v
  have z : (u ++ m ++ v).size = u.size + m.size + v.size := by rw [U.app_size, U.app_size]
  refine ⟨?_, ?_, ?_, ?_⟩ <;> apply Ed.ba_ext <;> show Ed.bl _ = Ed.bl _ <;> rw [Ed.bl_ext] <;> simp only [Ed.bl_app]
  · rw [← lu, List.append_assoc, List.drop_left, show (Ed.bl u).length + m.size - (Ed.bl u).length = (Ed.bl m).length by omega, List.take_left]
  · rw [List.drop_zero, Nat.sub_zero, ← lu, List.append_assoc, List.take_left]
  · rw [List.drop_zero, Nat.sub_zero, show u.size + m.size = (Ed.bl u ++ Ed.bl m).length by rw [List.length_append]; omega, List.take_left]
  · rw [show u.size + m.size = (Ed.bl u ++ Ed.bl m).length by rw [List.length_append]; omega, List.drop_left, List.take_of_length_le (by rw [z, List.length_append]; omega)]
theorem ext_same (x : ByteArray) (a b : Nat) (h : x.size ≤ b) : x.extract a b = x.extract a x.size := by
  apply Ed.ba_ext
  show Ed.bl _ = Ed.bl _
  rw [Ed.bl_ext, Ed.bl_ext, List.take_of_length_le (by rw [List.length_drop, Ed.bl_len]; omega), List.take_of_length_le (by rw [List.length_drop, Ed.bl_len]; omega)]
/-- a stretch between two places where the scan comes -/
theorem at_parts {x : ByteArray} (hv : U.valid x = true) {a b : Nat} (ha : U.At x a) (hb : U.At x b) (hab : a ≤ b) (hx : b ≤ x.size) : ∃ u m v, x = u ++ m ++ v ∧ a = u.size ∧ b = u.size + m.size ∧ U.valid u = true ∧ U.valid m = true ∧ U.valid v = true ∧ x.extract 0 a = u ∧ x.extract a b = m ∧ x.extract 0 b = u ++ m := by
  have hm : mayR x (a : Int) (b : Int) = true := by
    unfold mayR
    rw [bga_at ha (by omega), bga_at hb hx]
    simp [hab]
  obtain ⟨u, m, v, hx', e1, e2, v1, v2, v3⟩ := may_split hv hm
  have ea : a = u.size := by omega
  have eb : b = u.size + m.size := by omega
  obtain ⟨h1, h2, h3, _⟩ := ext_mid u m v
  refine ⟨u, m, v, hx', ea, eb, v1, v2, v3, ?_, ?_, ?_⟩
  · rw [hx', ea]; exact h2
  · rw [hx', ea, eb]; exact h1
  · rw [hx', eb]; exact h3
theorem cut_le' (s : ByteArray) (i : Int) : U.cut s i ≤ s.size := by obtain ⟨_, _, _, _, h, _⟩ := U.cut_facts s i; exact h
theorem cut_zero' (s : ByteArray) : U.cut s 0 = 0 := by
  unfold U.cut
  by_cases hp : 0 < s.size
  · obtain ⟨f, hf⟩ : ∃ f, s.size = f + 1 := ⟨s.size - 1, by omega⟩
    rw [hf]
    exact U.cutFrom_stop s 0 f 0 0 hp (by have := U.un_le hp; omega)
  · exact U.cutFrom_end s 0 s.size 0 0 hp
theorem cut_top {s : ByteArray} (hv : U.valid s = true) {i : Int} (h : ((U.units s : Nat) : Int) ≤ i) : U.cut s i = s.size := by
  have := U.cut_mid s ByteArray.empty ByteArray.empty hv (U.valid_none _ rfl) i (.inr h) (.inl rfl)
  rw [ByteArray.append_empty, ByteArray.append_empty] at this
  have e := cut_le' ByteArray.empty (i - (U.units s : Nat))
  have e0 : ByteArray.empty.size = 0 := rfl
  omega
/-- Offset, as layer 2 says it -/
theorem offX_ofs {x : ByteArray} (hv : U.valid x = true) (l c : Int) : Ed.offX x l c = (ofs x l c : Int) := by
  unfold Ed.offX Ed.conX ofs
  rw [show (max l 0).toNat = l.toNat by omega]
  by_cases hk : l.toNat < L.mny x
  · rw [if_pos hk, if_pos hk, if_pos rfl]
    dsimp only
    have hto := L.to_le hk
    have hge := L.to_ge hk
    obtain ⟨u, m, v, hx, ea, eb, vu, vm, vv, x1, x2, x3⟩ := at_parts hv (L.at_fr _ hk).1 (L.at_fr _ hk).2 hge hto
    have hct : content x l.toNat = m := x2
    rw [show ((L.fr x l.toNat : Nat) : Int).toNat = L.fr x l.toNat by omega, x1, hct]
    have hU : (R.cn x).u = U.units x := rfl
    have hu0 : (R.cn u).u = U.units u := rfl
    rw [hU, hu0]
    have hum : U.units (u ++ m) = U.units u + U.units m := U.units_app u m vu
    have hux : U.units x = U.units u + U.units m + U.units v := by
      rw [hx, ByteArray.append_assoc, U.units_app u _ vu, U.units_app m v vm]; omega
    have hcm := cut_le' m c
    by_cases h1 : max (min c ((U.units x : Nat) : Int)) 0 < ((U.units m : Nat) : Int) ∨ v.size = 0
    · have hmid := U.cut_mid u m v vu vm (((U.units u : Nat) : Int) + max (min c ((U.units x : Nat) : Int)) 0) (.inr (by omega)) (by
        rcases h1 with h1 | h1
        · exact .inr (by rw [hum]; omega)
        · exact .inl h1)
      rw [← ByteArray.append_assoc, ← hx] at hmid
      rw [hmid, show ((U.units u : Nat) : Int) + max (min c ((U.units x : Nat) : Int)) 0 - ((U.units u : Nat) : Int) = max (min c ((U.units x : Nat) : Int)) 0 by omega]
      have e : U.cut m (max (min c ((U.units x : Nat) : Int)) 0) = U.cut m c := by
        by_cases hc : c < 0
        · rw [U.cut_below m c hc, show max (min c ((U.units x : Nat) : Int)) 0 = 0 by omega]; exact cut_zero' m
        · by_cases hc2 : c ≤ ((U.units x : Nat) : Int)
          · rw [show max (min c ((U.units x : Nat) : Int)) 0 = c by omega]
          · rw [cut_top vm (i := c) (by omega), cut_top vm (by omega)]
      rw [e]
      omega
    · obtain ⟨h1a, h1b⟩ := not_or.1 h1
      have hmid := U.cut_mid (u ++ m) v ByteArray.empty (by rw [U.valid_app u m vu]; exact vm) vv (((U.units u : Nat) : Int) + max (min c ((U.units x : Nat) : Int)) 0) (.inr (by rw [hum]; omega)) (.inl rfl)
      rw [ByteArray.append_empty, ← hx] at hmid
      have hm : U.cut m c = m.size := by
        by_cases hc : ((U.units m : Nat) : Int) ≤ c
        · exact cut_top vm hc
        · have h0 := cut_top vm (i := 0) (by omega)
          rw [cut_zero'] at h0
          omega
      rw [hmid, hm, U.app_size]
      omega
  · rw [if_neg hk, if_neg hk, if_neg (by decide)]
theorem bk_none : ∀ (l : List UInt8), (∀ b ∈ l, b ≠ 10 ∧ b ≠ 13) → R.bk l = 0
  | [], _ => rfl
  | b :: r, h => by
    have h1 := h b (List.mem_cons_self ..)
    simp only [R.bk, if_neg h1.1, if_neg h1.2, Nat.zero_add]
    exact bk_none r (fun b hb => h b (List.mem_cons_of_mem _ hb))
theorem get_mem {x : ByteArray} {a n : Nat} {b : UInt8} (h : b ∈ ((Ed.bl x).drop a).take n) : ∃ j, a ≤ j ∧ j < a + n ∧ j < x.size ∧ x.get! j = b := by
  obtain ⟨i, hi, e⟩ := List.getElem_of_mem h
  rw [List.length_take, List.length_drop, Ed.bl_len] at hi
  rw [List.getElem_take, List.getElem_drop] at e
  refine ⟨a + i, by omega, by omega, by omega, ?_⟩
  rw [L.at_get (by omega)]
  exact e
/-- the breaks ahead of a place -/
theorem bk_take (x : ByteArray) (b : Nat) (hb : b ≤ x.size) : R.bk ((Ed.bl x).take b) = if L.to x (L.ln x b) < b then L.ln x b + 1 else L.ln x b := by
  have hn := L.ln_lt x b
  have hfb := L.ln_le x b
  have hge := L.to_ge hn
  have hto := L.to_le hn
  obtain ⟨h1, h2, h3, h4⟩ := R.ls_fr x _ hn
  have hup : L.ln x b + 1 < L.mny x → b < L.fr x (L.ln x b + 1) := fun h => L.ln_up x (Nat.lt_succ_self _) h
  have htl : ¬ L.ln x b + 1 < L.mny x → L.to x (L.ln x b) = x.size := fun h => L.to_end hn h
  have hce : ∀ j, L.fr x (L.ln x b) ≤ j → j < L.to x (L.ln x b) → L.brk x j = false := fun j ha hb' => L.ce_none (i := L.fr x (L.ln x b)) (L.fr_le hn) ha hb'
  have hfs := L.fr_succ x (L.ln x b)
  have hnb : ∀ n, n ≤ L.to x (L.ln x b) - L.fr x (L.ln x b) → R.bk (((Ed.bl x).drop (L.fr x (L.ln x b))).take n) = 0 := fun n hle => bk_none _ (fun c hc => by
    obtain ⟨j, g1, g2, g3, g4⟩ := get_mem hc
    have := L.of_nbrk (hce j g1 (by omega))
    rw [g4] at this
    exact ⟨fun e => this.1 (by rw [e]; rfl), fun e => this.2 (by rw [e]; rfl)⟩)
  generalize L.ln x b = i at *
  generalize hF : L.fr x i = f at *
  generalize hT : L.to x i = t at *
  have hsplit : (Ed.bl x).take b = (Ed.bl x).take f ++ ((Ed.bl x).drop f).take (b - f) := by
    have := List.take_add (l := Ed.bl x) (i := f) (j := b - f)
    rw [show f + (b - f) = b by omega] at this
    exact this
  have happ := R.bk_app ((Ed.bl x).take f) (((Ed.bl x).drop f).take (b - f))
  have hseam : R.seam ((Ed.bl x).take f) (((Ed.bl x).drop f).take (b - f)) = 0 := R.seam_no (fun ⟨e1, e2⟩ => h4 ⟨e1, by
    cases hd : (Ed.bl x).drop f with
    | nil => rw [hd] at e2; simp at e2
    | cons c r =>
      rw [hd] at e2
      cases hbf : b - f with
      | zero => rw [hbf] at e2; simp at e2
      | succ n => rw [hbf, List.take_succ_cons, List.head?_cons] at e2; show ((Ed.bl x).drop f).head? = _; rw [hd, List.head?_cons]; exact e2⟩)
  rw [hsplit]
  have h2' : R.bk ((Ed.bl x).take f) = i := h2
  by_cases hlt : t < b
  · rw [if_pos hlt]
    have hi1 : i + 1 < L.mny x := by
      by_cases h : i + 1 < L.mny x
      · exact h
      · have := htl h; omega
    have hb2 := hup hi1
    have hts : t < x.size := by omega
    rw [hfs] at hb2
    cases hp : L.pair x t
    · rw [L.nx_one hp] at hb2; omega
    · rw [L.nx_pair hp] at hb2
      obtain ⟨p1, p2, p3⟩ := L.of_pair hp
      have hb1 : b = t + 1 := by omega
      subst hb1
      have hpart : ((Ed.bl x).drop f).take (t + 1 - f) = ((Ed.bl x).drop f).take (t - f) ++ [13] := by
        rw [show t + 1 - f = (t - f) + 1 by omega, List.take_add_one]
        congr 1
        rw [List.getElem?_drop, show f + (t - f) = t by omega]
        have hl := Ed.bl_len x
        rw [List.getElem?_eq_getElem (by omega)]
        have e13 : x.get! t = 13 := (R.toNat_eq _ 13 (by omega)).2 p1
        rw [L.at_get hts] at e13
        simp only [Option.toList_some]
        congr 1
      have ha2 := R.bk_app (((Ed.bl x).drop f).take (t - f)) [13]
      have hz : R.bk (((Ed.bl x).drop f).take (t - f)) = 0 := hnb (t - f) (by omega)
      have hs13 : R.seam (((Ed.bl x).drop f).take (t - f)) [13] = 0 := R.seam_no (fun ⟨_, e2⟩ => by simp at e2)
      have hb13 : R.bk [13] = 1 := rfl
      rw [hpart] at happ hseam ⊢
      omega
  · rw [if_neg hlt]
    have hz : R.bk (((Ed.bl x).drop f).take (b - f)) = 0 := hnb (b - f) (by omega)
    omega
end Go.Proofs.YtjeopabnddekgaaDoor

namespace Go.Proofs.YtjeopabnddekgaaDoor
open Go Go.RowKit Go.Shelf Go.Lib

attribute [local go_sem] Oper.semAt_some

theorem infoInt : (Tryd.prog.info? 3).map (fun i => (i.zero, i.size, i.bytes)) = some (some (.int .i64 0), 1, 8) := by kernel_rfl

/-- behind an append: the longer row, in memory of the call's own; nothing else has turned -/
def Appended (n₀ : Nat) (v : Value) (k : Nat) (xs : List Value) (w : World) (e : Ending) (w' : World) : Prop :=
  ∃ g cap, e = .returned (.slice (some ⟨g, 0, none⟩) (k + 1) cap) ∧ w'.ownsRow n₀ 3 1 (.slice (some ⟨g, 0, none⟩) (k + 1) cap) (k + 1) xs ∧ w.grownBy w' v.ownBlock

def offs (s : ByteArray) (pre : List Nat) : List Value := pre.map fun k => Value.int .i64 (L.fr s k)
theorem offs_snoc (s : ByteArray) (pre : List Nat) (k : Nat) : offs s (pre ++ [k]) = offs s pre ++ [.int .i64 (L.fr s k)] := by simp [offs]
/-- a slice of one's own that reads as the lines' offsets -/
def StartsAre (s : ByteArray) (w : World) (e : Ending) (w' : World) : Prop :=
  ∃ g cap, e = .returned (.slice (some ⟨g, 0, none⟩) (L.mny s) cap) ∧ w'.ownsRow w.heap.size 3 1 (.slice (some ⟨g, 0, none⟩) (L.mny s) cap) (L.mny s) (offs s (List.range (L.mny s))) ∧ Below w.heap.size w w'
end Go.Proofs.YtjeopabnddekgaaDoor

namespace Go.Proofs.YtjeopabnddekgaaDoor
open Go Go.RowKit Go.Shelf Go.Lib

namespace L
/-- how many bytes the line's end has that begins at the place -/
def eb (s : ByteArray) (i : Nat) : Nat := if i < s.size ∧ brk s i = true then nx s i - i else 0
theorem eb_end {s : ByteArray} {i : Nat} (h : ¬ i < s.size) : eb s i = 0 := by unfold eb; rw [if_neg (fun h' => h h'.1)]
theorem eb_no {s : ByteArray} {i : Nat} (h : brk s i = false) : eb s i = 0 := by unfold eb; rw [if_neg (fun h' => by rw [h] at h'; cases h'.2)]
theorem eb_yes {s : ByteArray} {i : Nat} (h : i < s.size) (hb : brk s i = true) : eb s i = nx s i - i := by unfold eb; rw [if_pos ⟨h, hb⟩]
theorem eb_pos {s : ByteArray} {i : Nat} (h : i < s.size) (hb : brk s i = true) : i + eb s i = nx s i ∧ 1 ≤ eb s i ∧ eb s i ≤ 2 := by
  have := nx_facts h
  rw [eb_yes h hb]; omega
end L

set_option maxHeartbeats 400000 in
set_option maxRecDepth 100000 in
theorem refEnd_any (s : ByteArray) (i : Nat) (w : World) (hi : i ≤ s.size) (hs : s.size ≤ 1000000000000) :
    Calls Tryd.prog 81 #[.string s, .int .i64 i] w fun e w' => e = .returned (.int .i64 (L.eb s i)) ∧ w = w' := by
  by_cases hlt : i < s.size
  · have hb := at_byte hlt
    cases hk : L.brk s i
    · rw [L.eb_no hk]
      obtain ⟨n1, n2⟩ := L.of_nbrk hk
      rw [← hb] at n1 n2
      have e1 : ((s[i].toNat : Int) != 10) = true := by simp; omega
      have e2 : ((s[i].toNat : Int) != 13) = true := by simp; omega
      clear hk hb n1 n2
      go_enter Tryd.func81, Tryd.ntmps81
      go_wp2_with fail
      go_ret
      exact ⟨rfl, rfl⟩
    · rw [L.eb_yes hlt hk]
      have hc := L.of_brk hk
      rw [← hb] at hc
      clear hk
      cases hp : L.pair s i
      · have hn := L.of_npair hp
        rw [L.nx_one hp, show i + 1 - i = 1 by omega]
        rw [← hb] at hn
        clear hp
        rcases hc with hc | hc
        · have e1 : ((s[i].toNat : Int) != 10) = false := by simp; omega
          have e3 : ((s[i].toNat : Int) == 13) = false := by simp; omega
          clear hc hb hn
          go_enter Tryd.func81, Tryd.ntmps81
          go_wp2_with fail
          go_ret
          exact ⟨rfl, rfl⟩
        · have e1 : ((s[i].toNat : Int) != 10) = true := by simp; omega
          have e2 : ((s[i].toNat : Int) != 13) = false := by simp; omega
          have e3 : ((s[i].toNat : Int) == 13) = true := by simp; omega
          by_cases h2 : i + 1 < s.size
          · have hb2 := at_byte h2
            have h3 : ¬ s[i + 1].toNat = 10 := by rw [hb2]; omega
            have e4 : ((s[i + 1].toNat : Int) == 10) = false := by simp; omega
            clear hc hb hn hb2 h3
            go_enter Tryd.func81, Tryd.ntmps81
            go_wp2_with fail
            go_ret
            exact ⟨rfl, rfl⟩
          · clear hc hb hn
            go_enter Tryd.func81, Tryd.ntmps81
            go_wp2_with fail
            go_ret
            exact ⟨rfl, rfl⟩
      · obtain ⟨h1, h2, h3⟩ := L.of_pair hp
        rw [L.nx_pair hp, show i + 2 - i = 2 by omega]
        have hb2 := at_byte h2
        rw [← hb] at h1
        rw [← hb2] at h3
        have e1 : ((s[i].toNat : Int) != 10) = true := by simp; omega
        have e2 : ((s[i].toNat : Int) != 13) = false := by simp; omega
        have e3 : ((s[i].toNat : Int) == 13) = true := by simp; omega
        have e4 : ((s[i + 1].toNat : Int) == 10) = true := by simp; omega
        clear h1 h3 hb hb2 hc hp
        go_enter Tryd.func81, Tryd.ntmps81
        go_wp2_with fail
        go_ret
        exact ⟨rfl, rfl⟩
  · rw [L.eb_end hlt]
    go_enter Tryd.func81, Tryd.ntmps81
    go_wp2_with fail
    go_ret
    exact ⟨rfl, rfl⟩

theorem offs_range (s : ByteArray) (k : Nat) : offs s (List.range (k + 1)) = offs s (List.range k) ++ [.int .i64 (L.fr s k)] := by rw [List.range_succ, offs_snoc]
theorem ownsRow_one (w : World) (base : Nat) (e : TypeId) (x : Value) (hb : base ≤ w.heap.size) : (w.alloc (.cells #[x] e)).ownsRow base e 1 (.slice (some ⟨w.heap.size, 0, none⟩) 1 1) 1 [x] :=
  ⟨rfl, .inr ⟨w.heap.size, 1, #[x], rfl, hb, World.alloc_heap_new w _, Nat.le_refl _, by decide, rfl, rfl⟩⟩

def StartsAt (s : ByteArray) (w : World) (p q : Value) (wr : World) : Prop :=
  ∃ k pos g cap : Nat, q = .int .i64 pos ∧ k < L.mny s ∧ L.fr s k ≤ pos ∧ pos ≤ L.to s k ∧ p = .slice (some ⟨g, 0, none⟩) (k + 1) cap ∧ wr.ownsRow w.heap.size 3 1 (.slice (some ⟨g, 0, none⟩) (k + 1) cap) (k + 1) (offs s (List.range (k + 1))) ∧ Below w.heap.size w wr

set_option maxRecDepth 100000 in
set_option maxHeartbeats 1000000 in
theorem refStarts_any (s : ByteArray) (w : World) (hs : s.size ≤ 100000000000) :
    Calls Tryd.prog 53 #[.string s] w (StartsAre s w) := by
  have hm1 := L.mny_pos s
  have hm2 := L.mny_le s
  obtain ⟨i0, hi, hz0, hz1, hz2⟩ := info_parts infoInt
  have h0 := ownsRow_one w w.heap.size 3 (.int .i64 0) (Nat.le_refl _)
  have H0 := Lib.hid h0
  clear h0
  go_enter Tryd.func53, Tryd.ntmps53
  go_wp2_with fail
  go_loopw [3, 4] (fun p q wr => StartsAt s w p q wr) (fun _ q _ => s.size - (RowKit.intOf q).toNat)
  case atStart => exact ⟨0, 0, _, _, rfl, by omega, Nat.le_refl _, Nat.zero_le _, rfl, H0.out, (Below.refl _ _).alloc (Nat.le_refl _) _⟩
  case round =>
    obtain ⟨k, pos, g, cap, rfl, hk, h1, h2, rfl, hown, hB⟩ := hrel
    have hfr := L.fr_le hk
    have hto := L.to_le hk
    have HO := Lib.hid hown
    clear hown
    have hce : L.ce s pos = L.to s k := L.ce_same hfr h1 h2
    have HC := Lib.hid hce
    clear hce
    have hend := fun W => refEnd_any s pos W (by omega) (by omega)
    by_cases hlt : pos < s.size
    · cases hb : L.brk s pos
      · rw [L.eb_no hb] at hend
        have hne : pos ≠ L.to s k := fun e => by
          have := L.ce_is (i := L.fr s k) hfr (by show L.to s k < s.size; omega)
          change L.brk s (L.to s k) = true at this
          rw [← e, hb] at this
          cases this
        have hlt2 : pos + 1 ≤ L.to s k := by omega
        clear hne hb
        go_wp2_with fail
        refine (hend _).mono ?_
        rintro e w' ⟨rfl, rfl⟩
        go_wp2_with fail
        go_roundw
        case rel => exact ⟨k, pos + 1, g, cap, by go_num, hk, by omega, hlt2, rfl, HO.out, hB⟩
        case measure => simp [RowKit.intOf]; omega
      · obtain ⟨e1, e2, e3⟩ := L.eb_pos hlt hb
        have hpt : pos = L.to s k := by rw [← HC.out, L.ce_brk hlt hb]
        have hk1 : k + 1 < L.mny s := (L.to_lt_iff hk).1 (by omega)
        have hnx : L.nx s pos = L.fr s (k + 1) := by rw [L.fr_succ, hpt]
        rw [hnx] at e1
        have HE := Lib.hid e1
        have hge := L.to_ge hk1
        have hfr2 := L.fr_le hk1
        have hle1 : pos + L.eb s pos ≤ L.fr s (k + 1) := by omega
        have hle2 : L.fr s (k + 1) ≤ pos + L.eb s pos := by omega
        clear hnx hpt e1 hb
        generalize L.eb s pos = d at *
        have hnew := cell_one_new wr (.int .i64 ((pos : Int) + (d : Int))) 3
        have HN := Lib.hid hnew
        clear hnew
        go_wp2_with fail
        refine (hend _).mono ?_
        rintro e w' ⟨rfl, rfl⟩
        go_wp2_with (at_builtin; refine wpList_append_own _ rfl (.tmp 19) (.tmp 21) 103 rfl w.heap.size 3 i0 (.int .i64 0) 1 8 Tryd.underlying103 hi hz0 hz1 hz2 rfl (by decide) _ _ _ rfl (HO.out.alloc _) ⟨wr.heap.size, 0, none⟩ 1 1 [.int .i64 ((pos : Int) + (d : Int))] rfl rfl HN.out (by simp [Value.oneCell']) (by unfold maxLen; omega) (by omega) (by have := hB.size; simp; omega) ?_; intro v' w1 hown' hgrow _; obtain ⟨g', cap', rfl⟩ := ownsRow_succ hown')
        go_roundw
        case rel =>
          refine ⟨k + 1, pos + d, g', cap', by go_num, hk1, by omega, by omega, rfl, ?_, ?_⟩
          · rw [offs_range s (k + 1), show ((L.fr s (k + 1) : Nat) : Int) = (pos : Int) + (d : Int) by omega]; exact hown'
          · exact (hB.alloc hB.size _).grown hgrow (by have := hB.size; simp; omega) (fun j e => by have := (HO.out.lt j e).1; omega)
        case measure => simp [RowKit.intOf]; omega
    · have hm : L.mny s = k + 1 := L.mny_eq hk (by omega)
      have HM := Lib.hid hm
      clear hm
      go_wp2_with fail
      go_ret
      refine ⟨g, cap, by rw [HM.out]; rfl, ?_, hB⟩
      rw [HM.out]; exact HO.out
end Go.Proofs.YtjeopabnddekgaaDoor

namespace Go.Proofs.YtjeopabnddekgaaDoor
open Go Go.RowKit Go.Shelf Go.Lib

theorem bcell {W w1 : World} (hb : Below W.heap.size W w1) : (∀ b o, b < W.heap.size → w1.cell? ⟨b, o, none⟩ = W.cell? ⟨b, o, none⟩) ∧ (∀ b o, b < W.heap.size → w1.frozen? ⟨b, o, none⟩ = W.frozen? ⟨b, o, none⟩) :=
  ⟨fun b o h => hb.cell (p := ⟨b, o, none⟩) h, fun b o h => hb.frozen (p := ⟨b, o, none⟩) h⟩
theorem below_grown {w w' : World} (h : Below w.heap.size w w') : w.grownBy w' none := ⟨h.os, h.tape, h.output, h.size, fun k hk _ => h.block k hk⟩
theorem ownsRow_below {w w' : World} {n₀ e size k : Nat} {v : Value} {xs : List Value} (h : w.ownsRow n₀ e size v k xs) (hB : Below w.heap.size w w') : w'.ownsRow n₀ e size v k xs := h.kept (below_grown hB) (by cases hv : v.ownBlock <;> simp)
theorem boxed_below {w w' : World} {B : Nat} {t : TypeId} {u : Value} (h : Boxed w B t u) (hB : Below w.heap.size w w') : Boxed w' B t u := h.kept (below_grown hB) (by simp)
theorem Boxed2.drew {W : World} {B : Nat} {t : TypeId} {u v : Value} (h : Boxed2 W B t u v) : Boxed2 W.drew B t u v := h
theorem Boxed2.below {w w' : World} {B : Nat} {t : TypeId} {u v : Value} (h : Boxed2 w B t u v) (hB : Below w.heap.size w w') : Boxed2 w' B t u v := h.kept (below_grown hB) (by simp)
/-- the k-th offset lies at its place -/
theorem offs_cell {s : ByteArray} {W : World} {n₀ g cap k j : Nat} (h : W.ownsRow n₀ 3 1 (.slice (some ⟨g, 0, none⟩) k cap) k (offs s (List.range k))) (hj : j < k) : W.cell? ⟨g, j, none⟩ = some (.int .i64 (L.fr s j)) := by
  have := h.cells (g := g) rfl j (.int .i64 (L.fr s j)) (by simp [offs, hj])
  rwa [show (⟨g, 0, none⟩ : Addr).add j = ⟨g, j, none⟩ by unfold Addr.add; split <;> simp_all] at this

/-- what Line answers -/
def LineIs (s : ByteArray) (n : Int) (w : World) (e : Ending) (w' : World) : Prop :=
  ((∃ k : Nat, n = k ∧ k < L.mny s ∧ e = .returned (.tuple #[.agg #[.int .i64 (L.fr s k), .int .i64 (L.to s k)], .bool true])) ∨ ((n < 0 ∨ (L.mny s : Int) ≤ n) ∧ e = .returned (.tuple #[.agg #[.int .i64 0, .int .i64 0], .bool false]))) ∧ Below w.heap.size w w'
theorem line_is (s : ByteArray) (n : Int) (w : World) (hs : s.size ≤ 1000000000000) : Calls Tryd.prog 52 #[.string s, .int .i64 n] w (LineIs s n w) := line_any s n w hs

set_option maxRecDepth 100000 in
set_option maxHeartbeats 1000000 in
theorem refLine_no (s : ByteArray) (n : Int) (w : World) (hs : s.size ≤ 100000000000) (hn : n < 0 ∨ (L.mny s : Int) ≤ n) :
    Calls Tryd.prog 84 #[.string s, .int .i64 n] w fun e w' => e = .returned (.tuple #[.agg #[.int .i64 0, .int .i64 0], .bool false]) ∧ Below w.heap.size w w' := by
  have hm2 := L.mny_le s
  have hc := fun W => refStarts_any s W hs
  by_cases h0 : n < 0
  · clear hn
    go_enter Tryd.func84, Tryd.ntmps84
    go_wp2_with fail
    refine (hc _).mono ?_
    rintro e w' ⟨g, cap, rfl, hown, hB⟩
    obtain ⟨hbc, hbf⟩ := bcell hB
    have HO := Lib.hid hown
    clear hown
    have hz := hB.size
    simp at hz
    go_wp2_with fail
    exact bodyPost_ret (v := .tuple #[.agg #[.int .i64 0, .int .i64 0], .bool false]) (by simp [results, Tryd.results84, go_sem, hbc]) rfl ⟨rfl, ((((Below.refl _ w).alloc (Nat.le_refl _) _).trans (hB.mono (by simp))).setCell (p := ⟨w.heap.size, 0, none⟩) (Nat.le_refl _) _).setCell (p := ⟨w.heap.size, 1, none⟩) (Nat.le_refl _) _⟩
  · have hn' : (L.mny s : Int) ≤ n := by omega
    clear hn
    go_enter Tryd.func84, Tryd.ntmps84
    go_wp2_with fail
    refine (hc _).mono ?_
    rintro e w' ⟨g, cap, rfl, hown, hB⟩
    obtain ⟨hbc, hbf⟩ := bcell hB
    have HO := Lib.hid hown
    clear hown
    have hz := hB.size
    simp at hz
    go_wp2_with fail
    exact bodyPost_ret (v := .tuple #[.agg #[.int .i64 0, .int .i64 0], .bool false]) (by simp [results, Tryd.results84, go_sem, hbc]) rfl ⟨rfl, ((((Below.refl _ w).alloc (Nat.le_refl _) _).trans (hB.mono (by simp))).setCell (p := ⟨w.heap.size, 0, none⟩) (Nat.le_refl _) _).setCell (p := ⟨w.heap.size, 1, none⟩) (Nat.le_refl _) _⟩

set_option maxRecDepth 100000 in
set_option maxHeartbeats 2000000 in
theorem refLine_yes (s : ByteArray) (k : Nat) (w : World) (hs : s.size ≤ 100000000000) (hk : k < L.mny s) :
    Calls Tryd.prog 84 #[.string s, .int .i64 k] w fun e w' => e = .returned (.tuple #[.agg #[.int .i64 (L.fr s k), .int .i64 (L.to s k)], .bool true]) ∧ Below w.heap.size w w' := by
  have hm2 := L.mny_le s
  have hfr := L.fr_le hk
  have hto := L.to_le hk
  have hge := L.to_ge hk
  have hc := fun W => refStarts_any s W hs
  have HC : Hid (∀ pos, L.fr s k ≤ pos → pos ≤ L.to s k → L.ce s pos = L.to s k) := Lib.hid (fun pos h1 h2 => L.ce_same hfr h1 h2)
  have HI : Hid (L.to s k < s.size → L.brk s (L.to s k) = true) := Lib.hid (fun h => L.ce_is hfr h)
  have HF : Hid (∀ (W : World) (n₀ g cap : Nat), W.ownsRow n₀ 3 1 (.slice (some ⟨g, 0, none⟩) (L.mny s) cap) (L.mny s) (offs s (List.range (L.mny s))) → W.cell? ⟨g, k, none⟩ = some (.int .i64 (L.fr s k))) := Lib.hid (fun W n₀ g cap h => offs_cell h hk)
  generalize L.to s k = t at *
  generalize L.fr s k = f at *
  have d1 : decide ((k : Int) < 0) = false := decide_eq_false (by omega)
  have d2 : decide (L.mny s ≤ k) = false := decide_eq_false (by omega)
  go_enter Tryd.func84, Tryd.ntmps84
  go_wp2_with fail
  refine (hc _).mono ?_
  rintro e w' ⟨g, cap, rfl, hown, hB⟩
  obtain ⟨hbc, hbf⟩ := bcell hB
  have hcell := HF.out _ _ _ _ hown
  clear hown
  have hz := hB.size
  simp at hz
  go_wp2_with fail
  go_loop [7] (fun p => ∃ pos : Nat, p = .int .i64 pos ∧ f ≤ pos ∧ pos ≤ t) (fun p => s.size - (RowKit.intOf p).toNat)
  case atStart => exact ⟨f, rfl, Nat.le_refl _, hge⟩
  case round =>
    obtain ⟨pos, rfl, h1, h2⟩ := hrel
    have hend := fun W => refEnd_any s pos W (by omega) (by omega)
    by_cases hlt : pos < s.size
    · cases hb : L.brk s pos
      · rw [L.eb_no hb] at hend
        have hne : pos ≠ t := fun e => by
          have := HI.out (by omega)
          rw [← e, hb] at this
          cases this
        have hlt2 : pos + 1 ≤ t := by omega
        clear hne hb
        go_wp2_with fail
        refine (hend _).mono ?_
        rintro e w' ⟨rfl, rfl⟩
        go_wp2_with fail
        go_round
        case rel => exact ⟨pos + 1, by go_num, by omega, hlt2⟩
        case measure => simp [RowKit.intOf]; omega
      · obtain ⟨e1, e2, e3⟩ := L.eb_pos hlt hb
        have hpt : pos = t := by rw [← HC.out pos h1 h2, L.ce_brk hlt hb]
        have hz0 : ((L.eb s pos : Int) == 0) = false := by simp; omega
        clear e1 hb
        generalize L.eb s pos = d at *
        subst hpt
        go_wp2_with fail
        refine (hend _).mono ?_
        rintro e w' ⟨rfl, rfl⟩
        go_wp2_with fail
        exact bodyPost_ret (v := .tuple #[.agg #[.int .i64 f, .int .i64 pos], .bool true]) (by simp [results, Tryd.results84, go_sem, hbc]) rfl ⟨rfl, ((((Below.refl _ w).alloc (Nat.le_refl _) _).trans (hB.mono (by simp))).setCell (p := ⟨w.heap.size, 0, none⟩) (Nat.le_refl _) _).setCell (p := ⟨w.heap.size, 1, none⟩) (Nat.le_refl _) _⟩
    · obtain rfl : pos = t := by omega
      go_wp2_with fail
      exact bodyPost_ret (v := .tuple #[.agg #[.int .i64 f, .int .i64 pos], .bool true]) (by simp [results, Tryd.results84, go_sem, hbc]) rfl ⟨rfl, ((((Below.refl _ w).alloc (Nat.le_refl _) _).trans (hB.mono (by simp))).setCell (p := ⟨w.heap.size, 0, none⟩) (Nat.le_refl _) _).setCell (p := ⟨w.heap.size, 1, none⟩) (Nat.le_refl _) _⟩
theorem refLine_is (s : ByteArray) (n : Int) (w : World) (hs : s.size ≤ 100000000000) : Calls Tryd.prog 84 #[.string s, .int .i64 n] w (LineIs s n w) := by
  by_cases h : n < 0 ∨ (L.mny s : Int) ≤ n
  · exact (refLine_no s n w hs h).mono fun e w' ⟨h1, h2⟩ => ⟨.inr ⟨h, h1⟩, h2⟩
  · obtain ⟨k, rfl⟩ : ∃ k : Nat, n = k := ⟨n.toNat, by omega⟩
    exact (refLine_yes s k w hs (by omega)).mono fun e w' ⟨h1, h2⟩ => ⟨.inl ⟨k, rfl, by omega, h1⟩, h2⟩
end Go.Proofs.YtjeopabnddekgaaDoor

namespace Go.Proofs.YtjeopabnddekgaaDoor
open Go Go.RowKit Go.Lib

set_option maxHeartbeats 400000 in
set_option maxRecDepth 100000 in
theorem refUnits_any (s : ByteArray) (w : World) (hs : s.size ≤ 1000000000000) :
    Calls Tryd.prog 43 #[.string s] w (IntIs (U.units s) w) := by
  go_enter Tryd.func43, Tryd.ntmps43
  go_wp2_with fail
  go_loopw [3, 4] (fun p n wr => ∃ f pos m : Nat, p = .int .i64 pos ∧ n = .int .i64 m ∧ pos ≤ s.size ∧ m ≤ pos ∧ Hid (m + U.unitsFrom s f pos = U.units s ∧ s.size ≤ pos + f) ∧ Below w.heap.size w wr) (fun p _ _ => s.size - (RowKit.intOf p).toNat)
  case atStart => exact ⟨s.size, 0, 0, rfl, rfl, by omega, by omega, Lib.hid ⟨by unfold U.units; omega, by omega⟩, Below.refl _ _⟩
  case round =>
    obtain ⟨f, pos, m, rfl, rfl, hp, hm, HU, hbl⟩ := hrel
    by_cases hlt : pos < s.size
    · have hw1 := U.wd_pos hlt
      have hw2 := U.wd_le hlt
      have hu := U.un_le hlt
      obtain ⟨f', rfl⟩ : ∃ f', f = f' + 1 := ⟨f - 1, by have := HU.out.2; omega⟩
      have HS := Lib.hid (U.unitsFrom_step s f' pos hlt)
      have hc := fun W => step_any s pos W hlt hs
      go_wp2_with fail
      refine (hc _).mono ?_
      generalize U.wd s pos = d at *
      generalize U.un s pos = u at *
      rintro e w' ⟨rfl, hb⟩
      go_wp2_with fail
      go_roundw
      case rel =>
        refine ⟨f', pos + d, m + u, by go_num, by go_num, by omega, by omega, Lib.hid ⟨?_, ?_⟩, hbl.trans (hb.mono hbl.size)⟩
        · have := HU.out.1; rw [HS.out] at this; omega
        · have := HU.out.2; omega
      case measure => simp [RowKit.intOf]; omega
    · go_wp2_with fail
      go_ret
      refine ⟨?_, hbl⟩
      have := HU.out.1
      rw [U.unitsFrom_end s f pos hlt] at this
      rw [← this]; rfl
set_option maxHeartbeats 400000 in
set_option maxRecDepth 100000 in
theorem refCut_any (s : ByteArray) (u : Int) (w : World) (hs : s.size ≤ 1000000000000) :
    Calls Tryd.prog 85 #[.string s, .int .i64 u] w (IntIs (U.cut s u) w) := by
  go_enter Tryd.func85, Tryd.ntmps85
  go_wp2_with fail
  go_loopw [5, 6] (fun p n wr => ∃ f pos m : Nat, p = .int .i64 pos ∧ n = .int .i64 m ∧ pos ≤ s.size ∧ m ≤ pos ∧ Hid (U.cutFrom s u f pos m = U.cut s u ∧ s.size ≤ pos + f) ∧ Below w.heap.size w wr) (fun p _ _ => s.size - (RowKit.intOf p).toNat)
  case atStart => exact ⟨s.size, 0, 0, rfl, rfl, by omega, by omega, Lib.hid ⟨rfl, by omega⟩, Below.refl _ _⟩
  case round =>
    obtain ⟨f, pos, m, rfl, rfl, hp, hm, HU, hbl⟩ := hrel
    by_cases hlt : pos < s.size
    · have hw1 := U.wd_pos hlt
      have hw2 := U.wd_le hlt
      have hu := U.un_le hlt
      obtain ⟨f', rfl⟩ : ∃ f', f = f' + 1 := ⟨f - 1, by have := HU.out.2; omega⟩
      have hc := fun W => step_any s pos W hlt hs
      by_cases hst : u < ((m + U.un s pos : Nat) : Int)
      · have HS := Lib.hid (U.cutFrom_stop s u f' pos m hlt hst)
        generalize U.wd s pos = d at *
        generalize U.un s pos = v at *
        have e1 : decide (u < (m : Int) + (v : Int)) = true := decide_eq_true (by omega)
        clear hst
        go_wp2_with fail
        refine (hc _).mono ?_
        rintro e w' ⟨rfl, hb⟩
        go_wp2_with fail
        go_ret
        refine ⟨?_, hbl.trans (hb.mono hbl.size)⟩
        have := HU.out.1
        rw [HS.out] at this
        rw [← this]
        rfl
      · have HS := Lib.hid (U.cutFrom_step s u f' pos m hlt hst)
        generalize U.wd s pos = d at *
        generalize U.un s pos = v at *
        have e1 : decide (u < (m : Int) + (v : Int)) = false := decide_eq_false (by omega)
        clear hst
        go_wp2_with fail
        refine (hc _).mono ?_
        rintro e w' ⟨rfl, hb⟩
        go_wp2_with fail
        go_roundw
        case rel =>
          refine ⟨f', pos + d, m + v, by go_num, by go_num, by omega, by omega, Lib.hid ⟨?_, ?_⟩, hbl.trans (hb.mono hbl.size)⟩
          · have := HU.out.1; rw [HS.out] at this; exact this
          · have := HU.out.2; omega
        case measure => simp [RowKit.intOf]; omega
    · go_wp2_with fail
      go_ret
      refine ⟨congrArg (fun n : Nat => Ending.returned (.int .i64 n)) (show s.size = U.cut s u from ?_), hbl⟩
      have := HU.out.1
      rw [U.cutFrom_end s u f pos m hlt] at this
      omega

end Go.Proofs.YtjeopabnddekgaaDoor

namespace Go.Proofs.YtjeopabnddekgaaDoor
open Go Go.RowKit Go.Shelf Go.Lib

theorem cut_zeroR (s : ByteArray) : U.cut s 0 = 0 := by
  unfold U.cut
  by_cases hp : 0 < s.size
  · obtain ⟨f, hf⟩ : ∃ f, s.size = f + 1 := ⟨s.size - 1, by omega⟩
    rw [hf]
    exact U.cutFrom_stop s 0 f 0 0 hp (by have := U.un_le hp; omega)
  · exact U.cutFrom_end s 0 s.size 0 0 hp

def LineYes (s : ByteArray) (k : Nat) (w : World) (e : Ending) (w' : World) : Prop := e = .returned (.tuple #[.agg #[.int .i64 (L.fr s k), .int .i64 (L.to s k)], .bool true]) ∧ Below w.heap.size w w'
theorem line_yes {s : ByteArray} {k : Nat} {w w' : World} {e : Ending} (hk : k < L.mny s) (h : LineIs s k w e w') : LineYes s k w e w' := by
  rcases h with ⟨⟨j, hj, _, rfl⟩ | ⟨hn, _⟩, hB⟩
  · obtain rfl : k = j := by omega
    exact ⟨rfl, hB⟩
  · omega
def LineNo (w : World) (e : Ending) (w' : World) : Prop := e = .returned (.tuple #[.agg #[.int .i64 0, .int .i64 0], .bool false]) ∧ Below w.heap.size w w'
theorem line_no {s : ByteArray} {n : Int} {w w' : World} {e : Ending} (hn : (L.mny s : Int) ≤ n) (h : LineIs s n w e w') : LineNo w e w' := by
  rcases h with ⟨⟨j, hj, hk, rfl⟩ | ⟨_, rfl⟩, hB⟩
  · omega
  · exact ⟨rfl, hB⟩

set_option maxRecDepth 100000 in
set_option maxHeartbeats 1000000 in
theorem refOffset_yes00 (s : ByteArray) (l c : Int) (w : World) (hs : s.size ≤ 100000000000) (h0 : 0 ≤ l) (h1 : 0 ≤ c) (hk : l.toNat < L.mny s) :
    Calls Tryd.prog 57 #[.string s, .agg #[.int .i64 l, .int .i64 c]] w (IntIs (L.fr s l.toNat + U.cut (content s l.toNat) c) w) := by
  have hfr := L.fr_le hk
  have hge := L.to_ge hk
  have hto := L.to_le hk
  have hsz := content_size hk
  have hcl : U.cut (content s l.toNat) c ≤ L.to s l.toNat - L.fr s l.toNat := by obtain ⟨j, n, _, _, h, _⟩ := U.cut_facts (content s l.toNat) c; omega
  have hline := fun W => (refLine_is s (l.toNat : Nat) W (by omega)).mono fun e w' h => line_yes hk h
  have hcut := fun W => refCut_any (content s l.toNat) (c) W (by omega)
  unfold content at hcut hcl ⊢
  unfold LineYes at hline
  generalize L.fr s l.toNat = f at *
  generalize L.to s l.toNat = t at *
  generalize U.cut (s.extract f t) c = m at *
  clear hsz
  rw [show ((l.toNat : Nat) : Int) = l by omega] at hline
  go_enter Tryd.func57, Tryd.ntmps57
  go_wp2_with fail
  refine (hline _).mono ?_
  rintro e w1 ⟨rfl, hB1⟩
  have c3 := ((Boxed2.new w 38 (.int .i64 l) (.int .i64 c)).below hB1).cell1
  have hz1 := hB1.size
  simp only [World.size_alloc] at hz1
  have hz2 : w.heap.size < w1.heap.size + 1 := by omega
  have HB := Lib.hid ((((Below.refl _ w).alloc (Nat.le_refl _) (Obj.cells #[Value.int .i64 l, Value.int .i64 c] 38)).trans (hB1.mono (by simp))).alloc (by omega) (Obj.cells #[Value.int .i64 f, Value.int .i64 t] 74))
  clear hB1
  go_wp2_with fail
  go_region_held3 (fun w' => w'.cell? ⟨w1.heap.size, 0, none⟩ = some (.int .i64 f) ∧ w'.cell? ⟨w1.heap.size, 1, none⟩ = some (.int .i64 t) ∧ w'.cell? ⟨w.heap.size, 1, none⟩ = some (.int .i64 c))
    (go_keep)
    (first | (go_at_call 85; refine (hcut _).mono ?_; rintro e w2 ⟨rfl, hB2⟩; obtain ⟨hbc, hbf⟩ := bcell hB2))
  have hw : IntKind.i64.wrap ((f : Int) + (m : Int)) = ((f + m : Nat) : Int) := by rw [IntWalk.i64_in _ (by omega)]; rfl
  rw [hw]
  go_wp2_with fail
  go_ret
  exact ⟨rfl, (HB.out.drew).trans (hB2.mono (HB.out.drew).size)⟩

set_option maxRecDepth 100000 in
set_option maxHeartbeats 1000000 in
theorem refOffset_no00 (s : ByteArray) (l c : Int) (w : World) (hs : s.size ≤ 100000000000) (h0 : 0 ≤ l) (h1 : 0 ≤ c) (hk : ¬ l.toNat < L.mny s) :
    Calls Tryd.prog 57 #[.string s, .agg #[.int .i64 l, .int .i64 c]] w (IntIs s.size w) := by
  have hm := L.mny_pos s
  have hline := fun W => (refLine_is s (l.toNat : Nat) W (by omega)).mono fun e w' h => line_no (by omega) h
  unfold LineNo at hline
  rw [show ((l.toNat : Nat) : Int) = l by omega] at hline
  go_enter Tryd.func57, Tryd.ntmps57
  go_wp2_with fail
  refine (hline _).mono ?_
  rintro e w1 ⟨rfl, hB1⟩
  have HB := Lib.hid ((((Below.refl _ w).alloc (Nat.le_refl _) (Obj.cells #[Value.int .i64 l, Value.int .i64 c] 38)).trans (hB1.mono (by simp))).alloc (by have := hB1.size; simp at this; omega) (Obj.cells #[Value.int .i64 0, Value.int .i64 0] 74))
  clear hB1
  go_wp2_with fail
  go_ret
  exact ⟨rfl, HB.out⟩

set_option maxRecDepth 100000 in
set_option maxHeartbeats 1000000 in
theorem refOffset_yes01 (s : ByteArray) (l c : Int) (w : World) (hs : s.size ≤ 100000000000) (h0 : 0 ≤ l) (h1 : c < 0) (hk : l.toNat < L.mny s) :
    Calls Tryd.prog 57 #[.string s, .agg #[.int .i64 l, .int .i64 c]] w (IntIs (L.fr s l.toNat + U.cut (content s l.toNat) c) w) := by
  have hfr := L.fr_le hk
  have hge := L.to_ge hk
  have hto := L.to_le hk
  have hsz := content_size hk
  have hcl : U.cut (content s l.toNat) c ≤ L.to s l.toNat - L.fr s l.toNat := by obtain ⟨j, n, _, _, h, _⟩ := U.cut_facts (content s l.toNat) c; omega
  have hline := fun W => (refLine_is s (l.toNat : Nat) W (by omega)).mono fun e w' h => line_yes hk h
  have hcut := fun W => refCut_any (content s l.toNat) (0) W (by omega)
  rw [cut_zeroR, ← U.cut_below (content s l.toNat) c h1] at hcut
  unfold content at hcut hcl ⊢
  unfold LineYes at hline
  generalize L.fr s l.toNat = f at *
  generalize L.to s l.toNat = t at *
  generalize U.cut (s.extract f t) c = m at *
  clear hsz
  rw [show ((l.toNat : Nat) : Int) = l by omega] at hline
  go_enter Tryd.func57, Tryd.ntmps57
  go_wp2_with fail
  refine (hline _).mono ?_
  rintro e w1 ⟨rfl, hB1⟩
  have c3 := ((Boxed2.new w 38 (.int .i64 l) (.int .i64 0)).below hB1).cell1
  have hz1 := hB1.size
  simp only [World.size_alloc] at hz1
  have hz2 : w.heap.size < w1.heap.size + 1 := by omega
  have HB := Lib.hid ((((Below.refl _ w).alloc (Nat.le_refl _) (Obj.cells #[Value.int .i64 l, Value.int .i64 0] 38)).trans (hB1.mono (by simp))).alloc (by omega) (Obj.cells #[Value.int .i64 f, Value.int .i64 t] 74))
  clear hB1
  go_wp2_with fail
  go_region_held3 (fun w' => w'.cell? ⟨w1.heap.size, 0, none⟩ = some (.int .i64 f) ∧ w'.cell? ⟨w1.heap.size, 1, none⟩ = some (.int .i64 t) ∧ w'.cell? ⟨w.heap.size, 1, none⟩ = some (.int .i64 0))
    (go_keep)
    (first | (go_at_call 85; refine (hcut _).mono ?_; rintro e w2 ⟨rfl, hB2⟩; obtain ⟨hbc, hbf⟩ := bcell hB2))
  have hw : IntKind.i64.wrap ((f : Int) + (m : Int)) = ((f + m : Nat) : Int) := by rw [IntWalk.i64_in _ (by omega)]; rfl
  rw [hw]
  go_wp2_with fail
  go_ret
  exact ⟨rfl, (HB.out.drew).trans (hB2.mono (HB.out.drew).size)⟩

set_option maxRecDepth 100000 in
set_option maxHeartbeats 1000000 in
theorem refOffset_no01 (s : ByteArray) (l c : Int) (w : World) (hs : s.size ≤ 100000000000) (h0 : 0 ≤ l) (h1 : c < 0) (hk : ¬ l.toNat < L.mny s) :
    Calls Tryd.prog 57 #[.string s, .agg #[.int .i64 l, .int .i64 c]] w (IntIs s.size w) := by
  have hm := L.mny_pos s
  have hline := fun W => (refLine_is s (l.toNat : Nat) W (by omega)).mono fun e w' h => line_no (by omega) h
  unfold LineNo at hline
  rw [show ((l.toNat : Nat) : Int) = l by omega] at hline
  go_enter Tryd.func57, Tryd.ntmps57
  go_wp2_with fail
  refine (hline _).mono ?_
  rintro e w1 ⟨rfl, hB1⟩
  have HB := Lib.hid ((((Below.refl _ w).alloc (Nat.le_refl _) (Obj.cells #[Value.int .i64 l, Value.int .i64 0] 38)).trans (hB1.mono (by simp))).alloc (by have := hB1.size; simp at this; omega) (Obj.cells #[Value.int .i64 0, Value.int .i64 0] 74))
  clear hB1
  go_wp2_with fail
  go_ret
  exact ⟨rfl, HB.out⟩

set_option maxRecDepth 100000 in
set_option maxHeartbeats 1000000 in
theorem refOffset_yes10 (s : ByteArray) (l c : Int) (w : World) (hs : s.size ≤ 100000000000) (h0 : l < 0) (h1 : 0 ≤ c) (hk : l.toNat < L.mny s) :
    Calls Tryd.prog 57 #[.string s, .agg #[.int .i64 l, .int .i64 c]] w (IntIs (L.fr s l.toNat + U.cut (content s l.toNat) c) w) := by
  have hfr := L.fr_le hk
  have hge := L.to_ge hk
  have hto := L.to_le hk
  have hsz := content_size hk
  have hcl : U.cut (content s l.toNat) c ≤ L.to s l.toNat - L.fr s l.toNat := by obtain ⟨j, n, _, _, h, _⟩ := U.cut_facts (content s l.toNat) c; omega
  have hline := fun W => (refLine_is s (l.toNat : Nat) W (by omega)).mono fun e w' h => line_yes hk h
  have hcut := fun W => refCut_any (content s l.toNat) (c) W (by omega)
  unfold content at hcut hcl ⊢
  unfold LineYes at hline
  generalize L.fr s l.toNat = f at *
  generalize L.to s l.toNat = t at *
  generalize U.cut (s.extract f t) c = m at *
  clear hsz
  rw [show ((l.toNat : Nat) : Int) = 0 by omega] at hline
  go_enter Tryd.func57, Tryd.ntmps57
  go_wp2_with fail
  refine (hline _).mono ?_
  rintro e w1 ⟨rfl, hB1⟩
  have c3 := ((Boxed2.new w 38 (.int .i64 0) (.int .i64 c)).below hB1).cell1
  have hz1 := hB1.size
  simp only [World.size_alloc] at hz1
  have hz2 : w.heap.size < w1.heap.size + 1 := by omega
  have HB := Lib.hid ((((Below.refl _ w).alloc (Nat.le_refl _) (Obj.cells #[Value.int .i64 0, Value.int .i64 c] 38)).trans (hB1.mono (by simp))).alloc (by omega) (Obj.cells #[Value.int .i64 f, Value.int .i64 t] 74))
  clear hB1
  go_wp2_with fail
  go_region_held3 (fun w' => w'.cell? ⟨w1.heap.size, 0, none⟩ = some (.int .i64 f) ∧ w'.cell? ⟨w1.heap.size, 1, none⟩ = some (.int .i64 t) ∧ w'.cell? ⟨w.heap.size, 1, none⟩ = some (.int .i64 c))
    (go_keep)
    (first | (go_at_call 85; refine (hcut _).mono ?_; rintro e w2 ⟨rfl, hB2⟩; obtain ⟨hbc, hbf⟩ := bcell hB2))
  have hw : IntKind.i64.wrap ((f : Int) + (m : Int)) = ((f + m : Nat) : Int) := by rw [IntWalk.i64_in _ (by omega)]; rfl
  rw [hw]
  go_wp2_with fail
  go_ret
  exact ⟨rfl, (HB.out.drew).trans (hB2.mono (HB.out.drew).size)⟩

set_option maxRecDepth 100000 in
set_option maxHeartbeats 1000000 in
theorem refOffset_yes11 (s : ByteArray) (l c : Int) (w : World) (hs : s.size ≤ 100000000000) (h0 : l < 0) (h1 : c < 0) (hk : l.toNat < L.mny s) :
    Calls Tryd.prog 57 #[.string s, .agg #[.int .i64 l, .int .i64 c]] w (IntIs (L.fr s l.toNat + U.cut (content s l.toNat) c) w) := by
  have hfr := L.fr_le hk
  have hge := L.to_ge hk
  have hto := L.to_le hk
  have hsz := content_size hk
  have hcl : U.cut (content s l.toNat) c ≤ L.to s l.toNat - L.fr s l.toNat := by obtain ⟨j, n, _, _, h, _⟩ := U.cut_facts (content s l.toNat) c; omega
  have hline := fun W => (refLine_is s (l.toNat : Nat) W (by omega)).mono fun e w' h => line_yes hk h
  have hcut := fun W => refCut_any (content s l.toNat) (0) W (by omega)
  rw [cut_zeroR, ← U.cut_below (content s l.toNat) c h1] at hcut
  unfold content at hcut hcl ⊢
  unfold LineYes at hline
  generalize L.fr s l.toNat = f at *
  generalize L.to s l.toNat = t at *
  generalize U.cut (s.extract f t) c = m at *
  clear hsz
  rw [show ((l.toNat : Nat) : Int) = 0 by omega] at hline
  go_enter Tryd.func57, Tryd.ntmps57
  go_wp2_with fail
  refine (hline _).mono ?_
  rintro e w1 ⟨rfl, hB1⟩
  have c3 := ((Boxed2.new w 38 (.int .i64 0) (.int .i64 0)).below hB1).cell1
  have hz1 := hB1.size
  simp only [World.size_alloc] at hz1
  have hz2 : w.heap.size < w1.heap.size + 1 := by omega
  have HB := Lib.hid ((((Below.refl _ w).alloc (Nat.le_refl _) (Obj.cells #[Value.int .i64 0, Value.int .i64 0] 38)).trans (hB1.mono (by simp))).alloc (by omega) (Obj.cells #[Value.int .i64 f, Value.int .i64 t] 74))
  clear hB1
  go_wp2_with fail
  go_region_held3 (fun w' => w'.cell? ⟨w1.heap.size, 0, none⟩ = some (.int .i64 f) ∧ w'.cell? ⟨w1.heap.size, 1, none⟩ = some (.int .i64 t) ∧ w'.cell? ⟨w.heap.size, 1, none⟩ = some (.int .i64 0))
    (go_keep)
    (first | (go_at_call 85; refine (hcut _).mono ?_; rintro e w2 ⟨rfl, hB2⟩; obtain ⟨hbc, hbf⟩ := bcell hB2))
  have hw : IntKind.i64.wrap ((f : Int) + (m : Int)) = ((f + m : Nat) : Int) := by rw [IntWalk.i64_in _ (by omega)]; rfl
  rw [hw]
  go_wp2_with fail
  go_ret
  exact ⟨rfl, (HB.out.drew).trans (hB2.mono (HB.out.drew).size)⟩

theorem refOffset_any (s : ByteArray) (l c : Int) (w : World) (hs : s.size ≤ 100000000000) :
    Calls Tryd.prog 57 #[.string s, .agg #[.int .i64 l, .int .i64 c]] w (IntIs (ofs s l c) w) := by
  unfold ofs
  by_cases h : l.toNat < L.mny s
  · rw [if_pos h]
    by_cases h0 : l < 0
    · by_cases h1 : c < 0
      · exact refOffset_yes11 s l c w hs h0 h1 h
      · exact refOffset_yes10 s l c w hs h0 (by omega) h
    · by_cases h1 : c < 0
      · exact refOffset_yes01 s l c w hs (by omega) h1 h
      · exact refOffset_yes00 s l c w hs (by omega) (by omega) h
  · rw [if_neg h]
    have hm := L.mny_pos s
    by_cases h1 : c < 0
    · exact refOffset_no01 s l c w hs (by omega) h1 h
    · exact refOffset_no00 s l c w hs (by omega) (by omega) h
end Go.Proofs.YtjeopabnddekgaaDoor

namespace Go.Proofs.YtjeopabnddekgaaDoor
open Go Go.RowKit Go.Shelf Go.Lib

def PosIs (s : ByteArray) (b : Nat) (w : World) (e : Ending) (w' : World) : Prop := e = .returned (.agg #[.int .i64 (posL s b), .int .i64 (posC s b)]) ∧ Below w.heap.size w w'
set_option maxRecDepth 100000 in
set_option maxHeartbeats 1000000 in
theorem refPos_any (s : ByteArray) (i : Int) (w : World) (hs : s.size ≤ 100000000000) :
    Calls Tryd.prog 60 #[.string s, .int .i64 i] w (PosIs s (bgnAt s i) w) := by
  have hm2 := L.mny_le s
  have hm1 := L.mny_pos s
  have hbg := fun W => refBegin_all s i W (by omega)
  have hst := fun W => refStarts_any s W hs
  have hbs : bgnAt s i ≤ s.size := by obtain ⟨j, n, _, h, _⟩ := U.bgnAt_facts s i; exact h
  generalize bgnAt s i = b at *
  go_enter Tryd.func60, Tryd.ntmps60
  go_wp2_with fail
  refine (hbg _).mono ?_
  rintro e w1 ⟨rfl, hB1⟩
  have bR1 := (Boxed2.new w 38 (.int .i64 0) (.int .i64 0)).below hB1
  have hB01 := ((Below.refl _ w).alloc (Nat.le_refl _) (.cells #[.int .i64 0, .int .i64 0] 38)).trans (hB1.mono (by simp))
  clear hB1
  go_wp2_with fail
  refine (hst _).mono ?_
  rintro e w2 ⟨g, cap, rfl, hown, hB2⟩
  have bR2 := bR1.below hB2
  have hB02 := hB01.trans (hB2.mono hB01.size)
  have hcells : Hid (∀ j, j < L.mny s → w2.cell? ⟨g, j, none⟩ = some (.int .i64 (L.fr s j))) := Lib.hid (fun j hj => offs_cell hown hj)
  clear hown hB2 hB01 bR1
  go_wp2_with fail
  go_loop [6] (fun p => ∃ k : Nat, p = .int .i64 k ∧ k < L.mny s ∧ L.fr s k ≤ b) (fun p => L.mny s - (RowKit.intOf p).toNat)
  case atStart => exact ⟨0, rfl, by omega, Nat.zero_le _⟩
  case round =>
    obtain ⟨k, rfl, hk, hfk⟩ := hrel
    by_cases hk1 : k + 1 < L.mny s
    · have hc := hcells.out (k + 1) hk1
      by_cases hle : L.fr s (k + 1) ≤ b
      · go_wp2_with fail
        go_round
        case rel => exact ⟨k + 1, by go_num, hk1, hle⟩
        case measure => simp [RowKit.intOf]; omega
      · have hup : b < L.fr s (k + 1) := by omega
        have hdl : decide (L.fr s (k + 1) ≤ b) = false := decide_eq_false hle
        have hnm : k < L.mny s := hk
        have hln : L.ln s b = k := L.ln_eq hk hfk (fun _ => hup)
        have hfr := L.fr_le hk
        have hto := L.to_le hk
        have hge := L.to_ge hk
        have HC : Hid (posL s b = k ∧ posC s b = U.units (s.extract (L.fr s k) (min b (L.to s k)))) := Lib.hid ⟨by unfold posL; exact hln, by unfold posC; rw [hln]⟩
        have hline := fun W => refLine_yes s k W (by omega) hk
        by_cases hbt : L.to s k < b
        · have hm : min b (L.to s k) = L.to s k := by omega
          rw [hm] at HC
          have hun := fun W => refUnits_any (s.extract (L.fr s k) (L.to s k)) W (by rw [ByteArray.size_extract]; omega)
          generalize U.units (s.extract (L.fr s k) (L.to s k)) = u at *
          clear hm hln
          generalize L.fr s k = f at *
          generalize L.to s k = t at *
          go_wp2_with fail
          refine (hline _).mono ?_
          rintro e w3 ⟨rfl, hB3⟩
          have bR3 := bR2.below hB3
          have hB03 := hB02.trans (hB3.mono hB02.size)
          have c0 := bR3.cell0
          have c1 := bR3.cell1
          have f0 := bR3.frozen0
          have f1 := bR3.frozen1
          have l3 := bR3.lt
          clear hB3 hB02 bR2 hcells
          go_wp2_with fail
          refine (hun _).mono ?_
          rintro e w4 ⟨rfl, hB4⟩
          have bR4 := (bR3.alloc (.cells #[.int .i64 f, .int .i64 t] 74)).below hB4
          have hB04 := (hB03.alloc hB03.size (.cells #[.int .i64 f, .int .i64 t] 74)).trans (hB4.mono (hB03.alloc hB03.size (.cells #[.int .i64 f, .int .i64 t] 74)).size)
          have c0' := bR4.cell0
          have c1' := bR4.cell1
          have f0' := bR4.frozen0
          have f1' := bR4.frozen1
          clear hB4 bR3 hB03 c0 c1 f0 f1
          go_wp2_with fail
          exact bodyPost_ret (v := .agg #[.int .i64 k, .int .i64 u]) (by simp [results, Tryd.results60, go_sem, c0', c1']) rfl ⟨by rw [HC.out.1, HC.out.2], (hB04.setCell (p := ⟨w.heap.size, 0, none⟩) (Nat.le_refl _) _).setCell (p := ⟨w.heap.size, 1, none⟩) (Nat.le_refl _) _⟩
        · have hm : min b (L.to s k) = b := by omega
          rw [hm] at HC
          have hun := fun W => refUnits_any (s.extract (L.fr s k) b) W (by rw [ByteArray.size_extract]; omega)
          generalize U.units (s.extract (L.fr s k) b) = u at *
          clear hm hln
          generalize L.fr s k = f at *
          generalize L.to s k = t at *
          go_wp2_with fail
          refine (hline _).mono ?_
          rintro e w3 ⟨rfl, hB3⟩
          have bR3 := bR2.below hB3
          have hB03 := hB02.trans (hB3.mono hB02.size)
          have c0 := bR3.cell0
          have c1 := bR3.cell1
          have f0 := bR3.frozen0
          have f1 := bR3.frozen1
          have l3 := bR3.lt
          clear hB3 hB02 bR2 hcells
          go_wp2_with fail
          refine (hun _).mono ?_
          rintro e w4 ⟨rfl, hB4⟩
          have bR4 := (bR3.alloc (.cells #[.int .i64 f, .int .i64 t] 74)).below hB4
          have hB04 := (hB03.alloc hB03.size (.cells #[.int .i64 f, .int .i64 t] 74)).trans (hB4.mono (hB03.alloc hB03.size (.cells #[.int .i64 f, .int .i64 t] 74)).size)
          have c0' := bR4.cell0
          have c1' := bR4.cell1
          have f0' := bR4.frozen0
          have f1' := bR4.frozen1
          clear hB4 bR3 hB03 c0 c1 f0 f1
          go_wp2_with fail
          exact bodyPost_ret (v := .agg #[.int .i64 k, .int .i64 u]) (by simp [results, Tryd.results60, go_sem, c0', c1']) rfl ⟨by rw [HC.out.1, HC.out.2], (hB04.setCell (p := ⟨w.heap.size, 0, none⟩) (Nat.le_refl _) _).setCell (p := ⟨w.heap.size, 1, none⟩) (Nat.le_refl _) _⟩
    · have hk2 : ¬ (k : Int) + 1 < (L.mny s : Int) := by omega
      have hnm : k < L.mny s := hk
      have hln : L.ln s b = k := L.ln_eq hk hfk (fun h => absurd h hk1)
      have hfr := L.fr_le hk
      have hto := L.to_le hk
      have hge := L.to_ge hk
      have HC : Hid (posL s b = k ∧ posC s b = U.units (s.extract (L.fr s k) (min b (L.to s k)))) := Lib.hid ⟨by unfold posL; exact hln, by unfold posC; rw [hln]⟩
      have hline := fun W => refLine_yes s k W (by omega) hk
      by_cases hbt : L.to s k < b
      · have hm : min b (L.to s k) = L.to s k := by omega
        rw [hm] at HC
        have hun := fun W => refUnits_any (s.extract (L.fr s k) (L.to s k)) W (by rw [ByteArray.size_extract]; omega)
        generalize U.units (s.extract (L.fr s k) (L.to s k)) = u at *
        clear hm hln
        generalize L.fr s k = f at *
        generalize L.to s k = t at *
        go_wp2_with fail
        refine (hline _).mono ?_
        rintro e w3 ⟨rfl, hB3⟩
        have bR3 := bR2.below hB3
        have hB03 := hB02.trans (hB3.mono hB02.size)
        have c0 := bR3.cell0
        have c1 := bR3.cell1
        have f0 := bR3.frozen0
        have f1 := bR3.frozen1
        have l3 := bR3.lt
        clear hB3 hB02 bR2 hcells
        go_wp2_with fail
        refine (hun _).mono ?_
        rintro e w4 ⟨rfl, hB4⟩
        have bR4 := (bR3.alloc (.cells #[.int .i64 f, .int .i64 t] 74)).below hB4
        have hB04 := (hB03.alloc hB03.size (.cells #[.int .i64 f, .int .i64 t] 74)).trans (hB4.mono (hB03.alloc hB03.size (.cells #[.int .i64 f, .int .i64 t] 74)).size)
        have c0' := bR4.cell0
        have c1' := bR4.cell1
        have f0' := bR4.frozen0
        have f1' := bR4.frozen1
        clear hB4 bR3 hB03 c0 c1 f0 f1
        go_wp2_with fail
        exact bodyPost_ret (v := .agg #[.int .i64 k, .int .i64 u]) (by simp [results, Tryd.results60, go_sem, c0', c1']) rfl ⟨by rw [HC.out.1, HC.out.2], (hB04.setCell (p := ⟨w.heap.size, 0, none⟩) (Nat.le_refl _) _).setCell (p := ⟨w.heap.size, 1, none⟩) (Nat.le_refl _) _⟩
      · have hm : min b (L.to s k) = b := by omega
        rw [hm] at HC
        have hun := fun W => refUnits_any (s.extract (L.fr s k) b) W (by rw [ByteArray.size_extract]; omega)
        generalize U.units (s.extract (L.fr s k) b) = u at *
        clear hm hln
        generalize L.fr s k = f at *
        generalize L.to s k = t at *
        go_wp2_with fail
        refine (hline _).mono ?_
        rintro e w3 ⟨rfl, hB3⟩
        have bR3 := bR2.below hB3
        have hB03 := hB02.trans (hB3.mono hB02.size)
        have c0 := bR3.cell0
        have c1 := bR3.cell1
        have f0 := bR3.frozen0
        have f1 := bR3.frozen1
        have l3 := bR3.lt
        clear hB3 hB02 bR2 hcells
        go_wp2_with fail
        refine (hun _).mono ?_
        rintro e w4 ⟨rfl, hB4⟩
        have bR4 := (bR3.alloc (.cells #[.int .i64 f, .int .i64 t] 74)).below hB4
        have hB04 := (hB03.alloc hB03.size (.cells #[.int .i64 f, .int .i64 t] 74)).trans (hB4.mono (hB03.alloc hB03.size (.cells #[.int .i64 f, .int .i64 t] 74)).size)
        have c0' := bR4.cell0
        have c1' := bR4.cell1
        have f0' := bR4.frozen0
        have f1' := bR4.frozen1
        clear hB4 bR3 hB03 c0 c1 f0 f1
        go_wp2_with fail
        exact bodyPost_ret (v := .agg #[.int .i64 k, .int .i64 u]) (by simp [results, Tryd.results60, go_sem, c0', c1']) rfl ⟨by rw [HC.out.1, HC.out.2], (hB04.setCell (p := ⟨w.heap.size, 0, none⟩) (Nat.le_refl _) _).setCell (p := ⟨w.heap.size, 1, none⟩) (Nat.le_refl _) _⟩
end Go.Proofs.YtjeopabnddekgaaDoor

namespace Go.Proofs.YtjeopabnddekgaaDoor
open Go Go.RowKit Go.Shelf Go.Lib

set_option maxHeartbeats 400000 in
set_option maxRecDepth 100000 in
theorem refValid_any (s : ByteArray) (w : World) (hs : s.size ≤ 1000000000000) :
    Calls Tryd.prog 38 #[.string s] w (BoolIs (U.valid s) w) := by
  go_enter Tryd.func38, Tryd.ntmps38
  go_wp2_with fail
  go_loopw [3] (fun p wr => ∃ f pos : Nat, p = .int .i64 pos ∧ pos ≤ s.size ∧ Hid (U.vFrom s f pos = U.valid s ∧ s.size ≤ pos + f) ∧ Below w.heap.size w wr) (fun p _ => s.size - (RowKit.intOf p).toNat)
  case atStart => exact ⟨s.size, 0, rfl, by omega, Lib.hid ⟨rfl, by omega⟩, Below.refl _ _⟩
  case round =>
    obtain ⟨f, pos, rfl, hp, HU, hbl⟩ := hrel
    by_cases hlt : pos < s.size
    · have hw1 := U.wd_pos hlt
      have hw2 := U.wd_le hlt
      obtain ⟨f', rfl⟩ : ∃ f', f = f' + 1 := ⟨f - 1, by have := HU.out.2; omega⟩
      cases hbad : U.bad s pos
      · have hc := fun W => refNext_good s pos W hlt hs hbad
        have HS := Lib.hid (U.vFrom_step s f' pos hlt hbad)
        clear hbad
        generalize U.wd s pos = d at *
        generalize U.ch s pos = c at *
        go_wp2_with fail
        refine (hc _).mono ?_
        rintro e w' ⟨rfl, hb⟩
        go_wp2_with fail
        go_roundw
        case rel =>
          refine ⟨f', pos + d, by go_num, by omega, Lib.hid ⟨?_, ?_⟩, hbl.trans (hb.mono hbl.size)⟩
          · rw [← HS.out]; exact HU.out.1
          · have := HU.out.2; omega
        case measure => simp [RowKit.intOf]; omega
      · have hc := fun W => refNext_bad s pos W hlt hs hbad
        have HS := Lib.hid (U.vFrom_bad s f' pos hlt hbad)
        clear hbad
        go_wp2_with fail
        refine (hc _).mono ?_
        rintro e w' ⟨rfl, hb⟩
        go_wp2_with fail
        go_ret
        refine ⟨?_, hbl.trans (hb.mono hbl.size)⟩
        rw [← HU.out.1, HS.out]
        rfl
    · go_wp2_with fail
      go_ret
      refine ⟨?_, hbl⟩
      rw [← HU.out.1, U.vFrom_end s f pos hlt]
      rfl
end Go.Proofs.YtjeopabnddekgaaDoor

namespace Go.Proofs.YtjeopabnddekgaaDoor
open Go Go.RowKit Go.Shelf Go.Lib

theorem below_drewN9 {B : Nat} {a w : World} (h : Below B a w) (q : Nat) : Below B a (w.drewN q) := ⟨h.os, h.tape, h.output, h.size, h.block⟩
theorem ahead_is {x : ByteArray} (hv : U.valid x = true) {n : Nat} (hn : n < x.size) : ((U.bga x (n : Nat) : Int) = (n : Nat)) ↔ ¬ (x.get! n).toNat / 64 = 2 := by
  rw [U.bga_nat, if_pos hn]
  obtain ⟨h1, h2, h3⟩ := U.bgn_good x hv n hn
  constructor
  · intro h h4
    have e : U.bgn x n = n := by omega
    rw [e] at h1
    rw [U.cont_bad x n h4] at h1
    cases h1
  · intro h
    by_cases h5 : U.bgn x n < n
    · exact absurd (U.inner x (U.bgn x n) n (by omega) h5 h3) h
    · omega
set_option maxHeartbeats 1000000 in
set_option maxRecDepth 100000 in
theorem refAhead_any (x : ByteArray) (i : Int) (w : World) (hv : U.valid x = true) (hs : x.size ≤ 1000000000) : Calls Tryd.prog 75 #[.string x, .int .i64 i] w (BoolIs (decide ((U.bga x i : Int) = i)) w) := by
  have hle := U.bga_le x i
  by_cases h0 : i < 0
  · have hd : decide ((U.bga x i : Int) = i) = false := decide_eq_false (by omega)
    rw [hd]
    clear hle hd
    go_enter Tryd.func75, Tryd.ntmps75
    go_wp2_with fail
    go_ret
    exact ⟨rfl, Below.refl _ _⟩
  · obtain ⟨n, rfl⟩ : ∃ n : Nat, i = (n : Nat) := ⟨i.toNat, by omega⟩
    by_cases h1 : n < x.size
    · have ha := ahead_is hv h1
      have hb := U.at_byte h1
      have j1 : (n : Int) < (x.size : Int) := by omega
      have j2 : (0 : Int) ≤ (n : Int) := by omega
      have j3 : (n : Int) ≤ 1000000000 := by omega
      rw [← hb] at ha
      have hz : x[n].toNat < 256 := x[n].toNat_lt
      have he : (((n : Nat) : Int) == ((x.size : Nat) : Int)) = false := by rw [beq_eq_false_iff_ne]; omega
      by_cases h2 : x[n].toNat / 64 = 2
      · have hd : decide ((U.bga x (n : Nat) : Int) = (n : Nat)) = false := decide_eq_false (fun h => ha.1 h h2)
        rw [hd]
        have q1 : (x[n].toNat : Int) / 64 = 2 := by omega
        clear hle hd ha hb h0
        go_enter Tryd.func75, Tryd.ntmps75
        go_wp2_with fail
        go_ret
        exact ⟨rfl, Below.refl _ _⟩
      · have hd : decide ((U.bga x (n : Nat) : Int) = (n : Nat)) = true := decide_eq_true (ha.2 h2)
        rw [hd]
        have q1 : ¬ (x[n].toNat : Int) / 64 = 2 := by omega
        have q2 : ((x[n].toNat : Int) / 64 != 2) = true := by rw [bne_iff_ne]; exact q1
        clear hle hd ha hb h0
        go_enter Tryd.func75, Tryd.ntmps75
        go_wp2_with fail
        go_ret
        exact ⟨rfl, Below.refl _ _⟩
    · by_cases h2 : n = x.size
      · have hd : decide ((U.bga x (n : Nat) : Int) = (n : Nat)) = true := decide_eq_true (by rw [h2, U.bga_end])
        rw [hd]
        subst h2
        have j2 : (0 : Int) ≤ (x.size : Int) := by omega
        clear hle hd h0 h1
        go_enter Tryd.func75, Tryd.ntmps75
        go_wp2_with fail
        go_ret
        exact ⟨rfl, Below.refl _ _⟩
      · have hd : decide ((U.bga x (n : Nat) : Int) = (n : Nat)) = false := decide_eq_false (by omega)
        rw [hd]
        have j1 : ¬ (n : Int) ≤ (x.size : Int) := by omega
        have j2 : (0 : Int) ≤ (n : Int) := by omega
        clear hle hd h0 h1 h2
        go_enter Tryd.func75, Tryd.ntmps75
        go_wp2_with fail
        go_ret
        exact ⟨rfl, Below.refl _ _⟩
set_option maxHeartbeats 1000000 in
set_option maxRecDepth 100000 in
theorem refMay_any (x : ByteArray) (f k : Int) (w : World) (hv : U.valid x = true) (hs : x.size ≤ 1000000000) : Calls Tryd.prog 41 #[.string x, .int .i64 f, .int .i64 k] w (BoolIs (mayR x f k) w) := by
  have HA := Lib.hid (fun W => refAhead_any x f W hv hs)
  have HB := Lib.hid (fun W => refAhead_any x k W hv hs)
  unfold mayR
  generalize decide ((U.bga x f : Int) = f) = a at *
  generalize decide ((U.bga x k : Int) = k) = b at *
  by_cases h : f ≤ k
  · rw [decide_eq_true h]
    go_enter Tryd.func41, Tryd.ntmps41
    go_wp2_with fail
    refine (HA.out _).mono ?_
    rintro e w1 ⟨rfl, hB⟩
    have H1 := Lib.hid hB
    clear hB
    cases a
    · go_wp2_with fail
      go_ret
      exact ⟨rfl, H1.out⟩
    · go_wp2_with fail
      refine (HB.out _).mono ?_
      rintro e w2 ⟨rfl, hB⟩
      have H2 := Lib.hid (H1.out.trans (hB.mono H1.out.size))
      clear hB
      cases b
      all_goals
        go_wp2_with fail
        go_ret
        exact ⟨rfl, H2.out⟩
  · rw [decide_eq_false h]
    go_enter Tryd.func41, Tryd.ntmps41
    go_wp2_with fail
    go_ret
    exact ⟨rfl, Below.refl _ _⟩
def RefSl (x : ByteArray) (f k : Int) (w : World) (e : Ending) (w' : World) : Prop := (∃ y n, e = .returned (.tuple #[.string y, .int .i64 n]) ∧ (mayR x f k = true → y = x.extract f.toNat k.toNat ∧ n = 0) ∧ (mayR x f k = false → y = ByteArray.empty ∧ n = 90)) ∧ Below w.heap.size w w'
set_option maxHeartbeats 1000000 in
set_option maxRecDepth 100000 in
theorem refSlice_any (x : ByteArray) (f k : Int) (w : World) (hv : U.valid x = true) (hs : x.size ≤ 1000000000) : Calls Tryd.prog 17 #[.string x, .int .i64 f, .int .i64 k] w (RefSl x f k w) := by
  have HM := Lib.hid (fun W => refMay_any x f k W hv hs)
  by_cases hm : mayR x f k = true
  · obtain ⟨a, c, rfl, rfl, hac, hc, -, -⟩ := mayR_spec hm
    rw [hm] at HM
    have HE := Lib.hid hm
    have j1 : (a : Int) ≤ (c : Int) := by omega
    have j2 : (c : Int) ≤ (x.size : Int) := by omega
    have j3 : (0 : Int) ≤ (a : Int) := by omega
    have j4 : (0 : Int) ≤ (c : Int) := by omega
    clear hm
    go_enter Tryd.func17, Tryd.ntmps17
    go_wp2_with fail
    refine (HM.out _).mono ?_
    rintro e w1 ⟨rfl, hB⟩
    have H1 := Lib.hid hB
    clear hB
    go_wp2_with fail
    go_ret2
    exact ⟨⟨_, 0, rfl, fun _ => ⟨by simp, rfl⟩, fun h => by rw [HE.out] at h; cases h⟩, H1.out⟩
  · have hm' : mayR x f k = false := by simpa using hm
    rw [hm'] at HM
    have HE := Lib.hid hm'
    clear hm hm'
    go_enter Tryd.func17, Tryd.ntmps17
    go_wp2_with fail
    refine (HM.out _).mono ?_
    rintro e w1 ⟨rfl, hB⟩
    have H1 := Lib.hid hB
    clear hB
    go_wp2_with fail
    go_ret2
    exact ⟨⟨_, 90, rfl, fun h => (by rw [HE.out] at h; cases h), fun _ => ⟨rfl, rfl⟩⟩, H1.out⟩
set_option maxHeartbeats 1000000 in
set_option maxRecDepth 100000 in
theorem refSplice_ok (x : ByteArray) (f k : Int) (s : ByteArray) (w : World) (hv : U.valid x = true) (hs : x.size ≤ 16384) (hss : s.size ≤ 70000) (h : spE x f k s = 0) : Calls Tryd.prog 14 #[.string x, .int .i64 f, .int .i64 k, .string s] w (fun e w' => e = .returned (.tuple #[.string (spT x f k s), .int .i64 0]) ∧ Below w.heap.size w w') := by
  obtain ⟨hm, hvs, hl⟩ := sp_ok h
  have HM := Lib.hid (fun W => refMay_any x f k W hv (by omega))
  have HV := Lib.hid (fun W => refValid_any s W (by omega))
  rw [hm] at HM
  rw [hvs] at HV
  obtain ⟨a, c, rfl, rfl, hac, hc, -, -⟩ := mayR_spec hm
  have j1 : (a : Int) ≤ (c : Int) := by omega
  have j2 : (c : Int) ≤ (x.size : Int) := by omega
  have j3 : (0 : Int) ≤ (a : Int) := by omega
  have j4 : (0 : Int) ≤ (c : Int) := by omega
  have j5 : (x.size : Int) ≤ 16384 := by omega
  have j6 : (s.size : Int) ≤ 70000 := by omega
  have j7 : (a : Int) ≤ (x.size : Int) := by omega
  have HL := Lib.hid (show ¬ ((x.size : Int) - (c : Int) + (a : Int) + (s.size : Int) > 16384) by omega)
  have HT := Lib.hid (show spT x (a : Nat) (c : Nat) s = x.extract 0 a ++ s ++ x.extract c x.size from by unfold spT; simp)
  rw [HT.out]
  clear hm hvs h hl HT hac hc
  have hl := HL.out
  go_enter Tryd.func14, Tryd.ntmps14
  go_wp2_with fail
  refine (HM.out _).mono ?_
  rintro e w1 ⟨rfl, hB⟩
  have H1 := Lib.hid hB
  clear hB
  go_wp2_with fail
  refine (HV.out _).mono ?_
  rintro e w2 ⟨rfl, hB⟩
  have H2 := Lib.hid (H1.out.trans (hB.mono H1.out.size))
  clear hB
  go_wp2_with fail
  go_quiet (fail)
  go_wp2_with fail
  go_ret2
  exact ⟨by simp, below_drewN9 H2.out _⟩
end Go.Proofs.YtjeopabnddekgaaDoor

namespace Go.Proofs.YtjeopabnddekgaaDoor
open Go Go.RowKit Go.Shelf Go.Lib

def StRef (x : ByteArray) (i : Int) (w : World) (e : Ending) (w' : World) : Prop := e = .returned (.tuple #[.int .i64 (if 0 ≤ i ∧ i < (L.mny x : Int) then L.fr x i.toNat else 0 : Nat), .bool (decide (0 ≤ i ∧ i < (L.mny x : Int)))]) ∧ Below w.heap.size w w'
set_option maxHeartbeats 1000000 in
set_option maxRecDepth 100000 in
theorem refStart_any (x : ByteArray) (i : Int) (w : World) (hs : x.size ≤ 1000000000) : Calls Tryd.prog 19 #[.string x, .int .i64 i] w (StRef x i w) := by
  have hst := Lib.hid (fun W => refStarts_any x W (by omega))
  have hm := L.mny_le x
  unfold StRef
  by_cases h : 0 ≤ i ∧ i < (L.mny x : Int)
  · rw [if_pos h, decide_eq_true h]
    obtain ⟨n, rfl⟩ : ∃ n : Nat, i = (n : Nat) := ⟨i.toNat, by omega⟩
    rw [show ((n : Nat) : Int).toNat = n by omega]
    have hn : n < L.mny x := by omega
    have j1 : (0 : Int) ≤ (n : Int) := by omega
    have j2 : (n : Int) < (L.mny x : Int) := by omega
    have j3 : (L.mny x : Int) ≤ 1000000001 := by omega
    obtain ⟨f, hf⟩ : ∃ f, L.fr x n = f := ⟨_, rfl⟩
    rw [hf]
    clear h hm hs
    go_enter Tryd.func19, Tryd.ntmps19
    go_wp2_with fail
    refine (hst.out _).mono ?_
    rintro e w2 ⟨g, cap, rfl, hown, hB2⟩
    have H2 := Lib.hid hB2
    have c0 := offs_cell hown hn
    rw [hf] at c0
    clear hown hB2 hf
    generalize L.mny x = m at *
    go_wp2_with fail
    go_ret2
    exact ⟨rfl, H2.out⟩
  · rw [if_neg h, decide_eq_false h]
    have j3 : (L.mny x : Int) ≤ 1000000001 := by omega
    by_cases h0 : i < 0
    all_goals
      have h1 : i < 0 ∨ (L.mny x : Int) ≤ i := by omega
      clear h hm hs
      go_enter Tryd.func19, Tryd.ntmps19
      go_wp2_with fail
      refine (hst.out _).mono ?_
      rintro e w2 ⟨g, cap, rfl, hown, hB2⟩
      have H2 := Lib.hid hB2
      have h2 : 0 ≤ i → (L.mny x : Int) ≤ i := by omega
      have j4 : (0 : Int) ≤ (L.mny x : Int) := by omega
      clear hown hB2 h1
      generalize L.mny x = m at *
      first
        | (have h3 := h2 (by omega)
           go_wp2_with fail
           go_ret2
           exact ⟨rfl, H2.out⟩)
        | (go_wp2_with fail
           go_ret2
           exact ⟨rfl, H2.out⟩)
set_option maxHeartbeats 1000000 in
set_option maxRecDepth 100000 in
theorem refOff9_any (x : ByteArray) (l c : Int) (w : World) (hs : x.size ≤ 1000000000) : Calls Tryd.prog 21 #[.string x, .agg #[.int .i64 l, .int .i64 c]] w (IntIs (ofs x l c) w) := by
  have HO := Lib.hid (fun W => refOffset_any x l c W (by omega))
  have hBb := (Below.refl w.heap.size w).alloc (Nat.le_refl _) (.cells #[.int .i64 l, .int .i64 c] 38)
  have hr0 : (w.alloc (.cells #[.int .i64 l, .int .i64 c] 38)).heap[w.heap.size]? = some (.cells #[.int .i64 l, .int .i64 c] 38 (0, 0)) := heap_alloc_new _ _
  have H0 := Lib.hid (And.intro hBb hr0)
  clear hBb hr0
  go_enter Tryd.func21, Tryd.ntmps21
  go_upto_region 1 with fail
  generalize w.alloc (.cells #[.int .i64 l, .int .i64 c] 38) = W0 at *
  obtain ⟨p1, p2⟩ : W0.cell? ⟨w.heap.size, 0, none⟩ = some (.int .i64 l) ∧ W0.cell? ⟨w.heap.size, 1, none⟩ = some (.int .i64 c) := by
    refine ⟨?_, ?_⟩ <;> (rw [Lib.cell_of_heap H0.out.2]; rfl)
  go_wp2_with fail
  refine (HO.out _).mono ?_
  rintro e w2 ⟨rfl, hB⟩
  have H2 := Lib.hid (H0.out.1.trans (hB.mono H0.out.1.size))
  clear hB
  go_wp2_with fail
  go_ret
  exact ⟨rfl, H2.out⟩
theorem info_pos10 : (Tryd.prog.info? 38).map (·.size) = some 2 := by kernel_rfl
set_option maxHeartbeats 1000000 in
set_option maxRecDepth 100000 in
theorem refPos9_any (x : ByteArray) (i : Int) (w : World) (hs : x.size ≤ 1000000000) : Calls Tryd.prog 23 #[.string x, .int .i64 i] w (PosIs x (bgnAt x i) w) := by
  have HO := Lib.hid (fun W => refPos_any x i W (by omega))
  unfold PosIs at HO ⊢
  generalize ((posL x (bgnAt x i) : Nat) : Int) = a at *
  generalize ((posC x (bgnAt x i) : Nat) : Int) = c at *
  have hBb := (Below.refl w.heap.size w).alloc (Nat.le_refl _) (.cells #[.int .i64 0, .int .i64 0] 38)
  have hr0 : (w.alloc (.cells #[.int .i64 0, .int .i64 0] 38)).heap[w.heap.size]? = some (.cells #[.int .i64 0, .int .i64 0] 38 (0, 0)) := heap_alloc_new _ _
  have H0 := Lib.hid (And.intro hBb (And.intro hr0 (World.size_alloc w (.cells #[.int .i64 0, .int .i64 0] 38))))
  clear hBb hr0
  go_enter Tryd.func23, Tryd.ntmps23
  go_upto_region 1 with fail
  generalize w.alloc (.cells #[.int .i64 0, .int .i64 0] 38) = W0 at *
  go_wp2_with fail
  refine (HO.out _).mono ?_
  rintro e w2 ⟨rfl, hB⟩
  have hr : w2.heap[w.heap.size]? = some (.cells #[.int .i64 0, .int .i64 0] 38 (0, 0)) := (hB.block w.heap.size (by have := H0.out.2.2; omega)).trans H0.out.2.1
  have H2 := Lib.hid (below_setRow (cs := #[Value.int .i64 a, Value.int .i64 c]) (H0.out.1.trans (hB.mono H0.out.1.size)) (Nat.le_refl w.heap.size))
  have hrs : (w2.setRow w.heap.size #[Value.int .i64 a, Value.int .i64 c]).heap[w.heap.size]? = some (.cells #[Value.int .i64 a, Value.int .i64 c] 38 (0, 0)) := by
    simp [World.setRow, Array.getElem?_modify, hr]
  have HR := Lib.hid hrs
  clear hB hrs
  go_wp2_with (refine wpList_store_row rfl 38 _ _ rfl w.heap.size #[.int .i64 a, .int .i64 c] (by rfl) (by rfl) 38 _ hr info_pos10 rfl (by simp [Value.oneCell']) ?_)
  exact bodyPost_ret (results_cell_row (by rfl) _ _ w.heap.size 38 _ (0, 0) _ (by rfl) HR.out Tryd.underlying38 rfl info_pos10) rfl ⟨rfl, H2.out⟩
end Go.Proofs.YtjeopabnddekgaaDoor

namespace Go.Proofs.YtjeopabnddekgaaDoor
open Go Go.RowKit Go.Lib

set_option maxHeartbeats 8000000 in
set_option maxRecDepth 100000 in
theorem refOf_any (c : ChE) (x : ByteArray) (w : World) (hv : U.valid x = true) (hs : x.size ≤ 1000000000) : Calls Tryd.prog 33 #[.string x, .agg #[.bool c.r, .int .i64 c.a, .int .i64 c.b, .int .i64 c.c, .int .i64 c.d, .string c.s]] w (OfR (Ed.ofX x c) w) := by
  have HOa := Lib.hid (fun W => (show Calls Tryd.prog 57 #[.string x, .agg #[.int .i64 c.a, .int .i64 c.b]] W (IntZ (Ed.offX x c.a c.b) W) from by
    rw [offX_ofs hv]; exact refOffset_any x c.a c.b W (by omega)))
  have HOb := Lib.hid (fun W => (show Calls Tryd.prog 57 #[.string x, .agg #[.int .i64 c.c, .int .i64 c.d]] W (IntZ (Ed.offX x c.c c.d) W) from by
    rw [offX_ofs hv]; exact refOffset_any x c.c c.d W (by omega)))
  have hn := two_newE w (.cells #[.bool c.r, .int .i64 c.a, .int .i64 c.b, .int .i64 c.c, .int .i64 c.d, .string c.s] 69) (.cells #[.int .i64 0, .int .i64 0, .string ⟨#[]⟩] 63)
  have hb0 := below_al (below_al (Below.refl w.heap.size w) (.cells #[.bool c.r, .int .i64 c.a, .int .i64 c.b, .int .i64 c.c, .int .i64 c.d, .string c.s] 69)) (.cells #[.int .i64 0, .int .i64 0, .string ⟨#[]⟩] 63)
  have H0 := Lib.hid (And.intro hb0 hn)
  clear hb0 hn
  unfold Ed.ofX
  go_enter Tryd.func33, Tryd.ntmps33
  go_upto_region 1 with fail
  generalize ((w.alloc (.cells #[.bool c.r, .int .i64 c.a, .int .i64 c.b, .int .i64 c.c, .int .i64 c.d, .string c.s] 69)).alloc (.cells #[.int .i64 0, .int .i64 0, .string ⟨#[]⟩] 63)) = w1 at *
  have k1 : EditRow w1 (w.heap.size + 1) 0 0 ⟨#[]⟩ := H0.out.2.2.1
  have H1 := Lib.hid (And.intro H0.out.1 (And.intro k1 (And.intro H0.out.2.1 (show w.heap.size + 1 < w1.heap.size by have := H0.out.2.2.2; omega))))
  clear k1
  have x0 : w1.cell? ⟨w.heap.size, 0, none⟩ = some (.bool c.r) := by rw [Lib.cell_of_heap H1.out.2.2.1]; rfl
  rcases hr : c.r with _ | _
  · rw [hr] at x0
    have e1 : Ed.ofF x c = 0 := by unfold Ed.ofF; rw [hr]; rfl
    have e2 : Ed.ofK x c = (x.size : Int) := by unfold Ed.ofK; rw [hr]; rfl
    have HE := Lib.hid (show Ed.ofAns (Ed.ofF x c) (Ed.ofK x c) c.s = (⟨0, x.size, c.s⟩, 0) by rw [e1, e2]; unfold Ed.ofAns; rw [if_neg (by omega)])
    have x5 : w1.cell? ⟨w.heap.size, 5, none⟩ = some (.string c.s) := by rw [Lib.cell_of_heap H1.out.2.2.1]; rfl
    have r0 := H1.out.2.1
    have hb := H1.out.1
    have hz : (x.size : Int) ≤ 1000000000 := by omega
    clear e1 e2 HOa HOb hr
    go_wp2_with (refine wpList_store_row rfl 63 _ _ rfl (w.heap.size + 1) #[.int .i64 (0), .int .i64 (x.size : Nat), .string c.s] (by rfl) (by rfl) 63 _ r0 info_edit rfl (one_edit _ _ _) ?_)
    exact edit_ret2 (by rfl) _ _ (w.heap.size + 1) 0 (x.size : Nat) c.s (.int .i64 0) (by rfl) (by rfl) rfl (EditRow.set r0 ⟨0, x.size, c.s⟩) ⟨by rw [HE.out], below_setRow hb (by omega) _⟩
  · rw [hr] at x0
    have e1 : Ed.ofF x c = Ed.offX x c.a c.b := by unfold Ed.ofF; rw [hr]; rfl
    have e2 : Ed.ofK x c = Ed.offX x c.c c.d := by unfold Ed.ofK; rw [hr]; rfl
    have HF := Lib.hid (And.intro e1 e2)
    clear e1 e2
    generalize Ed.offX x c.a c.b = fv at *
    generalize Ed.offX x c.c c.d = kv at *
    obtain ⟨x1, x2, x3, x4⟩ : w1.cell? ⟨w.heap.size, 1, none⟩ = some (.int .i64 c.a) ∧ w1.cell? ⟨w.heap.size, 2, none⟩ = some (.int .i64 c.b) ∧ w1.cell? ⟨w.heap.size, 3, none⟩ = some (.int .i64 c.c) ∧ w1.cell? ⟨w.heap.size, 4, none⟩ = some (.int .i64 c.d) := by
      refine ⟨?_, ?_, ?_, ?_⟩ <;> (rw [Lib.cell_of_heap H1.out.2.2.1]; rfl)
    clear hr
    go_wp2_with fail
    refine (HOa.out _).mono ?_
    rintro en w2 ⟨rfl, hB⟩
    have k0 := (hB.block w.heap.size (by have := H1.out.2.2.2; omega)).trans H1.out.2.2.1
    have H2 := Lib.hid (And.intro (H1.out.1.trans (hB.mono H1.out.1.size)) (And.intro (EditRow.below H1.out.2.1 hB) (And.intro k0 (Nat.lt_of_lt_of_le H1.out.2.2.2 hB.size))))
    clear hB k0 x0 x1 x2 x3 x4
    obtain ⟨x3, x4⟩ : w2.cell? ⟨w.heap.size, 3, none⟩ = some (.int .i64 c.c) ∧ w2.cell? ⟨w.heap.size, 4, none⟩ = some (.int .i64 c.d) := by
      refine ⟨?_, ?_⟩ <;> (rw [Lib.cell_of_heap H2.out.2.2.1]; rfl)
    go_wp2_with fail
    refine (HOb.out _).mono ?_
    rintro en w3 ⟨rfl, hB⟩
    have k0 := (hB.block w.heap.size (by have := H2.out.2.2.2; omega)).trans H2.out.2.2.1
    have H3 := Lib.hid (And.intro (H2.out.1.trans (hB.mono H2.out.1.size)) (And.intro (EditRow.below H2.out.2.1 hB) (And.intro k0 (Nat.lt_of_lt_of_le H2.out.2.2.2 hB.size))))
    clear hB k0 x3 x4
    have x5 : w3.cell? ⟨w.heap.size, 5, none⟩ = some (.string c.s) := by rw [Lib.cell_of_heap H3.out.2.2.1]; rfl
    have r0 := H3.out.2.1
    have hb := H3.out.1
    by_cases hlt : kv < fv
    · have HE := Lib.hid (show Ed.ofAns fv kv c.s = (⟨0, 0, ⟨#[]⟩⟩, 90) by unfold Ed.ofAns; rw [if_pos hlt])
      go_wp2_with (refine wpList_store_row rfl 63 _ _ rfl (w.heap.size + 1) #[.int .i64 (0), .int .i64 (0), .string ⟨#[]⟩] (by rfl) (by rfl) 63 _ r0 info_edit rfl (one_edit _ _ _) ?_)
      exact edit_ret2 (by rfl) _ _ (w.heap.size + 1) 0 0 ⟨#[]⟩ (.int .i64 90) (by rfl) (by rfl) rfl (EditRow.set r0 ⟨0, 0, ⟨#[]⟩⟩) ⟨by rw [HF.out.1, HF.out.2, HE.out], below_setRow hb (by omega) _⟩
    · have HE := Lib.hid (show Ed.ofAns fv kv c.s = (⟨fv, kv, c.s⟩, 0) by unfold Ed.ofAns; rw [if_neg hlt])
      go_wp2_with (refine wpList_store_row rfl 63 _ _ rfl (w.heap.size + 1) #[.int .i64 (fv), .int .i64 (kv), .string c.s] (by rfl) (by rfl) 63 _ r0 info_edit rfl (one_edit _ _ _) ?_)
      exact edit_ret2 (by rfl) _ _ (w.heap.size + 1) fv kv c.s (.int .i64 0) (by rfl) (by rfl) rfl (EditRow.set r0 ⟨fv, kv, c.s⟩) ⟨by rw [HF.out.1, HF.out.2, HE.out], below_setRow hb (by omega) _⟩
end Go.Proofs.YtjeopabnddekgaaDoor

namespace Go.Proofs.YtjeopabnddekgaaDoor
open Go Go.RowKit Go.Shelf Go.Lib

/-- the text, or an error -/
def SpR (x : ByteArray) (f k : Int) (s : ByteArray) (w : World) (e : Ending) (w' : World) : Prop := (∃ y, e = .returned (.tuple #[.string y, .int .i64 (spE x f k s)]) ∧ (spE x f k s = 0 → y = spT x f k s)) ∧ Below w.heap.size w w'
set_option maxHeartbeats 1000000 in
set_option maxRecDepth 100000 in
theorem refSplice_any (x : ByteArray) (f k : Int) (s : ByteArray) (w : World) (hv : U.valid x = true) (hs : x.size ≤ 16384) (hss : s.size ≤ 70000) : Calls Tryd.prog 14 #[.string x, .int .i64 f, .int .i64 k, .string s] w (SpR x f k s w) := by
  by_cases h0 : spE x f k s = 0
  · refine (refSplice_ok x f k s w hv hs hss h0).mono ?_
    rintro e w' ⟨rfl, hB⟩
    exact ⟨⟨_, by rw [h0], fun _ => rfl⟩, hB⟩
  have HM := Lib.hid (fun W => refMay_any x f k W hv (by omega))
  have HV := Lib.hid (fun W => refValid_any s W (by omega))
  by_cases hm : mayR x f k = true
  · rw [hm] at HM
    obtain ⟨a, c, rfl, rfl, hac, hc, -, -⟩ := mayR_spec hm
    have j1 : (a : Int) ≤ (c : Int) := by omega
    have j2 : (c : Int) ≤ (x.size : Int) := by omega
    have j3 : (0 : Int) ≤ (a : Int) := by omega
    have j4 : (0 : Int) ≤ (c : Int) := by omega
    have j5 : (x.size : Int) ≤ 16384 := by omega
    have j6 : (s.size : Int) ≤ 70000 := by omega
    have j7 : (a : Int) ≤ (x.size : Int) := by omega
    by_cases hvs : U.valid s = true
    · rw [hvs] at HV
      by_cases hl : 16384 - ((x.size : Int) - ((c : Int) - (a : Int))) < (s.size : Int)
      · have HE := Lib.hid (show spE x (a : Nat) (c : Nat) s = 3 from by unfold spE; rw [if_pos hm, if_pos hvs, if_pos hl])
        have hl2 : (x.size : Int) - (c : Int) + (a : Int) + (s.size : Int) > 16384 := by omega
        clear hm hvs hac hc h0 hl
        go_enter Tryd.func14, Tryd.ntmps14
        go_wp2_with fail
        refine (HM.out _).mono ?_
        rintro e w1 ⟨rfl, hB⟩
        have H1 := Lib.hid hB
        clear hB
        go_wp2_with fail
        refine (HV.out _).mono ?_
        rintro e w2 ⟨rfl, hB⟩
        have H2 := Lib.hid (H1.out.trans (hB.mono H1.out.size))
        clear hB
        go_wp2_with fail
        go_ret2
        exact ⟨⟨_, by rw [HE.out]; rfl, fun h => by rw [HE.out] at h; cases h⟩, H2.out⟩
      · exact absurd (by unfold spE; rw [if_pos hm, if_pos hvs, if_neg hl]) h0
    · have hvs' : U.valid s = false := by simpa using hvs
      rw [hvs'] at HV
      have HE := Lib.hid (show spE x (a : Nat) (c : Nat) s = 10 from by unfold spE; rw [if_pos hm, if_neg hvs])
      clear hm hvs hvs' hac hc h0
      go_enter Tryd.func14, Tryd.ntmps14
      go_wp2_with fail
      refine (HM.out _).mono ?_
      rintro e w1 ⟨rfl, hB⟩
      have H1 := Lib.hid hB
      clear hB
      go_wp2_with fail
      refine (HV.out _).mono ?_
      rintro e w2 ⟨rfl, hB⟩
      have H2 := Lib.hid (H1.out.trans (hB.mono H1.out.size))
      clear hB
      go_wp2_with fail
      go_ret2
      exact ⟨⟨_, by rw [HE.out]; rfl, fun h => by rw [HE.out] at h; cases h⟩, H2.out⟩
  · have hm' : mayR x f k = false := by simpa using hm
    rw [hm'] at HM
    have HE := Lib.hid (show spE x f k s = 90 from by unfold spE; rw [if_neg hm])
    clear hm hm' h0 HV
    go_enter Tryd.func14, Tryd.ntmps14
    go_wp2_with fail
    refine (HM.out _).mono ?_
    rintro e w1 ⟨rfl, hB⟩
    have H1 := Lib.hid hB
    clear hB
    go_wp2_with fail
    go_ret2
    exact ⟨⟨_, by rw [HE.out]; rfl, fun h => by rw [HE.out] at h; cases h⟩, H1.out⟩
end Go.Proofs.YtjeopabnddekgaaDoor

namespace Go.Proofs.YtjeopabnddekgaaDoor
open Go Go.RowKit Go.Lib

theorem spT_valid {x s : ByteArray} {f k : Int} (hv : U.valid x = true) (h : spE x f k s = 0) : U.valid (spT x f k s) = true := by
  obtain ⟨hm, hs, _⟩ := sp_ok h
  obtain ⟨u, m, v, hx, e1, e2, v1, v2, v3⟩ := may_split hv hm
  obtain ⟨h1, h2, h3, h4⟩ := ext_mid u m v
  unfold spT
  rw [show f.toNat = u.size by omega, show k.toNat = u.size + m.size by omega, hx, h2, h4, ByteArray.append_assoc, U.valid_app _ _ v1, U.valid_app _ _ hs]
  exact v3
theorem runD_valid {x : ByteArray} (hv : U.valid x = true) (l : List ChE) : ∀ i, i ≤ l.length → (Ed.runD x (l.take i)).E = 0 → U.valid (Ed.runD x (l.take i)).y = true
  | 0, _, _ => hv
  | i + 1, h, h0 => by
    obtain ⟨c, hc⟩ : ∃ c, l[i]? = some c := ⟨_, List.getElem?_eq_getElem (by omega)⟩
    rw [Ed.runD_take hc] at h0 ⊢
    obtain ⟨h1, h2, h3, h4⟩ := Ed.step_ok h0
    rw [h4]
    exact spT_valid (runD_valid hv l i (by omega) h1) h3
theorem step_cases {p : Ed.DoS} {c : ChE} {e : EdE} {E1 : Int} (hp : p.E = 0) (h : Ed.ofX p.y c = (e, E1)) : (¬ E1 = 0 → (Ed.stepD p c).E = E1) ∧ (E1 = 0 → ¬ spE p.y e.f e.k e.s = 0 → (Ed.stepD p c).E = spE p.y e.f e.k e.s) ∧ (E1 = 0 → spE p.y e.f e.k e.s = 0 → Ed.stepD p c = ⟨0, spT p.y e.f e.k e.s, p.es ++ [e]⟩) := by
  unfold Ed.stepD
  rw [if_pos hp, h]
  dsimp only
  refine ⟨fun h1 => ?_, fun h1 h2 => ?_, fun h1 h2 => ?_⟩
  · rw [if_neg h1]
  · rw [if_pos h1, if_neg h2]
  · rw [if_pos h1, if_pos h2]
theorem run_stops {x : ByteArray} {L : List ChE} {k : Nat} {c : ChE} (hj : L[k]? = some c) {E : Int} (h : (Ed.stepD (Ed.runD x (L.take k)) c).E = E) (hE : ¬ E = 0) : (Ed.runD x L).E = E := by
  have h1 : Ed.runD x (L.take (k + 1)) = _ := Ed.runD_take hj
  rw [Ed.runD_stop (i := k + 1) (by rw [h1, h]; exact hE), h1, h]
/-- what the document's Do answers -/
def RDo (x : ByteArray) (l : List ChE) (w : World) (en : Ending) (w' : World) : Prop := Below w.heap.size w w' ∧ ((doE x l = 0 ∧ ∃ u, en = .returned (.tuple #[.string (Ed.runD x l).y, u, .int .i64 0]) ∧ w'.ownsRow w.heap.size 63 3 u l.length (edCells (Ed.runD x l).es)) ∨ (¬ doE x l = 0 ∧ en = .returned (.tuple #[.string ⟨#[]⟩, .slice none 0 0, .int .i64 (doE x l)])))
/-- under way -/
def RDw (x : ByteArray) (l : List ChE) (w : World) (k : Nat) (u : Value) (W : World) : Prop := (Ed.runD x (l.take k)).E = 0 ∧ Below w.heap.size w W ∧ W.ownsRow w.heap.size 63 3 u k (edCells (Ed.runD x (l.take k)).es)
set_option maxHeartbeats 8000000 in
set_option maxRecDepth 100000 in
theorem refDo_any (x : ByteArray) (z : Option Addr) (cap : Nat) (L : List ChE) (w : World) (hv : U.valid x = true) (hs : x.size ≤ 16384) (hln : L.length ≤ 1000000) (hcp : L.length ≤ cap) (hcp2 : cap ≤ 1000000000000000) (hz : ∀ (j : Nat) (c : ChE), L[j]? = some c → ChAt w z j c) (hc : ∀ c ∈ L, Ed.Ch6 c) :
    Calls Tryd.prog 29 #[.string x, .slice z L.length cap] w (RDo x L w) := by
  obtain ⟨i0, hi0, hz0, hz1, hz2⟩ := info_partsE infoEd
  by_cases h64 : 64 < L.length
  · have hE : doE x L = 4 := by unfold doE; rw [if_pos h64]
    have HE := Lib.hid hE
    have j1 : (L.length : Int) > 64 := by omega
    clear hE h64 hz hc hv hs
    go_enter Tryd.func29, Tryd.ntmps29
    go_wp2_with fail
    go_ret3
    exact ⟨Below.refl _ _, .inr ⟨by rw [HE.out]; decide, by rw [HE.out]; rfl⟩⟩
  have hE : doE x L = (Ed.runD x L).E := by unfold doE; rw [if_neg h64]
  have j1 : ¬ (L.length : Int) > 64 := by omega
  have HE := Lib.hid hE
  have HZ := Lib.hid hz
  have HC := Lib.hid hc
  have HX := Lib.hid (And.intro hv hs)
  have HS := Lib.hid (fun c y W (h1 : U.valid y = true) (h2 : y.size ≤ 16384) => refOf_any c y W h1 (by omega))
  have H0 := Lib.hid (show RDw x L w 0 (.slice none 0 0) w from ⟨rfl, Below.refl _ _, World.ownsRow_nil _ _ _ _⟩)
  unfold RDo
  clear hE hz hc hv hs
  go_enter Tryd.func29, Tryd.ntmps29
  go_wp2_with fail
  go_loopw [0, 7, 8] (fun p u q wr => ∃ (k : Nat) (y : ByteArray) (u' : Value), q = .int .i64 (k : Int) ∧ p = .string y ∧ u = u' ∧ k ≤ L.length ∧ Hid (y = (Ed.runD x (L.take k)).y) ∧ Hid (RDw x L w k u' wr)) (fun _ _ q _ => L.length - (RowKit.intOf q).toNat)
  case atStart => exact ⟨0, x, _, rfl, rfl, rfl, Nat.zero_le _, Lib.hid rfl, H0⟩
  case round =>
    obtain ⟨k, y, u, rfl, rfl, hu, hk, HY, HR⟩ := hrel
    obtain rfl := hu.symm
    by_cases hlt : k < L.length
    · obtain ⟨c, hj⟩ : ∃ c, L[k]? = some c := ⟨_, List.getElem?_eq_getElem hlt⟩
      have hcc := HC.out c (List.mem_of_getElem? hj)
      have hyv : U.valid y = true := by rw [HY.out]; exact runD_valid HX.out.1 L k hk HR.out.1
      have hys : y.size ≤ 16384 := by rw [HY.out]; exact (Ed.runD_out HX.out.2 L k hk HR.out.1).2.1
      have HO := Lib.hid (fun W => HS.out c y W hyv hys)
      obtain ⟨b, o, rfl, hb, c0, c1, c2, c3, c4, c5⟩ := (HZ.out k c hj).below HR.out.2.1
      have HJ := Lib.hid hj
      have HQ := Lib.hid (And.intro hyv (And.intro hys hcc))
      obtain ⟨⟨e, E1⟩, hoe⟩ : ∃ r, Ed.ofX y c = r := ⟨_, rfl⟩
      have HOE := Lib.hid hoe
      rw [hoe] at HO
      unfold OfR at HO
      dsimp only at HO
      have HL := Lib.hid hlt
      have i1 : (0 : Int) ≤ (k : Int) := Int.natCast_nonneg k
      have i2 : (k : Int) < (L.length : Int) := by omega
      have i4 : (k : Int) ≤ 1000000 := by omega
      clear hj hcc hyv hys hoe hlt hk
      go_wp2_with fail
      refine (HO.out _).mono ?_
      rintro en w2 ⟨rfl, hB⟩
      have H2 := Lib.hid hB
      clear hB c0 c1 c2 c3 c4 c5
      have r3 : EditRow (w2.alloc (.cells #[.int .i64 0, .int .i64 0, .string ⟨#[]⟩] 63)) w2.heap.size 0 0 ⟨#[]⟩ := heap_alloc_new _ _
      have hb3 : Below w2.heap.size w2 ((w2.alloc (.cells #[.int .i64 0, .int .i64 0, .string ⟨#[]⟩] 63)).setRow w2.heap.size #[.int .i64 e.f, .int .i64 e.k, .string e.s]) := below_setRow ((Below.refl w2.heap.size w2).alloc (Nat.le_refl _) _) (Nat.le_refl _) _
      have r4 := EditRow.set r3 e
      have hw3 := H2.out.trans (hb3.mono H2.out.size)
      have hlt3 : w2.heap.size < ((w2.alloc (.cells #[.int .i64 0, .int .i64 0, .string ⟨#[]⟩] 63)).setRow w2.heap.size #[.int .i64 e.f, .int .i64 e.k, .string e.s]).heap.size := (Array.getElem?_eq_some_iff.1 r4).1
      have H3 := Lib.hid (And.intro hw3 (And.intro r4 hlt3))
      clear hb3 r4 hw3 hlt3
      go_upto_region 8 with (refine wpList_store_row rfl 63 _ _ rfl w2.heap.size #[.int .i64 e.f, .int .i64 e.k, .string e.s] (by rfl) (by rfl) 63 _ r3 info_edit rfl (one_edit _ _ _) ?_)
      clear r3
      generalize (w2.alloc (.cells #[.int .i64 0, .int .i64 0, .string ⟨#[]⟩] 63)).setRow w2.heap.size #[.int .i64 e.f, .int .i64 e.k, .string e.s] = w3 at *
      generalize w2.heap.size = B at *
      by_cases hE1 : E1 = 0
      · subst hE1
        have hes : e.s.size ≤ 70000 := by
          have h := ofX_in (y := y) (c := c) (by rw [HOE.out])
          rw [HOE.out] at h
          have := h.2.2
          dsimp only at this
          rw [this]
          exact HQ.out.2.2.2.2.2.2
        have HSp := Lib.hid (fun W => refSplice_any y e.f e.k e.s W HQ.out.1 HQ.out.2.1 hes)
        obtain ⟨E2, hE2⟩ : ∃ E2, spE y e.f e.k e.s = E2 := ⟨_, rfl⟩
        have HE2 := Lib.hid hE2
        unfold SpR at HSp
        rw [hE2] at HSp
        have x0 : w3.cell? ⟨B, 0, none⟩ = some (.int .i64 e.f) := by rw [Lib.cell_of_heap H3.out.2.1]; rfl
        have x1 : w3.cell? ⟨B, 1, none⟩ = some (.int .i64 e.k) := by rw [Lib.cell_of_heap H3.out.2.1]; rfl
        have x2 : w3.cell? ⟨B, 2, none⟩ = some (.string e.s) := by rw [Lib.cell_of_heap H3.out.2.1]; rfl
        clear hes hE2
        go_wp2_with fail
        refine (HSp.out _).mono ?_
        rintro en w4 ⟨⟨y2, rfl, hy2⟩, hB⟩
        have H4 := Lib.hid (And.intro (H3.out.1.trans (hB.mono H3.out.1.size)) (And.intro (EditRow.below H3.out.2.1 hB) (Nat.lt_of_lt_of_le H3.out.2.2 hB.size)))
        clear hB x0 x1 x2
        by_cases h20 : E2 = 0
        · subst h20
          obtain rfl := hy2 rfl
          have hst := (step_cases (p := Ed.runD x (L.take k)) (c := c) (e := e) (E1 := 0) HR.out.1 (by rw [← HY.out]; exact HOE.out)).2.2 rfl (by rw [← HY.out]; exact HE2.out)
          have hnx : Ed.runD x (L.take (k + 1)) = _ := Ed.runD_take HJ.out
          rw [hst, ← HY.out] at hnx
          have HNX := Lib.hid hnx
          have hown := ownsRow_below HR.out.2.2 H4.out.1
          have hbw := HR.out.2.1.trans (H4.out.1.mono HR.out.2.1.size)
          have HN := Lib.hid (heap_alloc_new w4 (.cells #[.int .i64 e.f, .int .i64 e.k, .string e.s] 63))
          have x0 : w4.cell? ⟨B, 0, none⟩ = some (.int .i64 e.f) := by rw [Lib.cell_of_heap H4.out.2.1]; rfl
          have x1 : w4.cell? ⟨B, 1, none⟩ = some (.int .i64 e.k) := by rw [Lib.cell_of_heap H4.out.2.1]; rfl
          have x2 : w4.cell? ⟨B, 2, none⟩ = some (.string e.s) := by rw [Lib.cell_of_heap H4.out.2.1]; rfl
          have HBW := Lib.hid hbw
          have hsh : ∃ p9 c9, u = .slice p9 k c9 := by
            rcases hown.2 with ⟨e, h0⟩ | ⟨g, cap', cur, e, _⟩
            · exact ⟨none, 0, by rw [e, h0]⟩
            · exact ⟨_, _, e⟩
          obtain ⟨p9, c9, rfl⟩ := hsh
          clear hst hnx hy2 hbw
          go_wp2_with (at_builtin; go_loud (refine wpList_append_own _ rfl _ _ 55 rfl w.heap.size 63 i0 _ 3 32 Tryd.underlying55 hi0 hz0 hz1 hz2 rfl (by decide) _ k (edCells (Ed.runD x (L.take k)).es) rfl (hown.alloc _) ⟨w4.heap.size, 0, none⟩ 1 1 [.int .i64 e.f, .int .i64 e.k, .string e.s] rfl (by rfl) (fun j u hj => World.news_of_block (cs := #[.int .i64 e.f, .int .i64 e.k, .string e.s]) (t := 63) (fr := (0, 0)) HN.out j u hj) (fun u hu => by
            simp only [List.mem_cons, List.not_mem_nil, or_false] at hu
            rcases hu with rfl | rfl | rfl <;> rfl) (by unfold maxLen; omega) (by omega) (by rw [World.size_alloc]; have := HBW.out.size; omega) ?_))
          intro v' w5 hown5 hgrow5 _
          have HF := Lib.hid (show RDw x L w (k + 1) v' w5 from by
            refine ⟨by rw [HNX.out], (HBW.out.alloc HBW.out.size _).grown hgrow5 (by rw [World.size_alloc]; have := HBW.out.size; omega) (fun c hc => ((hown.alloc (.cells #[.int .i64 e.f, .int .i64 e.k, .string e.s] 63)).lt c hc).1), ?_⟩
            rw [HNX.out]
            show w5.ownsRow w.heap.size 63 3 v' (k + 1) (edCells ((Ed.runD x (L.take k)).es ++ [e]))
            rw [show edCells ((Ed.runD x (L.take k)).es ++ [e]) = edCells (Ed.runD x (L.take k)).es ++ [.int .i64 e.f, .int .i64 e.k, .string e.s] by simp [edCells]]
            exact hown5)
          clear hown5 hgrow5 HN hown x0 x1 x2
          go_wp2_with fail
          go_roundw
          case rel => exact ⟨k + 1, _, v', by go_num, rfl, rfl, by have := HL.out; omega, Lib.hid (by rw [HNX.out]), HF⟩
          case measure => have := HL.out; simp [RowKit.intOf]; omega
        · have hst := (step_cases (p := Ed.runD x (L.take k)) (c := c) (e := e) (E1 := 0) HR.out.1 (by rw [← HY.out]; exact HOE.out)).2.1 rfl (by rw [← HY.out, HE2.out]; exact h20)
          rw [← HY.out, HE2.out] at hst
          have HD := Lib.hid (show doE x L = E2 from by rw [HE.out]; exact run_stops HJ.out hst h20)
          have HB4 := Lib.hid (HR.out.2.1.trans (H4.out.1.mono HR.out.2.1.size))
          clear hst hy2
          go_wp2_with fail
          go_ret3
          exact ⟨HB4.out, .inr ⟨by rw [HD.out]; exact h20, by rw [HD.out]; rfl⟩⟩
      · have hst := (step_cases (p := Ed.runD x (L.take k)) (c := c) (e := e) (E1 := E1) HR.out.1 (by rw [← HY.out]; exact HOE.out)).1 hE1
        have HD := Lib.hid (show doE x L = E1 from by rw [HE.out]; exact run_stops HJ.out hst hE1)
        have HB4 := Lib.hid (HR.out.2.1.trans (H3.out.1.mono HR.out.2.1.size))
        clear hst
        go_wp2_with fail
        go_ret3
        exact ⟨HB4.out, .inr ⟨by rw [HD.out]; exact hE1, by rw [HD.out]; rfl⟩⟩
    · have hkl : k = L.length := by omega
      subst hkl
      have ha : ¬ (L.length : Int) < (L.length : Int) := by omega
      have HF := Lib.hid (show Below w.heap.size w wr ∧ y = (Ed.runD x L).y ∧ (Ed.runD x L).E = 0 ∧ wr.ownsRow w.heap.size 63 3 u L.length (edCells (Ed.runD x L).es) from by
        have h := HR.out
        have hy := HY.out
        unfold RDw at h
        rw [List.take_length] at h hy
        exact ⟨h.2.1, hy, h.1, h.2.2⟩)
      clear hk hlt
      go_wp2_with fail
      go_ret3
      exact ⟨HF.out.1, .inl ⟨by rw [HE.out]; exact HF.out.2.2.1, u, by rw [HF.out.2.1]; rfl, HF.out.2.2.2⟩⟩
end Go.Proofs.YtjeopabnddekgaaDoor

namespace Go.Proofs.YtjeopabnddekgaaDoor
open Go Go.RowKit Go.Lib

set_option maxHeartbeats 4000000 in
set_option maxRecDepth 100000 in
theorem refSameE_any (u v : Value) (l : List EdE) (w : World) (hu : RdEd w u l) (hv : RdEd w v l) : Calls Tryd.prog 30 #[u, v] w (EdBool true w) := by
  obtain ⟨z1, k1, rfl, hln, hr1⟩ := hu
  obtain ⟨z2, k2, rfl, _, hr2⟩ := hv
  have HR1 := Lib.hid hr1
  have HR2 := Lib.hid hr2
  clear hr1 hr2
  go_enter Tryd.func30, Tryd.ntmps30
  go_wp2_with fail
  go_loopw [5] (fun p wr => ∃ (i q : Nat), p = .int .i64 (i : Int) ∧ i ≤ l.length ∧ wr = w.drewN q) (fun p _ => l.length - (RowKit.intOf p).toNat)
  case atStart => exact ⟨0, 0, rfl, Nat.zero_le _, rfl⟩
  case round =>
    obtain ⟨i, q, rfl, hi, rfl⟩ := hrel
    by_cases hlt : i < l.length
    · obtain ⟨e, hj⟩ : ∃ e, l[i]? = some e := ⟨_, List.getElem?_eq_getElem hlt⟩
      obtain ⟨b, o, rfl, _, c0, c1, c2⟩ := HR1.out i e hj
      obtain ⟨b2, o2, rfl, _, d0, d1, d2⟩ := HR2.out i e hj
      have c0' : (w.drewN q).cell? ⟨b, o + i * 3, none⟩ = _ := c0
      have c1' : (w.drewN q).cell? ⟨b, o + i * 3 + 1, none⟩ = _ := c1
      have c2' : (w.drewN q).cell? ⟨b, o + i * 3 + 2, none⟩ = _ := c2
      have d0' : (w.drewN q).cell? ⟨b2, o2 + i * 3, none⟩ = _ := d0
      have d1' : (w.drewN q).cell? ⟨b2, o2 + i * 3 + 1, none⟩ = _ := d1
      have d2' : (w.drewN q).cell? ⟨b2, o2 + i * 3 + 2, none⟩ = _ := d2
      have HL := Lib.hid hlt
      have i1 : (0 : Int) ≤ (i : Int) := Int.natCast_nonneg i
      have i2 : (i : Int) < (l.length : Int) := by omega
      have i4 : (i : Int) ≤ 10000000000000 := by omega
      clear hj hi hlt
      go_upto_region 6 with fail
      go_quiet (fail)
      go_wp2_with fail
      go_roundw
      case rel => exact ⟨i + 1, _, by go_num, by have := HL.out; omega, rfl⟩
      case measure => have := HL.out; simp [RowKit.intOf]; omega
    · have ha : ¬ (i : Int) < (l.length : Int) := by omega
      go_wp2_with fail
      go_ret
      exact ⟨rfl, below_drewN (Below.refl _ _) q⟩
end Go.Proofs.YtjeopabnddekgaaDoor

namespace Go.Proofs.YtjeopabnddekgaaDoor
open Go Go.RowKit Go.Lib

/-- changes as cells -/
def chCells (l : List ChE) : List Value := l.flatMap fun e => [.bool e.r, .int .i64 e.a, .int .i64 e.b, .int .i64 e.c, .int .i64 e.d, .string e.s]
theorem chCells_len (l : List ChE) : (chCells l).length = l.length * 6 := by
  induction l with
  | nil => rfl
  | cons e r ih => simp [chCells] at ih ⊢; omega
theorem chCells_at (l : List ChE) (j k : Nat) (e : ChE) (h : l[j]? = some e) (hk : k < 6) : (chCells l)[j * 6 + k]? = ([.bool e.r, .int .i64 e.a, .int .i64 e.b, .int .i64 e.c, .int .i64 e.d, .string e.s] : List Value)[k]? := by
  induction l generalizing j with
  | nil => simp at h
  | cons x r ih =>
    have hc : chCells (x :: r) = [.bool x.r, .int .i64 x.a, .int .i64 x.b, .int .i64 x.c, .int .i64 x.d, .string x.s] ++ chCells r := rfl
    rw [hc]
    cases j with
    | zero =>
      simp at h; subst h
      rw [Nat.zero_mul, Nat.zero_add, List.getElem?_append_left (by simpa using hk)]
    | succ j =>
      rw [List.getElem?_append_right (by simp; omega)]
      simp only [List.length_cons, List.length_nil]
      rw [show (j + 1) * 6 + k - (0 + 1 + 1 + 1 + 1 + 1 + 1) = j * 6 + k by omega]
      exact ih j (by simpa using h)
theorem ch_cells {w : World} {z : Option Addr} {l : List ChE} (hr : ∀ (j : Nat) (c : ChE), l[j]? = some c → ChAt w z j c) : ∀ (j : Nat) (u : Value), (chCells l)[j]? = some u → ∃ ad, z = some ad ∧ w.cell? (ad.add j) = some u := by
  intro j u hu
  have hj := (List.getElem?_eq_some_iff.1 hu).1
  rw [chCells_len] at hj
  obtain ⟨e, hq⟩ : ∃ e, l[j / 6]? = some e := ⟨_, List.getElem?_eq_getElem (by omega)⟩
  obtain ⟨b, o, hz, hb, c0, c1, c2, c3, c4, c5⟩ := hr (j / 6) e hq
  have hm : j = j / 6 * 6 + j % 6 := by omega
  have hc := chCells_at l (j / 6) (j % 6) e hq (by omega)
  rw [← hm, hu] at hc
  refine ⟨_, hz, ?_⟩
  have ea : (⟨b, o, none⟩ : Addr).add j = ⟨b, o + j, none⟩ := by unfold Addr.add; by_cases h0 : j = 0 <;> simp [h0]
  rw [ea]
  have h3 : j % 6 < 6 := Nat.mod_lt _ (by decide)
  generalize j / 6 = q at *
  generalize j % 6 = r at *
  subst hm
  obtain rfl | rfl | rfl | rfl | rfl | rfl : r = 0 ∨ r = 1 ∨ r = 2 ∨ r = 3 ∨ r = 4 ∨ r = 5 := by omega
  · rw [hc]; exact c0
  · rw [hc, ← Nat.add_assoc]; exact c1
  · rw [hc, ← Nat.add_assoc]; exact c2
  · rw [hc, ← Nat.add_assoc]; exact c3
  · rw [hc, ← Nat.add_assoc]; exact c4
  · rw [hc, ← Nat.add_assoc]; exact c5
theorem copy_ch {N : Nat} {w : World} {v : Value} {l : List ChE} (h : CopyOf N w v l.length (chCells l)) : ∃ z c, v = .slice z l.length c ∧ ∀ (j : Nat) (e : ChE), l[j]? = some e → ChAt w z j e := by
  obtain ⟨z, c, rfl, h⟩ := h
  refine ⟨z, c, rfl, fun j e hj => ?_⟩
  have c0 := chCells_at l j 0 e hj (by decide)
  have c1 := chCells_at l j 1 e hj (by decide)
  have c2 := chCells_at l j 2 e hj (by decide)
  have c3 := chCells_at l j 3 e hj (by decide)
  have c4 := chCells_at l j 4 e hj (by decide)
  have c5 := chCells_at l j 5 e hj (by decide)
  obtain ⟨b, hz, _, hb, x0⟩ := h _ _ c0
  obtain ⟨b1, hz1, _, _, x1⟩ := h _ _ c1
  obtain ⟨b2, hz2, _, _, x2⟩ := h _ _ c2
  obtain ⟨b3, hz3, _, _, x3⟩ := h _ _ c3
  obtain ⟨b4, hz4, _, _, x4⟩ := h _ _ c4
  obtain ⟨b5, hz5, _, _, x5⟩ := h _ _ c5
  obtain rfl : b = b1 := by rw [hz] at hz1; cases hz1; rfl
  obtain rfl : b = b2 := by rw [hz] at hz2; cases hz2; rfl
  obtain rfl : b = b3 := by rw [hz] at hz3; cases hz3; rfl
  obtain rfl : b = b4 := by rw [hz] at hz4; cases hz4; rfl
  obtain rfl : b = b5 := by rw [hz] at hz5; cases hz5; rfl
  exact ⟨b, 0, hz, hb, by rw [Nat.zero_add]; exact x0, by rw [Nat.zero_add]; exact x1, by rw [Nat.zero_add]; exact x2, by rw [Nat.zero_add]; exact x3, by rw [Nat.zero_add]; exact x4, by rw [Nat.zero_add]; exact x5⟩
theorem infoCh : (Tryd.prog.info? 69).map (fun i => (i.zero, i.size, i.bytes)) = some (some (.agg #[.bool false, .int .i64 0, .int .i64 0, .int .i64 0, .int .i64 0, .string ⟨#[]⟩]), 6, 56) := by kernel_rfl
end Go.Proofs.YtjeopabnddekgaaDoor

namespace Go.Proofs.YtjeopabnddekgaaDoor
open Go Go.RowKit Go.Lib

/-- what stays, behind Do -/
def DlK (w : World) (l : List ChE) (z z1 : Option Addr) (v : Value) (t : R.T) (W : World) : Prop := Below w.heap.size w W ∧ RopeAt W v t ∧ (∀ (j : Nat) (c : ChE), l[j]? = some c → ChAt W z j c) ∧ ∀ (j : Nat) (c : ChE), l[j]? = some c → ChAt W z1 j c
theorem DlK.below {w : World} {l : List ChE} {z z1 : Option Addr} {v : Value} {t : R.T} {W W' : World} (h : DlK w l z z1 v t W) (hB : Below W.heap.size W W') : DlK w l z z1 v t W' := ⟨h.1.trans (hB.mono h.1.size), h.2.1.below hB, fun j c hj => (h.2.2.1 j c hj).below hB, fun j c hj => (h.2.2.2 j c hj).below hB⟩
set_option maxHeartbeats 8000000 in
set_option maxRecDepth 100000 in
theorem editsDo_any (s : ByteArray) (v : Value) (l : List ChE) (w : World) (hs : s.size ≤ 281474976710656) (hl : ArgCh w v l) (hT : Tabs w) : Calls Tryd.prog 6 #[.string s, v] w (BoolIs true w) := by
  obtain ⟨i0, hi0, hz0, hz1, hz2⟩ := info_partsE infoCh
  obtain ⟨z, cap, rfl, hc1, hc2, hr, hq⟩ := hl
  have HGr := Lib.hid (great10_ch s z cap l w hs (by omega) hr hq)
  have HNw := Lib.hid (fun W (hB : Below w.heap.size w W) (h : s.size ≤ 70000) => new_any s W (by omega) (tabs_below hT hB))
  have HTb := Lib.hid (fun W (hB : Below w.heap.size w W) => tabs_below hT hB)
  have HQ := Lib.hid hq
  have HR := Lib.hid (fun W (hB : Below w.heap.size w W) (j : Nat) (c : ChE) (hj : l[j]? = some c) => (hr j c hj).below hB)
  have HCp := Lib.hid (And.intro hc1 hc2)
  clear hr hq hs hT
  go_enter Tryd.func6, Tryd.ntmps6
  go_wp2_with fail
  refine HGr.out.mono ?_
  rintro en w1 ⟨ok, rfl, rfl, hfew⟩
  cases ok
  rotate_left
  · clear hfew
    go_wp2_with fail
    go_ret
    exact ⟨rfl, Below.refl _ _⟩
  have HC6 := Lib.hid (few_ch6 HQ.out (hfew rfl))
  have HFw := Lib.hid (hfew rfl)
  have HN := Lib.hid (HNw.out w1 (Below.refl _ _) (hfew rfl).1)
  have HE1 := Lib.hid (fun h => newE_ok (s := s) h)
  clear hfew HNw HGr
  go_wp2_with fail
  refine HN.out.mono ?_
  clear HN
  rintro en w2 ⟨v1, rfl, hB, hr⟩
  have H2 := Lib.hid hB
  generalize newE s = E at *
  clear hB
  rcases hr with ⟨hE, t, hR, htx⟩ | ⟨hE, rfl⟩
  rotate_left
  · go_wp2_with fail
    go_ret
    exact ⟨rfl, H2.out⟩
  subst hE
  have hsz : s.size ≤ 16384 := HE1.out rfl
  have hv : U.valid s = true := by obtain ⟨b, rv, rfl, hb, hn, ht⟩ := hR; rw [← htx]; exact R.T.Fit.valid ht
  have HS := Lib.hid (And.intro hsz (And.intro hv htx))
  have hl200 : l.length ≤ 200 := HFw.out.2.1
  have HLn := Lib.hid hl200
  have hb3 := (Below.refl w2.heap.size w2).alloc (Nat.le_refl _) (.cells #[] 69)
  have H0 := Lib.hid hb3
  have HRp := Lib.hid (And.intro hR (HR.out w2 H2.out))
  have j2 : (l.length : Int) ≤ 200 := by omega
  have hsp : ∃ vb, v1 = .pointer (some ⟨vb, 0, none⟩) := by obtain ⟨b, rv, rfl, _⟩ := hR; exact ⟨b, rfl⟩
  obtain ⟨vb, rfl⟩ := hsp
  clear hb3 hR htx hsz hv HE1
  go_wp2_with (refine wpList_append_copy (w := w2.alloc (.cells #[] 69)) rfl _ _ 53 rfl 69 i0 _ 6 56 Tryd.underlying53 hi0 hz0 hz1 hz2 ⟨w2.heap.size, 0, none⟩ (by rfl) z l.length cap (by rfl) (chCells l) (chCells_len l) (by decide) (ch_cells (fun j c hj => (HRp.out.2 j c hj).below H0.out)) (by have := HLn.out; omega) (by have := HLn.out; omega) ?_)
  intro vc w3 hcp hB1
  have hB01 := H0.out.trans (hB1.mono (Nat.le_succ _))
  obtain ⟨z1, c1, rfl, hch⟩ := copy_ch hcp
  have hcl : l.length ≤ l.length := Nat.le_refl _
  have H3 := Lib.hid (show DlK w1 l z z1 (.pointer (some ⟨vb, 0, none⟩)) t w3 from ⟨H2.out.trans (hB01.mono H2.out.size), HRp.out.1.below hB01, fun j c hj => (HRp.out.2 j c hj).below hB01, hch⟩)
  clear hcp hB1 hB01 HRp hch
  have HD := Lib.hid (do_any _ t z1 c1 l w3 H3.out.2.1 (by rw [HS.out.2.2]; exact HS.out.1) H3.out.2.2.2 HC6.out (HTb.out w3 H3.out.1))
  rw [HS.out.2.2] at HD
  go_wp2_with fail
  refine HD.out.mono ?_
  clear HD
  rintro en w4 ⟨hB, hd⟩
  have H4 := Lib.hid (H3.out.below hB)
  have HF := Lib.hid (fun W (hB : Below w4.heap.size w4 W) => refDo_any s z cap l W HS.out.2.1 HS.out.1 (by have := HLn.out; omega) HCp.out.1 (by have := HCp.out.2; omega) (H4.out.below hB).2.2.1 HC6.out)
  rcases hd with ⟨hE, v2, t2, u, rfl, hR2, htx2, hown⟩ | ⟨hE, rfl⟩
  · have hl64 : l.length ≤ 64 := by
      unfold doE at hE
      by_cases h : 64 < l.length
      · rw [if_pos h] at hE; cases hE
      · omega
    have hrE : (Ed.runD s l).E = 0 := by unfold doE at hE; rw [if_neg (by omega)] at hE; exact hE
    have hln : (Ed.runD s l).es.length = l.length := by
      have h := Ed.runD_len s l l.length (Nat.le_refl _)
      rw [List.take_length] at h
      exact h hrE
    have hys : (Ed.runD s l).y.size ≤ 16384 := by
      have h := Ed.runD_out HS.out.1 l l.length (Nat.le_refl _)
      rw [List.take_length] at h
      exact (h hrE).2.1
    have hrd := owned_rd hown hln (by omega)
    obtain ⟨pu, cu, rfl⟩ := owned_slice hown
    have hsp2 : ∃ vb2, v2 = .pointer (some ⟨vb2, 0, none⟩) := by obtain ⟨b, rv, rfl, _⟩ := hR2; exact ⟨b, rfl⟩
    obtain ⟨vb2, rfl⟩ := hsp2
    have HA := Lib.hid (And.intro hR2 (And.intro htx2 (And.intro hrd (And.intro hE (And.intro hln hys)))))
    clear hl64 hrE hrd hown hR2 htx2 hE hB hln hys
    go_wp2_with fail
    refine (HF.out w4 (Below.refl _ _)).mono ?_
    rintro en w5 ⟨hB, hd2⟩
    rcases hd2 with ⟨-, u2, rfl, hown2⟩ | ⟨hE2, -⟩
    rotate_left
    · exact absurd HA.out.2.2.2.1 hE2
    have hrd2 := owned_rd hown2 HA.out.2.2.2.2.1 (by have h1 := HA.out.2.2.2.2.1; have h2 := HLn.out; omega)
    obtain ⟨pu2, cu2, rfl⟩ := owned_slice hown2
    have HSm := Lib.hid (refSameE_any _ _ _ w5 (HA.out.2.2.1.below hB) hrd2)
    have H5 := Lib.hid (H4.out.below hB)
    have HTx := Lib.hid (fun W (hW : Below w5.heap.size w5 W) => (show Calls Tryd.prog 31 #[.pointer (some ⟨vb2, 0, none⟩)] W (StrR (Ed.runD s l).y W) from by
      have h := text_any _ t2 W (HA.out.1.below (hB.trans (hW.mono hB.size))) (by rw [HA.out.2.1]; have := HA.out.2.2.2.2.2; omega)
      rw [HA.out.2.1] at h
      exact h))
    have HTr := Lib.hid (fun W (hW : Below w5.heap.size w5 W) => (show Calls Tryd.prog 31 #[.pointer (some ⟨vb, 0, none⟩)] W (StrR s W) from by
      have h := text_any _ t W (H5.out.below hW).2.1 (by rw [HS.out.2.2]; have := HS.out.1; omega)
      rw [HS.out.2.2] at h
      exact h))
    generalize (Ed.runD s l).y = Y at *
    generalize (Ed.runD s l).es = es at *
    clear hB hrd2 hown2 HF HA
    go_wp2_with fail
    refine HSm.out.mono ?_
    rintro en w6 ⟨rfl, hB⟩
    have HB6 := Lib.hid hB
    clear hB
    go_wp2_with fail
    refine (HTx.out _ HB6.out).mono ?_
    rintro en w7 ⟨rfl, hB⟩
    have HB7 := Lib.hid (HB6.out.trans (hB.mono HB6.out.size))
    clear hB
    go_wp2_with fail
    refine (HTr.out _ HB7.out).mono ?_
    rintro en w8 ⟨rfl, hB⟩
    have HB8 := Lib.hid (HB7.out.trans (hB.mono HB7.out.size))
    have HK := Lib.hid (H5.out.below HB8.out)
    clear hB HB6 HB7 HB8 HSm HTx HTr
    go_wp2_with fail
    go_loopw [14] (fun q wr => ∃ i : Nat, q = .int .i64 (i : Int) ∧ i ≤ l.length ∧ Hid (DlK w1 l z z1 (.pointer (some ⟨vb, 0, none⟩)) t wr)) (fun q _ => l.length - (RowKit.intOf q).toNat)
    case atStart => exact ⟨0, rfl, Nat.zero_le _, HK⟩
    case round =>
      obtain ⟨i, rfl, hi, HR⟩ := hrel
      by_cases hlt : i < l.length
      · obtain ⟨c, hj⟩ : ∃ c, l[i]? = some c := ⟨_, List.getElem?_eq_getElem hlt⟩
        have hcc := HC6.out c (List.mem_of_getElem? hj)
        have HO := Lib.hid (of_any c _ t wr HR.out.2.1 (by rw [HS.out.2.2]; have := HS.out.1; omega) hcc)
        have HO2 := Lib.hid (fun W => refOf_any c s W HS.out.2.1 (by have := HS.out.1; omega))
        rw [HS.out.2.2] at HO
        obtain ⟨⟨e, E1⟩, hoe⟩ : ∃ r, Ed.ofX s c = r := ⟨_, rfl⟩
        rw [hoe] at HO HO2
        unfold OfR at HO HO2
        dsimp only at HO HO2
        obtain ⟨b, o, rfl, hb, c0, c1, c2, c3, c4, c5⟩ := HR.out.2.2.1 i c hj
        obtain ⟨b1, o1, rfl, -⟩ := HR.out.2.2.2 i c hj
        have HJ := Lib.hid hj
        have HL := Lib.hid hlt
        have i1 : (0 : Int) ≤ (i : Int) := Int.natCast_nonneg i
        have i2 : (i : Int) < (l.length : Int) := by omega
        have i4 : (i : Int) ≤ 1000000 := by omega
        clear hj hcc hoe hlt hi hb
        go_wp2_with fail
        refine HO.out.mono ?_
        rintro en x2 ⟨rfl, hB⟩
        have r3 : EditRow (x2.alloc (.cells #[.int .i64 0, .int .i64 0, .string ⟨#[]⟩] 63)) x2.heap.size 0 0 ⟨#[]⟩ := heap_alloc_new _ _
        have hb3 : Below x2.heap.size x2 ((x2.alloc (.cells #[.int .i64 0, .int .i64 0, .string ⟨#[]⟩] 63)).setRow x2.heap.size #[.int .i64 e.f, .int .i64 e.k, .string e.s]) := below_setRow ((Below.refl x2.heap.size x2).alloc (Nat.le_refl _) _) (Nat.le_refl _) _
        have r4 := EditRow.set r3 e
        have H6 := Lib.hid (And.intro ((HR.out.below hB).below hb3) r4)
        clear hb3 r4 hB c0 c1 c2 c3 c4 c5 HO
        go_upto_region 15 with (refine wpList_store_row rfl 63 _ _ rfl x2.heap.size #[.int .i64 e.f, .int .i64 e.k, .string e.s] (by rfl) (by rfl) 63 _ r3 info_edit rfl (one_edit _ _ _) ?_)
        clear r3
        generalize (x2.alloc (.cells #[.int .i64 0, .int .i64 0, .string ⟨#[]⟩] 63)).setRow x2.heap.size #[.int .i64 e.f, .int .i64 e.k, .string e.s] = x3 at *
        generalize x2.heap.size = B at *
        have hh : ∃ b' o', some (⟨b, o, none⟩ : Addr) = some ⟨b', o', none⟩ ∧ (x3.cell? ⟨b', o' + i * 6, none⟩ = some (.bool c.r) ∧ x3.cell? ⟨b', o' + i * 6 + 1, none⟩ = some (.int .i64 c.a) ∧ x3.cell? ⟨b', o' + i * 6 + 2, none⟩ = some (.int .i64 c.b) ∧ x3.cell? ⟨b', o' + i * 6 + 3, none⟩ = some (.int .i64 c.c) ∧ x3.cell? ⟨b', o' + i * 6 + 4, none⟩ = some (.int .i64 c.d) ∧ x3.cell? ⟨b', o' + i * 6 + 5, none⟩ = some (.string c.s)) := by
          obtain ⟨b', o', hz', _, h⟩ := H6.out.1.2.2.1 i c HJ.out
          exact ⟨b', o', hz', h⟩
        obtain ⟨b', o', hz', c0, c1, c2, c3, c4, c5⟩ := hh
        cases hz'
        go_wp2_with fail
        refine (HO2.out _).mono ?_
        rintro en x4 ⟨rfl, hB⟩
        have r3 : EditRow (x4.alloc (.cells #[.int .i64 0, .int .i64 0, .string ⟨#[]⟩] 63)) x4.heap.size 0 0 ⟨#[]⟩ := heap_alloc_new _ _
        have hb3 : Below x4.heap.size x4 ((x4.alloc (.cells #[.int .i64 0, .int .i64 0, .string ⟨#[]⟩] 63)).setRow x4.heap.size #[.int .i64 e.f, .int .i64 e.k, .string e.s]) := below_setRow ((Below.refl x4.heap.size x4).alloc (Nat.le_refl _) _) (Nat.le_refl _) _
        have r4 := EditRow.set r3 e
        have r5 := EditRow.below (EditRow.below H6.out.2 hB) hb3
        have H7 := Lib.hid (And.intro ((H6.out.1.below hB).below hb3) (And.intro r5 r4))
        clear hb3 r4 r5 hB c0 c1 c2 c3 c4 c5 HO2
        go_upto_region 16 with (refine wpList_store_row rfl 63 _ _ rfl x4.heap.size #[.int .i64 e.f, .int .i64 e.k, .string e.s] (by rfl) (by rfl) 63 _ r3 info_edit rfl (one_edit _ _ _) ?_)
        clear r3
        generalize (x4.alloc (.cells #[.int .i64 0, .int .i64 0, .string ⟨#[]⟩] 63)).setRow x4.heap.size #[.int .i64 e.f, .int .i64 e.k, .string e.s] = x5 at *
        generalize x4.heap.size = B2 at *
        have hh : ∃ b' o', some (⟨b, o, none⟩ : Addr) = some ⟨b', o', none⟩ ∧ (x5.cell? ⟨b', o' + i * 6, none⟩ = some (.bool c.r) ∧ x5.cell? ⟨b', o' + i * 6 + 1, none⟩ = some (.int .i64 c.a) ∧ x5.cell? ⟨b', o' + i * 6 + 2, none⟩ = some (.int .i64 c.b) ∧ x5.cell? ⟨b', o' + i * 6 + 3, none⟩ = some (.int .i64 c.c) ∧ x5.cell? ⟨b', o' + i * 6 + 4, none⟩ = some (.int .i64 c.d) ∧ x5.cell? ⟨b', o' + i * 6 + 5, none⟩ = some (.string c.s)) := by
          obtain ⟨b', o', hz', _, h⟩ := H7.out.1.2.2.1 i c HJ.out
          exact ⟨b', o', hz', h⟩
        obtain ⟨b', o', hz', c0, c1, c2, c3, c4, c5⟩ := hh
        cases hz'
        have hh : ∃ b' o', some (⟨b1, o1, none⟩ : Addr) = some ⟨b', o', none⟩ ∧ (x5.cell? ⟨b', o' + i * 6, none⟩ = some (.bool c.r) ∧ x5.cell? ⟨b', o' + i * 6 + 1, none⟩ = some (.int .i64 c.a) ∧ x5.cell? ⟨b', o' + i * 6 + 2, none⟩ = some (.int .i64 c.b) ∧ x5.cell? ⟨b', o' + i * 6 + 3, none⟩ = some (.int .i64 c.c) ∧ x5.cell? ⟨b', o' + i * 6 + 4, none⟩ = some (.int .i64 c.d) ∧ x5.cell? ⟨b', o' + i * 6 + 5, none⟩ = some (.string c.s)) := by
          obtain ⟨b', o', hz', _, h⟩ := H7.out.1.2.2.2 i c HJ.out
          exact ⟨b', o', hz', h⟩
        obtain ⟨b', o', hz', d0, d1, d2, d3, d4, d5⟩ := hh
        cases hz'
        have y0 : x5.cell? ⟨B, 0, none⟩ = some (.int .i64 e.f) := by rw [Lib.cell_of_heap H7.out.2.1]; rfl
        have y1 : x5.cell? ⟨B, 1, none⟩ = some (.int .i64 e.k) := by rw [Lib.cell_of_heap H7.out.2.1]; rfl
        have y2 : x5.cell? ⟨B, 2, none⟩ = some (.string e.s) := by rw [Lib.cell_of_heap H7.out.2.1]; rfl
        have g0 : x5.cell? ⟨B2, 0, none⟩ = some (.int .i64 e.f) := by rw [Lib.cell_of_heap H7.out.2.2]; rfl
        have g1 : x5.cell? ⟨B2, 1, none⟩ = some (.int .i64 e.k) := by rw [Lib.cell_of_heap H7.out.2.2]; rfl
        have g2 : x5.cell? ⟨B2, 2, none⟩ = some (.string e.s) := by rw [Lib.cell_of_heap H7.out.2.2]; rfl
        go_quiet (fail)
        have HN := Lib.hid (fun q => (show DlK w1 l _ _ (.pointer (some ⟨vb, 0, none⟩)) t (x5.drewN q) from H7.out.1.below (below_drewN9 (Below.refl _ _) q)))
        clear c0 c1 c2 c3 c4 c5 d0 d1 d2 d3 d4 d5 y0 y1 y2 g0 g1 g2
        go_wp2_with fail
        go_roundw
        case rel => exact ⟨i + 1, by go_num, by have := HL.out; omega, Lib.hid (HN.out _)⟩
        case measure => have := HL.out; simp [RowKit.intOf]; omega
      · have ha : ¬ (i : Int) < (l.length : Int) := by omega
        have HF2 := Lib.hid HR.out.1
        clear hi hlt
        go_wp2_with fail
        go_ret
        exact ⟨rfl, HF2.out⟩
  · have H2E := Lib.hid hE
    clear hB
    go_wp2_with fail
    refine (HF.out w4 (Below.refl _ _)).mono ?_
    rintro en w5 ⟨hB, hd2⟩
    rcases hd2 with ⟨hE2, -⟩ | ⟨-, rfl⟩
    · exact absurd hE2 H2E.out
    have HSm := Lib.hid (refSameE_any (.slice none 0 0) (.slice none 0 0) [] w5 ⟨none, 0, rfl, by simp, fun j e hj => by simp at hj⟩ ⟨none, 0, rfl, by simp, fun j e hj => by simp at hj⟩)
    have H5 := Lib.hid (H4.out.below hB)
    have HTr := Lib.hid (fun W (hW : Below w5.heap.size w5 W) => (show Calls Tryd.prog 31 #[.pointer (some ⟨vb, 0, none⟩)] W (StrR s W) from by
      have h := text_any _ t W (H5.out.below hW).2.1 (by rw [HS.out.2.2]; have := HS.out.1; omega)
      rw [HS.out.2.2] at h
      exact h))
    generalize doE s l = E2 at *
    clear hB HF
    go_wp2_with fail
    refine HSm.out.mono ?_
    rintro en w6 ⟨rfl, hB⟩
    have HB6 := Lib.hid hB
    have hnE := H2E.out
    clear hB
    go_wp2_with fail
    refine (HTr.out _ HB6.out).mono ?_
    rintro en w8 ⟨rfl, hB⟩
    have HB8 := Lib.hid (HB6.out.trans (hB.mono HB6.out.size))
    have HK := Lib.hid (H5.out.below HB8.out)
    clear hB HB6 HB8 HSm HTr
    have hne : (E2 == 0) = false := by rw [beq_eq_false_iff_ne]; exact hnE
    go_wp2_with fail
    go_loopw [14] (fun q wr => ∃ i : Nat, q = .int .i64 (i : Int) ∧ i ≤ l.length ∧ Hid (DlK w1 l z z1 (.pointer (some ⟨vb, 0, none⟩)) t wr)) (fun q _ => l.length - (RowKit.intOf q).toNat)
    case atStart => exact ⟨0, rfl, Nat.zero_le _, HK⟩
    case round =>
      obtain ⟨i, rfl, hi, HR⟩ := hrel
      by_cases hlt : i < l.length
      · obtain ⟨c, hj⟩ : ∃ c, l[i]? = some c := ⟨_, List.getElem?_eq_getElem hlt⟩
        have hcc := HC6.out c (List.mem_of_getElem? hj)
        have HO := Lib.hid (of_any c _ t wr HR.out.2.1 (by rw [HS.out.2.2]; have := HS.out.1; omega) hcc)
        have HO2 := Lib.hid (fun W => refOf_any c s W HS.out.2.1 (by have := HS.out.1; omega))
        rw [HS.out.2.2] at HO
        obtain ⟨⟨e, E1⟩, hoe⟩ : ∃ r, Ed.ofX s c = r := ⟨_, rfl⟩
        rw [hoe] at HO HO2
        unfold OfR at HO HO2
        dsimp only at HO HO2
        obtain ⟨b, o, rfl, hb, c0, c1, c2, c3, c4, c5⟩ := HR.out.2.2.1 i c hj
        obtain ⟨b1, o1, rfl, -⟩ := HR.out.2.2.2 i c hj
        have HJ := Lib.hid hj
        have HL := Lib.hid hlt
        have i1 : (0 : Int) ≤ (i : Int) := Int.natCast_nonneg i
        have i2 : (i : Int) < (l.length : Int) := by omega
        have i4 : (i : Int) ≤ 1000000 := by omega
        clear hj hcc hoe hlt hi hb
        go_wp2_with fail
        refine HO.out.mono ?_
        rintro en x2 ⟨rfl, hB⟩
        have r3 : EditRow (x2.alloc (.cells #[.int .i64 0, .int .i64 0, .string ⟨#[]⟩] 63)) x2.heap.size 0 0 ⟨#[]⟩ := heap_alloc_new _ _
        have hb3 : Below x2.heap.size x2 ((x2.alloc (.cells #[.int .i64 0, .int .i64 0, .string ⟨#[]⟩] 63)).setRow x2.heap.size #[.int .i64 e.f, .int .i64 e.k, .string e.s]) := below_setRow ((Below.refl x2.heap.size x2).alloc (Nat.le_refl _) _) (Nat.le_refl _) _
        have r4 := EditRow.set r3 e
        have H6 := Lib.hid (And.intro ((HR.out.below hB).below hb3) r4)
        clear hb3 r4 hB c0 c1 c2 c3 c4 c5 HO
        go_upto_region 15 with (refine wpList_store_row rfl 63 _ _ rfl x2.heap.size #[.int .i64 e.f, .int .i64 e.k, .string e.s] (by rfl) (by rfl) 63 _ r3 info_edit rfl (one_edit _ _ _) ?_)
        clear r3
        generalize (x2.alloc (.cells #[.int .i64 0, .int .i64 0, .string ⟨#[]⟩] 63)).setRow x2.heap.size #[.int .i64 e.f, .int .i64 e.k, .string e.s] = x3 at *
        generalize x2.heap.size = B at *
        have hh : ∃ b' o', some (⟨b, o, none⟩ : Addr) = some ⟨b', o', none⟩ ∧ (x3.cell? ⟨b', o' + i * 6, none⟩ = some (.bool c.r) ∧ x3.cell? ⟨b', o' + i * 6 + 1, none⟩ = some (.int .i64 c.a) ∧ x3.cell? ⟨b', o' + i * 6 + 2, none⟩ = some (.int .i64 c.b) ∧ x3.cell? ⟨b', o' + i * 6 + 3, none⟩ = some (.int .i64 c.c) ∧ x3.cell? ⟨b', o' + i * 6 + 4, none⟩ = some (.int .i64 c.d) ∧ x3.cell? ⟨b', o' + i * 6 + 5, none⟩ = some (.string c.s)) := by
          obtain ⟨b', o', hz', _, h⟩ := H6.out.1.2.2.1 i c HJ.out
          exact ⟨b', o', hz', h⟩
        obtain ⟨b', o', hz', c0, c1, c2, c3, c4, c5⟩ := hh
        cases hz'
        go_wp2_with fail
        refine (HO2.out _).mono ?_
        rintro en x4 ⟨rfl, hB⟩
        have r3 : EditRow (x4.alloc (.cells #[.int .i64 0, .int .i64 0, .string ⟨#[]⟩] 63)) x4.heap.size 0 0 ⟨#[]⟩ := heap_alloc_new _ _
        have hb3 : Below x4.heap.size x4 ((x4.alloc (.cells #[.int .i64 0, .int .i64 0, .string ⟨#[]⟩] 63)).setRow x4.heap.size #[.int .i64 e.f, .int .i64 e.k, .string e.s]) := below_setRow ((Below.refl x4.heap.size x4).alloc (Nat.le_refl _) _) (Nat.le_refl _) _
        have r4 := EditRow.set r3 e
        have r5 := EditRow.below (EditRow.below H6.out.2 hB) hb3
        have H7 := Lib.hid (And.intro ((H6.out.1.below hB).below hb3) (And.intro r5 r4))
        clear hb3 r4 r5 hB c0 c1 c2 c3 c4 c5 HO2
        go_upto_region 16 with (refine wpList_store_row rfl 63 _ _ rfl x4.heap.size #[.int .i64 e.f, .int .i64 e.k, .string e.s] (by rfl) (by rfl) 63 _ r3 info_edit rfl (one_edit _ _ _) ?_)
        clear r3
        generalize (x4.alloc (.cells #[.int .i64 0, .int .i64 0, .string ⟨#[]⟩] 63)).setRow x4.heap.size #[.int .i64 e.f, .int .i64 e.k, .string e.s] = x5 at *
        generalize x4.heap.size = B2 at *
        have hh : ∃ b' o', some (⟨b, o, none⟩ : Addr) = some ⟨b', o', none⟩ ∧ (x5.cell? ⟨b', o' + i * 6, none⟩ = some (.bool c.r) ∧ x5.cell? ⟨b', o' + i * 6 + 1, none⟩ = some (.int .i64 c.a) ∧ x5.cell? ⟨b', o' + i * 6 + 2, none⟩ = some (.int .i64 c.b) ∧ x5.cell? ⟨b', o' + i * 6 + 3, none⟩ = some (.int .i64 c.c) ∧ x5.cell? ⟨b', o' + i * 6 + 4, none⟩ = some (.int .i64 c.d) ∧ x5.cell? ⟨b', o' + i * 6 + 5, none⟩ = some (.string c.s)) := by
          obtain ⟨b', o', hz', _, h⟩ := H7.out.1.2.2.1 i c HJ.out
          exact ⟨b', o', hz', h⟩
        obtain ⟨b', o', hz', c0, c1, c2, c3, c4, c5⟩ := hh
        cases hz'
        have hh : ∃ b' o', some (⟨b1, o1, none⟩ : Addr) = some ⟨b', o', none⟩ ∧ (x5.cell? ⟨b', o' + i * 6, none⟩ = some (.bool c.r) ∧ x5.cell? ⟨b', o' + i * 6 + 1, none⟩ = some (.int .i64 c.a) ∧ x5.cell? ⟨b', o' + i * 6 + 2, none⟩ = some (.int .i64 c.b) ∧ x5.cell? ⟨b', o' + i * 6 + 3, none⟩ = some (.int .i64 c.c) ∧ x5.cell? ⟨b', o' + i * 6 + 4, none⟩ = some (.int .i64 c.d) ∧ x5.cell? ⟨b', o' + i * 6 + 5, none⟩ = some (.string c.s)) := by
          obtain ⟨b', o', hz', _, h⟩ := H7.out.1.2.2.2 i c HJ.out
          exact ⟨b', o', hz', h⟩
        obtain ⟨b', o', hz', d0, d1, d2, d3, d4, d5⟩ := hh
        cases hz'
        have y0 : x5.cell? ⟨B, 0, none⟩ = some (.int .i64 e.f) := by rw [Lib.cell_of_heap H7.out.2.1]; rfl
        have y1 : x5.cell? ⟨B, 1, none⟩ = some (.int .i64 e.k) := by rw [Lib.cell_of_heap H7.out.2.1]; rfl
        have y2 : x5.cell? ⟨B, 2, none⟩ = some (.string e.s) := by rw [Lib.cell_of_heap H7.out.2.1]; rfl
        have g0 : x5.cell? ⟨B2, 0, none⟩ = some (.int .i64 e.f) := by rw [Lib.cell_of_heap H7.out.2.2]; rfl
        have g1 : x5.cell? ⟨B2, 1, none⟩ = some (.int .i64 e.k) := by rw [Lib.cell_of_heap H7.out.2.2]; rfl
        have g2 : x5.cell? ⟨B2, 2, none⟩ = some (.string e.s) := by rw [Lib.cell_of_heap H7.out.2.2]; rfl
        go_quiet (fail)
        have HN := Lib.hid (fun q => (show DlK w1 l _ _ (.pointer (some ⟨vb, 0, none⟩)) t (x5.drewN q) from H7.out.1.below (below_drewN9 (Below.refl _ _) q)))
        clear c0 c1 c2 c3 c4 c5 d0 d1 d2 d3 d4 d5 y0 y1 y2 g0 g1 g2
        go_wp2_with fail
        go_roundw
        case rel => exact ⟨i + 1, by go_num, by have := HL.out; omega, Lib.hid (HN.out _)⟩
        case measure => have := HL.out; simp [RowKit.intOf]; omega
      · have ha : ¬ (i : Int) < (l.length : Int) := by omega
        have HF2 := Lib.hid HR.out.1
        clear hi hlt
        go_wp2_with fail
        go_ret
        exact ⟨rfl, HF2.out⟩
end Go.Proofs.YtjeopabnddekgaaDoor

namespace Go.Proofs.YtjeopabnddekgaaDoor
open Go Go.ChangeShapes Go.WideShapes Go.ChangeAt Go.RowKit Go.Joins

/-- no longer than memory bears -/
theorem str9_le {H : Type} {x : ByteArray} (h : OReach ((DataW.lit (H := H) (.string x.data.toList)).weights Tryd.prog 9)) : x.size ≤ 281474976710656 := by
  have := h x.data.toList.length (by unfold DataW.weights; exact List.mem_singleton_self _)
  rw [Array.length_toList] at this
  exact Nat.le_trans this (by decide)
end Go.Proofs.YtjeopabnddekgaaDoor
