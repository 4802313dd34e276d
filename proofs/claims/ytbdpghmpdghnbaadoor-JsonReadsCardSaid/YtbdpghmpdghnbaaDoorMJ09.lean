/- Four hexadecimal digits, read by the library. Conditions: that they are such. -/
import Derived.Test.YtbdpghmpdghnbaaDoorMJ08
import Derived.Lib.ConvBytes
import Derived.Laws.Strings3
import Derived.BigCall
import Derived.BigGuard
namespace Go.Proofs.YtbdpghmpdghnbaaDoor
open Go Go.RowKit Go.Lib

/-- the number of the first k digits -/
def hn (t : ByteArray) : Nat → Nat
  | 0 => 0
  | k + 1 => hn t k * 16 + (J.hv (t.get! k).toNat).toNat
theorem hn_lt (t : ByteArray) : ∀ k, hn t k < 16 ^ k
  | 0 => Nat.lt_succ_self 0
  | k + 1 => by
    have h1 := hn_lt t k
    have h2 := J.hv_lt (t.get! k).toNat
    show hn t k * 16 + _ < 16 ^ k * 16
    omega
theorem lower_lo (c : Nat) (h1 : 97 ≤ c) (h2 : c ≤ 102) (w : World) : Calls Tryd.prog 56 #[.int .u8 c] w fun e w' => e = .returned (.int .u8 c) ∧ w' = w := by
  have : c = 97 ∨ c = 98 ∨ c = 99 ∨ c = 100 ∨ c = 101 ∨ c = 102 := by omega
  rcases this with rfl | rfl | rfl | rfl | rfl | rfl
  all_goals
    go_enter Tryd.func56, Tryd.ntmps56
    go_wp2
    go_ret
    exact ⟨rfl, rfl⟩
theorem lower_up (c : Nat) (h1 : 65 ≤ c) (h2 : c ≤ 70) (w : World) : Calls Tryd.prog 56 #[.int .u8 c] w fun e w' => e = .returned (.int .u8 ((c + 32 : Nat) : Int)) ∧ w' = w := by
  have : c = 65 ∨ c = 66 ∨ c = 67 ∨ c = 68 ∨ c = 69 ∨ c = 70 := by omega
  rcases this with rfl | rfl | rfl | rfl | rfl | rfl
  all_goals
    go_enter Tryd.func56, Tryd.ntmps56
    go_wp2
    go_ret
    exact ⟨rfl, rfl⟩

/-- a hexadecimal digit's three kinds -/
theorem hv_kinds {c : Nat} (h : 0 ≤ J.hv c) : (48 ≤ c ∧ c ≤ 57 ∧ J.hv c = (c : Int) - 48) ∨ (97 ≤ c ∧ c ≤ 102 ∧ J.hv c = (c : Int) - 87) ∨ (65 ≤ c ∧ c ≤ 70 ∧ J.hv c = (c : Int) - 55) := by
  unfold J.hv at *
  split at h <;> (try split at h) <;> (try split at h) <;> (try omega) <;> simp_all

set_option maxHeartbeats 4000000 in
set_option maxRecDepth 100000 in
/-- internal/strconv.ParseUint of four hexadecimal digits -/
theorem parse16_any (t : ByteArray) (h4 : t.size = 4) (hd : ∀ i, i < 4 → 0 ≤ J.hv (t.get! i).toNat) (w : World) :
    Calls Tryd.prog 54 #[.string t, .int .i64 16, .int .i64 16] w fun e w' => e = .returned (.tuple #[.int .u64 ((hn t 4 : Nat) : Int), .nilIface]) ∧ w' = Lib.bytesWorld w 5 t := by
  have hemp : t.toList.isEmpty = false := by
    rw [← decide_eq_emptyBytes]
    exact decide_eq_false (fun h => by rw [h] at h4; exact absurd h4 (by decide))
  have hcv := Lib.run_convert_string_bytes (P := Tryd.prog) w 9 55 5 t (u := .string) (by kernel_rfl) (by kernel_rfl) (by kernel_rfl)
  have hB : ∀ j, j < t.size → (Lib.bytesWorld w 5 t).cell? ⟨w.heap.size, j, none⟩ = some (.int .u8 (t.data.toList.getD j 0).toNat) := fun j hj => Lib.bytesWorld_cell w 5 t j hj
  have hG : ∀ j, j < t.size → t.data.toList.getD j 0 = t.get! j := by
    intro j hj
    rw [J.at_get hj]
    simp [List.getD, hj]
    rfl
  obtain ⟨W1, hW1⟩ : ∃ W1, W1 = Lib.bytesWorld w 5 t := ⟨_, rfl⟩
  rw [← hW1] at hcv hB ⊢
  clear hW1
  have hmv : IntKind.u64.wrap (IntKind.u64.wrap 65536 - 1) = 65535 := by
    rw [IntKind.wrap_u64, IntKind.wrap_u64]
    decide
  go_enter Tryd.func54, Tryd.ntmps54
  go_wp2
  go_loop [12, 13, 101] (fun vu vn vi => ∃ (k : Nat) (a : Int), vu = .bool false ∧ vn = .int .u64 a ∧ vi = .int .i64 k ∧ k ≤ t.size ∧ Hid (a = ((hn t k : Nat) : Int)))
    (fun _ _ vi => t.size - (RowKit.intOf vi).toNat)
  case atStart => exact ⟨0, 0, rfl, rfl, rfl, by omega, Lib.hid rfl⟩
  case round =>
    obtain ⟨k, a, rfl, rfl, rfl, hk, hh⟩ := hrel
    by_cases hkn : k < t.size
    · have hc := hB k hkn
      rw [hG k hkn] at hc
      have hv := hd k (by omega)
      have hlt := hn_lt t k
      have hlt2 : hn t k < 4096 := by
        have : k = 0 ∨ k = 1 ∨ k = 2 ∨ k = 3 := by omega
        rcases this with rfl | rfl | rfl | rfl <;> exact Nat.lt_of_lt_of_le hlt (by decide)
      have hstep : hn t (k + 1) = hn t k * 16 + (J.hv (t.get! k).toNat).toNat := rfl
      have ha := hh.out
      have a0 : 0 ≤ a := by omega
      have a1 : a < 4096 := by omega
      generalize (t.get! k).toNat = c at *
      clear hB hG hlt
      rcases hv_kinds hv with ⟨c0, c1, c2⟩ | ⟨c0, c1, c2⟩ | ⟨c0, c1, c2⟩
      · have HN : Hid (a * 16 + ((c : Int) - 48) = ((hn t (k + 1) : Nat) : Int)) := Lib.hid (by omega)
        clear hstep hlt2 c2 ha
        go_wp2
        refine ⟨⟨k + 1, a * 16 + ((c : Int) - 48), rfl, (by first | rfl | (congr 1; omega)), (by first | rfl | (congr 1; omega)), by omega, HN⟩, by simp [RowKit.intOf]; omega⟩
      · have HN : Hid (a * 16 + ((c : Int) - 87) = ((hn t (k + 1) : Nat) : Int)) := Lib.hid (by omega)
        clear hstep hlt2 c2 ha
        go_wp2_with fail
        refine (lower_lo c c0 c1 _).mono ?_
        rintro en w2 ⟨rfl, rfl⟩
        go_wp2_with fail
        refine (lower_lo c c0 c1 _).mono ?_
        rintro en w2 ⟨rfl, rfl⟩
        go_wp2_with fail
        refine (lower_lo c c0 c1 _).mono ?_
        rintro en w2 ⟨rfl, rfl⟩
        go_wp2_with fail
        refine ⟨⟨k + 1, a * 16 + ((c : Int) - 87), rfl, (by first | rfl | (congr 1; omega)), (by first | rfl | (congr 1; omega)), by omega, HN⟩, by simp [RowKit.intOf]; omega⟩
      · have HN : Hid (a * 16 + ((c : Int) - 55) = ((hn t (k + 1) : Nat) : Int)) := Lib.hid (by omega)
        clear hstep hlt2 c2 ha
        go_wp2_with fail
        refine (lower_up c c0 c1 _).mono ?_
        rintro en w2 ⟨rfl, rfl⟩
        go_wp2_with fail
        refine (lower_up c c0 c1 _).mono ?_
        rintro en w2 ⟨rfl, rfl⟩
        go_wp2_with fail
        refine (lower_up c c0 c1 _).mono ?_
        rintro en w2 ⟨rfl, rfl⟩
        go_wp2_with fail
        refine ⟨⟨k + 1, a * 16 + ((c : Int) - 55), rfl, (by first | rfl | (congr 1; omega)), (by first | rfl | (congr 1; omega)), by omega, HN⟩, by simp [RowKit.intOf]; omega⟩
    · have hkk : k = 4 := by omega
      subst hkk
      have ha := hh.out
      subst ha
      go_wp2
      go_ret2
      exact ⟨rfl, rfl⟩
end Go.Proofs.YtbdpghmpdghnbaaDoor

namespace Go.Proofs.YtbdpghmpdghnbaaDoor
open Go Go.RowKit Go.Lib

theorem one_byte (x : ByteArray) (i : Nat) (hi : i < x.size) (c : Nat) : J.am (x.extract i (i + 1)) c = decide (c = (x.get! i).toNat) := by
  have e : (x.extract i (i + 1)).data.toList = [x.get! i] := by
    rw [J.at_get hi]
    apply List.ext_getElem?
    intro j
    have h : (x.extract i (i + 1)).data.toList = (x.data.toList.take (i + 1)).drop i := by
      rw [ByteArray.data_extract, Array.toList_extract, List.extract_eq_take_drop, List.drop_take]
    rw [h, List.getElem?_drop]
    have hl : x.data.toList.length = x.size := by simp
    cases j with
    | zero =>
      show (List.take (i + 1) x.data.toList)[i]? = some x[i]
      rw [List.getElem?_take_of_lt (show i < i + 1 by omega), List.getElem?_eq_getElem (by omega)]; rfl
    | succ j => rw [List.getElem?_take_eq_none (by omega)]; rfl
  unfold J.am
  rw [e]
  simp only [List.any_cons, List.any_nil, Bool.or_false]
  exact decide_eq_decide.2 eq_comm
theorem al_stay (s x : ByteArray) (p k j : Nat) (h : ¬ (J.al s x k (p, 0)).2 = 0) : J.al s x (k + j) (p, 0) = J.al s x k (p, 0) := by
  induction j with
  | zero => rfl
  | succ j ih =>
    show J.tk s (J.al s x (k + j) (p, 0)).1 (J.al s x (k + j) (p, 0)).2 _ = _
    rw [ih, J.tk_wrong _ h]

/-- what was not there at first may be written -/
theorem grow_new {w wr W : World} {B N : Nat} (g : w.grownBy wr (some B)) (hb : Below N wr W) (hN : w.heap.size ≤ N) : w.grownBy W (some B) :=
  ⟨hb.os.trans g.os, hb.tape.trans g.tape, hb.output.trans g.output, Nat.le_trans g.size hb.size, fun k hk hne => (hb.block k (by omega)).trans (g.block k hk hne)⟩
def valW (k : Nat) : Value := .agg #[.int .u8 k, .string ⟨#[]⟩, .slice none 0 0, .slice none 0 0]

set_option maxRecDepth 100000 in
set_option maxHeartbeats 1000000 in
theorem word_any (s x : ByteArray) (p d k B : Nat) (w : World) (hs : s.size ≤ 1000000000000) (hx : x.size ≤ 1000) (hx0 : ∀ i, i < x.size → 0 < (x.get! i).toNat) (hp : p ≤ s.size) (h : Rd s p d B w) :
    Calls Tryd.prog 28 #[.pointer (some ⟨B, 0, none⟩), .string x, .int .u8 k] w (Out (valW k) s (J.al s x x.size (p, 0)) d B w) := by
  have hal := (Below.refl w.heap.size w).alloc (Nat.le_refl _) (.cells #[.int .u8 0, .string ⟨#[]⟩, .slice none 0 0, .slice none 0 0] 25)
  have hn := heap_alloc_new w (.cells #[.int .u8 0, .string ⟨#[]⟩, .slice none 0 0, .slice none 0 0] 25)
  have hB := h.lt
  go_enter Tryd.func28, Tryd.ntmps28
  go_wp2_with fail
  generalize w.alloc (.cells #[.int .u8 0, .string ⟨#[]⟩, .slice none 0 0, .slice none 0 0] 25) = W0 at *
  have H0 := Lib.hid (And.intro (h.below hal) (And.intro (grow_below hal (some B)) (show Blk4 W0 w.heap.size 25 _ _ _ _ from hn)))
  clear hal hn h
  go_loopw [10] (fun i wr => ∃ j : Nat, i = .int .i64 j ∧ j ≤ x.size ∧ Hid (∃ q, q ≤ s.size ∧ Rd s q d B wr ∧ w.grownBy wr (some B) ∧ Blk4 wr w.heap.size 25 (.int .u8 0) (.string ⟨#[]⟩) (.slice none 0 0) (.slice none 0 0) ∧ J.al s x j (p, 0) = (q, 0))) (fun i _ => x.size - (RowKit.intOf i).toNat)
  case atStart => exact ⟨0, rfl, Nat.zero_le _, Lib.hid ⟨p, hp, H0.out.1, H0.out.2.1, H0.out.2.2, rfl⟩⟩
  case round =>
    obtain ⟨j, rfl, hj, HJ⟩ := hrel
    obtain ⟨q, hq, h1, g1, b1, a1⟩ := HJ.out
    have HA := Lib.hid a1
    have HB := Lib.hid b1
    clear HJ a1 b1
    by_cases hlt : j < x.size
    · have hx1 := fun c => one_byte x j hlt c
      have hstep : J.al s x (j + 1) (p, 0) = J.tk s q 0 (x.get! j).toNat := by
        show J.tk s (J.al s x j (p, 0)).1 (J.al s x j (p, 0)).2 _ = _
        rw [HA.out]
      have hsk := J.sk_is (s := s) q (hx0 j hlt) hx1
      have HL := Lib.hid hlt
      have e1 : j + 1 ≤ x.size := hlt
      cases hb : J.is s q 0 (x.get! j).toNat
      · have ht := take_no s (x.extract j (j + 1)) q d B wr hs hq h1 (by rw [hsk, hb])
        have HE := Lib.hid (hstep.trans (J.tk_no hb))
        clear hsk hb hstep hx1
        go_wp2_with fail
        refine ht.mono ?_
        rintro en w2 ⟨rfl, h2, g2⟩
        have HF := Lib.hid (And.intro h2 (grow_trans g1 g2))
        clear h2 g2
        go_wp2_with fail
        have hfin := al_stay s x p (j + 1) (x.size - (j + 1)) (by rw [HE.out]; exact (show ¬ 30 = 0 by decide))
        rw [show j + 1 + (x.size - (j + 1)) = x.size by omega, HE.out] at hfin
        rw [hfin]
        exact ⟨rfl, out_no ⟨rfl, HF.out⟩⟩
      · have ht := take_yes s (x.extract j (j + 1)) q d B wr hs hq h1 (by rw [hsk, hb])
        have HE := Lib.hid (hstep.trans (J.tk_yes hb))
        have hq2 := (J.of_is hb).2.1
        clear hsk hb hstep hx1
        generalize J.pk s q = c at *
        go_wp2_with fail
        refine ht.mono ?_
        rintro en w2 ⟨rfl, h2, g2⟩
        have HN := Lib.hid (show ∃ q, q ≤ s.size ∧ Rd s q d B w2 ∧ w.grownBy w2 (some B) ∧ Blk4 w2 w.heap.size 25 (.int .u8 0) (.string ⟨#[]⟩) (.slice none 0 0) (.slice none 0 0) ∧ J.al s x (j + 1) (p, 0) = (q, 0) from
          ⟨q + 1, hq2, h2, grow_trans g1 g2, HB.out.same (g2.block _ HB.out.lt (fun e => by cases e; omega)), HE.out⟩)
        clear h2 g2 ht g1 h1
        go_wp2_with fail
        go_roundw
        case rel => exact ⟨j + 1, by go_num, HL.out, HN⟩
        case measure => have := HL.out; simp [RowKit.intOf]; omega
    · obtain rfl : j = x.size := by omega
      obtain ⟨d0, d1, d2, d3⟩ := HB.out.box
      have f0 := HB.out.free 0
      have f1 := HB.out.free 1
      have f2 := HB.out.free 2
      have f3 := HB.out.free 3
      go_wp2_with fail
      obtain ⟨e1, e2, e3⟩ := HB.out.all (.int .u8 k) (.string ⟨#[]⟩) (.slice none 0 0) (.slice none 0 0)
      have e4 := set4_else wr w.heap.size (.int .u8 k) (.string ⟨#[]⟩) (.slice none 0 0) (.slice none 0 0)
      generalize (((wr.setCell ⟨w.heap.size, 0, none⟩ (.int .u8 k)).setCell ⟨w.heap.size, 1, none⟩ (.string ⟨#[]⟩)).setCell ⟨w.heap.size, 2, none⟩ (.slice none 0 0)).setCell ⟨w.heap.size, 3, none⟩ (.slice none 0 0) = W' at *
      obtain ⟨x0, x1, x2, x3⟩ := e1.box
      refine bodyPost_ret (v := valW k) (by simp [results, Tryd.results28, go_sem, x0, x1, x2, x3, valW]) rfl ?_
      rw [HA.out]
      exact out_ok ⟨rfl, h1.same (e4 B (by omega)), grow_new g1 (e3 _ (Nat.le_refl _)) (Nat.le_refl _)⟩

set_option maxRecDepth 100000 in
set_option maxHeartbeats 400000 in
theorem end_any (s : ByteArray) (p d B : Nat) (w : World) (hs : s.size ≤ 1000000000000) (hp : p ≤ s.size) (h : Rd s p d B w) :
    Calls Tryd.prog 12 #[.pointer (some ⟨B, 0, none⟩)] w (Out (.tuple #[]) s (if p < s.size then (p, 30) else (p, 0)) d B w) := by
  have c0 := h.c0
  have c1 := h.c1
  by_cases hlt : p < s.size
  · rw [if_pos hlt]
    go_enter Tryd.func12, Tryd.ntmps12
    go_wp2_with fail
    go_quiet (fail)
    go_wp2_with fail
    exact ⟨rfl, out_no ⟨rfl, ⟨_, h⟩, grow_drewN _ _ _⟩⟩
  · rw [if_neg hlt]
    go_enter Tryd.func12, Tryd.ntmps12
    go_wp2_with fail
    go_quiet (fail)
    go_wp2_with fail
    go_end0
    exact out_ok ⟨rfl, h, grow_drewN _ _ _⟩
end Go.Proofs.YtbdpghmpdghnbaaDoor
