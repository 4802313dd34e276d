/- The program's reader of JSON: a word, the text's end. Conditions: a string of at most 10^12 bytes. -/
import Derived.Test.YtkehpmbafjelpaaDoorJpNumB
namespace Go.Proofs.YtkehpmbafjelpaaDoor
open Go Go.RowKit Go.Lib

theorem one_byte (x : ByteArray) (i : Nat) (hi : i < x.size) (c : Nat) : J.am (x.extract i (i + 1)) c = decide (c = (x.get! i).toNat) := by
  have e : (x.extract i (i + 1)).data.toList = [x.get! i] := by
    rw [J.at_get hi]
    apply List.ext_getElem?
    intro j
    have h : (x.extract i (i + 1)).data.toList = (x.data.toList.take (i + 1)).drop i := by
      rw [ByteArray.data_extract, Array.toList_extract, List.extract_eq_take_drop, List.drop_take]
    rw [h, List.getElem?_drop]
    have hl : x.data.toList.length = x.size := by simp
    cases j with
    | zero =>
      show (List.take (i + 1) x.data.toList)[i]? = some x[i]
      rw [List.getElem?_take_of_lt (show i < i + 1 by omega), List.getElem?_eq_getElem (by omega)]; rfl
    | succ j => rw [List.getElem?_take_eq_none (by omega)]; rfl
  unfold J.am
  rw [e]
  simp only [List.any_cons, List.any_nil, Bool.or_false]
  exact decide_eq_decide.2 eq_comm
theorem al_stay (s x : ByteArray) (p k j : Nat) (h : ¬ (J.al s x k (p, 0)).2 = 0) : J.al s x (k + j) (p, 0) = J.al s x k (p, 0) := by
  induction j with
  | zero => rfl
  | succ j ih =>
    show J.tk s (J.al s x (k + j) (p, 0)).1 (J.al s x (k + j) (p, 0)).2 _ = _
    rw [ih, J.tk_wrong _ h]

/-- what was not there at first may be written -/
theorem grow_new {w wr W : World} {B N : Nat} (g : w.grownBy wr (some B)) (hb : Below N wr W) (hN : w.heap.size ≤ N) : w.grownBy W (some B) :=
  ⟨hb.os.trans g.os, hb.tape.trans g.tape, hb.output.trans g.output, Nat.le_trans g.size hb.size, fun k hk hne => (hb.block k (by omega)).trans (g.block k hk hne)⟩
def valW (k : Nat) : Value := .agg #[.int .u8 k, .string ⟨#[]⟩, .slice none 0 0, .slice none 0 0]

set_option maxRecDepth 100000 in
set_option maxHeartbeats 1000000 in
theorem word_any (s x : ByteArray) (p d k B : Nat) (w : World) (hs : s.size ≤ 1000000000000) (hx : x.size ≤ 1000) (hx0 : ∀ i, i < x.size → 0 < (x.get! i).toNat) (hp : p ≤ s.size) (h : Rd s p d B w) :
    Calls Tryd.prog 93 #[.pointer (some ⟨B, 0, none⟩), .string x, .int .u8 k] w (Out (valW k) s (J.al s x x.size (p, 0)) d B w) := by
  have hal := (Below.refl w.heap.size w).alloc (Nat.le_refl _) (.cells #[.int .u8 0, .string ⟨#[]⟩, .slice none 0 0, .slice none 0 0] 25)
  have hn := heap_alloc_new w (.cells #[.int .u8 0, .string ⟨#[]⟩, .slice none 0 0, .slice none 0 0] 25)
  have hB := h.lt
  go_enter Tryd.func93, Tryd.ntmps93
  go_wp2_with fail
  generalize w.alloc (.cells #[.int .u8 0, .string ⟨#[]⟩, .slice none 0 0, .slice none 0 0] 25) = W0 at *
  have H0 := Lib.hid (And.intro (h.below hal) (And.intro (grow_below hal (some B)) (show Blk4 W0 w.heap.size 25 _ _ _ _ from hn)))
  clear hal hn h
  go_loopw [10] (fun i wr => ∃ j : Nat, i = .int .i64 j ∧ j ≤ x.size ∧ Hid (∃ q, q ≤ s.size ∧ Rd s q d B wr ∧ w.grownBy wr (some B) ∧ Blk4 wr w.heap.size 25 (.int .u8 0) (.string ⟨#[]⟩) (.slice none 0 0) (.slice none 0 0) ∧ J.al s x j (p, 0) = (q, 0))) (fun i _ => x.size - (RowKit.intOf i).toNat)
  case atStart => exact ⟨0, rfl, Nat.zero_le _, Lib.hid ⟨p, hp, H0.out.1, H0.out.2.1, H0.out.2.2, rfl⟩⟩
  case round =>
    obtain ⟨j, rfl, hj, HJ⟩ := hrel
    obtain ⟨q, hq, h1, g1, b1, a1⟩ := HJ.out
    have HA := Lib.hid a1
    have HB := Lib.hid b1
    clear HJ a1 b1
    by_cases hlt : j < x.size
    · have hx1 := fun c => one_byte x j hlt c
      have hstep : J.al s x (j + 1) (p, 0) = J.tk s q 0 (x.get! j).toNat := by
        show J.tk s (J.al s x j (p, 0)).1 (J.al s x j (p, 0)).2 _ = _
        rw [HA.out]
      have hsk := J.sk_is (s := s) q (hx0 j hlt) hx1
      have HL := Lib.hid hlt
      have e1 : j + 1 ≤ x.size := hlt
      cases hb : J.is s q 0 (x.get! j).toNat
      · have ht := take_no s (x.extract j (j + 1)) q d B wr hs hq h1 (by rw [hsk, hb])
        have HE := Lib.hid (hstep.trans (J.tk_no hb))
        clear hsk hb hstep hx1
        go_wp2_with fail
        refine ht.mono ?_
        rintro en w2 ⟨rfl, h2, g2⟩
        have HF := Lib.hid (And.intro h2 (grow_trans g1 g2))
        clear h2 g2
        go_wp2_with fail
        have hfin := al_stay s x p (j + 1) (x.size - (j + 1)) (by rw [HE.out]; exact (show ¬ 30 = 0 by decide))
        rw [show j + 1 + (x.size - (j + 1)) = x.size by omega, HE.out] at hfin
        rw [hfin]
        exact ⟨rfl, out_no ⟨rfl, HF.out⟩⟩
      · have ht := take_yes s (x.extract j (j + 1)) q d B wr hs hq h1 (by rw [hsk, hb])
        have HE := Lib.hid (hstep.trans (J.tk_yes hb))
        have hq2 := (J.of_is hb).2.1
        clear hsk hb hstep hx1
        generalize J.pk s q = c at *
        go_wp2_with fail
        refine ht.mono ?_
        rintro en w2 ⟨rfl, h2, g2⟩
        have HN := Lib.hid (show ∃ q, q ≤ s.size ∧ Rd s q d B w2 ∧ w.grownBy w2 (some B) ∧ Blk4 w2 w.heap.size 25 (.int .u8 0) (.string ⟨#[]⟩) (.slice none 0 0) (.slice none 0 0) ∧ J.al s x (j + 1) (p, 0) = (q, 0) from
          ⟨q + 1, hq2, h2, grow_trans g1 g2, HB.out.same (g2.block _ HB.out.lt (fun e => by cases e; omega)), HE.out⟩)
        clear h2 g2 ht g1 h1
        go_wp2_with fail
        go_roundw
        case rel => exact ⟨j + 1, by go_num, HL.out, HN⟩
        case measure => have := HL.out; simp [RowKit.intOf]; omega
    · obtain rfl : j = x.size := by omega
      obtain ⟨d0, d1, d2, d3⟩ := HB.out.box
      have f0 := HB.out.free 0
      have f1 := HB.out.free 1
      have f2 := HB.out.free 2
      have f3 := HB.out.free 3
      go_wp2_with fail
      obtain ⟨e1, e2, e3⟩ := HB.out.all (.int .u8 k) (.string ⟨#[]⟩) (.slice none 0 0) (.slice none 0 0)
      have e4 := set4_else wr w.heap.size (.int .u8 k) (.string ⟨#[]⟩) (.slice none 0 0) (.slice none 0 0)
      generalize (((wr.setCell ⟨w.heap.size, 0, none⟩ (.int .u8 k)).setCell ⟨w.heap.size, 1, none⟩ (.string ⟨#[]⟩)).setCell ⟨w.heap.size, 2, none⟩ (.slice none 0 0)).setCell ⟨w.heap.size, 3, none⟩ (.slice none 0 0) = W' at *
      obtain ⟨x0, x1, x2, x3⟩ := e1.box
      refine bodyPost_ret (v := valW k) (by simp [results, Tryd.results93, go_sem, x0, x1, x2, x3, valW]) rfl ?_
      rw [HA.out]
      exact out_ok ⟨rfl, h1.same (e4 B (by omega)), grow_new g1 (e3 _ (Nat.le_refl _)) (Nat.le_refl _)⟩

set_option maxRecDepth 100000 in
set_option maxHeartbeats 400000 in
theorem end_any (s : ByteArray) (p d B : Nat) (w : World) (hs : s.size ≤ 1000000000000) (hp : p ≤ s.size) (h : Rd s p d B w) :
    Calls Tryd.prog 44 #[.pointer (some ⟨B, 0, none⟩)] w (Out (.tuple #[]) s (if p < s.size then (p, 30) else (p, 0)) d B w) := by
  have c0 := h.c0
  have c1 := h.c1
  by_cases hlt : p < s.size
  · rw [if_pos hlt]
    go_enter Tryd.func44, Tryd.ntmps44
    go_wp2_with fail
    go_quiet (fail)
    go_wp2_with fail
    exact ⟨rfl, out_no ⟨rfl, ⟨_, h⟩, grow_drewN _ _ _⟩⟩
  · rw [if_neg hlt]
    go_enter Tryd.func44, Tryd.ntmps44
    go_wp2_with fail
    go_quiet (fail)
    go_wp2_with fail
    go_end0
    exact out_ok ⟨rfl, h, grow_drewN _ _ _⟩
end Go.Proofs.YtkehpmbafjelpaaDoor
