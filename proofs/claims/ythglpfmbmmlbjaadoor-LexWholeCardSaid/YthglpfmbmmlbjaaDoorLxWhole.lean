/- LexWhole: the tokens have all bytes, each at least one. Conditions: the table of kinds as the program's text lays it. -/
import Derived.Test.YthglpfmbmmlbjaaDoorLxAwake
import Derived.Test.YthglpfmbmmlbjaaDoorLxPure
namespace Go.Proofs
open Go Go.RowKit Go.Lib
namespace YthglpfmbmmlbjaaDoor
def TrueIs (w : World) (e : Ending) (w' : World) : Prop := e = .returned (.bool true) ∧ Below w.heap.size w w'
namespace D
/-- what the token ahead says of the next one -/
def Then (s : ByteArray) (pre : List Tk) (p : Nat) : Prop := ∀ j t, pre.length = j + 1 → pre[j]? = some t → p < s.size → (t.k = 1 → ¬ (tok (s.extract p s.size)).k = 1) ∧ (t.k = 2 → (tok (s.extract p s.size)).k = 1)
theorem Then.step {s : ByteArray} {pre : List Tk} {p : Nat} (hp : p < s.size) : Then s (pre ++ [tok (s.extract p s.size)]) (p + (tok (s.extract p s.size)).w) := by
  intro j t hj ht hq
  rw [List.length_append, List.length_singleton] at hj
  obtain rfl : pre.length = j := by omega
  rw [List.getElem?_append_right (Nat.le_refl _), Nat.sub_self] at ht
  cases ht
  exact two_toks s p hp hq
end D
set_option maxHeartbeats 2000000 in
set_option maxRecDepth 100000 in
theorem wholeLaw_any (s : ByteArray) (hs : s.size ≤ 1000000000000000) (w : World) (hT : Trv w) : Calls Tryd.prog 4 #[.string s] w (TrueIs w) := by
  have HA := Lib.hid (fun W (hW : Below w.heap.size w W) => awake12_any W (hT.below hW))
  have HL := Lib.hid (fun (h : s.size ≤ 1000000000000) => all_any s w h)
  clear hT
  by_cases hbig : 40000 < s.size
  · have i1 : (40000 : Int) < (s.size : Int) := by omega
    clear hbig
    go_enter Tryd.func4, Tryd.ntmps4
    go_wp2_with fail
    refine (HA.out _ (Below.refl _ _)).mono ?_
    rintro e w1 ⟨rfl, hb1⟩
    go_wp2_with fail
    go_ret
    exact ⟨rfl, hb1⟩
  have i1 : ¬ (40000 : Int) < (s.size : Int) := by omega
  have i2 : s.size ≤ 40000 := by omega
  clear hbig hs
  go_enter Tryd.func4, Tryd.ntmps4
  go_wp2_with fail
  refine (HL.out (by omega)).mono ?_
  rintro e w1 ⟨v, rfl, hown, _, hB⟩
  have hlen := D.toks_len s
  have hrd := rdT_own hown (by omega) (fun t ht => by have := D.tkF_mem s s.size 0 t ht; omega)
  have HRd := Lib.hid hrd
  have HB := Lib.hid hB
  obtain ⟨z, cap, rfl, q1, q2, q3, q4, _⟩ := hrd
  rw [List.length_map] at *
  clear hown hB q4
  go_wp2_with fail
  go_loopw [4, 5] (fun a q wr => ∃ (pre : List D.Tk) (p : Nat), q = .int .i64 pre.length ∧ a = .int .i64 p ∧ pre.length ≤ 40000 ∧ p ≤ s.size ∧ Hid (SameN w1 wr ∧ D.At s pre p ∧ D.Then s pre p)) (fun a _ _ => s.size - (RowKit.intOf a).toNat)
  case atStart => exact ⟨[], 0, rfl, rfl, by decide, Nat.zero_le _, Lib.hid ⟨rfl, D.At.begin s, fun j t h => by simp at h⟩⟩
  case round =>
    obtain ⟨pre, p, rfl, rfl, hpl, hp, HW⟩ := hrel
    obtain rfl : wr = w1 := HW.out.1
    by_cases hlt : p < s.size
    · have hnx := HW.out.2.1.next hlt
      obtain ⟨_, _, hzz, _, _, _, _, hr⟩ := HRd.out
      rw [List.length_map] at hzz
      injection hzz with hz1 hz2 hz3
      subst hz1 hz3
      obtain ⟨b, o, rfl, hb, c0, c1, c2⟩ := hr pre.length _ (by rw [List.getElem?_map, hnx.1]; rfl)
      have hprev : ∀ j, pre.length = j + 1 → ∃ t, pre[j]? = some t ∧ wr.cell? ⟨b, o + j * 3, none⟩ = some (.int .u8 (t.k : Int)) := fun j hj => by
        obtain ⟨t, ht⟩ : ∃ t, pre[j]? = some t := ⟨_, List.getElem?_eq_getElem (by omega)⟩
        have ht2 : (D.toks s)[j]? = some t := by
          rw [HW.out.2.1.pre, List.getElem?_take_of_lt (by omega)] at ht
          exact ht
        obtain ⟨b2, o2, he, _, d0, _, _⟩ := hr j t.i (by rw [List.getElem?_map, ht2]; rfl)
        cases he
        exact ⟨t, ht, d0⟩
      have HTh := Lib.hid HW.out.2.2
      have HStep := Lib.hid (And.intro (HW.out.2.1.step hlt) (D.Then.step (pre := pre) hlt))
      have hat := D.tok_at hlt
      have hthen := fun j t h1 h2 => HTh.out j t h1 h2 hlt
      have j1 : (pre.length : Int) < ((D.toks s).length : Int) := by have := hnx.2; omega
      have j0 : (0 : Int) ≤ (pre.length : Int) := Int.natCast_nonneg _
      have HPL := Lib.hid (show (pre ++ [D.tok (s.extract p s.size)]).length = pre.length + 1 by simp)
      generalize D.tok (s.extract p s.size) = t at *
      obtain ⟨tk, tw, tl⟩ := t
      unfold D.Tk.i at c0 c1 c2
      simp only at c0 c1 c2 hat hthen HStep HPL
      have HAt := Lib.hid hat
      have e1 : decide ((tw : Int) < 1) = false := decide_eq_false (by omega)
      have e2 : decide ((tl : Int) < 0) = false := decide_eq_false (by omega)
      have j3 : p + tw ≤ s.size := hat.2.1
      have HLen := Lib.hid (show pre.length + 1 ≤ 40000 by have := hnx.2; omega)
      clear hr hnx hat hlt
      generalize hm : pre.length = m at *
      have i9 : (p : Int) + (tw : Int) ≤ 40000 := by omega
      rcases Nat.eq_zero_or_pos m with h0 | h0
      · subst h0
        have HZ := Lib.hid hm
        simp only [Nat.zero_mul, Nat.add_zero] at c0 c1 c2
        clear hprev hthen hm
        go_wp2_with fail
        go_roundw
        case rel => exact ⟨pre ++ [⟨tk, tw, tl⟩], p + tw, by rw [HPL.out]; go_num, by go_num, by rw [HPL.out]; exact HLen.out, HAt.out.2.1, Lib.hid ⟨rfl, HStep.out.1, HStep.out.2⟩⟩
        case measure => have := HAt.out; simp [RowKit.intOf]; omega
      · obtain ⟨j, hj⟩ : ∃ j, m = j + 1 := ⟨m - 1, by omega⟩
        obtain ⟨t, ht, d0⟩ := hprev j hj
        have hth := hthen j t hj ht
        have j2 : (0 : Int) < (m : Int) := by omega
        have j3 : (m : Int) - 1 = (j : Int) := by omega
        have j4 : (j : Int) < ((D.toks s).length : Int) := by omega
        have j5 : (0 : Int) ≤ (j : Int) := Int.natCast_nonneg _
        have HZ := Lib.hid hm
        generalize t.k = pk at *
        clear hprev hthen hm ht h0
        by_cases hbl : tk = 1
        · have f0 : ((tk : Int) == 1) = true := by simp; omega
          have hpk : ¬ pk = 1 := fun e => hth.1 e hbl
          have f1 : ((pk : Int) == 1) = false := by simp; omega
          by_cases h2 : pk = 2
          · subst h2
            clear hth hpk hj hbl
            go_wp2_with fail
            go_roundw
            case rel => exact ⟨pre ++ [⟨tk, tw, tl⟩], p + tw, by rw [HPL.out]; go_num, by go_num, by rw [HPL.out]; exact HLen.out, HAt.out.2.1, Lib.hid ⟨rfl, HStep.out.1, HStep.out.2⟩⟩
            case measure => have := HAt.out; simp [RowKit.intOf]; omega
          · have f2 : ((pk : Int) == 2) = false := by simp; omega
            clear hth hpk hj h2 hbl
            go_wp2_with fail
            go_roundw
            case rel => exact ⟨pre ++ [⟨tk, tw, tl⟩], p + tw, by rw [HPL.out]; go_num, by go_num, by rw [HPL.out]; exact HLen.out, HAt.out.2.1, Lib.hid ⟨rfl, HStep.out.1, HStep.out.2⟩⟩
            case measure => have := HAt.out; simp [RowKit.intOf]; omega
        · have f0 : ((tk : Int) == 1) = false := by simp; omega
          have f2 : ((pk : Int) == 2) = false := by
            have : ¬ pk = 2 := fun e => hbl (hth.2 e)
            simp; omega
          clear hth hbl hj
          go_wp2_with fail
          go_roundw
          case rel => exact ⟨pre ++ [⟨tk, tw, tl⟩], p + tw, by rw [HPL.out]; go_num, by go_num, by rw [HPL.out]; exact HLen.out, HAt.out.2.1, Lib.hid ⟨rfl, HStep.out.1, HStep.out.2⟩⟩
          case measure => have := HAt.out; simp [RowKit.intOf]; omega
    · have hdone := HW.out.2.1.done hlt
      obtain rfl : p = s.size := by omega
      have j1 : ¬ (pre.length : Int) < ((D.toks s).length : Int) := by rw [hdone]; omega
      clear hlt hdone
      go_wp2_with fail
      refine (HA.out _ HB.out).mono ?_
      rintro e w2 ⟨rfl, hb2⟩
      go_wp2_with fail
      go_ret
      exact ⟨rfl, HB.out.trans (hb2.mono HB.out.size)⟩
end YthglpfmbmmlbjaaDoor
end Go.Proofs
