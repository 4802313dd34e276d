/- An operator or a bracket, the document's. Conditions: a string of at most 10^15 bytes. -/
import Derived.Test.YtglanajglhneeaaMX23
import Derived.BigQuiet
namespace Go.Proofs
open Go Go.RowKit Go.Lib
namespace Ytglanajglhneeaa
theorem twl_cell {i : Nat} (h : i < 6) : ((D.twl.map Value.string).toArray)[i]? = some (.string (D.twl.getD i ByteArray.empty)) := by
  have : ∀ i : Fin 6, ((D.twl.map Value.string).toArray)[i.1]? = some (.string (D.twl.getD i.1 ByteArray.empty)) := fun i => by
    match i with
    | ⟨0, _⟩ => rfl
    | ⟨1, _⟩ => rfl
    | ⟨2, _⟩ => rfl
    | ⟨3, _⟩ => rfl
    | ⟨4, _⟩ => rfl
    | ⟨5, _⟩ => rfl
  exact this ⟨i, h⟩
theorem nat_cell (l : List Nat) {i : Nat} (h : i < l.length) : ((l.map (fun (x : Nat) => Value.int .u8 (x : Int))).toArray)[i]? = some (.int .u8 ((l.getD i 0 : Nat) : Int)) := by
  rw [List.getElem?_toArray, List.getElem?_map, List.getElem?_eq_getElem h, List.getD_eq_getElem?_getD, List.getElem?_eq_getElem h]; rfl
theorem below_drw {a w : World} {n : Nat} (h : Below n a w) (m : Nat) : Below n a (w.drewN m) := h.trans ⟨rfl, rfl, rfl, Nat.le_refl _, fun _ _ => rfl⟩
set_option maxHeartbeats 4000000 in
set_option maxRecDepth 100000 in
theorem sign12_any (s : ByteArray) (p : Nat) (hp : p < s.size) (hn : ¬ D.Ns (D.cls (s.get! p).toNat)) (hs : s.size ≤ 1000000000000000) (w : World) : Calls Try.prog 53 #[.string s, .int .i64 p] w (KindB (D.kd (D.rn s 0 p).1) (D.rn s 0 p).2 w) := by
  have HTwo := Lib.hid (fun i hi h he => D.sg_two (s := s) (p := p) (i := i) hi h he)
  have HOne := Lib.hid (fun j hj hN he => D.sg_one (s := s) (p := p) (j := j) hj hp hn hN he)
  have HOdd := Lib.hid (fun hN hO => D.sg_odd (s := s) (p := p) hp hn hN hO)
  have hsz := fun W => size12_any s p hp hs W
  have hwd := U.wd_le hp
  generalize D.kd (D.rn s 0 p).1 = k0 at *
  generalize (D.rn s 0 p).2 = n0 at *
  have HP := Lib.hid hp
  have p1 : (p : Int) < (s.size : Int) := by omega
  have p2 : p ≤ s.size := by omega
  have hbp := U.at_byte hp
  clear hn
  go_enter Try.func53, Try.ntmps53
  go_upto_region 2 with fail
  generalize hW : w.alloc _ = W0
  have HCell := Lib.hid (show ∀ i, i < 6 → W0.cell? ⟨w.heap.size, i, none⟩ = some (.string (D.twl.getD i ByteArray.empty)) from fun i h => by
    rw [← hW, Lib.cell_of_heap (heap_alloc_new w _)]
    exact twl_cell h)
  have HB := Lib.hid (show Below w.heap.size w W0 ∧ W0.heap.size = w.heap.size + 1 by rw [← hW]; exact ⟨(Below.refl w.heap.size w).alloc (Nat.le_refl _) _, World.size_alloc ..⟩)
  clear hW
  go_upto_region 3 with fail
  generalize hW : W0.alloc _ = W1
  have HK := Lib.hid (show ∀ i, i < 6 → W1.cell? ⟨W0.heap.size, i, none⟩ = some (.int .u8 ((D.twk.getD i 0 : Nat) : Int)) from fun i h => by
    rw [← hW, Lib.cell_of_heap (heap_alloc_new W0 _)]
    exact nat_cell D.twk h)
  have HCell1 := Lib.hid (show ∀ i, i < 6 → W1.cell? ⟨w.heap.size, i, none⟩ = some (.string (D.twl.getD i ByteArray.empty)) from fun i h => by
    rw [← hW, ((Below.refl W0.heap.size W0).alloc (Nat.le_refl _) _).cell (p := ⟨w.heap.size, i, none⟩) (by have := HB.out.2; show w.heap.size < _; omega)]
    exact HCell.out i h)
  have HB1 := Lib.hid (show Below w.heap.size w W1 by rw [← hW]; exact HB.out.1.alloc HB.out.1.size _)
  have HSz := Lib.hid (show w.heap.size < W1.heap.size ∧ W0.heap.size < W1.heap.size by rw [← hW, World.size_alloc]; have := HB.out.2; omega)
  clear hW
  generalize W0.heap.size = k1 at *
  generalize hm : w.heap.size = m1 at *
  clear HCell HB
  go_wp2_with fail
  go_loopw [8] (fun v wx => ∃ i : Nat, v = .int .i64 i ∧ i ≤ 6 ∧ Hid (Below W1.heap.size W1 wx ∧ ∀ j, j < i → p + 2 ≤ s.size → ¬ (s.extract p (p + 2)).toList = (D.twl.getD j ByteArray.empty).toList)) (fun v _ => 6 - (RowKit.intOf v).toNat)
  case atStart => exact ⟨0, rfl, Nat.zero_le _, Lib.hid ⟨Below.refl _ _, fun j h => by omega⟩⟩
  case round =>
    obtain ⟨i, rfl, hi, HR⟩ := hrel
    by_cases hlt : i < 6
    · have i1 : (i : Int) < 6 := by omega
      have i0 : (0 : Int) ≤ (i : Int) := Int.natCast_nonneg i
      have c1 := (HR.out.1.cell (p := ⟨m1, i, none⟩) HSz.out.1).trans (HCell1.out i hlt)
      have c2 := (HR.out.1.cell (p := ⟨k1, i, none⟩) HSz.out.2).trans (HK.out i hlt)
      have HLT := Lib.hid hlt
      have HBR := Lib.hid (HB1.out.trans (HR.out.1.mono (by have := HB1.out.size; omega)))
      by_cases h2 : p + 2 ≤ s.size
      · have j1 : (p : Int) + 2 ≤ (s.size : Int) := by omega
        by_cases he : (s.extract p (p + 2)).toList = (D.twl.getD i ByteArray.empty).toList
        · have HE := Lib.hid (HTwo.out i hlt h2 he)
          generalize D.twl.getD i ByteArray.empty = x at *
          have ee : ((s.extract p (p + 2)).toList == x.toList) = true := by rw [he, beq_self_eq_true]
          clear he
          go_wp2_with fail
          go_quiet (fail)
          go_wp2_with fail
          go_ret2
          rw [HE.out.1, HE.out.2]
          exact ⟨rfl, by rw [hm]; exact below_drw HBR.out _⟩
        · have HN := Lib.hid (show ∀ j, j < i + 1 → p + 2 ≤ s.size → ¬ (s.extract p (p + 2)).toList = (D.twl.getD j ByteArray.empty).toList from fun j hj h => by by_cases e : j = i; (· subst e; exact he); (· exact HR.out.2 j (by omega) h))
          generalize D.twl.getD i ByteArray.empty = x at c1 he
          have ee : ((s.extract p (p + 2)).toList == x.toList) = false := by rw [beq_eq_false_iff_ne]; exact he
          clear he
          go_wp2_with fail
          go_quiet (fail)
          go_wp2_with fail
          go_roundw
          case rel => exact ⟨i + 1, by go_num, HLT.out, Lib.hid ⟨below_drw HR.out.1 _, HN.out⟩⟩
          case measure => have := HLT.out; simp [RowKit.intOf]; omega
      · have j1 : decide ((p : Int) + 2 ≤ (s.size : Int)) = false := decide_eq_false (by omega)
        have HN := Lib.hid (show ∀ j, j < i + 1 → p + 2 ≤ s.size → ¬ (s.extract p (p + 2)).toList = (D.twl.getD j ByteArray.empty).toList from fun j hj h => absurd h h2)
        clear h2
        go_wp2_with fail
        go_quiet (fail)
        go_wp2_with fail
        go_roundw
        case rel => exact ⟨i + 1, by go_num, HLT.out, Lib.hid ⟨below_drw HR.out.1 _, HN.out⟩⟩
        case measure => have := HLT.out; simp [RowKit.intOf]; omega
    · obtain rfl : i = 6 := by omega
      have HNT := Lib.hid HR.out.2
      have HBR := Lib.hid (HB1.out.trans (HR.out.1.mono (by have := HB1.out.size; omega)))
      clear hlt hi HK HCell1 HSz HTwo HR HB1
      go_upto_region 10 with fail
      generalize hW : wr.alloc _ = W3
      have HK := Lib.hid (show ∀ i, i < 14 → W3.cell? ⟨wr.heap.size, i, none⟩ = some (.int .u8 ((D.onk.getD i 0 : Nat) : Int)) from fun i h => by
        rw [← hW, Lib.cell_of_heap (heap_alloc_new wr _)]
        exact nat_cell D.onk h)
      have HB3 := Lib.hid (show Below m1 w W3 ∧ wr.heap.size < W3.heap.size by rw [← hW]; exact ⟨HBR.out.alloc (by have := HBR.out.size; omega) _, by rw [World.size_alloc]; omega⟩)
      clear hW
      generalize wr.heap.size = k3 at *
      go_wp2_with fail
      go_loopw [11] (fun v wx => ∃ i : Nat, v = .int .i64 i ∧ i ≤ 14 ∧ Hid (Below W3.heap.size W3 wx ∧ ∀ j, j < i → ¬ (s.get! p).toNat = (D.onl.get! j).toNat)) (fun v _ => 14 - (RowKit.intOf v).toNat)
      case atStart => exact ⟨0, rfl, Nat.zero_le _, Lib.hid ⟨Below.refl _ _, fun j h => by omega⟩⟩
      case round =>
        obtain ⟨i, rfl, hi, HR⟩ := hrel
        by_cases hlt : i < 14
        · have i1 : (i : Int) < 14 := by omega
          have i0 : (0 : Int) ≤ (i : Int) := Int.natCast_nonneg i
          have c2 := (HR.out.1.cell (p := ⟨k3, i, none⟩) HB3.out.2).trans (HK.out i hlt)
          have HLT := Lib.hid hlt
          have HBQ := Lib.hid (HB3.out.1.trans (HR.out.1.mono (by have := HB3.out.1.size; omega)))
          have hbo := U.at_byte (s := D.onl) (i := i) hlt
          unfold D.onl at hbo
          by_cases he : (s.get! p).toNat = (D.onl.get! i).toNat
          · have HE := Lib.hid (HOne.out i hlt HNT.out he)
            unfold D.onl at he
            rw [← he] at hbo
            generalize (s.get! p).toNat = y at *
            clear he
            go_wp2_with fail
            go_quiet (fail)
            go_wp2_with fail
            go_ret2
            rw [HE.out.1, HE.out.2]
            exact ⟨rfl, by rw [hm]; exact below_drw HBQ.out _⟩
          · have HN := Lib.hid (show ∀ j, j < i + 1 → ¬ (s.get! p).toNat = (D.onl.get! j).toNat from fun j hj => by by_cases e : j = i; (· subst e; exact he); (· exact HR.out.2 j (by omega)))
            unfold D.onl at he
            generalize (ByteArray.get! _ i).toNat = z at hbo he
            have ee : (((s.get! p).toNat : Int) == (z : Int)) = false := by rw [beq_eq_false_iff_ne]; omega
            clear he
            go_wp2_with fail
            go_quiet (fail)
            go_wp2_with fail
            go_roundw
            case rel => exact ⟨i + 1, by go_num, HLT.out, Lib.hid ⟨below_drw HR.out.1 _, HN.out⟩⟩
            case measure => have := HLT.out; simp [RowKit.intOf]; omega
        · obtain rfl : i = 14 := by omega
          have HE := Lib.hid (HOdd.out HNT.out HR.out.2)
          have HBQ := Lib.hid (HB3.out.1.trans (HR.out.1.mono (by have := HB3.out.1.size; omega)))
          generalize U.wd s p = d at *
          clear hlt hi HK HOne HOdd HNT HR HB3
          go_wp2_with fail
          refine (hsz _).mono ?_
          rintro e w1 ⟨rfl, hb1⟩
          go_wp2_with fail
          go_ret2
          rw [HE.out.1, HE.out.2]
          exact ⟨rfl, by rw [hm]; exact HBQ.out.trans (hb1.mono (by have := HBQ.out.size; omega))⟩
end Ytglanajglhneeaa
end Go.Proofs
