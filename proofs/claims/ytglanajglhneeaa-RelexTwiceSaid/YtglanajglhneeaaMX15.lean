/- Word, the document's. Conditions: a string of at most 10^15 bytes. -/
import Derived.Test.YtglanajglhneeaaMX10
import Derived.Test.YtglanajglhneeaaMX13
import Derived.Test.YtglanajglhneeaaMX14
namespace Go.Proofs
open Go Go.RowKit Go.Lib
namespace Ytglanajglhneeaa
namespace D
def wl : List ByteArray := [⟨#[108, 101, 116]⟩, ⟨#[102, 110]⟩, ⟨#[105, 102]⟩, ⟨#[101, 108, 115, 101]⟩, ⟨#[119, 104, 105, 108, 101]⟩, ⟨#[114, 101, 116, 117, 114, 110]⟩, ⟨#[116, 114, 117, 101]⟩, ⟨#[102, 97, 108, 115, 101]⟩]
theorem wrd_at {x : ByteArray} {i : Nat} (h : i < 8) (e : x.toList = (wl.getD i ByteArray.empty).toList) : wrd x = 10 + i := by
  have h8 : i = 0 ∨ i = 1 ∨ i = 2 ∨ i = 3 ∨ i = 4 ∨ i = 5 ∨ i = 6 ∨ i = 7 := by omega
  unfold wrd
  rcases h8 with rfl | rfl | rfl | rfl | rfl | rfl | rfl | rfl <;> (rw [show x.toList = _ from e]; simp only [Lib.toList_data]; rfl)
theorem wrd_none {x : ByteArray} (h : ∀ j, j < 8 → ¬ x.toList = (wl.getD j ByteArray.empty).toList) : wrd x = 6 := by
  unfold wrd
  rw [if_neg (fun e => h 0 (by decide) (e.trans (Lib.toList_data (wl.getD 0 ByteArray.empty)).symm)), if_neg (fun e => h 1 (by decide) (e.trans (Lib.toList_data (wl.getD 1 ByteArray.empty)).symm)), if_neg (fun e => h 2 (by decide) (e.trans (Lib.toList_data (wl.getD 2 ByteArray.empty)).symm)), if_neg (fun e => h 3 (by decide) (e.trans (Lib.toList_data (wl.getD 3 ByteArray.empty)).symm)), if_neg (fun e => h 4 (by decide) (e.trans (Lib.toList_data (wl.getD 4 ByteArray.empty)).symm)), if_neg (fun e => h 5 (by decide) (e.trans (Lib.toList_data (wl.getD 5 ByteArray.empty)).symm)), if_neg (fun e => h 6 (by decide) (e.trans (Lib.toList_data (wl.getD 6 ByteArray.empty)).symm)), if_neg (fun e => h 7 (by decide) (e.trans (Lib.toList_data (wl.getD 7 ByteArray.empty)).symm))]
theorem Wd_eq (s : ByteArray) : (Nm s → Wd s = wrd s) ∧ (¬ Nm s → Wd s = 0) := by
  unfold Wd
  exact ⟨fun h => if_pos ((nm_iff s).2 h), fun h => if_neg (fun e => h ((nm_iff s).1 e))⟩
end D
theorem u8_small (i : Nat) (h : i < 8) : IntKind.u8.wrap (10 + (i : Int)) = ((10 + i : Nat) : Int) := by
  have : ∀ i : Fin 8, IntKind.u8.wrap (10 + ((i.1 : Nat) : Int)) = ((10 + i.1 : Nat) : Int) := by decide +kernel
  exact this ⟨i, h⟩
theorem wl_cell {i : Nat} (h : i < 8) : ((D.wl.map Value.string).toArray)[i]? = some (.string (D.wl.getD i ByteArray.empty)) := by
  have : ∀ i : Fin 8, ((D.wl.map Value.string).toArray)[i.1]? = some (.string (D.wl.getD i.1 ByteArray.empty)) := fun i => by
    match i with
    | ⟨0, _⟩ => rfl
    | ⟨1, _⟩ => rfl
    | ⟨2, _⟩ => rfl
    | ⟨3, _⟩ => rfl
    | ⟨4, _⟩ => rfl
    | ⟨5, _⟩ => rfl
    | ⟨6, _⟩ => rfl
    | ⟨7, _⟩ => rfl
  exact this ⟨i, h⟩
set_option maxHeartbeats 4000000 in
set_option maxRecDepth 100000 in
theorem refWord_any (s : ByteArray) (hs : s.size ≤ 1000000000000000) (w : World) : Calls Try.prog 57 #[.string s] w (ByteB (D.Wd s) w) := by
  have HD := Lib.hid (D.Wd_eq s)
  generalize hk : D.Wd s = k at *
  clear hk
  have HC := Lib.hid refClass_any
  by_cases h0 : s.size = 0
  · obtain rfl : k = 0 := HD.out.2 (fun h => by have := h.1; omega)
    have e0 : (s.toList == []) = true := by
      rw [Lib.toList_data, List.eq_nil_of_length_eq_zero (show s.data.toList.length = 0 by simpa using h0)]; rfl
    clear h0
    go_enter Try.func57, Try.ntmps57
    go_wp2_with fail
    go_ret
    exact ⟨rfl, Below.refl _ _⟩
  have e0 : (s.toList == []) = false := by
    rw [Lib.toList_data, beq_eq_false_iff_ne]
    intro h
    exact h0 (by have := congrArg List.length h; simpa using this)
  have H0 := Lib.hid h0
  clear h0
  go_enter Try.func57, Try.ntmps57
  go_wp2_with fail
  go_loopw [3] (fun p wr => ∃ i : Nat, p = .int .i64 i ∧ i ≤ s.size ∧ Hid (SameD w wr ∧ ∀ j, j < i → D.LD (s.get! j) ∧ ¬ (j = 0 ∧ D.cls (s.get! j).toNat = 4))) (fun p _ => s.size - (RowKit.intOf p).toNat)
  case atStart => exact ⟨0, rfl, Nat.zero_le _, Lib.hid ⟨SameD.refl _, fun j h => by omega⟩⟩
  case round =>
    obtain ⟨i, rfl, hi, HR⟩ := hrel
    obtain rfl : wr = w := HR.out.1
    by_cases hlt : i < s.size
    · have i1 : (i : Int) < (s.size : Int) := by omega
      have HLT := Lib.hid hlt
      have hb := U.at_byte hlt
      have h256 := (s.get! i).toNat_lt
      have hcl := HC.out (s.get! i).toNat (by omega) wr
      have HY := Lib.hid (show s.get! i = s.get! i from rfl)
      have hw := wrap32_small (s.get! i).toNat (by omega)
      have HNo := Lib.hid (fun (h : ¬ (D.LD (s.get! i) ∧ ¬ (i = 0 ∧ D.cls (s.get! i).toNat = 4))) => HD.out.2 (fun hn => h (hn.2 i hlt)))
      have HYes := Lib.hid (fun (h : D.LD (s.get! i) ∧ ¬ (i = 0 ∧ D.cls (s.get! i).toNat = 4)) => show ∀ j, j < i + 1 → D.LD (s.get! j) ∧ ¬ (j = 0 ∧ D.cls (s.get! j).toNat = 4) from fun j hj => by by_cases e : j = i; (· subst e; exact h); (· exact HR.out.2 j (by omega)))
      unfold D.LD at HNo HYes
      generalize hc : D.cls (s.get! i).toNat = c at *
      have HCC := Lib.hid hc
      clear hc h256 HY
      generalize (s.get! i).toNat = y at *
      by_cases h3 : c = 3
      · subst h3
        have HY2 := Lib.hid (HYes.out ⟨Or.inl rfl, fun h => absurd h.2 (by decide)⟩)
        by_cases hi0 : i = 0
        · subst hi0
          go_wp2_with fail
          refine hcl.mono ?_
          rintro e w1 ⟨rfl, hB⟩
          obtain rfl : w1 = wr := hB
          go_wp2_with fail
          go_roundw
          case rel => exact ⟨1, by go_num, HLT.out, Lib.hid ⟨SameD.refl _, HY2.out⟩⟩
          case measure => have := HLT.out; simp [RowKit.intOf]; omega
        · have ei : ((i : Int) == 0) = false := by simp; omega
          clear hi0
          go_wp2_with fail
          refine hcl.mono ?_
          rintro e w1 ⟨rfl, hB⟩
          obtain rfl : w1 = wr := hB
          go_wp2_with fail
          go_roundw
          case rel => exact ⟨i + 1, by go_num, HLT.out, Lib.hid ⟨SameD.refl _, HY2.out⟩⟩
          case measure => have := HLT.out; simp [RowKit.intOf]; omega
      by_cases h4 : c = 4
      · subst h4
        by_cases hi0 : i = 0
        · subst hi0
          obtain rfl : k = 0 := HNo.out (fun h => h.2 ⟨rfl, rfl⟩)
          go_wp2_with fail
          refine hcl.mono ?_
          rintro e w1 ⟨rfl, hB⟩
          obtain rfl : w1 = wr := hB
          go_wp2_with fail
          go_ret
          exact ⟨rfl, Below.refl _ _⟩
        · have HY2 := Lib.hid (HYes.out ⟨Or.inr rfl, fun h => hi0 h.1⟩)
          have ei : ((i : Int) == 0) = false := by simp; omega
          clear hi0
          go_wp2_with fail
          refine hcl.mono ?_
          rintro e w1 ⟨rfl, hB⟩
          obtain rfl : w1 = wr := hB
          go_wp2_with fail
          go_roundw
          case rel => exact ⟨i + 1, by go_num, HLT.out, Lib.hid ⟨SameD.refl _, HY2.out⟩⟩
          case measure => have := HLT.out; simp [RowKit.intOf]; omega
      · obtain rfl : k = 0 := HNo.out (fun h => by rcases h.1 with h | h; (· exact h3 h); (· exact h4 h))
        have e3 : ((c : Int) != 3) = true := by simp; omega
        have e4 : ((c : Int) != 4) = true := by simp; omega
        clear h3 h4
        go_wp2_with fail
        refine hcl.mono ?_
        rintro e w1 ⟨rfl, hB⟩
        obtain rfl : w1 = wr := hB
        go_wp2_with fail
        go_ret
        exact ⟨rfl, Below.refl _ _⟩
    · have i1 : ¬ (i : Int) < (s.size : Int) := by omega
      have hk : k = D.wrd s := HD.out.1 ⟨by have := H0.out; omega, fun j hj => HR.out.2 j (by omega)⟩
      have HK := Lib.hid hk
      clear hk hlt
      go_upto_region 10 with fail
      generalize hW : wr.alloc _ = W0
      have HCell := Lib.hid (show ∀ i, i < 8 → W0.cell? ⟨wr.heap.size, i, none⟩ = some (.string (D.wl.getD i ByteArray.empty)) from fun i h => by
        rw [← hW, Lib.cell_of_heap (heap_alloc_new wr _)]
        exact wl_cell h)
      have HB := Lib.hid (show Below wr.heap.size wr W0 by rw [← hW]; exact (Below.refl wr.heap.size wr).alloc (Nat.le_refl _) _)
      clear hW
      obtain ⟨wo, rfl⟩ : ∃ wo, wo = wr := ⟨_, rfl⟩
      go_wp2_with fail
      go_loopw [6] (fun p wx => ∃ m : Nat, p = .int .i64 m ∧ m ≤ 8 ∧ Hid (SameD W0 wx ∧ ∀ j, j < m → ¬ s.toList = (D.wl.getD j ByteArray.empty).toList)) (fun p _ => 8 - (RowKit.intOf p).toNat)
      case atStart => exact ⟨0, rfl, Nat.zero_le _, Lib.hid ⟨SameD.refl _, fun j h => by omega⟩⟩
      case round =>
        obtain ⟨m, rfl, hm, HM⟩ := hrel
        obtain rfl : wr = W0 := HM.out.1
        by_cases hlt : m < 8
        · have m1 : (m : Int) < 8 := by omega
          have m0 : (0 : Int) ≤ (m : Int) := Int.natCast_nonneg m
          have c1 := HCell.out m hlt
          have HLT := Lib.hid hlt
          by_cases he : s.toList = (D.wl.getD m ByteArray.empty).toList
          · have HE := Lib.hid (HK.out.trans (D.wrd_at hlt he))
            have HU := Lib.hid (u8_small m hlt)
            generalize D.wl.getD m ByteArray.empty = x at *
            have ee : (s.toList == x.toList) = true := by rw [he, beq_self_eq_true]
            clear he
            go_wp2_with fail
            go_ret
            exact ⟨by rw [HE.out, Int.natCast_add]; rfl, HB.out⟩
          · have HE := Lib.hid he
            generalize D.wl.getD m ByteArray.empty = x at c1 he
            have ee : (s.toList == x.toList) = false := by rw [beq_eq_false_iff_ne]; exact he
            clear he
            go_wp2_with fail
            go_roundw
            case rel => exact ⟨m + 1, by go_num, HLT.out, Lib.hid ⟨SameD.refl _, fun j h => by by_cases e : j = m; (· subst e; exact HE.out); (· exact HM.out.2 j (by omega))⟩⟩
            case measure => have := HLT.out; simp [RowKit.intOf]; omega
        · obtain rfl : m = 8 := by omega
          have HE := Lib.hid (HK.out.trans (D.wrd_none HM.out.2))
          clear hlt hm
          go_wp2_with fail
          go_ret
          exact ⟨by rw [HE.out]; rfl, HB.out⟩
end Ytglanajglhneeaa
end Go.Proofs
