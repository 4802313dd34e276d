/- Which word a name is, the document's. Conditions: none. -/
import Derived.Test.YtglanajglhneeaaMX22
namespace Go.Proofs
open Go Go.RowKit Go.Lib
namespace Ytglanajglhneeaa
theorem u8_conv (i : Nat) (h : i < 8) : IntKind.u8.wrap (i : Int) = (i : Int) := by
  have : ∀ i : Fin 8, IntKind.u8.wrap ((i.1 : Nat) : Int) = (i.1 : Int) := by decide +kernel
  exact this ⟨i, h⟩
set_option maxHeartbeats 2000000 in
set_option maxRecDepth 100000 in
theorem word12_any (s : ByteArray) (w : World) : Calls Try.prog 51 #[.string s] w (ByteB (D.wrd s) w) := by
  generalize hk : D.wrd s = k
  have HK := Lib.hid hk.symm
  clear hk
  go_enter Try.func51, Try.ntmps51
  go_upto_region 2 with fail
  generalize hW : w.alloc _ = W0
  have HCell := Lib.hid (show ∀ i, i < 8 → W0.cell? ⟨w.heap.size, i, none⟩ = some (.string (D.wl.getD i ByteArray.empty)) from fun i h => by
    rw [← hW, Lib.cell_of_heap (heap_alloc_new w _)]
    exact wl_cell h)
  have HB := Lib.hid (show Below w.heap.size w W0 by rw [← hW]; exact (Below.refl w.heap.size w).alloc (Nat.le_refl _) _)
  clear hW
  obtain ⟨wo, rfl⟩ : ∃ wo, wo = w := ⟨_, rfl⟩
  go_wp2_with fail
  go_loopw [4] (fun p wx => ∃ m : Nat, p = .int .i64 m ∧ m ≤ 8 ∧ Hid (SameD W0 wx ∧ ∀ j, j < m → ¬ s.toList = (D.wl.getD j ByteArray.empty).toList)) (fun p _ => 8 - (RowKit.intOf p).toNat)
  case atStart => exact ⟨0, rfl, Nat.zero_le _, Lib.hid ⟨SameD.refl _, fun j h => by omega⟩⟩
  case round =>
    obtain ⟨m, rfl, hm, HM⟩ := hrel
    obtain rfl : wr = W0 := HM.out.1
    by_cases hlt : m < 8
    · have m1 : (m : Int) < 8 := by omega
      have m0 : (0 : Int) ≤ (m : Int) := Int.natCast_nonneg m
      have c1 := HCell.out m hlt
      have HLT := Lib.hid hlt
      by_cases he : s.toList = (D.wl.getD m ByteArray.empty).toList
      · have HE := Lib.hid (HK.out.trans (D.wrd_at hlt he))
        have HU := Lib.hid (u8_small m hlt)
        generalize D.wl.getD m ByteArray.empty = x at *
        have ee : (x.toList == s.toList) = true := by rw [he, beq_self_eq_true]
        clear he
        go_wp2_with fail
        go_ret
        first
          | exact ⟨by rw [HE.out, Int.natCast_add]; rfl, HB.out⟩
          | exact ⟨by rw [HE.out]; simp only [u8_conv m HLT.out, u8_small m HLT.out], HB.out⟩
      · have HE := Lib.hid he
        generalize D.wl.getD m ByteArray.empty = x at c1 he
        have ee : (x.toList == s.toList) = false := by rw [beq_eq_false_iff_ne]; exact fun h => he h.symm
        clear he
        go_wp2_with fail
        go_roundw
        case rel => exact ⟨m + 1, by go_num, HLT.out, Lib.hid ⟨SameD.refl _, fun j h => by by_cases e : j = m; (· subst e; exact HE.out); (· exact HM.out.2 j (by omega))⟩⟩
        case measure => have := HLT.out; simp [RowKit.intOf]; omega
    · obtain rfl : m = 8 := by omega
      have HE := Lib.hid (HK.out.trans (D.wrd_none HM.out.2))
      clear hlt hm
      go_wp2_with fail
      go_ret
      exact ⟨by rw [HE.out]; rfl, HB.out⟩
end Ytglanajglhneeaa
end Go.Proofs
