/- Edits that are the same. Conditions: none. -/
import Derived.Test.YtjeopabnddekgaaEdRefA
namespace Go.Proofs.Ytjeopabnddekgaa
open Go Go.RowKit Go.Lib

set_option maxHeartbeats 4000000 in
set_option maxRecDepth 100000 in
theorem refSameE_any (u v : Value) (l : List EdE) (w : World) (hu : RdEd w u l) (hv : RdEd w v l) : Calls Try.prog 6 #[u, v] w (EdBool true w) := by
  obtain ⟨z1, k1, rfl, hln, hr1⟩ := hu
  obtain ⟨z2, k2, rfl, _, hr2⟩ := hv
  have HR1 := Lib.hid hr1
  have HR2 := Lib.hid hr2
  clear hr1 hr2
  go_enter Try.func6, Try.ntmps6
  go_wp2_with fail
  go_loopw [5] (fun p wr => ∃ (i q : Nat), p = .int .i64 (i : Int) ∧ i ≤ l.length ∧ wr = w.drewN q) (fun p _ => l.length - (RowKit.intOf p).toNat)
  case atStart => exact ⟨0, 0, rfl, Nat.zero_le _, rfl⟩
  case round =>
    obtain ⟨i, q, rfl, hi, rfl⟩ := hrel
    by_cases hlt : i < l.length
    · obtain ⟨e, hj⟩ : ∃ e, l[i]? = some e := ⟨_, List.getElem?_eq_getElem hlt⟩
      obtain ⟨b, o, rfl, _, c0, c1, c2⟩ := HR1.out i e hj
      obtain ⟨b2, o2, rfl, _, d0, d1, d2⟩ := HR2.out i e hj
      have c0' : (w.drewN q).cell? ⟨b, o + i * 3, none⟩ = _ := c0
      have c1' : (w.drewN q).cell? ⟨b, o + i * 3 + 1, none⟩ = _ := c1
      have c2' : (w.drewN q).cell? ⟨b, o + i * 3 + 2, none⟩ = _ := c2
      have d0' : (w.drewN q).cell? ⟨b2, o2 + i * 3, none⟩ = _ := d0
      have d1' : (w.drewN q).cell? ⟨b2, o2 + i * 3 + 1, none⟩ = _ := d1
      have d2' : (w.drewN q).cell? ⟨b2, o2 + i * 3 + 2, none⟩ = _ := d2
      have HL := Lib.hid hlt
      have i1 : (0 : Int) ≤ (i : Int) := Int.natCast_nonneg i
      have i2 : (i : Int) < (l.length : Int) := by omega
      have i4 : (i : Int) ≤ 10000000000000 := by omega
      clear hj hi hlt
      go_upto_region 6 with fail
      go_quiet (fail)
      go_wp2_with fail
      go_roundw
      case rel => exact ⟨i + 1, _, by go_num, by have := HL.out; omega, rfl⟩
      case measure => have := HL.out; simp [RowKit.intOf]; omega
    · have ha : ¬ (i : Int) < (l.length : Int) := by omega
      go_wp2_with fail
      go_ret
      exact ⟨rfl, below_drewN (Below.refl _ _) q⟩
end Go.Proofs.Ytjeopabnddekgaa
