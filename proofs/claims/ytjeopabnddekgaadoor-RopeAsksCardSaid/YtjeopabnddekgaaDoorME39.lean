/- What is spliced in and out again: pure. Conditions: none. -/
import Derived.Test.YtjeopabnddekgaaDoorME38
namespace Go.Proofs.YtjeopabnddekgaaDoor
open Go Go.RowKit Go.Lib

theorem may_split {x : ByteArray} (hv : U.valid x = true) {f k : Int} (h : mayR x f k = true) : ∃ u m v : ByteArray, x = u ++ m ++ v ∧ f = (u.size : Int) ∧ k = (u.size : Int) + (m.size : Int) ∧ U.valid u = true ∧ U.valid m = true ∧ U.valid v = true := by
  obtain ⟨a, b, rfl, rfl, hab, hb, ha, hbb⟩ := mayR_spec h
  have p1 := may_parts hv (by omega) ha
  have p2 := may_parts hv hb hbb
  have e1 : x.extract 0 b = x.extract 0 a ++ x.extract a b := by
    rw [ByteArray.extract_append_extract]
    congr 1 <;> omega
  have e2 : x.extract 0 b ++ x.extract b x.size = x := ext_parts x b hb
  refine ⟨x.extract 0 a, x.extract a b, x.extract b x.size, ?_, ?_, ?_, p1.1, ?_, p2.2⟩
  · rw [← e1, e2]
  · rw [ByteArray.size_extract]; omega
  · rw [ByteArray.size_extract, ByteArray.size_extract]; omega
  · have := p2.1
    rw [e1, U.valid_app _ _ p1.1] at this
    exact this
theorem may_seams (u m v : ByteArray) (hm : U.valid m = true) (hv : U.valid v = true) : mayR (u ++ m ++ v) (u.size : Int) ((u.size : Int) + (m.size : Int)) = true := by
  have hz : (u ++ m).size = u.size + m.size := U.app_size u m
  have h1 : U.bga (u ++ m ++ v) (u.size : Int) = u.size := by
    rw [ByteArray.append_assoc]
    exact U.bga_seam u (m ++ v) (by rw [U.valid_app _ _ hm]; exact hv)
  have h2 : U.bga (u ++ m ++ v) ((u.size : Int) + (m.size : Int)) = u.size + m.size := by
    have := U.bga_seam (u ++ m) v hv
    rw [hz, Int.natCast_add] at this
    exact this
  unfold mayR
  rw [h1, h2]
  simp
  omega
theorem spT_mid (u m v s : ByteArray) : spT (u ++ m ++ v) (u.size : Int) ((u.size : Int) + (m.size : Int)) s = u ++ s ++ v := by
  have hz : (u ++ m).size = u.size + m.size := U.app_size u m
  have hz2 : (u ++ m ++ v).size = (u ++ m).size + v.size := U.app_size (u ++ m) v
  unfold spT
  rw [show ((u.size : Int)).toNat = u.size by omega, show ((u.size : Int) + (m.size : Int)).toNat = (u ++ m).size by omega]
  rw [show (u ++ m ++ v).extract (u ++ m).size (u ++ m ++ v).size = v from ByteArray.extract_append_eq_right rfl (by omega)]
  rw [show (u ++ m ++ v).extract 0 u.size = u by rw [ByteArray.append_assoc]; exact ByteArray.extract_append_eq_left rfl]
theorem spE_mid (u m v s : ByteArray) (hm : U.valid m = true) (hv : U.valid v = true) : spE (u ++ m ++ v) (u.size : Int) ((u.size : Int) + (m.size : Int)) s = if U.valid s = true then (if 16384 < u.size + v.size + s.size then 3 else 0) else 10 := by
  have hz : (u ++ m).size = u.size + m.size := U.app_size u m
  have hz2 : (u ++ m ++ v).size = (u ++ m).size + v.size := U.app_size (u ++ m) v
  unfold spE
  rw [if_pos (may_seams u m v hm hv)]
  by_cases hs : U.valid s = true
  · rw [if_pos hs, if_pos hs]
    by_cases h : 16384 < u.size + v.size + s.size
    · rw [if_pos h, if_pos (by omega)]
    · rw [if_neg h, if_neg (by omega)]
  · rw [if_neg hs, if_neg hs]
theorem sp_ok {x s : ByteArray} {f k : Int} (h : spE x f k s = 0) : mayR x f k = true ∧ U.valid s = true ∧ (s.size : Int) ≤ 16384 - ((x.size : Int) - (k - f)) := by
  unfold spE at h
  by_cases hm : mayR x f k = true
  · rw [if_pos hm] at h
    by_cases hs : U.valid s = true
    · rw [if_pos hs] at h
      by_cases hl : 16384 - ((x.size : Int) - (k - f)) < (s.size : Int)
      · rw [if_pos hl] at h; cases h
      · exact ⟨hm, hs, by omega⟩
    · rw [if_neg hs] at h; cases h
  · rw [if_neg hm] at h; cases h
/-- what was spliced in is spliced out -/
theorem sp_back {x s : ByteArray} {f k : Int} (hx : U.valid x = true) (hz : x.size ≤ 16384) (h : spE x f k s = 0) :
    ((spT x f k s).size : Int) = (x.size : Int) - ((x.extract f.toNat k.toNat).size : Int) + (s.size : Int) ∧ spE (spT x f k s) f (f + (s.size : Int)) (x.extract f.toNat k.toNat) = 0 ∧ spT (spT x f k s) f (f + (s.size : Int)) (x.extract f.toNat k.toNat) = x ∧ (spT x f k s).size ≤ 16384 := by
  obtain ⟨h1, h2, h3⟩ := sp_ok h
  obtain ⟨u, m, v, rfl, rfl, rfl, vu, vm, vv⟩ := may_split hx h1
  have z1 : (u ++ m).size = u.size + m.size := U.app_size u m
  have z2 : (u ++ m ++ v).size = (u ++ m).size + v.size := U.app_size (u ++ m) v
  have z3 : (u ++ s).size = u.size + s.size := U.app_size u s
  have z4 : (u ++ s ++ v).size = (u ++ s).size + v.size := U.app_size (u ++ s) v
  have hm : (u ++ m ++ v).extract ((u.size : Int)).toNat ((u.size : Int) + (m.size : Int)).toNat = m := by
    rw [show ((u.size : Int)).toNat = u.size by omega, show ((u.size : Int) + (m.size : Int)).toNat = u.size + m.size by omega]
    have e := ext_parts (u ++ m ++ v) (u.size + m.size) (by omega)
    rw [ByteArray.append_assoc]
    have e1 : (u ++ (m ++ v)).extract (u.size + 0) (u.size + m.size) = (m ++ v).extract 0 m.size := ByteArray.extract_append_size_add
    rw [Nat.add_zero] at e1
    rw [e1]
    exact ByteArray.extract_append_eq_left rfl
  rw [hm, spT_mid]
  refine ⟨by omega, ?_, spT_mid u s v m, by omega⟩
  rw [spE_mid u s v m h2 vv, if_pos vm, if_neg (by omega)]
/-- in two pieces as in one -/
theorem sp_two {x s : ByteArray} {f k : Int} {a : Nat} (hx : U.valid x = true) (ha : a ≤ s.size) (h : spE x f k s = 0) (h1 : spE x f k (s.extract 0 a) = 0) :
    spE (spT x f k (s.extract 0 a)) (f + (a : Int)) (f + (a : Int)) (s.extract a s.size) = 0 ∧ spT (spT x f k (s.extract 0 a)) (f + (a : Int)) (f + (a : Int)) (s.extract a s.size) = spT x f k s := by
  obtain ⟨g1, g2, g3⟩ := sp_ok h
  obtain ⟨k1, k2, k3⟩ := sp_ok h1
  obtain ⟨u, m, v, rfl, rfl, rfl, vu, vm, vv⟩ := may_split hx g1
  have es : s.extract 0 a ++ s.extract a s.size = s := ext_parts s a ha
  have hs1 : (s.extract 0 a).size = a := by rw [ByteArray.size_extract]; omega
  have hs2 : (s.extract a s.size).size = s.size - a := by rw [ByteArray.size_extract]; omega
  have v2 : U.valid (s.extract a s.size) = true := by
    rw [← es, U.valid_app _ _ k2] at g2
    exact g2
  generalize s.extract 0 a = s1 at *
  generalize s.extract a s.size = s2 at *
  subst es
  have z1 : (u ++ m).size = u.size + m.size := U.app_size u m
  have z2 : (u ++ m ++ v).size = (u ++ m).size + v.size := U.app_size (u ++ m) v
  have z3 : (u ++ s1).size = u.size + s1.size := U.app_size u s1
  have z5 : (s1 ++ s2).size = s1.size + s2.size := U.app_size s1 s2
  rw [spT_mid, spT_mid]
  have ev : u ++ s1 ++ v = (u ++ s1) ++ ByteArray.empty ++ v := by rw [ByteArray.append_empty]
  have e0 : ByteArray.empty.size = 0 := rfl
  have ef : (u.size : Int) + (a : Int) = ((u ++ s1).size : Int) := by omega
  have ek : ((u ++ s1).size : Int) = ((u ++ s1).size : Int) + (ByteArray.empty.size : Int) := by omega
  rw [ev, ef]
  refine ⟨?_, ?_⟩
  · rw [show spE (u ++ s1 ++ ByteArray.empty ++ v) ((u ++ s1).size : Int) ((u ++ s1).size : Int) s2 = spE (u ++ s1 ++ ByteArray.empty ++ v) ((u ++ s1).size : Int) (((u ++ s1).size : Int) + (ByteArray.empty.size : Int)) s2 by rw [← ek]]
    rw [spE_mid (u ++ s1) ByteArray.empty v s2 (U.valid_none _ rfl) vv, if_pos v2, if_neg (by omega)]
  · rw [show spT (u ++ s1 ++ ByteArray.empty ++ v) ((u ++ s1).size : Int) ((u ++ s1).size : Int) s2 = spT (u ++ s1 ++ ByteArray.empty ++ v) ((u ++ s1).size : Int) (((u ++ s1).size : Int) + (ByteArray.empty.size : Int)) s2 by rw [← ek]]
    rw [spT_mid]; simp only [ByteArray.append_assoc]
theorem newE_ok {s : ByteArray} (h : newE s = 0) : s.size ≤ 16384 := by
  unfold newE at h
  by_cases h1 : 16384 < s.size
  · rw [if_pos h1] at h; cases h
  · omega
theorem spT_le {x s : ByteArray} {f k : Int} (hx : U.valid x = true) (hz : x.size ≤ 16384) (h : spE x f k s = 0) : (spT x f k s).size ≤ 16384 := (sp_back hx hz h).2.2.2
theorem at_is (n : Int) (m : Nat) (hm : m ≤ 20000) : ∃ q : Nat, q ≤ m ∧ wrap64 ((IntKind.u64.wrap n).tmod ((m : Int) + 1)) = (q : Int) := by
  have h0 : 0 ≤ IntKind.u64.wrap n := Int.emod_nonneg _ (by decide)
  have e : (IntKind.u64.wrap n).tmod ((m : Int) + 1) = (IntKind.u64.wrap n) % ((m : Int) + 1) := Int.tmod_eq_emod_of_nonneg h0
  have l1 : 0 ≤ (IntKind.u64.wrap n) % ((m : Int) + 1) := Int.emod_nonneg _ (by omega)
  have l2 : (IntKind.u64.wrap n) % ((m : Int) + 1) < (m : Int) + 1 := Int.emod_lt_of_pos _ (by omega)
  rw [e]
  generalize (IntKind.u64.wrap n) % ((m : Int) + 1) = r at *
  refine ⟨r.toNat, by omega, ?_⟩
  rw [Int.toNat_of_nonneg l1]
  unfold wrap64
  omega
end Go.Proofs.YtjeopabnddekgaaDoor
