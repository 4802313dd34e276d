/- Of relex: joined. Conditions: lists that are not too long. -/
import Derived.Test.YtglanajglhneeaaMX39
namespace Go.Proofs
open Go Go.RowKit Go.Lib
namespace Ytglanajglhneeaa
set_option maxHeartbeats 4000000 in
set_option maxRecDepth 100000 in
theorem joined_any (va vb vc : Value) (xa xb xc : List TkI) (w : World) (ha : RdT w va xa) (hb : RdT w vb xb) (hc : RdT w vc xc) (l1 : xa.length ≤ 20000) (l2 : xb.length ≤ 20000) (l3 : xc.length ≤ 20000) : Calls Try.prog 38 #[va, vb, vc] w (fun e w' => ∃ v, e = .returned v ∧ RdT w' v (xa ++ xb ++ xc) ∧ Below w.heap.size w w') := by
  have HRa := Lib.hid ha
  have HRb := Lib.hid hb
  have HRc := Lib.hid hc
  have HOk := Lib.hid (show ∀ t ∈ xa ++ xb ++ xc, t.Ok from fun t ht => by
    rcases List.mem_append.1 ht with ht | ht
    · rcases List.mem_append.1 ht with ht | ht
      · obtain ⟨_, _, _, _, _, _, h, _⟩ := ha; exact h t ht
      · obtain ⟨_, _, _, _, _, _, h, _⟩ := hb; exact h t ht
    · obtain ⟨_, _, _, _, _, _, h, _⟩ := hc; exact h t ht)
  obtain ⟨za, ca, rfl, a1, a2, _⟩ := ha
  obtain ⟨zb, cb, rfl, b1, b2, _⟩ := hb
  obtain ⟨zc, cc, rfl, c1, c2, _⟩ := hc
  obtain ⟨i0, hi0, hz0, hz1, hz2⟩ := info_parts infoTok9
  have hsz : (Try.prog.info? 24).map (·.size) = some 3 := by rw [hi0]; exact congrArg some hz1
  obtain ⟨A, hA⟩ : ∃ A, A = tiCells xa := ⟨_, rfl⟩
  obtain ⟨B, hB⟩ : ∃ B, B = tiCells xb := ⟨_, rfl⟩
  obtain ⟨C, hC⟩ : ∃ C, C = tiCells xc := ⟨_, rfl⟩
  have lA : A.length = xa.length * 3 := by rw [hA, tiCells_len]
  have lB : B.length = xb.length * 3 := by rw [hB, tiCells_len]
  have lC : C.length = xc.length * 3 := by rw [hC, tiCells_len]
  have HA := Lib.hid (And.intro hA (And.intro lA (show ∀ v ∈ A, v.oneCell' = true by rw [hA]; exact tiCells_one xa)))
  have HB := Lib.hid (And.intro hB (And.intro lB (show ∀ v ∈ B, v.oneCell' = true by rw [hB]; exact tiCells_one xb)))
  have HC := Lib.hid (And.intro hC (And.intro lC (show ∀ v ∈ C, v.oneCell' = true by rw [hC]; exact tiCells_one xc)))
  have HSa := Lib.hid (fun W (hW : Below w.heap.size w W) (h : 0 < xa.length) => (show ∃ ad, za = some ad ∧ ∀ (j : Nat) (v : Value), A[j]? = some v → W.cell? (ad.add j) = some v by rw [hA]; exact rd_src (HRa.out.below hW) h))
  have HSb := Lib.hid (fun W (hW : Below w.heap.size w W) (h : 0 < xb.length) => (show ∃ ad, zb = some ad ∧ ∀ (j : Nat) (v : Value), B[j]? = some v → W.cell? (ad.add j) = some v by rw [hB]; exact rd_src (HRb.out.below hW) h))
  have HSc := Lib.hid (fun W (hW : Below w.heap.size w W) (h : 0 < xc.length) => (show ∃ ad, zc = some ad ∧ ∀ (j : Nat) (v : Value), C[j]? = some v → W.cell? (ad.add j) = some v by rw [hC]; exact rd_src (HRc.out.below hW) h))
  have HF := Lib.hid (show ∀ W v g ty, v = Value.slice (some ⟨g, 0, none⟩) (xa.length + xb.length + xc.length) (xa.length + xb.length + xc.length) → W.heap[g]? = some (.cells (A ++ B ++ C).toArray ty (0, 0)) → RdT W v (xa ++ xb ++ xc) from fun W v g ty e h => by
    rw [hA, hB, hC, ← tiCells_app, ← tiCells_app] at h
    have := rdT_cells h (by rw [List.length_append, List.length_append]; omega) HOk.out
    rwa [List.length_append, List.length_append, ← e] at this)
  obtain ⟨M, hM⟩ : ∃ M, M = madeCells (Value.agg #[.int .u8 0, .int .i64 0, .int .i64 0]).cells (((xa.length : Int) + (xb.length : Int) + (xc.length : Int)).toNat * i0.size) := ⟨_, rfl⟩
  have hN : ((xa.length : Int) + (xb.length : Int) + (xc.length : Int)).toNat = xa.length + xb.length + xc.length := by omega
  have hMs : M.toList.length = A.length + B.length + C.length := by rw [Array.length_toList, hM, size_madeCells, hz1, hN, lA, lB, lC]; omega
  have hmk : ∀ W : World, (Instr.makeSlice 35 (.int .i64 ((xa.length : Int) + (xb.length : Int) + (xc.length : Int))) (.int .i64 ((xa.length : Int) + (xb.length : Int) + (xc.length : Int)))).run Try.prog W = .ok (.slice (some ⟨W.heap.size, 0, none⟩) (xa.length + xb.length + xc.length) (xa.length + xb.length + xc.length)) (W.alloc (.cells M 24)) := fun W => by
    have h := run_make (P := Try.prog) W 35 24 i0 _ Try.underlying35 hi0 hz0 .i64 .i64 ((xa.length : Int) + (xb.length : Int) + (xc.length : Int)) ((xa.length : Int) + (xb.length : Int) + (xc.length : Int)) (by omega) (by omega) (by rw [hz2]; omega) (by omega)
    rw [← hM, hN] at h
    exact h
  have HM := Lib.hid (And.intro hMs (show (w.alloc (.cells M 24)).heap[w.heap.size]? = some (.cells M.toList.toArray 24 (0, 0)) from heap_alloc_new w _))
  have HB0 := Lib.hid ((Below.refl w.heap.size w).alloc (Nat.le_refl _) (.cells M 24))
  generalize hna : xa.length = na at *
  generalize hnb : xb.length = nb at *
  generalize hnc : xc.length = nc at *
  clear hM hMs hN hi0 hz0 hz1 hz2 hA hB hC lA lB lC HOk hna hnb hnc
  have m1 : (na : Int) ≤ (na : Int) + (nb : Int) + (nc : Int) := by omega
  go_enter Try.func38, Try.ntmps38
  go_upto_region 2 with fail
  clear hmk
  have HK := Lib.hid (show splice (splice (splice M.toList 0 A) (na * 3) B) ((na + nb) * 3) C = A ++ B ++ C ∧ (splice M.toList 0 A).length = na * 3 + nb * 3 + nc * 3 ∧ (splice (splice M.toList 0 A) (na * 3) B).length = na * 3 + nb * 3 + nc * 3 from by
    have h0 := HM.out.1
    have h1 := HA.out.2.1
    have h2 := HB.out.2.1
    have h3 := HC.out.2.1
    have h := splice_three M.toList A B C h0
    have e1 : (splice M.toList 0 A).length = M.toList.length := length_splice _ _ _ (by omega)
    have e2 : (splice (splice M.toList 0 A) (na * 3) B).length = (splice M.toList 0 A).length := length_splice _ _ _ (by omega)
    rw [h1, h2, show na * 3 + nb * 3 = (na + nb) * 3 by omega] at h
    exact ⟨h, by omega, by omega⟩)
  by_cases q1 : na + nb + nc = na
  · go_wp2_with (first
      | (refine wpList_copy_spliceN rfl (.tmp 18) (.tmp 19) 35 35 rfl 24 3 (by decide) Try.underlying35 hsz _ _ _ _ _ _ rfl rfl w.heap.size 0 na M.toList 24 HM.out.2 A (by show min _ _ = _; omega) HA.out.2.1 (fun h => ⟨rfl, HSa.out _ HB0.out h⟩) (by rw [HM.out.1]; omega) HA.out.2.2 w.heap.size w HB0.out (Nat.le_refl _) ?_; intro w2 HG2 hB2; have HB2 := Lib.hid hB2; clear hB2)
      | (refine wpList_copy_spliceN rfl (.tmp 24) (.tmp 25) 35 35 rfl 24 3 (by decide) Try.underlying35 hsz _ _ _ _ _ _ rfl rfl w.heap.size (na * 3) nb (splice M.toList 0 A) 24 HG2.out B (by show min _ _ = _; omega) HB.out.2.1 (fun h => ⟨by first | rfl | (exfalso; omega), HSb.out _ HB2.out h⟩) (by rw [HK.out.2.1, HB.out.2.1]; omega) HB.out.2.2 w.heap.size w HB2.out (Nat.le_refl _) ?_; intro w3 HG3 hB3; have HB3 := Lib.hid hB3; clear hB3)
      | (refine wpList_copy_spliceN rfl (.tmp 30) (.tmp 31) 35 35 rfl 24 3 (by decide) Try.underlying35 hsz _ _ _ _ _ _ rfl rfl w.heap.size ((na + nb) * 3) nc (splice (splice M.toList 0 A) (na * 3) B) 24 HG3.out C (by show min _ _ = _; omega) HC.out.2.1 (fun h => ⟨by first | rfl | (exfalso; omega), HSc.out _ HB3.out h⟩) (by rw [HK.out.2.2, HC.out.2.1]; omega) HC.out.2.2 w.heap.size w HB3.out (Nat.le_refl _) ?_; intro w4 HG4 hB4; have HB4 := Lib.hid hB4; clear hB4))
    go_ret
    exact ⟨_, rfl, HF.out _ _ _ _ (by first | rfl | (show Value.slice _ _ _ = _; congr 1 <;> omega)) (by rw [← HK.out.1]; exact HG4.out), HB4.out⟩
  by_cases q2 : na + nb + nc = na + nb
  · go_wp2_with (first
      | (refine wpList_copy_spliceN rfl (.tmp 18) (.tmp 19) 35 35 rfl 24 3 (by decide) Try.underlying35 hsz _ _ _ _ _ _ rfl rfl w.heap.size 0 na M.toList 24 HM.out.2 A (by show min _ _ = _; omega) HA.out.2.1 (fun h => ⟨rfl, HSa.out _ HB0.out h⟩) (by rw [HM.out.1]; omega) HA.out.2.2 w.heap.size w HB0.out (Nat.le_refl _) ?_; intro w2 HG2 hB2; have HB2 := Lib.hid hB2; clear hB2)
      | (refine wpList_copy_spliceN rfl (.tmp 24) (.tmp 25) 35 35 rfl 24 3 (by decide) Try.underlying35 hsz _ _ _ _ _ _ rfl rfl w.heap.size (na * 3) nb (splice M.toList 0 A) 24 HG2.out B (by show min _ _ = _; omega) HB.out.2.1 (fun h => ⟨by first | rfl | (exfalso; omega), HSb.out _ HB2.out h⟩) (by rw [HK.out.2.1, HB.out.2.1]; omega) HB.out.2.2 w.heap.size w HB2.out (Nat.le_refl _) ?_; intro w3 HG3 hB3; have HB3 := Lib.hid hB3; clear hB3)
      | (refine wpList_copy_spliceN rfl (.tmp 30) (.tmp 31) 35 35 rfl 24 3 (by decide) Try.underlying35 hsz _ _ _ _ _ _ rfl rfl w.heap.size ((na + nb) * 3) nc (splice (splice M.toList 0 A) (na * 3) B) 24 HG3.out C (by show min _ _ = _; omega) HC.out.2.1 (fun h => ⟨by first | rfl | (exfalso; omega), HSc.out _ HB3.out h⟩) (by rw [HK.out.2.2, HC.out.2.1]; omega) HC.out.2.2 w.heap.size w HB3.out (Nat.le_refl _) ?_; intro w4 HG4 hB4; have HB4 := Lib.hid hB4; clear hB4))
    go_ret
    exact ⟨_, rfl, HF.out _ _ _ _ (by first | rfl | (show Value.slice _ _ _ = _; congr 1 <;> omega)) (by rw [← HK.out.1]; exact HG4.out), HB4.out⟩
  · go_wp2_with (first
      | (refine wpList_copy_spliceN rfl (.tmp 18) (.tmp 19) 35 35 rfl 24 3 (by decide) Try.underlying35 hsz _ _ _ _ _ _ rfl rfl w.heap.size 0 na M.toList 24 HM.out.2 A (by show min _ _ = _; omega) HA.out.2.1 (fun h => ⟨rfl, HSa.out _ HB0.out h⟩) (by rw [HM.out.1]; omega) HA.out.2.2 w.heap.size w HB0.out (Nat.le_refl _) ?_; intro w2 HG2 hB2; have HB2 := Lib.hid hB2; clear hB2)
      | (refine wpList_copy_spliceN rfl (.tmp 24) (.tmp 25) 35 35 rfl 24 3 (by decide) Try.underlying35 hsz _ _ _ _ _ _ rfl rfl w.heap.size (na * 3) nb (splice M.toList 0 A) 24 HG2.out B (by show min _ _ = _; omega) HB.out.2.1 (fun h => ⟨by first | rfl | (exfalso; omega), HSb.out _ HB2.out h⟩) (by rw [HK.out.2.1, HB.out.2.1]; omega) HB.out.2.2 w.heap.size w HB2.out (Nat.le_refl _) ?_; intro w3 HG3 hB3; have HB3 := Lib.hid hB3; clear hB3)
      | (refine wpList_copy_spliceN rfl (.tmp 30) (.tmp 31) 35 35 rfl 24 3 (by decide) Try.underlying35 hsz _ _ _ _ _ _ rfl rfl w.heap.size ((na + nb) * 3) nc (splice (splice M.toList 0 A) (na * 3) B) 24 HG3.out C (by show min _ _ = _; omega) HC.out.2.1 (fun h => ⟨by first | rfl | (exfalso; omega), HSc.out _ HB3.out h⟩) (by rw [HK.out.2.2, HC.out.2.1]; omega) HC.out.2.2 w.heap.size w HB3.out (Nat.le_refl _) ?_; intro w4 HG4 hB4; have HB4 := Lib.hid hB4; clear hB4))
    go_ret
    exact ⟨_, rfl, HF.out _ _ _ _ (by first | rfl | (show Value.slice _ _ _ = _; congr 1 <;> omega)) (by rw [← HK.out.1]; exact HG4.out), HB4.out⟩
end Ytglanajglhneeaa
end Go.Proofs
