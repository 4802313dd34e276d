/- The document's own reader of JSON: a value that is a number, or none. Conditions: a string of at most 2^18 bytes. -/
import Derived.Test.YtbdpghmpdghnbaaDoorMJ42
namespace Go.Proofs.YtbdpghmpdghnbaaDoor
open Go Go.RowKit Go.Lib
theorem RV.drew {r : VR} {s : ByteArray} {B : Nat} {w W : World} {en : Ending} (h : RV r s B w en W) : RV r s B w en W.drew := by
  obtain ⟨k, x, l, f, v, u, h1, h2, h3, h4, h5, h6, h7⟩ := h
  have hb := (Below.refl W.heap.size W).drew
  exact ⟨k, x, l, f, v, u, h1, h2.below hb, h3.below hb, h4, h5.same (hb.block B h5.lt), grown_trans h6 (grow_below hb _), h7⟩
set_option maxRecDepth 100000 in
set_option maxHeartbeats 4000000 in
theorem valR_number (s : ByteArray) (B q e dp : Nat) (w : World) (hs : s.size ≤ 262144) (hdp : dp ≤ 65) (hq : q ≤ s.size) (h : St s q e B w) (n110 : J.is s q e 110 = false) (n116 : J.is s q e 116 = false) (n102 : J.is s q e 102 = false) (n34 : J.is s q e 34 = false) (n91 : J.is s q e 91 = false) (n123 : J.is s q e 123 = false) (r : VR) (hr : r.2 = J.nm s q e) (hr1 : r.2.2 = 0 → r.1 = (3, s.extract q (J.nm s q e).1, .nil, .nil)) :
    Calls Tryd.prog 9 #[.pointer (some ⟨B, 0, none⟩), .int .i64 (dp : Int)] w (RV r s B w) := by
  have hi110 : ∀ W, St s q e B W → Calls Tryd.prog 13 #[.pointer (some ⟨B, 0, none⟩), .int .u8 110] W (QuietR false W) := fun W hW => by have := is_any s q e 110 B W (by omega) hW; rw [n110] at this; exact this
  have hi116 : ∀ W, St s q e B W → Calls Tryd.prog 13 #[.pointer (some ⟨B, 0, none⟩), .int .u8 116] W (QuietR false W) := fun W hW => by have := is_any s q e 116 B W (by omega) hW; rw [n116] at this; exact this
  have hi102 : ∀ W, St s q e B W → Calls Tryd.prog 13 #[.pointer (some ⟨B, 0, none⟩), .int .u8 102] W (QuietR false W) := fun W hW => by have := is_any s q e 102 B W (by omega) hW; rw [n102] at this; exact this
  have hi34 : ∀ W, St s q e B W → Calls Tryd.prog 13 #[.pointer (some ⟨B, 0, none⟩), .int .u8 34] W (QuietR false W) := fun W hW => by have := is_any s q e 34 B W (by omega) hW; rw [n34] at this; exact this
  have hi91 : ∀ W, St s q e B W → Calls Tryd.prog 13 #[.pointer (some ⟨B, 0, none⟩), .int .u8 91] W (QuietR false W) := fun W hW => by have := is_any s q e 91 B W (by omega) hW; rw [n91] at this; exact this
  have hi123 : ∀ W, St s q e B W → Calls Tryd.prog 13 #[.pointer (some ⟨B, 0, none⟩), .int .u8 123] W (QuietR false W) := fun W hW => by have := is_any s q e 123 B W (by omega) hW; rw [n123] at this; exact this
  have hnm := J.nm_le (s := s) e hq
  have hnr := fun W hW => numberR_any s q e B W (by omega) hq hW
  have HX := Lib.hid (And.intro hr hr1)
  have HX2 := Lib.hid (show J.nm s q e = ((J.nm s q e).1, (J.nm s q e).2) from rfl)
  clear hr hr1
  generalize (J.nm s q e).1 = q1 at *
  generalize (J.nm s q e).2 = e1 at *
  go_enter Tryd.func9, Tryd.ntmps9
  go_upto_region 1 with fail
  generalize hW1 : w.alloc _ = W0
  have HV0 := Lib.hid (show VB s B w.heap.size q e w W0 by rw [← hW1]; exact ⟨heap_alloc_new w _, h.alloc _, World.grownBy_alloc _ _ _⟩)
  clear hW1
  obtain ⟨n0, hnw⟩ : ∃ n, w.heap.size = n := ⟨_, rfl⟩
  have hBn : B < n0 := by have := h.lt; omega
  rw [hnw] at HV0 ⊢
  go_wp2_with fail
  refine (hi110 _ HV0.out.st).mono ?_
  rintro en w1 ⟨rfl, j1, rfl⟩
  have HV1 := Lib.hid (HV0.out.drew hBn j1)
  clear HV0
  generalize W0.drewN j1 = W1 at *
  go_wp2_with fail
  refine (hi116 _ HV1.out.st).mono ?_
  rintro en w2 ⟨rfl, j2, rfl⟩
  have HV2 := Lib.hid (HV1.out.drew hBn j2)
  clear HV1
  generalize W1.drewN j2 = W2 at *
  go_wp2_with fail
  refine (hi102 _ HV2.out.st).mono ?_
  rintro en w3 ⟨rfl, j3, rfl⟩
  have HV3 := Lib.hid (HV2.out.drew hBn j3)
  clear HV2
  generalize W2.drewN j3 = W3 at *
  go_wp2_with fail
  refine (hi34 _ HV3.out.st).mono ?_
  rintro en w4 ⟨rfl, j4, rfl⟩
  have HV4 := Lib.hid (HV3.out.drew hBn j4)
  clear HV3
  generalize W3.drewN j4 = W4 at *
  go_wp2_with fail
  refine (hi91 _ HV4.out.st).mono ?_
  rintro en w5 ⟨rfl, j5, rfl⟩
  have HV5 := Lib.hid (HV4.out.drew hBn j5)
  clear HV4
  generalize W4.drewN j5 = W5 at *
  go_wp2_with fail
  refine (hi123 _ HV5.out.st).mono ?_
  rintro en w6 ⟨rfl, j6, rfl⟩
  have HV6 := Lib.hid (HV5.out.drew hBn j6)
  clear HV5
  generalize W5.drewN j6 = W6 at *
  have c1 := HV6.out.st.c1
  go_wp2_with fail
  refine (hnr _ HV6.out.st).mono ?_
  rintro en wa ⟨⟨va, rfl⟩, ha, ga⟩
  have HVa := Lib.hid (HV6.out.step hBn ha ga)
  clear ha ga HV6 c1
  have c0 := HVa.out.st.c0
  have c1 := HVa.out.st.c1
  obtain ⟨z0, z1, z2, z3⟩ := HVa.out.res.box
  have r0 := HVa.out.res.free 0
  have r1 := HVa.out.res.free 1
  have r2 := HVa.out.res.free 2
  have r3 := HVa.out.res.free 3
  have hBlt := HVa.out.st.lt
  have K2 := Lib.hid (fun (W' : World) (h : W'.heap[B]? = wa.heap[B]?) => (show W'.cell? ⟨B, 0, none⟩ = some (.string s) ∧ W'.cell? ⟨B, 1, none⟩ = some (.int .i64 q1) from ⟨(cell_heap 0 h).trans c0, (cell_heap 1 h).trans c1⟩))
  have hset := set4_else wa n0 (.int .u8 3) (.string (s.extract q q1)) (.slice none 0 0) (.slice none 0 0) B (by omega)
  have k1 : (q : Int) ≤ (q1 : Int) := by omega
  have k2 : (q1 : Int) ≤ (s.size : Int) := by omega
  have k3 : q ≤ q1 := hnm.1
  have k4 : q1 ≤ s.size := hnm.2
  have k5 : (0 : Int) ≤ (q : Int) := Int.natCast_nonneg _
  have hxs : (s.extract q q1).size ≤ 140737488355328 := by rw [ByteArray.size_extract]; omega
  obtain ⟨b1, b2, b3⟩ := HVa.out.res.all (.int .u8 3) (.string (s.extract q q1)) (.slice none 0 0) (.slice none 0 0)
  obtain ⟨m0, m1, m2, m3⟩ := b1.box
  have HFN := Lib.hid (HVa.out.fin (k := 3) (x := s.extract q q1) (l := .nil) (f := .nil) (r := r) hBn hnw (HS.nil _ _ _) (HS.nil _ _ _) ⟨by decide, hxs, by decide⟩ (HX.out.1.trans HX2.out) (fun h0 => (HX.out.2 h0).symm))
  have b4 := b1.same ((Below.refl _ _).drew.block n0 b1.lt)
  obtain ⟨m4, m5, m6, m7⟩ := b4.box
  clear b1 b2 b3 b4
  go_wp2_with fail
  go_region_held3 (fun w' => w'.cell? ⟨B, 0, none⟩ = some (.string s) ∧ w'.cell? ⟨B, 1, none⟩ = some (.int .i64 q1)) (first | exact K2.out _ rfl | exact K2.out _ ((Below.refl _ _).drew.block B hBlt) | exact K2.out _ (((Below.refl _ _).drew.block B (by simp; exact hBlt)).trans hset) | exact K2.out _ hset) (fail)
  all_goals
    go_wp2_with fail
    first
      | exact bodyPost_ret (v := .agg #[.int .u8 3, .string (s.extract q q1), .slice none 0 0, .slice none 0 0]) (by simp [results, Tryd.results9, go_sem, m4, m5, m6, m7]) rfl HFN.out.drew
      | exact bodyPost_ret (v := .agg #[.int .u8 3, .string (s.extract q q1), .slice none 0 0, .slice none 0 0]) (by simp [results, Tryd.results9, go_sem, m0, m1, m2, m3]) rfl HFN.out
end Go.Proofs.YtbdpghmpdghnbaaDoor
