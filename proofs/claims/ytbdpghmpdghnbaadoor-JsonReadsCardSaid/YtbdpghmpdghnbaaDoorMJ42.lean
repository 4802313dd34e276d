/- The document's own reader of JSON: a value. Conditions: a string of at most 2^18 bytes. -/
import Derived.Test.YtbdpghmpdghnbaaDoorMJ41
namespace Go.Proofs.YtbdpghmpdghnbaaDoor
open Go Go.RowKit Go.Lib
/-- what value keeps: its box, where it stands -/
structure VB (s : ByteArray) (B n0 q e : Nat) (w W : World) : Prop where
  res : Blk4 W n0 25 (.int .u8 0) (.string ⟨#[]⟩) (.slice none 0 0) (.slice none 0 0)
  st : St s q e B W
  grown : w.grownBy W (some B)
theorem VB.step {s : ByteArray} {B n0 q e q' e' : Nat} {w W W' : World} (h : VB s B n0 q e w W) (hB : B < n0) (hs : St s q' e' B W') (g : W.grownBy W' (some B)) : VB s B n0 q' e' w W' :=
  ⟨h.res.same (g.block _ h.res.lt (fun e => by cases e; omega)), hs, grown_trans h.grown g⟩
theorem VB.drew {s : ByteArray} {B n0 q e : Nat} {w W : World} (h : VB s B n0 q e w W) (hB : B < n0) (j : Nat) : VB s B n0 q e w (W.drewN j) := h.step hB (h.st.drewN j) (grownBy_drewN _ _ _)
theorem VB.fin {s : ByteArray} {B n0 q e k : Nat} {x : ByteArray} {a b : Value} {w W : World} {r : VR} {l f : V.T} (h : VB s B n0 q e w W) (hB : B < n0) (hn : w.heap.size = n0) (ha : HS W (fun j => n0 + 1 ≤ j) 0 a l) (hb : HS W (fun j => n0 + 1 ≤ j) 1 b f) (hfit : Fit ⟨#[]⟩ k x)
    (hr : r.2 = (q, e)) (h1 : r.2.2 = 0 → (k, x, l, f) = r.1) :
    RV r s B w (.returned (.agg #[.int .u8 k, .string x, a, b])) ((((W.setCell ⟨n0, 0, none⟩ (.int .u8 k)).setCell ⟨n0, 1, none⟩ (.string x)).setCell ⟨n0, 2, none⟩ a).setCell ⟨n0, 3, none⟩ b) := by
  have g4 := set4_else W n0 (.int .u8 k) (.string x) a b
  have gg := (((grow_set W n0 0 (.int .u8 k)).trans (grow_set _ n0 1 (.string x))).trans (grow_set _ n0 2 a)).trans (grow_set _ n0 3 b)
  refine ⟨k, x, l, f, a, b, rfl, ha.imp (fun j hj _ => by omega) (fun j hj _ => g4 j (by omega)), hb.imp (fun j hj _ => by omega) (fun j hj _ => g4 j (by omega)), hfit, ?_, grow_new2 h.grown gg (by omega), h1⟩
  rw [hr]
  exact h.st.same (g4 B (by omega))
theorem nm_wrong (s : ByteArray) (p : Nat) {e : Nat} (h : ¬ e = 0) : J.nm s p e = (p, e) := by
  unfold J.nm
  rw [J.bp_no (J.is_wrong p 45 h)]
  have e2 : J.n2 s p e = (p, e) := by unfold J.n2; rw [if_neg (by rw [J.is_wrong p 48 h]; decide), J.ds_wrong s p h]
  have e3 : J.n3 s (p, e) = (p, e) := by unfold J.n3; exact if_neg (by rw [J.is_wrong p 46 h]; decide)
  have e4 : J.n4 s (p, e) = (p, e) := by unfold J.n4; exact if_neg (by rw [J.is_wrong p 101 h, J.is_wrong p 69 h]; decide)
  rw [e2, e3, e4]
theorem nis_pk {s : ByteArray} {p c : Nat} (hc : 0 < c) (h : J.is s p 0 c = false) : ¬ J.pk s p = c := by
  intro e
  unfold J.pk at e
  split at e
  · rename_i hp; exact J.of_nis h ⟨rfl, hp, e⟩
  · omega
set_option maxRecDepth 100000 in
set_option maxHeartbeats 4000000 in
theorem valR_null (s : ByteArray) (B m q : Nat) (w : World) (hs : s.size ≤ 262144) (hm : m ≤ 64) (hq : q ≤ s.size) (h : St s q 0 B w)  (y110 : J.is s q 0 110 = true) :
    Calls Tryd.prog 9 #[.pointer (some ⟨B, 0, none⟩), .int .i64 ((65 - m : Nat) : Int)] w (RV ((0, ⟨#[]⟩, .nil, .nil), J.al s wn 4 (q, 0)) s B w) := by
  have hi110 : ∀ W, St s q 0 B W → Calls Tryd.prog 13 #[.pointer (some ⟨B, 0, none⟩), .int .u8 110] W (QuietR true W) := fun W hW => by have := is_any s q 0 110 B W (by omega) hW; rw [y110] at this; exact this
  obtain ⟨dp, hdp⟩ : ∃ d : Nat, 65 - m = d := ⟨_, rfl⟩
  rw [hdp]
  have dp1 : dp ≤ 65 := by omega
  go_enter Tryd.func9, Tryd.ntmps9
  go_upto_region 1 with fail
  generalize hW1 : w.alloc _ = W0
  have HV0 := Lib.hid (show VB s B w.heap.size q 0 w W0 by rw [← hW1]; exact ⟨heap_alloc_new w _, h.alloc _, World.grownBy_alloc _ _ _⟩)
  clear hW1
  obtain ⟨n0, hnw⟩ : ∃ n, w.heap.size = n := ⟨_, rfl⟩
  have hBn : B < n0 := by have := h.lt; omega
  rw [hnw] at HV0 ⊢
  go_wp2_with fail
  refine (hi110 _ HV0.out.st).mono ?_
  rintro en w1 ⟨rfl, j1, rfl⟩
  have HV1 := Lib.hid (HV0.out.drew hBn j1)
  clear HV0
  generalize W0.drewN j1 = W1 at *
  go_wp2_with fail
  refine (all_any s wn q 0 B W1 (by omega) (by decide) hq HV1.out.st).mono ?_
  rintro en wa ⟨⟨va, rfl⟩, ha, ga⟩
  have HVa := Lib.hid (HV1.out.step hBn ha ga)
  clear ha ga HV1
  obtain ⟨z0, z1, z2, z3⟩ := HVa.out.res.box
  have r0 := HVa.out.res.free 0
  have r1 := HVa.out.res.free 1
  have r2 := HVa.out.res.free 2
  have r3 := HVa.out.res.free 3
  obtain ⟨b1, b2, b3⟩ := HVa.out.res.all (.int .u8 0) (.string ⟨#[]⟩) (.slice none 0 0) (.slice none 0 0)
  obtain ⟨m0, m1, m2, m3⟩ := b1.box
  have HFN := Lib.hid (HVa.out.fin (k := 0) (x := ⟨#[]⟩) (l := .nil) (f := .nil) (r := ((0, ⟨#[]⟩, .nil, .nil), J.al s wn 4 (q, 0))) hBn hnw (HS.nil _ _ _) (HS.nil _ _ _) ⟨by decide, by decide, by decide⟩ rfl (fun _ => rfl))
  clear b1 b2 b3
  go_wp2_with fail
  refine bodyPost_ret (v := .agg #[.int .u8 0, .string ⟨#[]⟩, .slice none 0 0, .slice none 0 0]) (by simp [results, Tryd.results9, go_sem, m0, m1, m2, m3]) rfl HFN.out
set_option maxRecDepth 100000 in
set_option maxHeartbeats 4000000 in
theorem valR_true (s : ByteArray) (B m q : Nat) (w : World) (hs : s.size ≤ 262144) (hm : m ≤ 64) (hq : q ≤ s.size) (h : St s q 0 B w) (n110 : J.is s q 0 110 = false) (y116 : J.is s q 0 116 = true) :
    Calls Tryd.prog 9 #[.pointer (some ⟨B, 0, none⟩), .int .i64 ((65 - m : Nat) : Int)] w (RV ((2, ⟨#[]⟩, .nil, .nil), J.al s wt 4 (q, 0)) s B w) := by
  have hi110 : ∀ W, St s q 0 B W → Calls Tryd.prog 13 #[.pointer (some ⟨B, 0, none⟩), .int .u8 110] W (QuietR false W) := fun W hW => by have := is_any s q 0 110 B W (by omega) hW; rw [n110] at this; exact this
  have hi116 : ∀ W, St s q 0 B W → Calls Tryd.prog 13 #[.pointer (some ⟨B, 0, none⟩), .int .u8 116] W (QuietR true W) := fun W hW => by have := is_any s q 0 116 B W (by omega) hW; rw [y116] at this; exact this
  obtain ⟨dp, hdp⟩ : ∃ d : Nat, 65 - m = d := ⟨_, rfl⟩
  rw [hdp]
  have dp1 : dp ≤ 65 := by omega
  go_enter Tryd.func9, Tryd.ntmps9
  go_upto_region 1 with fail
  generalize hW1 : w.alloc _ = W0
  have HV0 := Lib.hid (show VB s B w.heap.size q 0 w W0 by rw [← hW1]; exact ⟨heap_alloc_new w _, h.alloc _, World.grownBy_alloc _ _ _⟩)
  clear hW1
  obtain ⟨n0, hnw⟩ : ∃ n, w.heap.size = n := ⟨_, rfl⟩
  have hBn : B < n0 := by have := h.lt; omega
  rw [hnw] at HV0 ⊢
  go_wp2_with fail
  refine (hi110 _ HV0.out.st).mono ?_
  rintro en w1 ⟨rfl, j1, rfl⟩
  have HV1 := Lib.hid (HV0.out.drew hBn j1)
  clear HV0
  generalize W0.drewN j1 = W1 at *
  go_wp2_with fail
  refine (hi116 _ HV1.out.st).mono ?_
  rintro en w2 ⟨rfl, j2, rfl⟩
  have HV2 := Lib.hid (HV1.out.drew hBn j2)
  clear HV1
  generalize W1.drewN j2 = W2 at *
  go_wp2_with fail
  refine (all_any s wt q 0 B W2 (by omega) (by decide) hq HV2.out.st).mono ?_
  rintro en wa ⟨⟨va, rfl⟩, ha, ga⟩
  have HVa := Lib.hid (HV2.out.step hBn ha ga)
  clear ha ga HV2
  obtain ⟨z0, z1, z2, z3⟩ := HVa.out.res.box
  have r0 := HVa.out.res.free 0
  have r1 := HVa.out.res.free 1
  have r2 := HVa.out.res.free 2
  have r3 := HVa.out.res.free 3
  obtain ⟨b1, b2, b3⟩ := HVa.out.res.all (.int .u8 2) (.string ⟨#[]⟩) (.slice none 0 0) (.slice none 0 0)
  obtain ⟨m0, m1, m2, m3⟩ := b1.box
  have HFN := Lib.hid (HVa.out.fin (k := 2) (x := ⟨#[]⟩) (l := .nil) (f := .nil) (r := ((2, ⟨#[]⟩, .nil, .nil), J.al s wt 4 (q, 0))) hBn hnw (HS.nil _ _ _) (HS.nil _ _ _) ⟨by decide, by decide, by decide⟩ rfl (fun _ => rfl))
  clear b1 b2 b3
  go_wp2_with fail
  refine bodyPost_ret (v := .agg #[.int .u8 2, .string ⟨#[]⟩, .slice none 0 0, .slice none 0 0]) (by simp [results, Tryd.results9, go_sem, m0, m1, m2, m3]) rfl HFN.out
set_option maxRecDepth 100000 in
set_option maxHeartbeats 4000000 in
theorem valR_false (s : ByteArray) (B m q : Nat) (w : World) (hs : s.size ≤ 262144) (hm : m ≤ 64) (hq : q ≤ s.size) (h : St s q 0 B w) (n110 : J.is s q 0 110 = false) (n116 : J.is s q 0 116 = false) (y102 : J.is s q 0 102 = true) :
    Calls Tryd.prog 9 #[.pointer (some ⟨B, 0, none⟩), .int .i64 ((65 - m : Nat) : Int)] w (RV ((1, ⟨#[]⟩, .nil, .nil), J.al s wf 5 (q, 0)) s B w) := by
  have hi110 : ∀ W, St s q 0 B W → Calls Tryd.prog 13 #[.pointer (some ⟨B, 0, none⟩), .int .u8 110] W (QuietR false W) := fun W hW => by have := is_any s q 0 110 B W (by omega) hW; rw [n110] at this; exact this
  have hi116 : ∀ W, St s q 0 B W → Calls Tryd.prog 13 #[.pointer (some ⟨B, 0, none⟩), .int .u8 116] W (QuietR false W) := fun W hW => by have := is_any s q 0 116 B W (by omega) hW; rw [n116] at this; exact this
  have hi102 : ∀ W, St s q 0 B W → Calls Tryd.prog 13 #[.pointer (some ⟨B, 0, none⟩), .int .u8 102] W (QuietR true W) := fun W hW => by have := is_any s q 0 102 B W (by omega) hW; rw [y102] at this; exact this
  obtain ⟨dp, hdp⟩ : ∃ d : Nat, 65 - m = d := ⟨_, rfl⟩
  rw [hdp]
  have dp1 : dp ≤ 65 := by omega
  go_enter Tryd.func9, Tryd.ntmps9
  go_upto_region 1 with fail
  generalize hW1 : w.alloc _ = W0
  have HV0 := Lib.hid (show VB s B w.heap.size q 0 w W0 by rw [← hW1]; exact ⟨heap_alloc_new w _, h.alloc _, World.grownBy_alloc _ _ _⟩)
  clear hW1
  obtain ⟨n0, hnw⟩ : ∃ n, w.heap.size = n := ⟨_, rfl⟩
  have hBn : B < n0 := by have := h.lt; omega
  rw [hnw] at HV0 ⊢
  go_wp2_with fail
  refine (hi110 _ HV0.out.st).mono ?_
  rintro en w1 ⟨rfl, j1, rfl⟩
  have HV1 := Lib.hid (HV0.out.drew hBn j1)
  clear HV0
  generalize W0.drewN j1 = W1 at *
  go_wp2_with fail
  refine (hi116 _ HV1.out.st).mono ?_
  rintro en w2 ⟨rfl, j2, rfl⟩
  have HV2 := Lib.hid (HV1.out.drew hBn j2)
  clear HV1
  generalize W1.drewN j2 = W2 at *
  go_wp2_with fail
  refine (hi102 _ HV2.out.st).mono ?_
  rintro en w3 ⟨rfl, j3, rfl⟩
  have HV3 := Lib.hid (HV2.out.drew hBn j3)
  clear HV2
  generalize W2.drewN j3 = W3 at *
  go_wp2_with fail
  refine (all_any s wf q 0 B W3 (by omega) (by decide) hq HV3.out.st).mono ?_
  rintro en wa ⟨⟨va, rfl⟩, ha, ga⟩
  have HVa := Lib.hid (HV3.out.step hBn ha ga)
  clear ha ga HV3
  obtain ⟨z0, z1, z2, z3⟩ := HVa.out.res.box
  have r0 := HVa.out.res.free 0
  have r1 := HVa.out.res.free 1
  have r2 := HVa.out.res.free 2
  have r3 := HVa.out.res.free 3
  obtain ⟨b1, b2, b3⟩ := HVa.out.res.all (.int .u8 1) (.string ⟨#[]⟩) (.slice none 0 0) (.slice none 0 0)
  obtain ⟨m0, m1, m2, m3⟩ := b1.box
  have HFN := Lib.hid (HVa.out.fin (k := 1) (x := ⟨#[]⟩) (l := .nil) (f := .nil) (r := ((1, ⟨#[]⟩, .nil, .nil), J.al s wf 5 (q, 0))) hBn hnw (HS.nil _ _ _) (HS.nil _ _ _) ⟨by decide, by decide, by decide⟩ rfl (fun _ => rfl))
  clear b1 b2 b3
  go_wp2_with fail
  refine bodyPost_ret (v := .agg #[.int .u8 1, .string ⟨#[]⟩, .slice none 0 0, .slice none 0 0]) (by simp [results, Tryd.results9, go_sem, m0, m1, m2, m3]) rfl HFN.out
set_option maxRecDepth 100000 in
set_option maxHeartbeats 4000000 in
theorem valR_text (s : ByteArray) (B m q : Nat) (w : World) (hs : s.size ≤ 262144) (hm : m ≤ 64) (hq : q ≤ s.size) (h : St s q 0 B w) (n110 : J.is s q 0 110 = false) (n116 : J.is s q 0 116 = false) (n102 : J.is s q 0 102 = false) (y34 : J.is s q 0 34 = true) :
    Calls Tryd.prog 9 #[.pointer (some ⟨B, 0, none⟩), .int .i64 ((65 - m : Nat) : Int)] w (RV ((4, enc (ptw s q).1, .nil, .nil), (ptw s q).2) s B w) := by
  have hi110 : ∀ W, St s q 0 B W → Calls Tryd.prog 13 #[.pointer (some ⟨B, 0, none⟩), .int .u8 110] W (QuietR false W) := fun W hW => by have := is_any s q 0 110 B W (by omega) hW; rw [n110] at this; exact this
  have hi116 : ∀ W, St s q 0 B W → Calls Tryd.prog 13 #[.pointer (some ⟨B, 0, none⟩), .int .u8 116] W (QuietR false W) := fun W hW => by have := is_any s q 0 116 B W (by omega) hW; rw [n116] at this; exact this
  have hi102 : ∀ W, St s q 0 B W → Calls Tryd.prog 13 #[.pointer (some ⟨B, 0, none⟩), .int .u8 102] W (QuietR false W) := fun W hW => by have := is_any s q 0 102 B W (by omega) hW; rw [n102] at this; exact this
  have hi34 : ∀ W, St s q 0 B W → Calls Tryd.prog 13 #[.pointer (some ⟨B, 0, none⟩), .int .u8 34] W (QuietR true W) := fun W hW => by have := is_any s q 0 34 B W (by omega) hW; rw [y34] at this; exact this
  have hts := tw_size s q
  have ht := tw_ptw s q
  have htx : ∀ W, St s q 0 B W → Calls Tryd.prog 15 #[.pointer (some ⟨B, 0, none⟩)] W (fun en w' => en = .returned (.string (J.tw s q).1) ∧ St s (J.tw s q).2.1 (J.tw s q).2.2 B w' ∧ W.grownBy w' (some B)) := fun W hW => textR_any s q B W (by omega) hq hW
  obtain ⟨dp, hdp⟩ : ∃ d : Nat, 65 - m = d := ⟨_, rfl⟩
  rw [hdp]
  have dp1 : dp ≤ 65 := by omega
  have HT := Lib.hid ht
  have HX2 := Lib.hid (show (J.tw s q).2 = ((J.tw s q).2.1, (J.tw s q).2.2) from rfl)
  generalize hx : (J.tw s q).1 = x at *
  generalize (J.tw s q).2.1 = q1 at *
  generalize (J.tw s q).2.2 = e1 at *
  clear ht
  go_enter Tryd.func9, Tryd.ntmps9
  go_upto_region 1 with fail
  generalize hW1 : w.alloc _ = W0
  have HV0 := Lib.hid (show VB s B w.heap.size q 0 w W0 by rw [← hW1]; exact ⟨heap_alloc_new w _, h.alloc _, World.grownBy_alloc _ _ _⟩)
  clear hW1
  obtain ⟨n0, hnw⟩ : ∃ n, w.heap.size = n := ⟨_, rfl⟩
  have hBn : B < n0 := by have := h.lt; omega
  rw [hnw] at HV0 ⊢
  go_wp2_with fail
  refine (hi110 _ HV0.out.st).mono ?_
  rintro en w1 ⟨rfl, j1, rfl⟩
  have HV1 := Lib.hid (HV0.out.drew hBn j1)
  clear HV0
  generalize W0.drewN j1 = W1 at *
  go_wp2_with fail
  refine (hi116 _ HV1.out.st).mono ?_
  rintro en w2 ⟨rfl, j2, rfl⟩
  have HV2 := Lib.hid (HV1.out.drew hBn j2)
  clear HV1
  generalize W1.drewN j2 = W2 at *
  go_wp2_with fail
  refine (hi102 _ HV2.out.st).mono ?_
  rintro en w3 ⟨rfl, j3, rfl⟩
  have HV3 := Lib.hid (HV2.out.drew hBn j3)
  clear HV2
  generalize W2.drewN j3 = W3 at *
  go_wp2_with fail
  refine (hi34 _ HV3.out.st).mono ?_
  rintro en w4 ⟨rfl, j4, rfl⟩
  have HV4 := Lib.hid (HV3.out.drew hBn j4)
  clear HV3
  generalize W3.drewN j4 = W4 at *
  go_wp2_with fail
  refine (htx _ HV4.out.st).mono ?_
  rintro en wa ⟨rfl, ha, ga⟩
  have HVa := Lib.hid (HV4.out.step hBn ha ga)
  clear ha ga HV4
  obtain ⟨z0, z1, z2, z3⟩ := HVa.out.res.box
  have r0 := HVa.out.res.free 0
  have r1 := HVa.out.res.free 1
  have r2 := HVa.out.res.free 2
  have r3 := HVa.out.res.free 3
  obtain ⟨b1, b2, b3⟩ := HVa.out.res.all (.int .u8 4) (.string x) (.slice none 0 0) (.slice none 0 0)
  obtain ⟨m0, m1, m2, m3⟩ := b1.box
  have HFN := Lib.hid (HVa.out.fin (k := 4) (x := x) (l := .nil) (f := .nil) (r := ((4, enc (ptw s q).1, .nil, .nil), (ptw s q).2)) hBn hnw (HS.nil _ _ _) (HS.nil _ _ _) ⟨by decide, by omega, by decide⟩ (HT.out.1.symm.trans HX2.out) (fun h0 => by rw [← HT.out.2 h0]))
  clear b1 b2 b3
  go_wp2_with fail
  refine bodyPost_ret (v := .agg #[.int .u8 4, .string x, .slice none 0 0, .slice none 0 0]) (by simp [results, Tryd.results9, go_sem, m0, m1, m2, m3]) rfl HFN.out
set_option maxRecDepth 100000 in
set_option maxHeartbeats 4000000 in
theorem valR_deepl (s : ByteArray) (B q : Nat) (w : World) (hs : s.size ≤ 262144) (hq : q ≤ s.size) (h : St s q 0 B w) (n110 : J.is s q 0 110 = false) (n116 : J.is s q 0 116 = false) (n102 : J.is s q 0 102 = false) (n34 : J.is s q 0 34 = false) (y91 : J.is s q 0 91 = true) (r : VR) (hr : r.2 = (q, 31)) :
    Calls Tryd.prog 9 #[.pointer (some ⟨B, 0, none⟩), .int .i64 65] w (RV r s B w) := by
  have hi110 : ∀ W, St s q 0 B W → Calls Tryd.prog 13 #[.pointer (some ⟨B, 0, none⟩), .int .u8 110] W (QuietR false W) := fun W hW => by have := is_any s q 0 110 B W (by omega) hW; rw [n110] at this; exact this
  have hi116 : ∀ W, St s q 0 B W → Calls Tryd.prog 13 #[.pointer (some ⟨B, 0, none⟩), .int .u8 116] W (QuietR false W) := fun W hW => by have := is_any s q 0 116 B W (by omega) hW; rw [n116] at this; exact this
  have hi102 : ∀ W, St s q 0 B W → Calls Tryd.prog 13 #[.pointer (some ⟨B, 0, none⟩), .int .u8 102] W (QuietR false W) := fun W hW => by have := is_any s q 0 102 B W (by omega) hW; rw [n102] at this; exact this
  have hi34 : ∀ W, St s q 0 B W → Calls Tryd.prog 13 #[.pointer (some ⟨B, 0, none⟩), .int .u8 34] W (QuietR false W) := fun W hW => by have := is_any s q 0 34 B W (by omega) hW; rw [n34] at this; exact this
  have hi91 : ∀ W, St s q 0 B W → Calls Tryd.prog 13 #[.pointer (some ⟨B, 0, none⟩), .int .u8 91] W (QuietR true W) := fun W hW => by have := is_any s q 0 91 B W (by omega) hW; rw [y91] at this; exact this
  go_enter Tryd.func9, Tryd.ntmps9
  go_upto_region 1 with fail
  generalize hW1 : w.alloc _ = W0
  have HV0 := Lib.hid (show VB s B w.heap.size q 0 w W0 by rw [← hW1]; exact ⟨heap_alloc_new w _, h.alloc _, World.grownBy_alloc _ _ _⟩)
  clear hW1
  obtain ⟨n0, hnw⟩ : ∃ n, w.heap.size = n := ⟨_, rfl⟩
  have hBn : B < n0 := by have := h.lt; omega
  rw [hnw] at HV0 ⊢
  go_wp2_with fail
  refine (hi110 _ HV0.out.st).mono ?_
  rintro en w1 ⟨rfl, j1, rfl⟩
  have HV1 := Lib.hid (HV0.out.drew hBn j1)
  clear HV0
  generalize W0.drewN j1 = W1 at *
  go_wp2_with fail
  refine (hi116 _ HV1.out.st).mono ?_
  rintro en w2 ⟨rfl, j2, rfl⟩
  have HV2 := Lib.hid (HV1.out.drew hBn j2)
  clear HV1
  generalize W1.drewN j2 = W2 at *
  go_wp2_with fail
  refine (hi102 _ HV2.out.st).mono ?_
  rintro en w3 ⟨rfl, j3, rfl⟩
  have HV3 := Lib.hid (HV2.out.drew hBn j3)
  clear HV2
  generalize W2.drewN j3 = W3 at *
  go_wp2_with fail
  refine (hi34 _ HV3.out.st).mono ?_
  rintro en w4 ⟨rfl, j4, rfl⟩
  have HV4 := Lib.hid (HV3.out.drew hBn j4)
  clear HV3
  generalize W3.drewN j4 = W4 at *
  go_wp2_with fail
  refine (hi91 _ HV4.out.st).mono ?_
  rintro en w5 ⟨rfl, j5, rfl⟩
  have HV5 := Lib.hid (HV4.out.drew hBn j5)
  clear HV4
  generalize W4.drewN j5 = W5 at *
  have c2 := HV5.out.st.c2
  have f2 := HV5.out.st.f2
  go_upto_region 15 with fail
  generalize hW9 : World.setCell _ ⟨B, 2, none⟩ _ = W9
  have HVa := Lib.hid (show VB s B n0 q 31 w W9 from HV5.out.step hBn (by rw [← hW9]; exact HV5.out.st.set2 31) (by rw [← hW9]; exact grownBy_set _ _ _ _))
  clear hW9 HV5 c2 f2
  obtain ⟨z0, z1, z2, z3⟩ := HVa.out.res.box
  have r0 := HVa.out.res.free 0
  have r1 := HVa.out.res.free 1
  have r2 := HVa.out.res.free 2
  have r3 := HVa.out.res.free 3
  obtain ⟨b1, b2, b3⟩ := HVa.out.res.all (.int .u8 0) (.string ⟨#[]⟩) (.slice none 0 0) (.slice none 0 0)
  obtain ⟨m0, m1, m2, m3⟩ := b1.box
  have HFN := Lib.hid (HVa.out.fin (k := 0) (x := ⟨#[]⟩) (l := .nil) (f := .nil) (r := r) hBn hnw (HS.nil _ _ _) (HS.nil _ _ _) ⟨by decide, by decide, by decide⟩ hr (fun h0 => by rw [hr] at h0; cases h0))
  clear b1 b2 b3
  go_wp2_with fail
  refine bodyPost_ret (v := .agg #[.int .u8 0, .string ⟨#[]⟩, .slice none 0 0, .slice none 0 0]) (by simp [results, Tryd.results9, go_sem, m0, m1, m2, m3]) rfl HFN.out
set_option maxRecDepth 100000 in
set_option maxHeartbeats 4000000 in
theorem valR_deepo (s : ByteArray) (B q : Nat) (w : World) (hs : s.size ≤ 262144) (hq : q ≤ s.size) (h : St s q 0 B w) (n110 : J.is s q 0 110 = false) (n116 : J.is s q 0 116 = false) (n102 : J.is s q 0 102 = false) (n34 : J.is s q 0 34 = false) (n91 : J.is s q 0 91 = false) (y123 : J.is s q 0 123 = true) (r : VR) (hr : r.2 = (q, 31)) :
    Calls Tryd.prog 9 #[.pointer (some ⟨B, 0, none⟩), .int .i64 65] w (RV r s B w) := by
  have hi110 : ∀ W, St s q 0 B W → Calls Tryd.prog 13 #[.pointer (some ⟨B, 0, none⟩), .int .u8 110] W (QuietR false W) := fun W hW => by have := is_any s q 0 110 B W (by omega) hW; rw [n110] at this; exact this
  have hi116 : ∀ W, St s q 0 B W → Calls Tryd.prog 13 #[.pointer (some ⟨B, 0, none⟩), .int .u8 116] W (QuietR false W) := fun W hW => by have := is_any s q 0 116 B W (by omega) hW; rw [n116] at this; exact this
  have hi102 : ∀ W, St s q 0 B W → Calls Tryd.prog 13 #[.pointer (some ⟨B, 0, none⟩), .int .u8 102] W (QuietR false W) := fun W hW => by have := is_any s q 0 102 B W (by omega) hW; rw [n102] at this; exact this
  have hi34 : ∀ W, St s q 0 B W → Calls Tryd.prog 13 #[.pointer (some ⟨B, 0, none⟩), .int .u8 34] W (QuietR false W) := fun W hW => by have := is_any s q 0 34 B W (by omega) hW; rw [n34] at this; exact this
  have hi91 : ∀ W, St s q 0 B W → Calls Tryd.prog 13 #[.pointer (some ⟨B, 0, none⟩), .int .u8 91] W (QuietR false W) := fun W hW => by have := is_any s q 0 91 B W (by omega) hW; rw [n91] at this; exact this
  have hi123 : ∀ W, St s q 0 B W → Calls Tryd.prog 13 #[.pointer (some ⟨B, 0, none⟩), .int .u8 123] W (QuietR true W) := fun W hW => by have := is_any s q 0 123 B W (by omega) hW; rw [y123] at this; exact this
  go_enter Tryd.func9, Tryd.ntmps9
  go_upto_region 1 with fail
  generalize hW1 : w.alloc _ = W0
  have HV0 := Lib.hid (show VB s B w.heap.size q 0 w W0 by rw [← hW1]; exact ⟨heap_alloc_new w _, h.alloc _, World.grownBy_alloc _ _ _⟩)
  clear hW1
  obtain ⟨n0, hnw⟩ : ∃ n, w.heap.size = n := ⟨_, rfl⟩
  have hBn : B < n0 := by have := h.lt; omega
  rw [hnw] at HV0 ⊢
  go_wp2_with fail
  refine (hi110 _ HV0.out.st).mono ?_
  rintro en w1 ⟨rfl, j1, rfl⟩
  have HV1 := Lib.hid (HV0.out.drew hBn j1)
  clear HV0
  generalize W0.drewN j1 = W1 at *
  go_wp2_with fail
  refine (hi116 _ HV1.out.st).mono ?_
  rintro en w2 ⟨rfl, j2, rfl⟩
  have HV2 := Lib.hid (HV1.out.drew hBn j2)
  clear HV1
  generalize W1.drewN j2 = W2 at *
  go_wp2_with fail
  refine (hi102 _ HV2.out.st).mono ?_
  rintro en w3 ⟨rfl, j3, rfl⟩
  have HV3 := Lib.hid (HV2.out.drew hBn j3)
  clear HV2
  generalize W2.drewN j3 = W3 at *
  go_wp2_with fail
  refine (hi34 _ HV3.out.st).mono ?_
  rintro en w4 ⟨rfl, j4, rfl⟩
  have HV4 := Lib.hid (HV3.out.drew hBn j4)
  clear HV3
  generalize W3.drewN j4 = W4 at *
  go_wp2_with fail
  refine (hi91 _ HV4.out.st).mono ?_
  rintro en w5 ⟨rfl, j5, rfl⟩
  have HV5 := Lib.hid (HV4.out.drew hBn j5)
  clear HV4
  generalize W4.drewN j5 = W5 at *
  go_wp2_with fail
  refine (hi123 _ HV5.out.st).mono ?_
  rintro en w6 ⟨rfl, j6, rfl⟩
  have HV6 := Lib.hid (HV5.out.drew hBn j6)
  clear HV5
  generalize W5.drewN j6 = W6 at *
  have c2 := HV6.out.st.c2
  have f2 := HV6.out.st.f2
  go_upto_region 15 with fail
  generalize hW9 : World.setCell _ ⟨B, 2, none⟩ _ = W9
  have HVa := Lib.hid (show VB s B n0 q 31 w W9 from HV6.out.step hBn (by rw [← hW9]; exact HV6.out.st.set2 31) (by rw [← hW9]; exact grownBy_set _ _ _ _))
  clear hW9 HV6 c2 f2
  obtain ⟨z0, z1, z2, z3⟩ := HVa.out.res.box
  have r0 := HVa.out.res.free 0
  have r1 := HVa.out.res.free 1
  have r2 := HVa.out.res.free 2
  have r3 := HVa.out.res.free 3
  obtain ⟨b1, b2, b3⟩ := HVa.out.res.all (.int .u8 0) (.string ⟨#[]⟩) (.slice none 0 0) (.slice none 0 0)
  obtain ⟨m0, m1, m2, m3⟩ := b1.box
  have HFN := Lib.hid (HVa.out.fin (k := 0) (x := ⟨#[]⟩) (l := .nil) (f := .nil) (r := r) hBn hnw (HS.nil _ _ _) (HS.nil _ _ _) ⟨by decide, by decide, by decide⟩ hr (fun h0 => by rw [hr] at h0; cases h0))
  clear b1 b2 b3
  go_wp2_with fail
  refine bodyPost_ret (v := .agg #[.int .u8 0, .string ⟨#[]⟩, .slice none 0 0, .slice none 0 0]) (by simp [results, Tryd.results9, go_sem, m0, m1, m2, m3]) rfl HFN.out
set_option maxRecDepth 100000 in
set_option maxHeartbeats 4000000 in
theorem valR_list (s : ByteArray) (B q dp : Nat) (w : World) (hs : s.size ≤ 262144) (hdp : dp ≤ 64) (hq : q ≤ s.size) (h : St s q 0 B w) (n110 : J.is s q 0 110 = false) (n116 : J.is s q 0 116 = false) (n102 : J.is s q 0 102 = false) (n34 : J.is s q 0 34 = false) (y91 : J.is s q 0 91 = true) (r : VR) (hr : ∀ W, St s q 0 B W → Calls Tryd.prog 16 #[.pointer (some ⟨B, 0, none⟩), .int .i64 (dp : Int)] W (RV r s B W)) :
    Calls Tryd.prog 9 #[.pointer (some ⟨B, 0, none⟩), .int .i64 (dp : Int)] w (RV r s B w) := by
  have hi110 : ∀ W, St s q 0 B W → Calls Tryd.prog 13 #[.pointer (some ⟨B, 0, none⟩), .int .u8 110] W (QuietR false W) := fun W hW => by have := is_any s q 0 110 B W (by omega) hW; rw [n110] at this; exact this
  have hi116 : ∀ W, St s q 0 B W → Calls Tryd.prog 13 #[.pointer (some ⟨B, 0, none⟩), .int .u8 116] W (QuietR false W) := fun W hW => by have := is_any s q 0 116 B W (by omega) hW; rw [n116] at this; exact this
  have hi102 : ∀ W, St s q 0 B W → Calls Tryd.prog 13 #[.pointer (some ⟨B, 0, none⟩), .int .u8 102] W (QuietR false W) := fun W hW => by have := is_any s q 0 102 B W (by omega) hW; rw [n102] at this; exact this
  have hi34 : ∀ W, St s q 0 B W → Calls Tryd.prog 13 #[.pointer (some ⟨B, 0, none⟩), .int .u8 34] W (QuietR false W) := fun W hW => by have := is_any s q 0 34 B W (by omega) hW; rw [n34] at this; exact this
  have hi91 : ∀ W, St s q 0 B W → Calls Tryd.prog 13 #[.pointer (some ⟨B, 0, none⟩), .int .u8 91] W (QuietR true W) := fun W hW => by have := is_any s q 0 91 B W (by omega) hW; rw [y91] at this; exact this
  go_enter Tryd.func9, Tryd.ntmps9
  go_upto_region 1 with fail
  generalize hW1 : w.alloc _ = W0
  have HV0 := Lib.hid (show VB s B w.heap.size q 0 w W0 by rw [← hW1]; exact ⟨heap_alloc_new w _, h.alloc _, World.grownBy_alloc _ _ _⟩)
  clear hW1
  obtain ⟨n0, hnw⟩ : ∃ n, w.heap.size = n := ⟨_, rfl⟩
  have hBn : B < n0 := by have := h.lt; omega
  rw [hnw] at HV0 ⊢
  go_wp2_with fail
  refine (hi110 _ HV0.out.st).mono ?_
  rintro en w1 ⟨rfl, j1, rfl⟩
  have HV1 := Lib.hid (HV0.out.drew hBn j1)
  clear HV0
  generalize W0.drewN j1 = W1 at *
  go_wp2_with fail
  refine (hi116 _ HV1.out.st).mono ?_
  rintro en w2 ⟨rfl, j2, rfl⟩
  have HV2 := Lib.hid (HV1.out.drew hBn j2)
  clear HV1
  generalize W1.drewN j2 = W2 at *
  go_wp2_with fail
  refine (hi102 _ HV2.out.st).mono ?_
  rintro en w3 ⟨rfl, j3, rfl⟩
  have HV3 := Lib.hid (HV2.out.drew hBn j3)
  clear HV2
  generalize W2.drewN j3 = W3 at *
  go_wp2_with fail
  refine (hi34 _ HV3.out.st).mono ?_
  rintro en w4 ⟨rfl, j4, rfl⟩
  have HV4 := Lib.hid (HV3.out.drew hBn j4)
  clear HV3
  generalize W3.drewN j4 = W4 at *
  go_wp2_with fail
  refine (hi91 _ HV4.out.st).mono ?_
  rintro en w5 ⟨rfl, j5, rfl⟩
  have HV5 := Lib.hid (HV4.out.drew hBn j5)
  clear HV4
  generalize W4.drewN j5 = W5 at *
  go_wp2_with fail
  refine (hi91 _ HV5.out.st).mono ?_
  rintro en w6 ⟨rfl, j6, rfl⟩
  have HV6 := Lib.hid (HV5.out.drew hBn j6)
  clear HV5
  generalize W5.drewN j6 = W6 at *
  go_wp2_with fail
  have zz := HV6.out.res.lt
  refine (hr _ HV6.out.st).mono ?_
  rintro en wa ⟨k1, x1, l1, f1, v2, u2, rfl, hl1, hf1, hfit1, ha, ga, hok⟩
  obtain ⟨p3, c3, rfl, -⟩ := hl1.len
  obtain ⟨p4, c4, rfl, -⟩ := hf1.len
  have HVa := Lib.hid (HV6.out.step hBn ha ga)
  have HSl := Lib.hid (hl1.mono (fun j hj _ => (by omega : n0 + 1 ≤ j)))
  have HSf := Lib.hid (hf1.mono (fun j hj _ => (by omega : n0 + 1 ≤ j)))
  have HOK := Lib.hid (And.intro hfit1 hok)
  clear ha ga HV6 hl1 hf1 hfit1 hok
  obtain ⟨z0, z1, z2, z3⟩ := HVa.out.res.box
  have r0 := HVa.out.res.free 0
  have r1 := HVa.out.res.free 1
  have r2 := HVa.out.res.free 2
  have r3 := HVa.out.res.free 3
  obtain ⟨b1, b2, b3⟩ := HVa.out.res.all (.int .u8 k1) (.string x1) (.slice p3 l1.len c3) (.slice p4 f1.len c4)
  obtain ⟨m0, m1, m2, m3⟩ := b1.box
  have HFN := Lib.hid (HVa.out.fin (k := k1) (x := x1) (l := l1) (f := f1) (r := r) hBn hnw HSl.out HSf.out HOK.out.1 rfl HOK.out.2)
  clear b1 b2 b3
  go_wp2_with fail
  refine bodyPost_ret (v := .agg #[.int .u8 k1, .string x1, .slice p3 l1.len c3, .slice p4 f1.len c4]) (by simp [results, Tryd.results9, go_sem, m0, m1, m2, m3]) rfl HFN.out
set_option maxRecDepth 100000 in
set_option maxHeartbeats 4000000 in
theorem valR_object (s : ByteArray) (B q dp : Nat) (w : World) (hs : s.size ≤ 262144) (hdp : dp ≤ 64) (hq : q ≤ s.size) (h : St s q 0 B w) (n110 : J.is s q 0 110 = false) (n116 : J.is s q 0 116 = false) (n102 : J.is s q 0 102 = false) (n34 : J.is s q 0 34 = false) (n91 : J.is s q 0 91 = false) (y123 : J.is s q 0 123 = true) (r : VR) (hr : ∀ W, St s q 0 B W → Calls Tryd.prog 17 #[.pointer (some ⟨B, 0, none⟩), .int .i64 (dp : Int)] W (RV r s B W)) :
    Calls Tryd.prog 9 #[.pointer (some ⟨B, 0, none⟩), .int .i64 (dp : Int)] w (RV r s B w) := by
  have hi110 : ∀ W, St s q 0 B W → Calls Tryd.prog 13 #[.pointer (some ⟨B, 0, none⟩), .int .u8 110] W (QuietR false W) := fun W hW => by have := is_any s q 0 110 B W (by omega) hW; rw [n110] at this; exact this
  have hi116 : ∀ W, St s q 0 B W → Calls Tryd.prog 13 #[.pointer (some ⟨B, 0, none⟩), .int .u8 116] W (QuietR false W) := fun W hW => by have := is_any s q 0 116 B W (by omega) hW; rw [n116] at this; exact this
  have hi102 : ∀ W, St s q 0 B W → Calls Tryd.prog 13 #[.pointer (some ⟨B, 0, none⟩), .int .u8 102] W (QuietR false W) := fun W hW => by have := is_any s q 0 102 B W (by omega) hW; rw [n102] at this; exact this
  have hi34 : ∀ W, St s q 0 B W → Calls Tryd.prog 13 #[.pointer (some ⟨B, 0, none⟩), .int .u8 34] W (QuietR false W) := fun W hW => by have := is_any s q 0 34 B W (by omega) hW; rw [n34] at this; exact this
  have hi91 : ∀ W, St s q 0 B W → Calls Tryd.prog 13 #[.pointer (some ⟨B, 0, none⟩), .int .u8 91] W (QuietR false W) := fun W hW => by have := is_any s q 0 91 B W (by omega) hW; rw [n91] at this; exact this
  have hi123 : ∀ W, St s q 0 B W → Calls Tryd.prog 13 #[.pointer (some ⟨B, 0, none⟩), .int .u8 123] W (QuietR true W) := fun W hW => by have := is_any s q 0 123 B W (by omega) hW; rw [y123] at this; exact this
  go_enter Tryd.func9, Tryd.ntmps9
  go_upto_region 1 with fail
  generalize hW1 : w.alloc _ = W0
  have HV0 := Lib.hid (show VB s B w.heap.size q 0 w W0 by rw [← hW1]; exact ⟨heap_alloc_new w _, h.alloc _, World.grownBy_alloc _ _ _⟩)
  clear hW1
  obtain ⟨n0, hnw⟩ : ∃ n, w.heap.size = n := ⟨_, rfl⟩
  have hBn : B < n0 := by have := h.lt; omega
  rw [hnw] at HV0 ⊢
  go_wp2_with fail
  refine (hi110 _ HV0.out.st).mono ?_
  rintro en w1 ⟨rfl, j1, rfl⟩
  have HV1 := Lib.hid (HV0.out.drew hBn j1)
  clear HV0
  generalize W0.drewN j1 = W1 at *
  go_wp2_with fail
  refine (hi116 _ HV1.out.st).mono ?_
  rintro en w2 ⟨rfl, j2, rfl⟩
  have HV2 := Lib.hid (HV1.out.drew hBn j2)
  clear HV1
  generalize W1.drewN j2 = W2 at *
  go_wp2_with fail
  refine (hi102 _ HV2.out.st).mono ?_
  rintro en w3 ⟨rfl, j3, rfl⟩
  have HV3 := Lib.hid (HV2.out.drew hBn j3)
  clear HV2
  generalize W2.drewN j3 = W3 at *
  go_wp2_with fail
  refine (hi34 _ HV3.out.st).mono ?_
  rintro en w4 ⟨rfl, j4, rfl⟩
  have HV4 := Lib.hid (HV3.out.drew hBn j4)
  clear HV3
  generalize W3.drewN j4 = W4 at *
  go_wp2_with fail
  refine (hi91 _ HV4.out.st).mono ?_
  rintro en w5 ⟨rfl, j5, rfl⟩
  have HV5 := Lib.hid (HV4.out.drew hBn j5)
  clear HV4
  generalize W4.drewN j5 = W5 at *
  go_wp2_with fail
  refine (hi123 _ HV5.out.st).mono ?_
  rintro en w6 ⟨rfl, j6, rfl⟩
  have HV6 := Lib.hid (HV5.out.drew hBn j6)
  clear HV5
  generalize W5.drewN j6 = W6 at *
  go_wp2_with fail
  refine (hi91 _ HV6.out.st).mono ?_
  rintro en w7 ⟨rfl, j7, rfl⟩
  have HV7 := Lib.hid (HV6.out.drew hBn j7)
  clear HV6
  generalize W6.drewN j7 = W7 at *
  go_wp2_with fail
  have zz := HV7.out.res.lt
  refine (hr _ HV7.out.st).mono ?_
  rintro en wa ⟨k1, x1, l1, f1, v2, u2, rfl, hl1, hf1, hfit1, ha, ga, hok⟩
  obtain ⟨p3, c3, rfl, -⟩ := hl1.len
  obtain ⟨p4, c4, rfl, -⟩ := hf1.len
  have HVa := Lib.hid (HV7.out.step hBn ha ga)
  have HSl := Lib.hid (hl1.mono (fun j hj _ => (by omega : n0 + 1 ≤ j)))
  have HSf := Lib.hid (hf1.mono (fun j hj _ => (by omega : n0 + 1 ≤ j)))
  have HOK := Lib.hid (And.intro hfit1 hok)
  clear ha ga HV7 hl1 hf1 hfit1 hok
  obtain ⟨z0, z1, z2, z3⟩ := HVa.out.res.box
  have r0 := HVa.out.res.free 0
  have r1 := HVa.out.res.free 1
  have r2 := HVa.out.res.free 2
  have r3 := HVa.out.res.free 3
  obtain ⟨b1, b2, b3⟩ := HVa.out.res.all (.int .u8 k1) (.string x1) (.slice p3 l1.len c3) (.slice p4 f1.len c4)
  obtain ⟨m0, m1, m2, m3⟩ := b1.box
  have HFN := Lib.hid (HVa.out.fin (k := k1) (x := x1) (l := l1) (f := f1) (r := r) hBn hnw HSl.out HSf.out HOK.out.1 rfl HOK.out.2)
  clear b1 b2 b3
  go_wp2_with fail
  refine bodyPost_ret (v := .agg #[.int .u8 k1, .string x1, .slice p3 l1.len c3, .slice p4 f1.len c4]) (by simp [results, Tryd.results9, go_sem, m0, m1, m2, m3]) rfl HFN.out
end Go.Proofs.YtbdpghmpdghnbaaDoor
