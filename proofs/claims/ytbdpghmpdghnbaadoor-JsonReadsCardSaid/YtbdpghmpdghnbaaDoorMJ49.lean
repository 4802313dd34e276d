/- The document's Parse: more stands behind the value. Conditions: a string of at most 2^18 bytes. -/
import Derived.Test.YtbdpghmpdghnbaaDoorMJ47
import Derived.Test.YtbdpghmpdghnbaaDoorMJ46
namespace Go.Proofs.YtbdpghmpdghnbaaDoor
open Go Go.RowKit Go.Lib
set_option maxRecDepth 100000 in
set_option maxHeartbeats 8000000 in
theorem refParse_more (s : ByteArray) (w : World) (hs : s.size ≤ 262144) (he : (vA s 64 (J.bl s 0 0) 0).2.2 = 0) (hmore : J.bl s (vA s 64 (J.bl s 0 0) 0).2.1 0 < s.size) :
    Calls Tryd.prog 5 #[.string s] w (ParseIs ((0, ⟨#[]⟩, .nil, .nil), J.bl s (vA s 64 (J.bl s 0 0) 0).2.1 0, 30) w) := by
  have q0le := J.bl_le (s := s) (p := 0) 0 (Nat.zero_le _)
  have hb0 := fun W hW => blanks_any s 0 0 (w.heap.size + 1) W (by omega) (Nat.zero_le _) hW
  have hv : ∀ W, St s (J.bl s 0 0) 0 (w.heap.size + 1) W → Calls Tryd.prog 9 #[.pointer (some ⟨w.heap.size + 1, 0, none⟩), .int .i64 1] W (RV (vA s 64 (J.bl s 0 0) 0) s (w.heap.size + 1) W) := fun W hW => vrd_any s _ hs 64 (Nat.le_refl _) _ 0 W q0le.2 hW
  have hrle := vA_le (s := s) (m := 64) 0 q0le.2
  have hb1 := fun e q W (hq : q ≤ s.size) hW => blanks_any s q e (w.heap.size + 1) W (by omega) hq hW
  have HB1 := Lib.hid hb1
  generalize vA s 64 (J.bl s 0 0) 0 = r at *
  generalize J.bl s 0 0 = q0 at *
  obtain ⟨n0, hnw⟩ : ∃ n, w.heap.size = n := ⟨_, rfl⟩
  rw [hnw] at hb0 hv HB1
  have l1 : ¬ (262144 : Int) < (s.size : Int) := by omega
  clear hb1
  go_enter Tryd.func5, Tryd.ntmps5
  go_upto_region 4 with fail
  generalize hW1 : (w.alloc _).alloc _ = W1
  have HP0 := Lib.hid (show PB s n0 0 0 w W1 by
    rw [← hW1, ← hnw]
    have h2 := two_new w (.cells #[.int .u8 0, .string ⟨#[]⟩, .slice none 0 0, .slice none 0 0] 25) (.cells #[.string s, .int .i64 0, .int .i64 0] 35)
    exact ⟨h2.1, h2.2, two_below _ _ _⟩)
  clear hW1
  go_wp2_with fail
  refine (hb0 _ HP0.out.2.1).mono ?_
  rintro en w1 ⟨⟨va, rfl⟩, h1, g1⟩
  have HP1 := Lib.hid (HP0.out.step h1 g1)
  clear h1 g1 HP0 hb0
  go_wp2_with fail
  refine (hv _ HP1.out.2.1).mono ?_
  rintro en w2 ⟨k1, x1, l1', f1, v2, u2, rfl, hl1, hf1, hfit1, h2, g2, hok⟩
  obtain ⟨p3, c3, rfl, -⟩ := hl1.len
  obtain ⟨p4, c4, rfl, -⟩ := hf1.len
  have HP2 := Lib.hid (HP1.out.step h2 g2)
  go_upto_region 6 with fail
  generalize hW3 : w2.alloc _ = W3
  have hB3 : Below w2.heap.size w2 W3 := by rw [← hW3]; exact (Below.refl _ _).alloc (Nat.le_refl _) _
  have HP3 := Lib.hid (HP2.out.step (HP2.out.2.1.same (hB3.block _ HP2.out.2.1.lt)) (grow_below hB3 _))
  have z1 := HP1.out.1.lt
  have z2 := HP2.out.2.1.lt
  have HBX := Lib.hid (show Blk4 W3 w2.heap.size 25 (.int .u8 k1) (.string x1) (.slice p3 l1'.len c3) (.slice p4 f1.len c4) by rw [← hW3]; exact heap_alloc_new w2 _)
  have HSl := Lib.hid (show HS W3 (fun b => n0 + 1 ≤ b ∧ b ≠ n0 + 1) 0 (.slice p3 l1'.len c3) l1' from (hl1.below hB3).mono (fun j hj _ => by have hz := HP1.out.2.1.lt; omega))
  have HSf := Lib.hid (show HS W3 (fun b => n0 + 1 ≤ b ∧ b ≠ n0 + 1) 1 (.slice p4 f1.len c4) f1 from (hf1.below hB3).mono (fun j hj _ => by have hz := HP1.out.2.1.lt; omega))
  have HOK := Lib.hid (And.intro hfit1 hok)
  have hnb : n0 + 1 < w2.heap.size := z2
  clear h2 g2 HP1 HP2 hW3 hB3 hl1 hf1 hfit1 hok hv z1 z2
  generalize w2.heap.size = nb at *
  have hr2 : r.2.1 ≤ s.size := hrle.2
  clear hrle
  rw [he] at HP3
  generalize r.2.1 = q1 at *
  have hb3 := HB1.out 0 q1
  generalize J.bl s q1 0 = q2 at *
  have k1 : (q2 : Int) < (s.size : Int) := by omega
  clear he
  go_wp2_with fail
  refine (hb3 _ hr2 HP3.out.2.1).mono ?_
  rintro en W4 ⟨⟨vb, rfl⟩, h5, g5⟩
  have HP4 := Lib.hid (HP3.out.step h5 g5)
  clear h5 g5 HP3 HSl HSf HOK HBX hb3 HB1
  have c1 := HP4.out.2.1.c1
  have c2 := HP4.out.2.1.c2
  have f2 := HP4.out.2.1.f2
  go_upto_region 9 with fail
  generalize hW5 : World.setCell _ ⟨n0 + 1, 2, none⟩ _ = W5
  have HP5 := Lib.hid (show PB s n0 q2 30 w W5 from by rw [← hW5]; first | exact HP4.out.step (HP4.out.2.1.set2 30) (grownBy_set _ _ _ _) | exact HP4.out.step ((HP4.out.2.1.drewN _).set2 30) (grown_trans (grownBy_drewN _ _ _) (grownBy_set _ _ _ _)))
  clear hW5 HP4 c1 c2 f2
  have c1 := HP5.out.2.1.c1
  have c2 := HP5.out.2.1.c2
  have hBlt := HP5.out.2.1.lt
  obtain ⟨z0, z1, z2, z3⟩ := HP5.out.1.box
  have r0 := HP5.out.1.free 0
  have r1 := HP5.out.1.free 1
  have r2 := HP5.out.1.free 2
  have r3 := HP5.out.1.free 3
  have K2 := Lib.hid (fun (W' : World) (h : W'.heap[n0 + 1]? = W5.heap[n0 + 1]?) => (show W'.cell? ⟨n0 + 1, 1, none⟩ = some (.int .i64 (q2 : Nat)) ∧ W'.cell? ⟨n0 + 1, 2, none⟩ = some (.int .i64 (30 : Nat)) from ⟨(cell_heap 1 h).trans c1, (cell_heap 2 h).trans c2⟩))
  have hset := set4_else W5 n0 (.int .u8 0) (.string ⟨#[]⟩) (.slice none 0 0) (.slice none 0 0) (n0 + 1) (by omega)
  obtain ⟨b1, b2, b3⟩ := HP5.out.1.all (.int .u8 0) (.string ⟨#[]⟩) (.slice none 0 0) (.slice none 0 0)
  obtain ⟨m0, m1, m2, m3⟩ := b1.box
  have b4 := b1.same ((Below.refl _ _).drew.block n0 b1.lt)
  obtain ⟨m4, m5, m6, m7⟩ := b4.box
  have HFB := Lib.hid (below_set (o := 3) (below_set (o := 2) (below_set (o := 1) (below_set (o := 0) HP5.out.2.2 (Nat.le_refl _) (.int .u8 0)) (Nat.le_refl _) (.string ⟨#[]⟩)) (Nat.le_refl _) (.slice none 0 0)) (Nat.le_refl _) (.slice none 0 0))
  clear b1 b2 b3 b4
  go_wp2_with fail
  go_region_held3 (fun w' => w'.cell? ⟨n0 + 1, 1, none⟩ = some (.int .i64 (q2 : Nat)) ∧ w'.cell? ⟨n0 + 1, 2, none⟩ = some (.int .i64 (30 : Nat))) (first | exact K2.out _ rfl | exact K2.out _ ((Below.refl _ _).drew.block _ hBlt) | exact K2.out _ (((Below.refl _ _).drew.block _ (by simp; exact hBlt)).trans hset) | exact K2.out _ hset) (fail)
  all_goals
    go_wp2_with fail
    first
      | exact bodyPost_ret (v := .tuple #[.agg #[.int .u8 0, .string ⟨#[]⟩, .slice none 0 0, .slice none 0 0], .int .i64 (q2 : Nat), .int .i64 (30 : Nat)]) (by simp [results, Tryd.results5, go_sem, m4, m5, m6, m7]) rfl (died_is (s := s) (Below.refl _ _) (by rw [hnw]; exact HFB.out.drew))
      | exact bodyPost_ret (v := .tuple #[.agg #[.int .u8 0, .string ⟨#[]⟩, .slice none 0 0, .slice none 0 0], .int .i64 (q2 : Nat), .int .i64 (30 : Nat)]) (by simp [results, Tryd.results5, go_sem, m0, m1, m2, m3]) rfl (died_is (s := s) (Below.refl _ _) (by rw [hnw]; exact HFB.out))
end Go.Proofs.YtbdpghmpdghnbaaDoor
