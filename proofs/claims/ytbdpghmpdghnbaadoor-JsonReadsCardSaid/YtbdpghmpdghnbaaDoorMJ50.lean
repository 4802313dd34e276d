/- The document's Parse: a whole text. Conditions: a string of at most 2^18 bytes. -/
import Derived.Test.YtbdpghmpdghnbaaDoorMJ48
import Derived.Test.YtbdpghmpdghnbaaDoorMJ46
import Derived.Test.YtbdpghmpdghnbaaDoorMJ49
namespace Go.Proofs.YtbdpghmpdghnbaaDoor
open Go Go.RowKit Go.Lib
set_option maxRecDepth 100000 in
set_option maxHeartbeats 8000000 in
theorem refParse_ok (s : ByteArray) (w : World) (hs : s.size ≤ 262144) (he : (vA s 64 (J.bl s 0 0) 0).2.2 = 0) (hmore : ¬ J.bl s (vA s 64 (J.bl s 0 0) 0).2.1 0 < s.size) :
    Calls Tryd.prog 5 #[.string s] w (ParseIs ((vA s 64 (J.bl s 0 0) 0).1, 0, 0) w) := by
  have q0le := J.bl_le (s := s) (p := 0) 0 (Nat.zero_le _)
  have hb0 := fun W hW => blanks_any s 0 0 (w.heap.size + 1) W (by omega) (Nat.zero_le _) hW
  have hv : ∀ W, St s (J.bl s 0 0) 0 (w.heap.size + 1) W → Calls Tryd.prog 9 #[.pointer (some ⟨w.heap.size + 1, 0, none⟩), .int .i64 1] W (RV (vA s 64 (J.bl s 0 0) 0) s (w.heap.size + 1) W) := fun W hW => vrd_any s _ hs 64 (Nat.le_refl _) _ 0 W q0le.2 hW
  have hrle := vA_le (s := s) (m := 64) 0 q0le.2
  have hb1 := fun e q W (hq : q ≤ s.size) hW => blanks_any s q e (w.heap.size + 1) W (by omega) hq hW
  have HB1 := Lib.hid hb1
  generalize vA s 64 (J.bl s 0 0) 0 = r at *
  generalize J.bl s 0 0 = q0 at *
  obtain ⟨⟨rk, rx, rl, rf⟩, q1, e1⟩ := r
  dsimp only at *
  obtain ⟨n0, hnw⟩ : ∃ n, w.heap.size = n := ⟨_, rfl⟩
  rw [hnw] at hb0 hv HB1
  have l1 : ¬ (262144 : Int) < (s.size : Int) := by omega
  clear hb1
  go_enter Tryd.func5, Tryd.ntmps5
  go_upto_region 4 with fail
  generalize hW1 : (w.alloc _).alloc _ = W1
  have HP0 := Lib.hid (show PB s n0 0 0 w W1 by
    rw [← hW1, ← hnw]
    have h2 := two_new w (.cells #[.int .u8 0, .string ⟨#[]⟩, .slice none 0 0, .slice none 0 0] 25) (.cells #[.string s, .int .i64 0, .int .i64 0] 35)
    exact ⟨h2.1, h2.2, two_below _ _ _⟩)
  clear hW1
  go_wp2_with fail
  refine (hb0 _ HP0.out.2.1).mono ?_
  rintro en w1 ⟨⟨va, rfl⟩, h1, g1⟩
  have HP1 := Lib.hid (HP0.out.step h1 g1)
  clear h1 g1 HP0 hb0
  go_wp2_with fail
  refine (hv _ HP1.out.2.1).mono ?_
  rintro en w2 ⟨k1', x1, l1', f1, v2, u2, rfl, hl1, hf1, hfit1, h2, g2, hok⟩
  dsimp only at h2 hok
  obtain ⟨p3, c3, rfl, -⟩ := hl1.len
  obtain ⟨p4, c4, rfl, -⟩ := hf1.len
  have HP2 := Lib.hid (HP1.out.step h2 g2)
  go_upto_region 6 with fail
  generalize hW3 : w2.alloc _ = W3
  have hB3 : Below w2.heap.size w2 W3 := by rw [← hW3]; exact (Below.refl _ _).alloc (Nat.le_refl _) _
  have HP3 := Lib.hid (HP2.out.step (HP2.out.2.1.same (hB3.block _ HP2.out.2.1.lt)) (grow_below hB3 _))
  have z1 := HP1.out.1.lt
  have z2 := HP2.out.2.1.lt
  have HBX := Lib.hid (show Blk4 W3 w2.heap.size 25 (.int .u8 k1') (.string x1) (.slice p3 l1'.len c3) (.slice p4 f1.len c4) by rw [← hW3]; exact heap_alloc_new w2 _)
  have HSl := Lib.hid (show HS W3 (fun b => n0 + 1 ≤ b ∧ b ≠ n0 + 1) 0 (.slice p3 l1'.len c3) l1' from (hl1.below hB3).mono (fun j hj _ => by have hz := HP1.out.2.1.lt; omega))
  have HSf := Lib.hid (show HS W3 (fun b => n0 + 1 ≤ b ∧ b ≠ n0 + 1) 1 (.slice p4 f1.len c4) f1 from (hf1.below hB3).mono (fun j hj _ => by have hz := HP1.out.2.1.lt; omega))
  have HOK := Lib.hid (And.intro hfit1 hok)
  have hnb : n0 + 1 < w2.heap.size := z2
  clear h2 g2 HP1 HP2 hW3 hB3 hl1 hf1 hfit1 hok hv z1 z2
  generalize w2.heap.size = nb at *
  have hr2 : q1 ≤ s.size := hrle.2
  clear hrle
  rw [he] at HP3
  have HF9 := Lib.hid HOK.out.1
  have HTR := Lib.hid (HOK.out.2 he)
  clear HOK
  have hb3 := HB1.out 0 q1
  generalize J.bl s q1 0 = q2 at *
  have k1 : ¬ (q2 : Int) < (s.size : Int) := by omega
  clear he hmore
  go_wp2_with fail
  refine (hb3 _ hr2 HP3.out.2.1).mono ?_
  rintro en W5 ⟨⟨vb, rfl⟩, h5, g5⟩
  have HP5 := Lib.hid (HP3.out.step h5 g5)
  have HBX5 := Lib.hid (HBX.out.same (g5.block _ HBX.out.lt (fun e => by cases e; omega)))
  have HSl5 := Lib.hid (HSl.out.imp (w' := W5) (fun _ a _ => a) (fun b a hb => g5.block b hb (fun e => by cases e; exact a.2 rfl)))
  have HSf5 := Lib.hid (HSf.out.imp (w' := W5) (fun _ a _ => a) (fun b a hb => g5.block b hb (fun e => by cases e; exact a.2 rfl)))
  clear h5 g5 HP3 HSl HSf HBX hb3 HB1
  have c1 := HP5.out.2.1.c1
  have c2 := HP5.out.2.1.c2
  obtain ⟨o0, o1, o2, o3⟩ := HBX5.out.box
  obtain ⟨z0, z1, z2, z3⟩ := HP5.out.1.box
  have r0 := HP5.out.1.free 0
  have r1 := HP5.out.1.free 1
  have r2 := HP5.out.1.free 2
  have r3 := HP5.out.1.free 3
  have g4 := set4_else W5 n0 (.int .u8 k1') (.string x1) (.slice p3 l1'.len c3) (.slice p4 f1.len c4)
  obtain ⟨b1, b2, b3⟩ := HP5.out.1.all (.int .u8 k1') (.string x1) (.slice p3 l1'.len c3) (.slice p4 f1.len c4)
  obtain ⟨m0, m1, m2, m3⟩ := b1.box
  have HFB := Lib.hid (below_set (o := 3) (below_set (o := 2) (below_set (o := 1) (below_set (o := 0) HP5.out.2.2 (Nat.le_refl _) (.int .u8 k1')) (Nat.le_refl _) (.string x1)) (Nat.le_refl _) (.slice p3 l1'.len c3)) (Nat.le_refl _) (.slice p4 f1.len c4))
  have HG4 := Lib.hid g4
  clear b1 b2 b3 g4
  go_wp2_with fail
  refine bodyPost_ret (v := .tuple #[.agg #[.int .u8 k1', .string x1, .slice p3 l1'.len c3, .slice p4 f1.len c4], .int .i64 (0 : Nat), .int .i64 (0 : Nat)]) (by simp [results, Tryd.results5, go_sem, m0, m1, m2, m3]) rfl ?_
  cases HTR.out
  exact ⟨_, _, rfl, by rw [hnw]; exact HSl5.out.imp (fun b a _ => by have := a.1; omega) (fun b a _ => HG4.out b (by have := a.1; omega)), by rw [hnw]; exact HSf5.out.imp (fun b a _ => by have := a.1; omega) (fun b a _ => HG4.out b (by have := a.1; omega)), HF9.out, by rw [hnw]; exact HFB.out⟩
theorem refParse_any (s : ByteArray) (w : World) (hs : s.size ≤ 1000000000000) : Calls Tryd.prog 5 #[.string s] w (ParseIs (prsAll s) w) := by
  unfold prsAll
  by_cases h : 262144 < s.size
  · rw [if_pos h]; exact refParse_long s w (by omega) h
  · rw [if_neg h]
    have hv : vl s 64 0 = ar s (vA s 64 (J.bl s 0 0) 0) := by rw [vl_is s 64 0 (Nat.le_refl _)]; unfold vA; rw [if_pos rfl]
    unfold prs
    rw [hv]
    unfold ar
    by_cases he : (vA s 64 (J.bl s 0 0) 0).2.2 = 0
    · rw [if_pos he]
      simp only [if_true]
      by_cases hm : J.bl s (vA s 64 (J.bl s 0 0) 0).2.1 0 < s.size
      · rw [if_pos hm]; exact refParse_more s w (by omega) he hm
      · rw [if_neg hm]; exact refParse_ok s w (by omega) he hm
    · rw [if_neg he, if_neg he]
      exact refParse_bad s w (by omega) he
end Go.Proofs.YtbdpghmpdghnbaaDoor
