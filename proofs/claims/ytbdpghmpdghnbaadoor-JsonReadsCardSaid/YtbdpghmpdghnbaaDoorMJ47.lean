/- The document's own reader of JSON: a value, at any depth. Conditions: a string of at most 2^18 bytes. -/
import Derived.Test.YtbdpghmpdghnbaaDoorMJ43
import Derived.Test.YtbdpghmpdghnbaaDoorMJ46
namespace Go.Proofs.YtbdpghmpdghnbaaDoor
open Go Go.RowKit Go.Lib
/-- what reading a value does, so many lists and objects being free still -/
def VRD (s : ByteArray) (B m : Nat) : Prop := ∀ (q e : Nat) (W : World), q ≤ s.size → St s q e B W → Calls Tryd.prog 9 #[.pointer (some ⟨B, 0, none⟩), .int .i64 ((65 - m : Nat) : Int)] W (RV (vA s m q e) s B W)
theorem vrd_bad (s : ByteArray) (B m : Nat) (hs : s.size ≤ 262144) (hm : m ≤ 64) (q e : Nat) (W : World) (hq : q ≤ s.size) (he : ¬ e = 0) (h : St s q e B W) : Calls Tryd.prog 9 #[.pointer (some ⟨B, 0, none⟩), .int .i64 ((65 - m : Nat) : Int)] W (RV (vA s m q e) s B W) := by
  have hv : vA s m q e = ((3, ⟨#[]⟩, .nil, .nil), q, e) := by unfold vA; rw [if_neg he]
  rw [hv]
  exact valR_number s B q e (65 - m) W hs (by omega) hq h (J.is_wrong q _ he) (J.is_wrong q _ he) (J.is_wrong q _ he) (J.is_wrong q _ he) (J.is_wrong q _ he) (J.is_wrong q _ he) _ (nm_wrong s q he).symm (fun h0 => absurd h0 he)
theorem vrd_of (s : ByteArray) (B m : Nat) (hs : s.size ≤ 262144) (hm : m ≤ 64) (ih : ∀ k, m = k + 1 → VRD s B k) : VRD s B m := by
  intro q e W hq h
  by_cases he : e = 0
  · subst he
    have hv : vA s m q 0 = br s (64 - m) (inn s m) q := by unfold vA; rw [if_pos rfl]
    rw [hv]
    unfold br
    cases n110 : J.is s q 0 110
    · rw [if_neg (nis_pk (by decide) n110)]
      cases n116 : J.is s q 0 116
      · cases n102 : J.is s q 0 102
        · rw [if_neg (nis_pk (by decide) n102), if_neg (nis_pk (by decide) n116)]
          cases n34 : J.is s q 0 34
          · rw [if_neg (nis_pk (by decide) n34)]
            cases n91 : J.is s q 0 91
            · rw [if_neg (nis_pk (by decide) n91)]
              cases n123 : J.is s q 0 123
              · rw [if_neg (nis_pk (by decide) n123)]
                exact valR_number s B q 0 (65 - m) W hs (by omega) hq h n110 n116 n102 n34 n91 n123 _ rfl (fun _ => rfl)
              · rw [if_pos (pk_is n123)]
                cases m with
                | zero =>
                  exact valR_deepo s B q W hs hq h n110 n116 n102 n34 n91 n123 _ (congrArg (fun x : V.T × Nat × Nat => x.2) (show its s 125 (fo s (inn s 0)) 64 q V.T.nil = (V.T.nil, q, 31) from if_pos rfl))
                | succ k =>
                  have hk := ih k rfl
                  have e1 : 65 - (k + 1) = 64 - k := by omega
                  have e2 : 64 - (k + 1) = 63 - k := by omega
                  rw [e1, e2]
                  refine valR_object s B q (64 - k) W hs (by omega) hq h n110 n116 n102 n34 n91 n123 _ (fun W' h' => ?_)
                  refine objectR_any s B k q W' hs (by omega) (fun q' e' W2 hq' h2 => ?_) n123 h'
                  have := hk q' e' W2 hq' h2
                  have e3 : ((65 - k : Nat) : Int) = ((64 - k : Nat) : Int) + 1 := by omega
                  rw [e3] at this
                  exact this
            · rw [if_pos (pk_is n91)]
              cases m with
              | zero =>
                exact valR_deepl s B q W hs hq h n110 n116 n102 n34 n91 _ (congrArg (fun x : V.T × Nat × Nat => x.2) (show its s 93 (lo (inn s 0)) 64 q V.T.nil = (V.T.nil, q, 31) from if_pos rfl))
              | succ k =>
                have hk := ih k rfl
                have e1 : 65 - (k + 1) = 64 - k := by omega
                have e2 : 64 - (k + 1) = 63 - k := by omega
                rw [e1, e2]
                refine valR_list s B q (64 - k) W hs (by omega) hq h n110 n116 n102 n34 n91 _ (fun W' h' => ?_)
                refine listR_any s B k q W' hs (by omega) (fun q' W2 hq' h2 => ?_) n91 h'
                have := hk q' 0 W2 hq' h2
                have e3 : ((65 - k : Nat) : Int) = ((64 - k : Nat) : Int) + 1 := by omega
                rw [e3] at this
                have hv2 : vA s k q' 0 = br s (64 - k) (inn s k) q' := by unfold vA; rw [if_pos rfl]
                rw [hv2] at this
                exact this
          · rw [if_pos (pk_is n34)]
            exact valR_text s B m q W hs hm hq h n110 n116 n102 n34
        · rw [if_pos (pk_is n102)]
          exact valR_false s B m q W hs hm hq h n110 n116 n102
      · rw [if_neg (by rw [pk_is n116]; decide), if_pos (pk_is n116)]
        exact valR_true s B m q W hs hm hq h n110 n116
    · rw [if_pos (pk_is n110)]
      exact valR_null s B m q W hs hm hq h n110
  · exact vrd_bad s B m hs hm q e W hq he h
theorem vrd_any (s : ByteArray) (B : Nat) (hs : s.size ≤ 262144) : ∀ m, m ≤ 64 → VRD s B m
  | 0, h => vrd_of s B 0 hs h (fun k e => by cases e)
  | m + 1, h => vrd_of s B (m + 1) hs h (fun k e => by cases e; exact vrd_any s B hs m (by omega))
end Go.Proofs.YtbdpghmpdghnbaaDoor

namespace Go.Proofs.YtbdpghmpdghnbaaDoor
open Go Go.RowKit Go.Lib
/-- what Parse keeps: its result's box, where its reader stands -/
def PB (s : ByteArray) (n0 q e : Nat) (w W : World) : Prop := Blk4 W n0 25 (.int .u8 0) (.string ⟨#[]⟩) (.slice none 0 0) (.slice none 0 0) ∧ St s q e (n0 + 1) W ∧ Below n0 w W
theorem PB.step {s : ByteArray} {n0 q e q' e' : Nat} {w W W' : World} (h : PB s n0 q e w W) (hs : St s q' e' (n0 + 1) W') (g : W.grownBy W' (some (n0 + 1))) : PB s n0 q' e' w W' :=
  ⟨h.1.same (g.block _ h.1.lt (fun e => by cases e)), hs, h.2.2.trans (below_grow g (by omega) (by have := h.1.lt; omega))⟩
set_option maxRecDepth 100000 in
set_option maxHeartbeats 4000000 in
theorem refParse_long (s : ByteArray) (w : World) (hs : s.size ≤ 9223372036854775807) (h : 262144 < s.size) :
    Calls Tryd.prog 5 #[.string s] w (ParseIs ((0, ⟨#[]⟩, .nil, .nil), 0, 3) w) := by
  have l1 : (262144 : Int) < (s.size : Int) := by omega
  clear h
  go_enter Tryd.func5, Tryd.ntmps5
  go_upto_region 1 with fail
  generalize hW1 : w.alloc _ = W0
  have HB := Lib.hid (show Blk4 W0 w.heap.size 25 (.int .u8 0) (.string ⟨#[]⟩) (.slice none 0 0) (.slice none 0 0) ∧ Below w.heap.size w W0 by rw [← hW1]; exact ⟨heap_alloc_new w _, (Below.refl _ _).alloc (Nat.le_refl _) _⟩)
  clear hW1
  obtain ⟨d0, d1, d2, d3⟩ := HB.out.1.box
  have r0 := HB.out.1.free 0
  have r1 := HB.out.1.free 1
  have r2 := HB.out.1.free 2
  have r3 := HB.out.1.free 3
  obtain ⟨b1, b2, b3⟩ := HB.out.1.all (.int .u8 0) (.string ⟨#[]⟩) (.slice none 0 0) (.slice none 0 0)
  obtain ⟨m0, m1, m2, m3⟩ := b1.box
  have HFB := Lib.hid (below_set (o := 3) (below_set (o := 2) (below_set (o := 1) (below_set (o := 0) HB.out.2 (Nat.le_refl _) (.int .u8 0)) (Nat.le_refl _) (.string ⟨#[]⟩)) (Nat.le_refl _) (.slice none 0 0)) (Nat.le_refl _) (.slice none 0 0))
  clear b1 b2 b3
  go_wp2_with fail
  exact bodyPost_ret (v := .tuple #[.agg #[.int .u8 0, .string ⟨#[]⟩, .slice none 0 0, .slice none 0 0], .int .i64 (0 : Nat), .int .i64 (3 : Nat)]) (by simp [results, Tryd.results5, go_sem, m0, m1, m2, m3]) rfl (died_is (s := s) (Below.refl _ _) HFB.out)
end Go.Proofs.YtbdpghmpdghnbaaDoor
