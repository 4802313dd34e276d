/- The program's reader of JSON: what stands behind a backslash; within. Conditions: a string of at most 10^12 bytes. -/
import Derived.Test.YtkehpmbafjelpaaDoorJpUnit
namespace Go.Proofs.YtkehpmbafjelpaaDoor
open Go Go.RowKit Go.Lib

def escs : ByteArray := ⟨#[34, 92, 47, 98, 102, 110, 114, 116, 117]⟩
theorem am_escs (c : Nat) : J.am escs c = decide (34 = c ∨ 92 = c ∨ 47 = c ∨ 98 = c ∨ 102 = c ∨ 110 = c ∨ 114 = c ∨ 116 = c ∨ 117 = c) := by
  unfold J.am escs
  simp only [List.any_cons, List.any_nil, Bool.or_false, Bool.decide_or]
  rfl
theorem es_of {s : ByteArray} {p k c : Nat} (hp : p < s.size) (hc : (s.get! p).toNat = c) (hk : k < 8) (hs : J.sgn k = c) : J.es s p = (J.unt k, p + 1, 0) := by
  refine J.es_sign hk (J.is_yes hp (by rw [hs, hc])) (fun j hj => J.is_other 0 ?_)
  rw [hc, ← hs]
  have h1 : ∀ a, a < 8 → ∀ b, b < a → ¬ J.sgn a = J.sgn b := by decide
  exact h1 k hk j hj
theorem es_u {s : ByteArray} {p : Nat} (hp : p < s.size) (hc : (s.get! p).toNat = 117) : J.es s p = J.hxF s 4 (p + 1) 0 := by
  rw [J.es_none (fun j hj => J.is_other 0 ?_), if_pos (J.is_yes hp hc)]
  rw [hc]
  have h1 : ∀ a, a < 8 → ¬ 117 = J.sgn a := by decide
  exact h1 j hj
theorem es_no {s : ByteArray} {p : Nat} (h : J.sk s escs p = false) : J.es s p = (0, p, 30) := by
  have hn : ∀ c, J.am escs c = true → 0 < c → J.is s p 0 c = false := by
    intro c hc h0
    unfold J.sk J.pk at h
    unfold J.is
    refine decide_eq_false (fun e => ?_)
    rw [if_pos e.2.1, e.2.2, hc] at h
    exact absurd h (by decide)
  rw [J.es_none (fun j hj => ?_), if_neg (by rw [hn 117 (by decide) (by decide)]; decide)]
  have h1 : ∀ a, a < 8 → J.am escs (J.sgn a) = true ∧ 0 < J.sgn a := by decide
  exact hn _ (h1 j hj).1 (h1 j hj).2

set_option maxRecDepth 100000 in
set_option maxHeartbeats 1000000 in
theorem escape_any (s : ByteArray) (p d B : Nat) (w : World) (hs : s.size ≤ 1000000000000) (hp : p ≤ s.size) (h : Rd s p d B w) :
    Calls Tryd.prog 133 #[.pointer (some ⟨B, 0, none⟩)] w (Out (.int .i32 ((J.es s p).1 : Nat)) s (J.es s p).2 d B w) := by
  cases hb : J.sk s escs p
  · have ht := take_no s escs p d B w hs hp h hb
    rw [es_no hb]
    clear hb
    go_enter Tryd.func133, Tryd.ntmps133
    go_wp2_with fail
    refine ht.mono ?_
    rintro en w1 ⟨rfl, h1, g1⟩
    exact ⟨rfl, out_no ⟨rfl, h1, g1⟩⟩
  · have ht := take_yes s escs p d B w hs hp h hb
    have hlt := J.sk_lt (show J.am escs 0 = false by decide) hb
    have hpk : J.pk s p = (s.get! p).toNat := if_pos hlt
    have hu := fun W hW => unit_any s (p + 1) d B W hs hlt hW
    unfold J.sk at hb
    rw [am_escs] at hb
    have hb := of_decide_eq_true hb
    obtain ⟨c, hc⟩ : ∃ c, c = J.pk s p := ⟨_, rfl⟩
    rw [← hc] at ht hb hpk
    clear hc
    rcases hb with rfl | rfl | rfl | rfl | rfl | rfl | rfl | rfl | rfl
    case inr.inr.inr.inr.inr.inr.inr.inr =>
      rw [es_u hlt hpk.symm]
      go_enter Tryd.func133, Tryd.ntmps133
      go_wp2_with fail
      refine ht.mono ?_
      rintro en w1 ⟨rfl, h1, g1⟩
      have hu := hu w1 h1
      have HG := Lib.hid g1
      clear h1 g1 hpk
      generalize J.hxF s 4 (p + 1) 0 = x at *
      obtain ⟨n, q, e⟩ := x
      go_wp2_with fail
      refine hu.mono ?_
      rintro en w2 ho
      unfold Out at ho
      split at ho
      · rename_i h0
        obtain ⟨rfl, h2, g2⟩ := ho
        obtain rfl : e = 0 := h0
        have HF := Lib.hid (And.intro h2 (grow_trans HG.out g2))
        clear h2 g2
        go_wp2_with fail
        go_ret
        exact out_ok ⟨rfl, HF.out⟩
      · rename_i h0
        obtain ⟨rfl, h2, g2⟩ := ho
        refine ⟨rfl, ?_⟩
        unfold Out
        rw [if_neg h0]
        exact ⟨rfl, h2, grow_trans HG.out g2⟩
    all_goals
      first
        | rw [es_of (k := 0) hlt hpk.symm (by decide) rfl]
        | rw [es_of (k := 1) hlt hpk.symm (by decide) rfl]
        | rw [es_of (k := 2) hlt hpk.symm (by decide) rfl]
        | rw [es_of (k := 3) hlt hpk.symm (by decide) rfl]
        | rw [es_of (k := 4) hlt hpk.symm (by decide) rfl]
        | rw [es_of (k := 5) hlt hpk.symm (by decide) rfl]
        | rw [es_of (k := 6) hlt hpk.symm (by decide) rfl]
        | rw [es_of (k := 7) hlt hpk.symm (by decide) rfl]
      clear hpk hu
      go_enter Tryd.func133, Tryd.ntmps133
      go_wp2_with fail
      refine ht.mono ?_
      rintro en w1 ⟨rfl, h1, g1⟩
      go_wp2_with fail
      go_ret
      exact out_ok ⟨rfl, h1, g1⟩

set_option maxRecDepth 100000 in
set_option maxHeartbeats 400000 in
theorem within_any (c a b : Int) (w : World) :
    Calls Tryd.prog 132 #[.int .i32 c, .int .i32 a, .int .i32 b] w fun en w' => en = .returned (.bool (decide (a ≤ c) && decide (c ≤ b))) ∧ w = w' := by
  by_cases h1 : a ≤ c
  · have HE := Lib.hid (show (decide (a ≤ c) && decide (c ≤ b)) = decide (c ≤ b) by rw [decide_eq_true h1]; rfl)
    go_enter Tryd.func132, Tryd.ntmps132
    go_wp2_with fail
    go_ret
    rw [HE.out]
    exact ⟨rfl, rfl⟩
  · have HE := Lib.hid (show (decide (a ≤ c) && decide (c ≤ b)) = false by rw [decide_eq_false h1]; rfl)
    go_enter Tryd.func132, Tryd.ntmps132
    go_wp2_with fail
    go_ret
    rw [HE.out]
    exact ⟨rfl, rfl⟩
end Go.Proofs.YtkehpmbafjelpaaDoor
