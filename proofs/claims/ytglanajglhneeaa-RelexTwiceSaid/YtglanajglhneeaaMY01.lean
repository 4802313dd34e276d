/- One of the chapter's rows: awake, of layer 13. Conditions: none. -/
import Derived.Test.YtglanajglhneeaaMX41
import Derived.Test.YtglanajglhneeaaMX14
namespace Go.Proofs
open Go Go.RowKit Go.Lib
namespace Ytglanajglhneeaa
namespace D
def w13 : ByteArray := ⟨#[97, 32, 47, 32, 98]⟩
def x13 : ByteArray := ⟨#[97, 32, 47, 42, 32, 98]⟩
def enc3 (t : Tk) : Nat × Nat × Nat := (t.k, t.w, t.l)
def dec3 (x : Nat × Nat × Nat) : Tk := ⟨x.1, x.2.1, x.2.2⟩
theorem dec_enc (l : List Tk) : (l.map enc3).map dec3 = l := by
  rw [List.map_map]
  exact List.map_id l
def t13 : List Tk := [⟨6, 1, 1⟩, ⟨1, 1, 1⟩, ⟨36, 1, 1⟩, ⟨1, 1, 1⟩, ⟨6, 1, 1⟩]
def u13 : List Tk := [⟨6, 1, 1⟩, ⟨1, 1, 1⟩, ⟨4, 4, 1⟩]
theorem toks_w13e : (toks w13).map enc3 = t13.map enc3 := by decide +kernel
theorem toks_w13 : toks w13 = t13 := by rw [← dec_enc (toks w13), toks_w13e, dec_enc]
theorem toks_x13e : (toks x13).map enc3 = u13.map enc3 := by decide +kernel
theorem toks_x13 : toks x13 = u13 := by rw [← dec_enc (toks x13), toks_x13e, dec_enc]
theorem ed13 : Ed1 w13 x13 3 3 4 := ⟨by decide, by decide, by decide, by decide, by decide, by apply ba_ext; decide +kernel, by apply ba_ext; decide +kernel⟩
theorem wi13 : Wi t13 3 2 := by
  refine ⟨by decide, fun i t hi ht => ?_, fun t ht => ?_⟩
  · obtain rfl | rfl : i = 0 ∨ i = 1 := by omega
    all_goals (cases ht; decide)
  · cases ht; decide
theorem num13 : IsNum t13 u13 3 3 4 2 5 3 := by
  refine ⟨wi13, by decide, fun i h1 h2 k hm => ?_, Or.inr ⟨rfl, rfl⟩⟩
  obtain rfl : i = 2 := by omega
  have := hm.2.1
  exact absurd this (by decide)
end D
set_option maxHeartbeats 2000000 in
set_option maxRecDepth 100000 in
theorem awake13_any (w : World) : Calls Try.prog 15 #[] w (fun e w' => e = .returned (.bool true) ∧ Below w.heap.size w w') := by
  have HA := Lib.hid (all_any D.w13 w (by decide))
  have HU := Lib.hid (fun v W hr => update_any D.w13 D.x13 3 3 4 (by decide) (by decide) D.ed13 v W hr)
  go_enter Try.func15, Try.ntmps15
  go_wp2_with fail
  refine HA.out.mono ?_
  rintro e w1 ⟨v, rfl, hown, _, hB⟩
  have hrd := rdT_toks (by decide) hown
  have HUp := Lib.hid (HU.out v w1 hrd)
  have HB := Lib.hid hB
  clear hown hrd hB
  go_wp2_with fail
  refine HUp.out.mono ?_
  rintro e w2 ⟨v2, a, b, c, rfl, hr2, hn2, hB2⟩
  have H2 := Lib.hid (HB.out.trans (hB2.mono HB.out.size))
  obtain ⟨ea, eb, ec⟩ := D.IsNum.uniq (D.toks_pos D.w13) (show D.IsNum (D.toks D.w13) (D.toks D.x13) 3 3 4 2 5 3 by rw [D.toks_w13, D.toks_x13]; exact D.num13) hn2
  subst ea eb ec
  rw [D.toks_x13] at hr2
  obtain ⟨z, cap, rfl, h1, h2⟩ := hr2.shape rfl
  obtain ⟨bk, o, rfl, _, c0, c1, c2⟩ := hr2.tk (j := 2) (t := ⟨4, 4, 1⟩) rfl
  simp only [D.u13, List.length_cons, List.length_nil, Nat.reduceAdd, Nat.reduceMul] at h1 c0 c1 c2 ⊢
  clear hr2 hn2 hB2
  go_wp2_with fail
  go_ret
  exact ⟨rfl, H2.out⟩
end Ytglanajglhneeaa
end Go.Proofs
