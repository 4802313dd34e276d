/- The program's reader of JSON: one character of a string, or the unit that an escape denotes. Conditions: a string of at most 10^12 bytes; the library's tables of UTF-8 as its text lays them. -/
import Derived.Test.YtbdpghmpdghnbaaDoorMJ11
import Derived.Test.YtbdpghmpdghnbaaDoorMJ16
namespace Go.Proofs.YtbdpghmpdghnbaaDoor
open Go Go.RowKit Go.Lib

/-- the library's tables lie below -/
def TB (B : Nat) (w : World) : Prop := ∃ w0, Tabs w0 ∧ Below w0.heap.size w0 w ∧ w0.heap.size ≤ B
theorem TB.tabs {B : Nat} {w : World} (h : TB B w) : Tabs w := by obtain ⟨w0, h1, h2, _⟩ := h; exact tabs_below h1 h2
theorem TB.grow {B : Nat} {w w' : World} (h : TB B w) (g : w.grownBy w' (some B)) : TB B w' := by
  obtain ⟨w0, h1, h2, h3⟩ := h
  exact ⟨w0, h1, h2.trans (below_grow g h3 h2.size), h3⟩
theorem TB.below {B : Nat} {w w' : World} (h : TB B w) (hB : Below w.heap.size w w') : TB B w' := h.grow (grow_below hB _)

/-- the character or the unit that stands there, the place behind it, what is wrong -/
def cr (s : ByteArray) (q : Nat) : Nat × Nat × Nat :=
  if J.is s q 0 92 = true then J.es s (q + 1)
  else if q < s.size ∧ U.bad s q = false ∧ 32 ≤ U.ch s q then (U.ch s q, q + U.wd s q, 0) else (0, q, 30)
theorem out_died {v : Value} {s : ByteArray} {x : Nat × Nat} {d B : Nat} {w : World} {en : Ending} {w' : World} (h0 : ¬ x.2 = 0) (h : Died x.2 s x.1 B w en w') : Out v s x d B w en w' := by unfold Out; rw [if_neg h0]; exact h
/-- a number comes of reading, or an error -/
def OutN (s : ByteArray) (x : Nat × Nat × Nat) (d B : Nat) (w : World) (en : Ending) (w' : World) : Prop := Out (.int .i32 (x.1 : Nat)) s x.2 d B w en w'
theorem cr_le {s : ByteArray} {q : Nat} (h : q ≤ s.size) : q ≤ (cr s q).2.1 ∧ (cr s q).2.1 ≤ s.size := by
  unfold cr
  split
  · rename_i hi
    have h1 := (J.of_is hi).2.1
    have := J.es_le (s := s) (p := q + 1) h1
    omega
  · split
    · rename_i h1
      have := U.facts s q h1.1
      simp only []; omega
    · exact ⟨Nat.le_refl _, h⟩
theorem es_go {s : ByteArray} {p : Nat} (h : (J.es s p).2.2 = 0) : p < (J.es s p).2.1 := by
  unfold J.es at *
  split
  · exact Nat.lt_succ_self _
  · split
    · rename_i hi
      have h1 := (J.of_is hi).2.1
      have := (J.hxF_le (s := s) 4 (p + 1) 0 h1).1
      omega
    · rename_i h0 hi
      rw [h0] at h
      simp only [if_neg hi] at h
      cases h
theorem cr_go {s : ByteArray} {q : Nat} (h : (cr s q).2.2 = 0) : q < (cr s q).2.1 := by
  unfold cr at *
  split at h
  · rename_i hi
    rw [if_pos hi]
    have := es_go h
    omega
  · rename_i hi
    rw [if_neg hi]
    split at h
    · rename_i h1
      rw [if_pos h1]
      have := U.facts s q h1.1
      simp only []; omega
    · cases h
theorem cr_lt (s : ByteArray) (q : Nat) : (cr s q).1 < 2097152 := by
  unfold cr
  split
  · exact Nat.lt_of_lt_of_le J.es_num (by decide)
  · split
    · rename_i h1
      have := U.facts s q h1.1
      simp only []; omega
    · exact (by decide : (0 : Nat) < 2097152)
theorem am92 (c : Nat) : J.am ⟨#[92]⟩ c = decide (c = 92) := J.am_one 92 c (by decide)

set_option maxRecDepth 100000 in
set_option maxHeartbeats 1000000 in
theorem character_any (s : ByteArray) (q d B : Nat) (w : World) (hs : s.size ≤ 1000000000000) (hq : q ≤ s.size) (hT : Hid (TB B w)) (h : Rd s q d B w) :
    Calls Tryd.prog 37 #[.pointer (some ⟨B, 0, none⟩)] w (OutN s (cr s q) d B w) := by
  have hsk := J.sk_is (s := s) q (by decide) am92
  cases hb : J.is s q 0 92
  · have hk := skip_no s ⟨#[92]⟩ q d B w hs hq h (by rw [hsk, hb])
    by_cases hg : q < s.size ∧ U.bad s q = false
    · have hn := fun W hW => utfNext_good s q W hg.1 hs hW hg.2
      have hf := U.facts s q hg.1
      by_cases h32 : 32 ≤ U.ch s q
      · have HC := Lib.hid (show cr s q = (U.ch s q, q + U.wd s q, 0) by unfold cr; rw [if_neg (by rw [hb]; decide), if_pos ⟨hg.1, hg.2, h32⟩])
        have hlt := hg.1
        clear hsk hb hg
        generalize U.ch s q = c at *
        generalize U.wd s q = k at *
        go_enter Tryd.func37, Tryd.ntmps37
        go_wp2_with fail
        refine hk.mono ?_
        rintro en w1 ⟨rfl, h1, g1⟩
        have c0 := h1.c0
        have c1 := h1.c1
        have f1 := h1.f1
        have KEEP := Lib.hid (show ∀ w', Below w1.heap.size w1 w' → w'.cell? ⟨B, 0, none⟩ = some (.string s) ∧ w'.cell? ⟨B, 1, none⟩ = some (.int .i64 q) ∧ Tabs w' from fun w' hB => ⟨bcellv hB c0, bcellv hB c1, ((hT.out.grow g1).below hB).tabs⟩)
        go_wp2_with fail
        go_region_held3 (fun w' => w'.cell? ⟨B, 0, none⟩ = some (.string s) ∧ w'.cell? ⟨B, 1, none⟩ = some (.int .i64 q) ∧ Tabs w')
          (first | exact KEEP.out _ hB2.out | exact KEEP.out _ (Below.refl _ _).drew | exact KEEP.out _ (Below.refl _ _))
          (first | (go_at_call 47; (with_reducible refine (hn _ (KEEP.out _ (Below.refl _ _).drew).2.2).mono ?_); rintro e w8 ⟨rfl, hB1⟩; have hB2 := Lib.hid ((Below.refl w1.heap.size w1).drew.trans hB1); clear hB1))
        have h8 := h1.below hB2.out
        have f8 := h8.f1
        have HF := Lib.hid (h8.set1 (q + k))
        rw [Int.natCast_add] at HF
        have HG := Lib.hid (grow_trans g1 (grow_below hB2.out (some B)))
        clear h8
        go_wp2_with fail
        go_ret
        unfold OutN
        rw [HC.out]
        exact out_ok ⟨rfl, HF.out, grow_trans HG.out (grow_set _ _ _ _)⟩
      · have HC := Lib.hid (show cr s q = (0, q, 30) by unfold cr; rw [if_neg (by rw [hb]; decide), if_neg (fun e => h32 e.2.2)])
        have hlt := hg.1
        clear hsk hb hg
        generalize U.ch s q = c at *
        generalize U.wd s q = k at *
        go_enter Tryd.func37, Tryd.ntmps37
        go_wp2_with fail
        refine hk.mono ?_
        rintro en w1 ⟨rfl, h1, g1⟩
        have c0 := h1.c0
        have c1 := h1.c1
        have f1 := h1.f1
        have KEEP := Lib.hid (show ∀ w', Below w1.heap.size w1 w' → w'.cell? ⟨B, 0, none⟩ = some (.string s) ∧ w'.cell? ⟨B, 1, none⟩ = some (.int .i64 q) ∧ Tabs w' from fun w' hB => ⟨bcellv hB c0, bcellv hB c1, ((hT.out.grow g1).below hB).tabs⟩)
        go_wp2_with fail
        go_region_held3 (fun w' => w'.cell? ⟨B, 0, none⟩ = some (.string s) ∧ w'.cell? ⟨B, 1, none⟩ = some (.int .i64 q) ∧ Tabs w')
          (first | exact KEEP.out _ hB2.out | exact KEEP.out _ (Below.refl _ _).drew | exact KEEP.out _ (Below.refl _ _))
          (first | (go_at_call 47; (with_reducible refine (hn _ (KEEP.out _ (Below.refl _ _).drew).2.2).mono ?_); rintro e w8 ⟨rfl, hB1⟩; have hB2 := Lib.hid ((Below.refl w1.heap.size w1).drew.trans hB1); clear hB1))
        have h8 := h1.below hB2.out
        have HG := Lib.hid (grow_trans g1 (grow_below hB2.out (some B)))
        go_wp2_with fail
        unfold OutN
        rw [HC.out]
        exact ⟨rfl, out_no ⟨rfl, ⟨_, h8⟩, HG.out⟩⟩
    · have HC := Lib.hid (show cr s q = (0, q, 30) by unfold cr; rw [if_neg (by rw [hb]; decide), if_neg (fun e => hg ⟨e.1, e.2.1⟩)])
      have hn : ∀ W, Tabs W → Calls Tryd.prog 47 #[.string s, .int .i64 q] W (NextIs 0 0 false W) := by
        intro W hW
        by_cases hlt : q < s.size
        · refine utfNext_bad s q W hlt hs hW ?_
          cases hx : U.bad s q
          · exact absurd ⟨hlt, hx⟩ hg
          · rfl
        · exact utfNext_out s q W hs (Or.inr (by omega))
      clear hsk hb hg
      go_enter Tryd.func37, Tryd.ntmps37
      go_wp2_with fail
      refine hk.mono ?_
      rintro en w1 ⟨rfl, h1, g1⟩
      have c0 := h1.c0
      have c1 := h1.c1
      have f1 := h1.f1
      have KEEP := Lib.hid (show ∀ w', Below w1.heap.size w1 w' → w'.cell? ⟨B, 0, none⟩ = some (.string s) ∧ w'.cell? ⟨B, 1, none⟩ = some (.int .i64 q) ∧ Tabs w' from fun w' hB => ⟨bcellv hB c0, bcellv hB c1, ((hT.out.grow g1).below hB).tabs⟩)
      go_wp2_with fail
      go_region_held3 (fun w' => w'.cell? ⟨B, 0, none⟩ = some (.string s) ∧ w'.cell? ⟨B, 1, none⟩ = some (.int .i64 q) ∧ Tabs w')
        (first | exact KEEP.out _ hB2.out | exact KEEP.out _ (Below.refl _ _).drew | exact KEEP.out _ (Below.refl _ _))
        (first | (go_at_call 47; (with_reducible refine (hn _ (KEEP.out _ (Below.refl _ _).drew).2.2).mono ?_); rintro e w8 ⟨rfl, hB1⟩; have hB2 := Lib.hid ((Below.refl w1.heap.size w1).drew.trans hB1); clear hB1))
      have h8 := h1.below hB2.out
      have HG := Lib.hid (grow_trans g1 (grow_below hB2.out (some B)))
      go_wp2_with fail
      unfold OutN
      rw [HC.out]
      exact ⟨rfl, out_no ⟨rfl, ⟨_, h8⟩, HG.out⟩⟩
  · have hk := skip_yes s ⟨#[92]⟩ q d B w hs hq h (by rw [hsk, hb])
    have hlt := (J.of_is hb).2.1
    have hes := fun W hW => escape_any s (q + 1) d B W hs hlt hW
    rw [show cr s q = J.es s (q + 1) by unfold cr; rw [if_pos hb]]
    unfold OutN
    clear hsk hb
    generalize J.es s (q + 1) = x at *
    obtain ⟨n, p2, e⟩ := x
    go_enter Tryd.func37, Tryd.ntmps37
    go_wp2_with fail
    refine hk.mono ?_
    rintro en w1 ⟨rfl, h1, g1⟩
    have hes := hes w1 h1
    have HG := Lib.hid g1
    clear h1 g1
    go_wp2_with fail
    refine hes.mono ?_
    rintro en w2 ho
    unfold Out at ho
    split at ho
    · rename_i h0
      obtain ⟨rfl, h2, g2⟩ := ho
      obtain rfl : e = 0 := h0
      have HF := Lib.hid (And.intro h2 (grow_trans HG.out g2))
      clear h2 g2
      go_wp2_with fail
      go_ret
      exact out_ok ⟨rfl, HF.out⟩
    · rename_i h0
      obtain ⟨rfl, h2, g2⟩ := ho
      exact ⟨rfl, out_died h0 ⟨rfl, h2, grow_trans HG.out g2⟩⟩
end Go.Proofs.YtbdpghmpdghnbaaDoor
