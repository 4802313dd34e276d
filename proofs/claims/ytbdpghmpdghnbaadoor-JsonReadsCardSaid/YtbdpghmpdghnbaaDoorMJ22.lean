/- The program's reader of JSON: a list. Conditions: a string of at most 2^18 bytes; a value that is read as it should be. -/
import Derived.Test.YtbdpghmpdghnbaaDoorMJ21
namespace Go.Proofs.YtbdpghmpdghnbaaDoor
open Go Go.RowKit Go.Lib

/-- a slice comes of reading, in memory of its own, or an error -/
def OutS (e : Nat) (r : V.T × Nat × Nat) (s : ByteArray) (d B : Nat) (w : World) (en : Ending) (w' : World) : Prop :=
  if r.2.2 = 0 then ∃ v, en = .returned v ∧ HS w' (fun b => w.heap.size ≤ b) e v r.1 ∧ Rd s r.2.1 d B w' ∧ w.grownBy w' (some B) else Died r.2.2 s r.2.1 B w en w'
theorem two_am (a b k : Nat) (ha : a < 256) (hb : b < 256) : J.am (⟨#[a.toUInt8]⟩ ++ ⟨#[b.toUInt8]⟩) k = (decide (k = a) || decide (k = b)) := am_two a b k ha hb
theorem enters_list1 : ∀ args w, (callFunc 39 args).run Tryd.prog w = .ok (.enter 39 args) w := enters_of Tryd.func39 (by kernel_rfl) rfl
theorem LI.slice {s : ByteArray} {B n0 : Nat} {t : V.T} {W : World} (hs : s.size ≤ 262144) (h : LI s B n0 t W) : ∃ v, Blk1 W (n0 + 1) v ∧ HS W (fun b => n0 ≤ b) 0 v t := by
  obtain ⟨h1, h2, h3, v, xs, b0, b1, ho, hr⟩ := h
  exact ⟨v, b1, (RP.slice hr ho (Nat.le_refl _) (by omega)).mono (fun b hb _ => by show n0 ≤ b; have : n0 + 2 ≤ b := hb; omega)⟩

set_option maxRecDepth 100000 in
set_option maxHeartbeats 1000000 in
theorem list_any (s : ByteArray) (v : Nat → VR) (d B p : Nat) (w : World) (hs : s.size ≤ 262144) (hd : d ≤ 64) (hv : d < 64 → VC s v (d + 1) B) (hvl : ∀ q, q ≤ s.size → Le s q (v q).2.1) (hp : p < s.size) (hpk : J.pk s p = 91) (hT : TB B w) (h : Rd s p d B w) :
    Calls Tryd.prog 30 #[.pointer (some ⟨B, 0, none⟩)] w (OutS 0 (its s 93 (lo v) d p .nil) s d B w) := by
  have hB := h.lt
  have hit := fun (W : World) (hI : LI s B w.heap.size .nil W) (hW : Rd s p d B W) (hg : w.grownBy W (some B)) =>
    items_any s ⟨#[91]⟩ ⟨#[93]⟩ 93 d p B (lo v) (LI s B w.heap.size) (fun q t => t.len ≤ q) 39 #[.pointer (some ⟨w.heap.size + 1, 0, none⟩), .pointer (some ⟨w.heap.size, 0, none⟩)] .nil w W
      (by omega) hp (by unfold J.sk; rw [hpk]; exact (J.am_one 91 91 (by decide)).trans rfl) hd (by decide) (by decide) (Lib.hid (fun k => J.am_one 93 k (by decide))) (Lib.hid (fun k => two_am 44 93 k (by decide) (by decide))) (by decide)
      (Lib.hid (fun q a hq => lo_le hvl q a hq)) (Lib.hid (fun a W W' hi g => hi.keep g))
      (Lib.hid ⟨fun q q' a h1 h2 => Nat.le_trans h1 h2, fun q a hq h1 h2 => by
        have := (lo_le hvl q a hq).1
        unfold lo at *
        split at h2
        · rename_i h0
          rw [if_pos h0] at this ⊢
          rw [V.T.snoc_len]
          exact Nat.succ_le_succ (Nat.le_trans h1 this)
        · rename_i h0
          exact absurd h2 h0⟩) (Nat.zero_le _)
      (Lib.hid (fun hlt q a X hq hP hi hX hgX => list1_any s v (d + 1) B q a w X hs (hv hlt) hvl hq hP (hT.grow hgX) hi hX hgX)) enters_list1 hW hI hg
  have H0 := Lib.hid (show LI s B w.heap.size .nil ((w.alloc (.cells #[.pointer (some ⟨B, 0, none⟩)] 45)).alloc (.cells #[.slice none 0 0] 22)) ∧ Rd s p d B ((w.alloc (.cells #[.pointer (some ⟨B, 0, none⟩)] 45)).alloc (.cells #[.slice none 0 0] 22)) ∧
      w.grownBy ((w.alloc (.cells #[.pointer (some ⟨B, 0, none⟩)] 45)).alloc (.cells #[.slice none 0 0] 22)) (some B) from by
    have h2 := two_new w (.cells #[.pointer (some ⟨B, 0, none⟩)] 45) (.cells #[.slice none 0 0] 22)
    have hz := two_size w (.cells #[.pointer (some ⟨B, 0, none⟩)] 45) (.cells #[.slice none 0 0] 22)
    have hb := two_below w (.cells #[.pointer (some ⟨B, 0, none⟩)] 45) (.cells #[.slice none 0 0] 22)
    exact ⟨⟨Nat.zero_le _, hB, by omega, _, [], ⟨_, h2.1⟩, ⟨_, h2.2⟩, World.ownsRow_nil _ _ _ _, RP.nil _ _ _ _⟩, h.below hb, grow_below hb _⟩)
  generalize its s 93 (lo v) d p .nil = r at *
  go_enter Tryd.func30, Tryd.ntmps30
  go_wp2_with fail
  refine (hit _ H0.out.1 H0.out.2.1 H0.out.2.2).mono ?_
  rintro en w1 ho
  unfold OutI at ho
  split at ho
  · rename_i h0
    obtain ⟨rfl, i1, h1, g1⟩ := ho
    obtain ⟨vv, b1, hS⟩ := i1.slice hs
    have c1 := b1.cell
    have HF := Lib.hid (show OutS 0 r s d B w (.returned vv) w1 from by unfold OutS; rw [if_pos h0]; exact ⟨vv, rfl, hS, h1, g1⟩)
    clear i1 h1 g1 b1 hS
    go_wp2_with fail
    go_ret
    exact HF.out
  · rename_i h0
    have HF := Lib.hid (show OutS 0 r s d B w en w1 from by unfold OutS; rw [if_neg h0]; exact ho)
    obtain ⟨rfl, h2, g2⟩ := ho
    exact ⟨rfl, HF.out⟩
end Go.Proofs.YtbdpghmpdghnbaaDoor

namespace Go.Proofs.YtbdpghmpdghnbaaDoor
open Go Go.RowKit Go.Lib
theorem am58 (c : Nat) : J.am ⟨#[58]⟩ c = decide (c = 58) := J.am_one 58 c (by decide)

set_option maxRecDepth 100000 in
set_option maxHeartbeats 1000000 in
theorem name_any (s : ByteArray) (q d B : Nat) (w : World) (hs : s.size ≤ 262144) (hq : q ≤ s.size) (hT : TB B w) (h : Rd s q d B w) :
    Calls Tryd.prog 41 #[.pointer (some ⟨B, 0, none⟩)] w (Out (.string (nmc s q).1) s (nmc s q).2 d B w) := by
  have hs1 : s.size ≤ 1000000000000 := by omega
  have hk1 := skipAll_any s J.blk q d B w hs1 hq blanks0 h
  rw [J.sa_bl] at hk1
  have hq1 := (J.bl_le 0 hq).2
  have hnm : nmc s q = if (ptw s (J.bl s q 0)).2.2 = 0 then
    (if J.is s (J.bl s (ptw s (J.bl s q 0)).2.1 0) 0 58 = true then (enc (ptw s (J.bl s q 0)).1, J.bl s (ptw s (J.bl s q 0)).2.1 0 + 1, 0) else (⟨#[]⟩, J.bl s (ptw s (J.bl s q 0)).2.1 0, 30))
    else (⟨#[]⟩, (ptw s (J.bl s q 0)).2) := rfl
  generalize J.bl s q 0 = q1 at *
  have htx := fun W hT hW => text_any s q1 d B W (by omega) hq1 hT hW
  have hq2 := (ptw_le hq1).2
  generalize ptw s q1 = x at *
  have hsk := fun q => J.sk_is (s := s) q (by decide) am58
  have HT := Lib.hid hT
  clear hT
  by_cases he : x.2.2 = 0
  · have hk2 := fun W hW => skipAll_any s J.blk x.2.1 d B W hs1 hq2 blanks0 hW
    simp only [J.sa_bl] at hk2
    have hq3 := (J.bl_le 0 hq2).2
    rw [if_pos he] at hnm
    generalize J.bl s x.2.1 0 = q3 at *
    unfold Out at htx
    simp only [if_pos he] at htx
    have hyes := fun W hW hb => take_yes s ⟨#[58]⟩ q3 d B W hs1 hq3 hW hb
    have hno := fun W hW hb => take_no s ⟨#[58]⟩ q3 d B W hs1 hq3 hW hb
    rw [hsk] at hyes hno
    generalize J.pk s q3 = c0 at *
    cases hb : J.is s q3 0 58
    · rw [hb] at hnm hno
      have HE := Lib.hid (hnm.trans (if_neg (by decide)))
      clear hnm hb
      go_enter Tryd.func41, Tryd.ntmps41
      go_wp2_with fail
      refine hk1.mono ?_
      rintro en w1 ⟨rfl, h1, g1⟩
      have T1 := HT.out.grow g1
      go_wp2_with fail
      refine (htx _ (Lib.hid T1) h1).mono ?_
      rintro en w2 ⟨rfl, h2, g2⟩
      have G2 := Lib.hid (grow_trans g1 g2)
      clear h1 g1 g2
      go_wp2_with fail
      refine (hk2 _ h2).mono ?_
      rintro en w3 ⟨rfl, h3, g3⟩
      have G3 := Lib.hid (grow_trans G2.out g3)
      clear h2 g3
      go_wp2_with fail
      refine (hno _ h3 trivial).mono ?_
      rintro en w4 ⟨rfl, h4, g4⟩
      refine ⟨rfl, ?_⟩
      rw [HE.out]
      exact out_no ⟨rfl, h4, grow_trans G3.out g4⟩
    · rw [hb] at hnm hyes
      have HE := Lib.hid (hnm.trans (if_pos rfl))
      clear hnm hb
      go_enter Tryd.func41, Tryd.ntmps41
      go_wp2_with fail
      refine hk1.mono ?_
      rintro en w1 ⟨rfl, h1, g1⟩
      have T1 := HT.out.grow g1
      go_wp2_with fail
      refine (htx _ (Lib.hid T1) h1).mono ?_
      rintro en w2 ⟨rfl, h2, g2⟩
      have G2 := Lib.hid (grow_trans g1 g2)
      clear h1 g1 g2
      go_wp2_with fail
      refine (hk2 _ h2).mono ?_
      rintro en w3 ⟨rfl, h3, g3⟩
      have G3 := Lib.hid (grow_trans G2.out g3)
      clear h2 g3
      go_wp2_with fail
      refine (hyes _ h3 trivial).mono ?_
      rintro en w4 ⟨rfl, h4, g4⟩
      have HF := Lib.hid (And.intro h4 (grow_trans G3.out g4))
      clear h3 h4 g4
      go_wp2_with fail
      go_ret
      rw [HE.out]
      exact out_ok ⟨rfl, HF.out⟩
  · rw [if_neg he] at hnm
    have HE := Lib.hid hnm
    clear hnm
    unfold Out at htx
    simp only [if_neg he] at htx
    go_enter Tryd.func41, Tryd.ntmps41
    go_wp2_with fail
    refine hk1.mono ?_
    rintro en w1 ⟨rfl, h1, g1⟩
    have T1 := HT.out.grow g1
    go_wp2_with fail
    refine (htx _ (Lib.hid T1) h1).mono ?_
    rintro en w2 ⟨rfl, h2, g2⟩
    refine ⟨rfl, ?_⟩
    rw [HE.out]
    exact out_died he ⟨rfl, h2, grow_trans g1 g2⟩
end Go.Proofs.YtbdpghmpdghnbaaDoor
