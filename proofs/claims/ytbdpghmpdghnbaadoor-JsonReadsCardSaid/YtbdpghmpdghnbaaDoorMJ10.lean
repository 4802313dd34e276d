/- The program's reader of JSON: four hexadecimal digits. Conditions: a string of at most 10^12 bytes. -/
import Derived.Test.YtbdpghmpdghnbaaDoorMJ09
import Derived.Lib.AtoiErrMem
import Derived.Deep.RegionHeld3
namespace Go.Proofs.YtbdpghmpdghnbaaDoor
open Go Go.RowKit Go.Lib

def hxs : ByteArray := ⟨#[48, 49, 50, 51, 52, 53, 54, 55, 56, 57, 97, 98, 99, 100, 101, 102, 65, 66, 67, 68, 69, 70]⟩
theorem am_hxs (c : Nat) : J.am hxs c = decide (0 ≤ J.hv c) := by
  have e : ∀ n, n < 256 → (Nat.toUInt8 n).toNat = n := fun n h => Nat.mod_eq_of_lt h
  have e2 : J.am hxs c = decide (48 = c ∨ 49 = c ∨ 50 = c ∨ 51 = c ∨ 52 = c ∨ 53 = c ∨ 54 = c ∨ 55 = c ∨ 56 = c ∨ 57 = c ∨ 97 = c ∨ 98 = c ∨ 99 = c ∨ 100 = c ∨ 101 = c ∨ 102 = c ∨ 65 = c ∨ 66 = c ∨ 67 = c ∨ 68 = c ∨ 69 = c ∨ 70 = c) := by
    unfold J.am hxs
    simp only [List.any_cons, List.any_nil, Bool.or_false, Bool.decide_or]
    rfl
  rw [e2]
  refine decide_eq_decide.2 ?_
  unfold J.hv
  constructor
  · intro h
    split <;> (try split) <;> (try split) <;> omega
  · intro h
    split at h <;> (try split at h) <;> (try split at h) <;> omega
theorem sk_hxs (s : ByteArray) (p : Nat) : J.sk s hxs p = decide (p < s.size ∧ 0 ≤ J.hv (s.get! p).toNat) := by
  unfold J.sk J.pk
  rw [am_hxs]
  by_cases h : p < s.size
  · rw [if_pos h]; exact decide_eq_decide.2 ⟨fun e => ⟨h, e⟩, fun e => e.2⟩
  · rw [if_neg h]; exact decide_eq_decide.2 ⟨fun e => absurd e (by decide), fun e => absurd e.1 h⟩
/-- the number of k digits that stand there -/
def hm (s : ByteArray) (p : Nat) : Nat → Nat
  | 0 => 0
  | k + 1 => hm s p k * 16 + (J.hv (s.get! (p + k)).toNat).toNat
theorem get_part {s : ByteArray} {p e i : Nat} (h : p + i < e) (he : e ≤ s.size) : (s.extract p e).get! i = s.get! (p + i) := by
  rw [J.at_get (show i < (s.extract p e).size by rw [ByteArray.size_extract]; omega), J.at_get (show p + i < s.size by omega)]
  exact ByteArray.getElem_extract ..
theorem hm_hn (s : ByteArray) (p : Nat) (he : p + 4 ≤ s.size) : ∀ k, k ≤ 4 → hn (s.extract p (p + 4)) k = hm s p k
  | 0, _ => rfl
  | k + 1, h => by
    show hn _ k * 16 + _ = hm s p k * 16 + _
    rw [hm_hn s p he k (by omega), get_part (by omega) he]
/-- k digits stand there -/
def Hx (s : ByteArray) (p k : Nat) : Prop := p + k ≤ s.size ∧ (∀ i, i < k → 0 ≤ J.hv (s.get! (p + i)).toNat) ∧ J.hxF s 4 p 0 = J.hxF s (4 - k) (p + k) (hm s p k)
theorem Hx.step {s : ByteArray} {p k : Nat} (h : Hx s p k) (hk : k < 4) (hb : J.sk s hxs (p + k) = true) : Hx s p (k + 1) := by
  rw [sk_hxs] at hb
  obtain ⟨h1, h2⟩ := of_decide_eq_true hb
  refine ⟨by omega, ?_, ?_⟩
  · intro i hi
    by_cases e : i = k
    · subst e; exact h2
    · exact h.2.1 i (by omega)
  · rw [h.2.2, show 4 - k = (4 - (k + 1)) + 1 by omega, J.hxF_step h1 h2]
    rfl
theorem Hx.wrong {s : ByteArray} {p k : Nat} (h : Hx s p k) (hk : k < 4) (hb : J.sk s hxs (p + k) = false) : J.hxF s 4 p 0 = (0, p + k, 30) := by
  rw [sk_hxs] at hb
  have h1 := of_decide_eq_false hb
  rw [h.2.2, show 4 - k = (4 - (k + 1)) + 1 by omega, J.hxF_wrong h1]

set_option maxRecDepth 100000 in
set_option maxHeartbeats 400000 in
theorem parsePub_any (t : ByteArray) (h4 : t.size = 4) (hd : ∀ i, i < 4 → 0 ≤ J.hv (t.get! i).toNat) (w : World) :
    Calls Tryd.prog 52 #[.string t, .int .i64 16, .int .i64 16] w fun e w' => e = .returned (.tuple #[.int .u64 ((hn t 4 : Nat) : Int), .nilIface]) ∧ Below w.heap.size w w' := by
  have hk := parse16_any t h4 hd w
  go_enter Tryd.func52, Tryd.ntmps52
  go_wp2_with fail
  refine hk.mono ?_
  rintro en w1 ⟨rfl, rfl⟩
  go_wp2_with fail
  go_ret2
  exact ⟨rfl, bytesWorld_below _ _ _⟩

set_option maxRecDepth 100000 in
set_option maxHeartbeats 1000000 in
theorem unit_any (s : ByteArray) (p d B : Nat) (w : World) (hs : s.size ≤ 1000000000000) (hp : p ≤ s.size) (h : Rd s p d B w) :
    Calls Tryd.prog 50 #[.pointer (some ⟨B, 0, none⟩)] w (Out (.int .i32 ((J.hxF s 4 p 0).1 : Nat)) s (J.hxF s 4 p 0).2 d B w) := by
  have c1 := h.c1
  go_enter Tryd.func50, Tryd.ntmps50
  go_wp2_with fail
  go_loopw [10] (fun i wr => ∃ j : Nat, i = .int .i64 j ∧ j ≤ 4 ∧ Hid (Rd s (p + j) d B wr ∧ w.grownBy wr (some B) ∧ Hx s p j)) (fun i _ => 4 - (RowKit.intOf i).toNat)
  case atStart => exact ⟨0, rfl, Nat.zero_le _, Lib.hid ⟨h, grow_drewN w 0 _, hp, fun i hi => absurd hi (Nat.not_lt_zero i), rfl⟩⟩
  case round =>
    obtain ⟨j, rfl, hj, HJ⟩ := hrel
    obtain ⟨h1, g1, x1⟩ := HJ.out
    by_cases hlt : j < 4
    · have HL := Lib.hid hlt
      cases hb : J.sk s hxs (p + j)
      · have ht := take_no s hxs (p + j) d B wr hs x1.1 h1 hb
        have HE := Lib.hid (x1.wrong hlt hb)
        clear hb x1 h1
        go_wp2_with fail
        refine ht.mono ?_
        rintro en w2 ⟨rfl, h2, g2⟩
        have HF := Lib.hid (And.intro h2 (grow_trans g1 g2))
        clear h2 g2
        go_wp2_with fail
        rw [HE.out]
        exact ⟨rfl, out_no ⟨rfl, HF.out⟩⟩
      · have ht := take_yes s hxs (p + j) d B wr hs x1.1 h1 hb
        have HX := Lib.hid (x1.step hlt hb)
        clear hb x1 h1
        generalize J.pk s (p + j) = c at *
        go_wp2_with fail
        refine ht.mono ?_
        rintro en w2 ⟨rfl, h2, g2⟩
        have HN := Lib.hid (show Rd s (p + (j + 1)) d B w2 ∧ w.grownBy w2 (some B) ∧ Hx s p (j + 1) from ⟨h2, grow_trans g1 g2, HX.out⟩)
        clear h2 g2 ht g1
        go_wp2_with fail
        go_roundw
        case rel => exact ⟨j + 1, by go_num, HL.out, HN⟩
        case measure => have := HL.out; simp [RowKit.intOf]; omega
    · obtain rfl : j = 4 := by omega
      have c0 := h1.c0
      have c4 := h1.c1
      have hp4 := x1.1
      have hsz : (s.extract p (p + 4)).size = 4 := by rw [ByteArray.size_extract]; omega
      have hc := fun W => parsePub_any (s.extract p (p + 4)) hsz (fun i hi => by rw [get_part (by omega) hp4]; exact x1.2.1 i hi) W
      rw [hm_hn s p hp4 4 (Nat.le_refl _)] at hc
      have HX := Lib.hid (show J.hxF s 4 p 0 = (hm s p 4, p + 4, 0) from x1.2.2)
      have hn4 : hm s p 4 < 65536 := by have := hn_lt (s.extract p (p + 4)) 4; rw [hm_hn s p hp4 4 (Nat.le_refl _)] at this; exact this
      have hpp : p ≤ p + 4 := Nat.le_add_right _ _
      generalize hm s p 4 = n at *
      generalize p + 4 = p4 at *
      clear hsz
      have h1' := h1
      have KEEP := Lib.hid (show ∀ w', Below wr.heap.size wr w' → w'.cell? ⟨B, 0, none⟩ = some (.string s) ∧ w'.cell? ⟨B, 1, none⟩ = some (.int .i64 p4) from fun w' hB => ⟨bcellv hB c0, bcellv hB c4⟩)
      clear x1
      go_wp2_with fail
      go_region_held3 (fun w' => w'.cell? ⟨B, 0, none⟩ = some (.string s) ∧ w'.cell? ⟨B, 1, none⟩ = some (.int .i64 p4))
        (first | exact KEEP.out _ hB2.out | exact KEEP.out _ (Below.refl _ _).drew | exact KEEP.out _ (Below.refl _ _))
        (first | (go_at_call 52; (with_reducible refine (hc _).mono ?_); rintro e w8 ⟨rfl, hB1⟩; have hB2 := Lib.hid ((Below.refl wr.heap.size wr).drew.trans hB1); clear hB1))
      go_wp2_with fail
      go_ret
      rw [HX.out]
      exact out_ok ⟨rfl, h1.below hB2.out, grow_trans g1 (grow_below hB2.out _)⟩
end Go.Proofs.YtbdpghmpdghnbaaDoor

namespace Go.Proofs.YtbdpghmpdghnbaaDoor
open Go Go.RowKit Go.Lib

def escs : ByteArray := ⟨#[34, 92, 47, 98, 102, 110, 114, 116, 117]⟩
theorem am_escs (c : Nat) : J.am escs c = decide (34 = c ∨ 92 = c ∨ 47 = c ∨ 98 = c ∨ 102 = c ∨ 110 = c ∨ 114 = c ∨ 116 = c ∨ 117 = c) := by
  unfold J.am escs
  simp only [List.any_cons, List.any_nil, Bool.or_false, Bool.decide_or]
  rfl
theorem es_of {s : ByteArray} {p k c : Nat} (hp : p < s.size) (hc : (s.get! p).toNat = c) (hk : k < 8) (hs : J.sgn k = c) : J.es s p = (J.unt k, p + 1, 0) := by
  refine J.es_sign hk (J.is_yes hp (by rw [hs, hc])) (fun j hj => J.is_other 0 ?_)
  rw [hc, ← hs]
  have h1 : ∀ a, a < 8 → ∀ b, b < a → ¬ J.sgn a = J.sgn b := by decide
  exact h1 k hk j hj
theorem es_u {s : ByteArray} {p : Nat} (hp : p < s.size) (hc : (s.get! p).toNat = 117) : J.es s p = J.hxF s 4 (p + 1) 0 := by
  rw [J.es_none (fun j hj => J.is_other 0 ?_), if_pos (J.is_yes hp hc)]
  rw [hc]
  have h1 : ∀ a, a < 8 → ¬ 117 = J.sgn a := by decide
  exact h1 j hj
theorem es_no {s : ByteArray} {p : Nat} (h : J.sk s escs p = false) : J.es s p = (0, p, 30) := by
  have hn : ∀ c, J.am escs c = true → 0 < c → J.is s p 0 c = false := by
    intro c hc h0
    unfold J.sk J.pk at h
    unfold J.is
    refine decide_eq_false (fun e => ?_)
    rw [if_pos e.2.1, e.2.2, hc] at h
    exact absurd h (by decide)
  rw [J.es_none (fun j hj => ?_), if_neg (by rw [hn 117 (by decide) (by decide)]; decide)]
  have h1 : ∀ a, a < 8 → J.am escs (J.sgn a) = true ∧ 0 < J.sgn a := by decide
  exact hn _ (h1 j hj).1 (h1 j hj).2

set_option maxRecDepth 100000 in
set_option maxHeartbeats 1000000 in
theorem escape_any (s : ByteArray) (p d B : Nat) (w : World) (hs : s.size ≤ 1000000000000) (hp : p ≤ s.size) (h : Rd s p d B w) :
    Calls Tryd.prog 46 #[.pointer (some ⟨B, 0, none⟩)] w (Out (.int .i32 ((J.es s p).1 : Nat)) s (J.es s p).2 d B w) := by
  cases hb : J.sk s escs p
  · have ht := take_no s escs p d B w hs hp h hb
    rw [es_no hb]
    clear hb
    go_enter Tryd.func46, Tryd.ntmps46
    go_wp2_with fail
    refine ht.mono ?_
    rintro en w1 ⟨rfl, h1, g1⟩
    exact ⟨rfl, out_no ⟨rfl, h1, g1⟩⟩
  · have ht := take_yes s escs p d B w hs hp h hb
    have hlt := J.sk_lt (show J.am escs 0 = false by decide) hb
    have hpk : J.pk s p = (s.get! p).toNat := if_pos hlt
    have hu := fun W hW => unit_any s (p + 1) d B W hs hlt hW
    unfold J.sk at hb
    rw [am_escs] at hb
    have hb := of_decide_eq_true hb
    obtain ⟨c, hc⟩ : ∃ c, c = J.pk s p := ⟨_, rfl⟩
    rw [← hc] at ht hb hpk
    clear hc
    rcases hb with rfl | rfl | rfl | rfl | rfl | rfl | rfl | rfl | rfl
    case inr.inr.inr.inr.inr.inr.inr.inr =>
      rw [es_u hlt hpk.symm]
      go_enter Tryd.func46, Tryd.ntmps46
      go_wp2_with fail
      refine ht.mono ?_
      rintro en w1 ⟨rfl, h1, g1⟩
      have hu := hu w1 h1
      have HG := Lib.hid g1
      clear h1 g1 hpk
      generalize J.hxF s 4 (p + 1) 0 = x at *
      obtain ⟨n, q, e⟩ := x
      go_wp2_with fail
      refine hu.mono ?_
      rintro en w2 ho
      unfold Out at ho
      split at ho
      · rename_i h0
        obtain ⟨rfl, h2, g2⟩ := ho
        obtain rfl : e = 0 := h0
        have HF := Lib.hid (And.intro h2 (grow_trans HG.out g2))
        clear h2 g2
        go_wp2_with fail
        go_ret
        exact out_ok ⟨rfl, HF.out⟩
      · rename_i h0
        obtain ⟨rfl, h2, g2⟩ := ho
        refine ⟨rfl, ?_⟩
        unfold Out
        rw [if_neg h0]
        exact ⟨rfl, h2, grow_trans HG.out g2⟩
    all_goals
      first
        | rw [es_of (k := 0) hlt hpk.symm (by decide) rfl]
        | rw [es_of (k := 1) hlt hpk.symm (by decide) rfl]
        | rw [es_of (k := 2) hlt hpk.symm (by decide) rfl]
        | rw [es_of (k := 3) hlt hpk.symm (by decide) rfl]
        | rw [es_of (k := 4) hlt hpk.symm (by decide) rfl]
        | rw [es_of (k := 5) hlt hpk.symm (by decide) rfl]
        | rw [es_of (k := 6) hlt hpk.symm (by decide) rfl]
        | rw [es_of (k := 7) hlt hpk.symm (by decide) rfl]
      clear hpk hu
      go_enter Tryd.func46, Tryd.ntmps46
      go_wp2_with fail
      refine ht.mono ?_
      rintro en w1 ⟨rfl, h1, g1⟩
      go_wp2_with fail
      go_ret
      exact out_ok ⟨rfl, h1, g1⟩

set_option maxRecDepth 100000 in
set_option maxHeartbeats 400000 in
theorem within_any (c a b : Int) (w : World) :
    Calls Tryd.prog 45 #[.int .i32 c, .int .i32 a, .int .i32 b] w fun en w' => en = .returned (.bool (decide (a ≤ c) && decide (c ≤ b))) ∧ w = w' := by
  by_cases h1 : a ≤ c
  · have HE := Lib.hid (show (decide (a ≤ c) && decide (c ≤ b)) = decide (c ≤ b) by rw [decide_eq_true h1]; rfl)
    go_enter Tryd.func45, Tryd.ntmps45
    go_wp2_with fail
    go_ret
    rw [HE.out]
    exact ⟨rfl, rfl⟩
  · have HE := Lib.hid (show (decide (a ≤ c) && decide (c ≤ b)) = false by rw [decide_eq_false h1]; rfl)
    go_enter Tryd.func45, Tryd.ntmps45
    go_wp2_with fail
    go_ret
    rw [HE.out]
    exact ⟨rfl, rfl⟩
end Go.Proofs.YtbdpghmpdghnbaaDoor
