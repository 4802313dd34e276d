/- The program's reader of JSON: an object. Conditions: a string of at most 2^18 bytes; a value that is read as it should be. -/
import Derived.Test.YtbdpghmpdghnbaaDoorMJ24
namespace Go.Proofs.YtbdpghmpdghnbaaDoor
open Go Go.RowKit Go.Lib

theorem enters_field1 : ∀ args w, (callFunc 40 args).run Tryd.prog w = .ok (.enter 40 args) w := enters_of Tryd.func40 (by kernel_rfl) rfl
theorem FI.slice {s : ByteArray} {B n0 : Nat} {t : V.T} {W : World} (hs : s.size ≤ 262144) (h : FI s B n0 t W) : ∃ v, Blk1 W (n0 + 1) v ∧ HS W (fun b => n0 ≤ b) 1 v t := by
  obtain ⟨h1, h2, h3, v, xs, D, b0, b1, b3, hm, hD, ho, hr⟩ := h
  exact ⟨v, b1, (RP.slice hr ho (Nat.le_refl _) (by omega)).mono (fun b hb _ => by show n0 ≤ b; have : n0 + 4 ≤ b := hb; omega)⟩
theorem fields_at (w : World) (tr ts tm : TypeId) (B : Nat) (s : ByteArray) (hB : B < w.heap.size) :
    FI s B w.heap.size .nil ((((w.alloc (.cells #[.pointer (some ⟨B, 0, none⟩)] tr)).alloc (.cells #[.slice none 0 0] ts)).alloc (.map #[] 0)).alloc (.cells #[.map (some (w.heap.size + 2))] tm)) ∧
      Below w.heap.size w ((((w.alloc (.cells #[.pointer (some ⟨B, 0, none⟩)] tr)).alloc (.cells #[.slice none 0 0] ts)).alloc (.map #[] 0)).alloc (.cells #[.map (some (w.heap.size + 2))] tm)) := by
  have h2 := two_new w (.cells #[.pointer (some ⟨B, 0, none⟩)] tr) (.cells #[.slice none 0 0] ts)
  have hz := two_size w (.cells #[.pointer (some ⟨B, 0, none⟩)] tr) (.cells #[.slice none 0 0] ts)
  have hb := two_below w (.cells #[.pointer (some ⟨B, 0, none⟩)] tr) (.cells #[.slice none 0 0] ts)
  generalize (w.alloc (.cells #[.pointer (some ⟨B, 0, none⟩)] tr)).alloc (.cells #[.slice none 0 0] ts) = W at *
  have hm := World.ownsMap_made (H := Nat) W Tryd.prog 9 (plainElem Tryd.prog 3)
  have hz2 : (W.alloc (.map #[] 0)).heap.size = w.heap.size + 3 := by simp [hz]
  have hb2 := hb.alloc hb.size (.map #[] 0)
  have k0 := (Below.heap_alloc W (.map #[] 0) w.heap.size (by omega)).trans h2.1
  have k1 := (Below.heap_alloc W (.map #[] 0) (w.heap.size + 1) (by omega)).trans h2.2
  rw [hz] at hm
  generalize W.alloc (.map #[] 0) = W2 at *
  have k3 := heap_alloc_new W2 (.cells #[.map (some (w.heap.size + 2))] tm)
  rw [hz2] at k3
  exact ⟨⟨Nat.zero_le _, hB, by simp [hz2], .slice none 0 0, [], .map [], ⟨_, (Below.heap_alloc W2 _ _ (by omega)).trans k0⟩, ⟨_, (Below.heap_alloc W2 _ _ (by omega)).trans k1⟩, ⟨_, k3⟩, hm.alloc _, MapIs.nil, World.ownsRow_nil _ _ _ _, RP.nil _ _ _ _⟩, hb2.alloc hb2.size _⟩

set_option maxRecDepth 100000 in
set_option maxHeartbeats 1000000 in
theorem fields_any (s : ByteArray) (v : Nat → VR) (d B p : Nat) (w : World) (hs : s.size ≤ 262144) (hd : d ≤ 64) (hv : d < 64 → VC s v (d + 1) B) (hvl : ∀ q, q ≤ s.size → Le s q (v q).2.1) (hp : p < s.size) (hpk : J.pk s p = 123) (hT : TB B w) (h : Rd s p d B w) :
    Calls Tryd.prog 31 #[.pointer (some ⟨B, 0, none⟩)] w (OutS 1 (its s 125 (fo s v) d p .nil) s d B w) := by
  have hB := h.lt
  have hit := fun (W : World) (hI : FI s B w.heap.size .nil W) (hW : Rd s p d B W) (hg : w.grownBy W (some B)) =>
    items_any s ⟨#[123]⟩ ⟨#[125]⟩ 125 d p B (fo s v) (FI s B w.heap.size) (fun q t => t.len ≤ q) 40 #[.pointer (some ⟨w.heap.size, 0, none⟩), .pointer (some ⟨w.heap.size + 3, 0, none⟩), .pointer (some ⟨w.heap.size + 1, 0, none⟩)] .nil w W
      (by omega) hp (by unfold J.sk; rw [hpk]; exact (J.am_one 123 123 (by decide)).trans rfl) hd (by decide) (by decide) (Lib.hid (fun k => J.am_one 125 k (by decide))) (Lib.hid (fun k => two_am 44 125 k (by decide) (by decide))) (by decide)
      (Lib.hid (fun q a hq => fo_le hvl q a hq)) (Lib.hid (fun a W W' hi g => hi.keep g))
      (Lib.hid ⟨fun q q' a h1 h2 => Nat.le_trans h1 h2, fun q a hq h1 h2 => by
        have := (fo_le hvl q a hq).1
        unfold fo at *
        split at h2
        · rename_i h0
          rw [if_pos h0] at this ⊢
          split at h2
          · rename_i h3
            rw [if_pos h3] at this ⊢
            exact Nat.le_trans (V.T.put_len ..) (Nat.succ_le_succ (Nat.le_trans h1 this))
          · rename_i h3
            exact absurd h2 h3
        · rename_i h0
          exact absurd h2 h0⟩) (Nat.zero_le _)
      (Lib.hid (fun hlt q a X hq hP hi hX hgX => field1_any s v (d + 1) B q a w X hs (hv hlt) hvl hq hP (hT.grow hgX) hi hX hgX)) enters_field1 hW hI hg
  have H0 := Lib.hid (fields_at w 45 23 64 B s hB)
  have hmm := @run_makeMap Tryd.prog
  generalize its s 125 (fo s v) d p .nil = r at *
  go_enter Tryd.func31, Tryd.ntmps31
  go_wp2_with fail
  refine (hit _ H0.out.1 (h.below H0.out.2) (grow_below H0.out.2 _)).mono ?_
  rintro en w1 ho
  unfold OutI at ho
  split at ho
  · rename_i h0
    obtain ⟨rfl, i1, h1, g1⟩ := ho
    obtain ⟨vv, b1, hS⟩ := i1.slice hs
    have c1 := b1.cell
    have HF := Lib.hid (show OutS 1 r s d B w (.returned vv) w1 from by unfold OutS; rw [if_pos h0]; exact ⟨vv, rfl, hS, h1, g1⟩)
    clear i1 h1 g1 b1 hS
    go_wp2_with fail
    go_ret
    exact HF.out
  · rename_i h0
    have HF := Lib.hid (show OutS 1 r s d B w en w1 from by unfold OutS; rw [if_neg h0]; exact ho)
    obtain ⟨rfl, h2, g2⟩ := ho
    exact ⟨rfl, HF.out⟩
end Go.Proofs.YtbdpghmpdghnbaaDoor
