/- The program's writer: any value. Conditions: what is written is at most 10^11 bytes. -/
import Derived.Test.YtoolkaahjmnjeaaGreatDoorMW24
import Derived.Test.YtoolkaahjmnjeaaGreatDoorMW16
namespace Go.Proofs.YtoolkaahjmnjeaaGreatDoor
open Go Go.RowKit Go.Shelf Go.Lib

theorem ent_appendNull : ∀ args w, (callFunc 137 args).run Tryz.prog w = .ok (.enter 137 args) w := enters_of Tryz.func137 (by kernel_rfl) rfl
theorem ent_appendFalse : ∀ args w, (callFunc 138 args).run Tryz.prog w = .ok (.enter 138 args) w := enters_of Tryz.func138 (by kernel_rfl) rfl
theorem ent_appendTrue : ∀ args w, (callFunc 139 args).run Tryz.prog w = .ok (.enter 139 args) w := enters_of Tryz.func139 (by kernel_rfl) rfl
theorem ent_appendNumber : ∀ args w, (callFunc 141 args).run Tryz.prog w = .ok (.enter 141 args) w := enters_of Tryz.func141 (by kernel_rfl) rfl
theorem ent_appendText : ∀ args w, (callFunc 142 args).run Tryz.prog w = .ok (.enter 142 args) w := enters_of Tryz.func142 (by kernel_rfl) rfl
theorem ent_appendList : ∀ args w, (callFunc 144 args).run Tryz.prog w = .ok (.enter 144 args) w := enters_of Tryz.func144 (by kernel_rfl) rfl
theorem ent_appendObject : ∀ args w, (callFunc 146 args).run Tryz.prog w = .ok (.enter 146 args) w := enters_of Tryz.func146 (by kernel_rfl) rfl
theorem own_shape {w : World} {B : Nat} {e : TypeId} {size n : Nat} {v : Value} {xs : List Value} (h : w.ownsRow B e size v n xs) : ∃ p c, v = .slice p n c := by
  rcases h.2 with ⟨rfl, rfl⟩ | ⟨g, cap, cur, rfl, _⟩
  · exact ⟨none, 0, rfl⟩
  · exact ⟨_, cap, rfl⟩
theorem aV_plain {k : Nat} {x : ByteArray} {l f : V.T} {b : List UInt8} (h : ¬ 262144 < b.length) (h5 : ¬ k = 5) (h6 : ¬ k = 6) : aV k x l f b = b ++ lf k x := by
  unfold aV
  rw [if_neg (by omega), if_neg h5, if_neg h6]
theorem aV_list {x : ByteArray} {l f : V.T} {b : List UInt8} (h : ¬ 262144 < b.length) : aV 5 x l f b = aT l 0 true (b ++ [91]) ++ [93] := by
  unfold aV
  rw [if_neg (by omega), if_pos rfl]
theorem aV_obj {x : ByteArray} {l f : V.T} {b : List UInt8} (h : ¬ 262144 < b.length) : aV 6 x l f b = aT f 1 true (b ++ [123]) ++ [125] := by
  unfold aV
  rw [if_neg (by omega), if_neg (by decide), if_pos rfl]
set_option maxRecDepth 100000 in
theorem wr_ok : ∀ N, WrOk N
  | 0 => fun k x va ua l f A B b lb w h => absurd h (Nat.not_lt_zero _)
  | N + 1 => fun k x va ua l f A B b lb w hN hk h3 hkl hkf hlen hl hf hA hown hBw => by
    have ih := wr_ok N
    obtain ⟨p, c, rfl⟩ := own_shape hown
    by_cases hlong : 262144 < lb.length
    · rw [show aV k x l f lb = lb from if_pos hlong]
      exact appendValueK_long B _ va ua k x lb w p c rfl hlong (by omega) hown hBw
    · have own : ∀ W, Below w.heap.size w W → W.ownsRow B 5 1 (.slice p lb.length c) lb.length (U.cellsOf lb) := fun W hW => own8_below hown hW
      have bw : ∀ W, Below w.heap.size w W → B ≤ W.heap.size := fun W hW => Nat.le_trans hBw hW.size
      have hc : k = 0 ∨ k = 1 ∨ k = 2 ∨ k = 3 ∨ k = 4 ∨ k = 5 ∨ k = 6 := by omega
      rcases hc with rfl | rfl | rfl | rfl | rfl | rfl | rfl
      · rw [aV_plain hlong (by decide) (by decide)]
        exact appendValueK_with B _ va ua 0 x lb _ 134 135 136 137 w p c rfl (by decide) (by omega) hBw (fun W => by kernel_rfl) ent_appendNull (fun W hW => appendNull_k B _ va ua 0 x lb W (by omega) (own W hW) (bw W hW))
      · rw [aV_plain hlong (by decide) (by decide)]
        exact appendValueK_with B _ va ua 1 x lb _ 134 135 136 138 w p c rfl (by decide) (by omega) hBw (fun W => by kernel_rfl) ent_appendFalse (fun W hW => appendFalse_k B _ va ua 1 x lb W (by omega) (own W hW) (bw W hW))
      · rw [aV_plain hlong (by decide) (by decide)]
        exact appendValueK_with B _ va ua 2 x lb _ 134 135 136 139 w p c rfl (by decide) (by omega) hBw (fun W => by kernel_rfl) ent_appendTrue (fun W hW => appendTrue_k B _ va ua 2 x lb W (by omega) (own W hW) (bw W hW))
      · rw [aV_plain hlong (by decide) (by decide)]
        exact appendValueK_with B _ va ua 3 x lb _ 140 135 136 141 w p c rfl (by decide) (by omega) hBw (fun W => by kernel_rfl) ent_appendNumber (fun W hW => appendNumber_k B _ va ua 3 x lb W (by omega) (by omega) (own W hW) (bw W hW))
      · rw [aV_plain hlong (by decide) (by decide)]
        exact appendValueK_with B _ va ua 4 x lb _ 85 135 136 142 w p c rfl (by decide) (by omega) hBw (fun W => by kernel_rfl) ent_appendText (fun W hW => appendText_k B _ va ua 4 x lb W (by omega) (by omega) (own W hW) (bw W hW))
      · rw [aV_list hlong]
        exact appendValueK_with B _ va ua 5 x lb _ 134 143 136 144 w p c rfl (by decide) (by omega) hBw (fun W => by kernel_rfl) ent_appendList (fun W hW => appendList_any N ih x va ua l f A B _ lb W (by omega) hkl (by omega) (hl.below hW) (hf.below hW) hA (own W hW) (bw W hW))
      · rw [aV_obj hlong]
        exact appendValueK_with B _ va ua 6 x lb _ 134 135 145 146 w p c rfl (by decide) (by omega) hBw (fun W => by kernel_rfl) ent_appendObject (fun W hW => appendObject_any N ih x va ua l f A B _ lb W (by omega) hkf (by omega) (hl.below hW) (hf.below hW) hA (own W hW) (bw W hW))
end Go.Proofs.YtoolkaahjmnjeaaGreatDoor

namespace Go.Proofs.YtoolkaahjmnjeaaGreatDoor
open Go Go.RowKit Go.Lib

theorem enters_field1 : ∀ args w, (callFunc 215 args).run Tryz.prog w = .ok (.enter 215 args) w := enters_of Tryz.func215 (by kernel_rfl) rfl
theorem FI.slice {s : ByteArray} {B n0 : Nat} {t : V.T} {W : World} (hs : s.size ≤ 262144) (h : FI s B n0 t W) : ∃ v, Blk1 W (n0 + 1) v ∧ HS W (fun b => n0 ≤ b) 1 v t := by
  obtain ⟨h1, h2, h3, v, xs, D, b0, b1, b3, hm, hD, ho, hr⟩ := h
  exact ⟨v, b1, (RP.slice hr ho (Nat.le_refl _) (by omega)).mono (fun b hb _ => by show n0 ≤ b; have : n0 + 4 ≤ b := hb; omega)⟩
theorem fields_at (w : World) (tr ts tm : TypeId) (B : Nat) (s : ByteArray) (hB : B < w.heap.size) :
    FI s B w.heap.size .nil ((((w.alloc (.cells #[.pointer (some ⟨B, 0, none⟩)] tr)).alloc (.cells #[.slice none 0 0] ts)).alloc (.map #[] 0)).alloc (.cells #[.map (some (w.heap.size + 2))] tm)) ∧
      Below w.heap.size w ((((w.alloc (.cells #[.pointer (some ⟨B, 0, none⟩)] tr)).alloc (.cells #[.slice none 0 0] ts)).alloc (.map #[] 0)).alloc (.cells #[.map (some (w.heap.size + 2))] tm)) := by
  have h2 := two_new w (.cells #[.pointer (some ⟨B, 0, none⟩)] tr) (.cells #[.slice none 0 0] ts)
  have hz := two_size w (.cells #[.pointer (some ⟨B, 0, none⟩)] tr) (.cells #[.slice none 0 0] ts)
  have hb := two_below w (.cells #[.pointer (some ⟨B, 0, none⟩)] tr) (.cells #[.slice none 0 0] ts)
  generalize (w.alloc (.cells #[.pointer (some ⟨B, 0, none⟩)] tr)).alloc (.cells #[.slice none 0 0] ts) = W at *
  have hm := World.ownsMap_made (H := Nat) W Tryz.prog 9 (plainElem Tryz.prog 3)
  have hz2 : (W.alloc (.map #[] 0)).heap.size = w.heap.size + 3 := by simp [hz]
  have hb2 := hb.alloc hb.size (.map #[] 0)
  have k0 := (Below.heap_alloc W (.map #[] 0) w.heap.size (by omega)).trans h2.1
  have k1 := (Below.heap_alloc W (.map #[] 0) (w.heap.size + 1) (by omega)).trans h2.2
  rw [hz] at hm
  generalize W.alloc (.map #[] 0) = W2 at *
  have k3 := heap_alloc_new W2 (.cells #[.map (some (w.heap.size + 2))] tm)
  rw [hz2] at k3
  exact ⟨⟨Nat.zero_le _, hB, by simp [hz2], .slice none 0 0, [], .map [], ⟨_, (Below.heap_alloc W2 _ _ (by omega)).trans k0⟩, ⟨_, (Below.heap_alloc W2 _ _ (by omega)).trans k1⟩, ⟨_, k3⟩, hm.alloc _, MapIs.nil, World.ownsRow_nil _ _ _ _, RP.nil _ _ _ _⟩, hb2.alloc hb2.size _⟩

set_option maxRecDepth 100000 in
set_option maxHeartbeats 1000000 in
theorem fields_any (s : ByteArray) (v : Nat → VR) (d B p : Nat) (w : World) (hs : s.size ≤ 262144) (hd : d ≤ 64) (hv : d < 64 → VC s v (d + 1) B) (hvl : ∀ q, q ≤ s.size → Le s q (v q).2.1) (hp : p < s.size) (hpk : J.pk s p = 123) (hT : TB B w) (h : Rd s p d B w) :
    Calls Tryz.prog 200 #[.pointer (some ⟨B, 0, none⟩)] w (OutS 1 (its s 125 (fo s v) d p .nil) s d B w) := by
  have hB := h.lt
  have hit := fun (W : World) (hI : FI s B w.heap.size .nil W) (hW : Rd s p d B W) (hg : w.grownBy W (some B)) =>
    items_any s ⟨#[123]⟩ ⟨#[125]⟩ 125 d p B (fo s v) (FI s B w.heap.size) (fun q t => t.len ≤ q) 215 #[.pointer (some ⟨w.heap.size, 0, none⟩), .pointer (some ⟨w.heap.size + 3, 0, none⟩), .pointer (some ⟨w.heap.size + 1, 0, none⟩)] .nil w W
      (by omega) hp (by unfold J.sk; rw [hpk]; exact (J.am_one 123 123 (by decide)).trans rfl) hd (by decide) (by decide) (Lib.hid (fun k => J.am_one 125 k (by decide))) (Lib.hid (fun k => two_am 44 125 k (by decide) (by decide))) (by decide)
      (Lib.hid (fun q a hq => fo_le hvl q a hq)) (Lib.hid (fun a W W' hi g => hi.keep g))
      (Lib.hid ⟨fun q q' a h1 h2 => Nat.le_trans h1 h2, fun q a hq h1 h2 => by
        have := (fo_le hvl q a hq).1
        unfold fo at *
        split at h2
        · rename_i h0
          rw [if_pos h0] at this ⊢
          split at h2
          · rename_i h3
            rw [if_pos h3] at this ⊢
            exact Nat.le_trans (V.T.put_len ..) (Nat.succ_le_succ (Nat.le_trans h1 this))
          · rename_i h3
            exact absurd h2 h3
        · rename_i h0
          exact absurd h2 h0⟩) (Nat.zero_le _)
      (Lib.hid (fun hlt q a X hq hP hi hX hgX => field1_any s v (d + 1) B q a w X hs (hv hlt) hvl hq hP (hT.grow hgX) hi hX hgX)) enters_field1 hW hI hg
  have H0 := Lib.hid (fields_at w 221 23 254 B s hB)
  have hmm := @run_makeMap Tryz.prog
  generalize its s 125 (fo s v) d p .nil = r at *
  go_enter Tryz.func200, Tryz.ntmps200
  go_wp2_with fail
  refine (hit _ H0.out.1 (h.below H0.out.2) (grow_below H0.out.2 _)).mono ?_
  rintro en w1 ho
  unfold OutI at ho
  split at ho
  · rename_i h0
    obtain ⟨rfl, i1, h1, g1⟩ := ho
    obtain ⟨vv, b1, hS⟩ := i1.slice hs
    have c1 := b1.cell
    have HF := Lib.hid (show OutS 1 r s d B w (.returned vv) w1 from by unfold OutS; rw [if_pos h0]; exact ⟨vv, rfl, hS, h1, g1⟩)
    clear i1 h1 g1 b1 hS
    go_wp2_with fail
    go_ret
    exact HF.out
  · rename_i h0
    have HF := Lib.hid (show OutS 1 r s d B w en w1 from by unfold OutS; rw [if_neg h0]; exact ho)
    obtain ⟨rfl, h2, g2⟩ := ho
    exact ⟨rfl, HF.out⟩
end Go.Proofs.YtoolkaahjmnjeaaGreatDoor
