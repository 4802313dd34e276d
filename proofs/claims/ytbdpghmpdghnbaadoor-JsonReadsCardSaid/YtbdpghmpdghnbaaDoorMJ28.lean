/- The document's own reader of JSON: what stands behind a backslash. Conditions: a string of at most 10^12 bytes. -/
import Derived.Test.YtbdpghmpdghnbaaDoorMJ27
namespace Go.Proofs.YtbdpghmpdghnbaaDoor
open Go Go.RowKit Go.Lib

theorem digit_any (b : Nat) (hb : b < 256) (w : World) :
    Calls Tryd.prog 33 #[.int .u8 b] w fun en w' => en = .returned (.int .i64 (J.hv b)) ∧ w' = w := by
  unfold J.hv
  go_enter Tryd.func33, Tryd.ntmps33
  go_wp2_with fail
  all_goals (go_ret; exact ⟨rfl, rfl⟩)

theorem St.alloc {s : ByteArray} {p e B : Nat} {W : World} (h : St s p e B W) (o : Obj) : St s p e B (W.alloc o) := by
  have hB := (Array.getElem?_eq_some_iff.1 h).1
  show (W.heap.push o)[B]? = _
  rw [Array.getElem?_push_lt hB, ← Array.getElem?_eq_getElem hB]
  exact h
theorem grownBy_alloc (W : World) (o : Obj) (row : Option Nat) : W.grownBy (W.alloc o) row :=
  ⟨rfl, rfl, rfl, by simp, fun i hi _ => by
    show (W.heap.push o)[i]? = _
    rw [Array.getElem?_push_lt hi, ← Array.getElem?_eq_getElem hi]⟩
theorem cell_new (W : World) (cs : Array Value) (t b k : Nat) (hb : b = W.heap.size) : (W.alloc (.cells cs t)).cell? ⟨b, k, none⟩ = cs[k]? := by
  subst hb
  unfold World.cell?
  rw [show (W.alloc (.cells cs t)).heap[W.heap.size]? = some (.cells cs t) from Array.getElem?_push_size]
  rfl
theorem cell_heap {W W' : World} {b : Nat} (k : Nat) (h : W'.heap[b]? = W.heap[b]?) : W'.cell? ⟨b, k, none⟩ = W.cell? ⟨b, k, none⟩ := by
  unfold World.cell?
  rw [show W'.heap[({ block := b, off := k } : Addr).block]? = W.heap[({ block := b, off := k } : Addr).block]? from h]
theorem cell_old (W : World) (o : Obj) (b k : Nat) (h : b < W.heap.size) : (W.alloc o).cell? ⟨b, k, none⟩ = W.cell? ⟨b, k, none⟩ :=
  cell_heap k (show (W.heap.push o)[b]? = _ by rw [Array.getElem?_push_lt h, ← Array.getElem?_eq_getElem h])
theorem cell_else (W : World) (q B o b k : Nat) (v : Value) (h : b ≠ B) : ((W.drewN q).setCell ⟨B, o, none⟩ v).cell? ⟨b, k, none⟩ = W.cell? ⟨b, k, none⟩ :=
  cell_heap k (heap_setCell_other (W.drewN q) ⟨B, o, none⟩ b v h)

/-- the reader has come to another place, or found something wrong, and gives a number back -/
def Read (s : ByteArray) (x : Nat × Nat × Nat) (B : Nat) (w : World) (en : Ending) (w' : World) : Prop :=
  en = .returned (.int .i64 (x.1 : Nat)) ∧ St s x.2.1 x.2.2 B w' ∧ w.grownBy w' (some B)

set_option maxRecDepth 100000 in
set_option maxHeartbeats 1000000 in
theorem escapeR_any (s : ByteArray) (p B : Nat) (w : World) (hs : s.size ≤ 1000000000000) (hp : p ≤ s.size) (h : St s p 0 B w) :
    Calls Tryd.prog 22 #[.pointer (some ⟨B, 0, none⟩)] w (Read s (J.es s p) B w) := by
  have hB := (Array.getElem?_eq_some_iff.1 h).1
  obtain ⟨X, hX⟩ : ∃ X, J.es s p = X := ⟨_, rfl⟩
  rw [hX]
  have HX := Lib.hid hX
  clear hX
  go_enter Tryd.func22, Tryd.ntmps22
  go_wp2_with fail
  go_loopw [5] (fun i wr => ∃ k : Nat, i = .int .i64 k ∧ k ≤ 8 ∧ Hid (St s p 0 B wr ∧ w.grownBy wr (some B) ∧ (∀ j, j < k → J.is s p 0 (J.sgn j) = false) ∧ (∀ j, j < 8 → wr.cell? ⟨w.heap.size, j, none⟩ = some (.int .u8 (J.sgn j : Nat))) ∧ ∀ j, j < 8 → wr.cell? ⟨w.heap.size + 1, j, none⟩ = some (.int .i64 (J.unt j : Nat)))) (fun i _ => 8 - (RowKit.intOf i).toNat)
  case atStart =>
    refine ⟨0, rfl, by decide, Lib.hid ⟨(h.alloc _).alloc _, grown_trans (grownBy_alloc _ _ _) (grownBy_alloc _ _ _), (fun j hj => absurd hj (Nat.not_lt_zero _)), fun j hj => ?_, fun j hj => ?_⟩⟩
    · rw [cell_old _ _ _ _ (by simp), cell_new _ _ _ _ _ rfl]
      have : j = 0 ∨ j = 1 ∨ j = 2 ∨ j = 3 ∨ j = 4 ∨ j = 5 ∨ j = 6 ∨ j = 7 := by omega
      rcases this with rfl | rfl | rfl | rfl | rfl | rfl | rfl | rfl <;> rfl
    · rw [cell_new _ _ _ _ _ (by simp)]
      have : j = 0 ∨ j = 1 ∨ j = 2 ∨ j = 3 ∨ j = 4 ∨ j = 5 ∨ j = 6 ∨ j = 7 := by omega
      rcases this with rfl | rfl | rfl | rfl | rfl | rfl | rfl | rfl <;> rfl
  case round =>
    obtain ⟨k, rfl, hk, HW⟩ := hrel
    by_cases hlt : k < 8
    · have a0 := HW.out.2.2.2.1 k hlt
      have a1 := HW.out.2.2.2.2 k hlt
      have hi := is_any s p 0 (J.sgn k) B wr hs HW.out.1
      have c1 := HW.out.1.c1
      have f1 := HW.out.1.f1
      cases hb : J.is s p 0 (J.sgn k)
      · rw [hb] at hi
        have HB := Lib.hid (fun j (hj : j < k + 1) =>
          if hjk : j = k then hjk ▸ hb else HW.out.2.2.1 j (by omega))
        have HC := Lib.hid HW.out.2.2.2
        have h1 := HW.out.1
        have G1 := Lib.hid HW.out.2.1
        clear hb HW
        generalize hsk : J.sgn k = sk at a0 hi
        clear hsk
        go_wp2_with fail
        refine hi.mono ?_
        rintro en w0 ⟨rfl, q0, rfl⟩
        go_wp2_with fail
        go_roundw
        case rel => exact ⟨k + 1, by go_num, hlt, Lib.hid ⟨h1.drewN q0, grown_trans G1.out (grownBy_drewN _ q0 _), HB.out, HC.out⟩⟩
        case measure => simp [RowKit.intOf]; omega
      · rw [hb] at hi
        have hps := (J.of_is hb).2.1
        have HB := Lib.hid (HX.out.symm.trans (J.es_sign hlt hb HW.out.2.2.1))
        clear hb
        generalize J.sgn k = sk at *
        generalize J.unt k = uk at *
        have a2 := fun q v => (cell_else wr q B 1 (w.heap.size + 1) k v (by omega)).trans a1
        clear a1
        go_wp2_with fail
        refine hi.mono ?_
        rintro en w0 ⟨rfl, q0, rfl⟩
        go_wp2_with fail
        go_ret
        have hu := HW.out.1.bump HW.out.2.1 q0
        rw [HB.out]
        exact ⟨rfl, hu.1, hu.2⟩
    · obtain rfl : k = 8 := by omega
      have HE := Lib.hid (HX.out.symm.trans (J.es_none HW.out.2.2.1))
      have h1 := HW.out.1
      have G1 := Lib.hid HW.out.2.1
      clear HW
      have ht := take_any s p 0 117 B wr hs hp h1
      have c0 := h1.c0
      cases hb : J.is s p 0 117
      · have HB : X = (0, p, 30) := HE.out.trans (if_neg (by rw [hb]; decide))
        have HB := Lib.hid HB
        rw [J.tk_no hb] at ht
        clear hb HE
        go_wp2_with fail
        refine ht.mono ?_
        rintro en w1 ⟨⟨v, rfl⟩, h2, G2⟩
        go_wp2_with fail
        go_loopw [6, 7] (fun n i wr => n = .int .i64 0 ∧ i = .int .i64 0 ∧ wr = w1) (fun _ _ _ => 0)
        case atStart => exact ⟨rfl, rfl, rfl⟩
        case round =>
          obtain ⟨rfl, rfl, rfl⟩ := hrel
          have c2 := h2.c2
          go_wp2_with fail
          go_ret
          rw [HB.out]
          exact ⟨rfl, h2, grown_trans G1.out G2⟩
      · have HB : X = J.hxF s 4 (p + 1) 0 := HE.out.trans (if_pos hb)
        have HB := Lib.hid HB
        have hlt := (J.of_is hb).2.1
        rw [J.tk_yes hb] at ht
        clear hb HE
        go_wp2_with fail
        refine ht.mono ?_
        rintro en w1 ⟨⟨v, rfl⟩, h2, G2⟩
        go_wp2_with fail
        go_loopw [6, 7] (fun n i wr => ∃ k q m : Nat, n = .int .i64 m ∧ i = .int .i64 k ∧ k ≤ 4 ∧ q ≤ s.size ∧ Hid (St s q 0 B wr ∧ w.grownBy wr (some B) ∧ J.hxF s (4 - k) q m = X ∧ m < 16 ^ k)) (fun _ i _ => 4 - (RowKit.intOf i).toNat)
        case atStart => exact ⟨0, p + 1, 0, rfl, rfl, by decide, hlt, Lib.hid ⟨h2, grown_trans G1.out G2, HB.out.symm, by decide⟩⟩
        case round =>
          obtain ⟨k, q, m, rfl, rfl, hk, hq, HW⟩ := hrel
          have h3 := HW.out.1
          have G3 := Lib.hid HW.out.2.1
          have c0 := h3.c0
          have c1 := h3.c1
          have c2 := h3.c2
          have f1 := h3.f1
          have f2 := h3.f2
          by_cases hk4 : k < 4
          · have hm : m < 65536 := Nat.lt_of_lt_of_le HW.out.2.2.2 (Nat.pow_le_pow_right (by decide) hk : 16 ^ k ≤ 16 ^ 4)
            have HX2 := Lib.hid (show J.hxF s ((3 - k) + 1) q m = X by rw [show 3 - k + 1 = 4 - k by omega]; exact HW.out.2.2.1)
            have HM := Lib.hid HW.out.2.2.2
            clear HW
            by_cases hqs : q < s.size
            · have hd := digit_any (s[q]).toNat s[q].toNat_lt
              have HD := Lib.hid (show J.hv (s.get! q).toNat = J.hv s[q].toNat by rw [J.at_byte hqs])
              have d1 := J.hv_lt s[q].toNat
              have d2 := J.hv_ge s[q].toNat
              by_cases hd0 : 0 ≤ J.hv s[q].toNat
              · have HX3 := Lib.hid ((J.hxF_step hqs (by rw [HD.out]; exact hd0)).symm.trans HX2.out)
                generalize J.hv s[q].toNat = d at *
                rw [HD.out] at HX3
                clear HX2 HD
                have e1 : decide (d < 0) = false := by simp; omega
                go_wp2_with fail
                go_quiet (fail)
                go_wp2_with fail
                go_quiet (first | (go_at_call 33; refine (hd _).mono ?_; rintro _ _ ⟨rfl, rfl⟩; exact ⟨rfl, _, rfl⟩))
                go_wp2_with fail
                obtain ⟨c, rfl⟩ := Int.eq_ofNat_of_zero_le hd0
                have h4 := fun n => (h3.drewN n).set1 (q + 1)
                have G4 := fun n v => grown_trans G3.out (grown_trans (grownBy_drewN wr n _) (grownBy_set _ B 1 v))
                have hm2 : m * 16 + c < 16 ^ (k + 1) := by have := HM.out; rw [Nat.pow_succ]; omega
                refine ⟨⟨k + 1, q + 1, m * 16 + c, by go_num, by go_num, hk4, hqs, Lib.hid ⟨h4 _, G4 _ _, ?_, hm2⟩⟩, ?_⟩
                · rw [show 4 - (k + 1) = 3 - k by omega]; exact HX3.out
                · simp [RowKit.intOf]; omega
              · have HX3 := Lib.hid ((J.hxF_wrong (fun x => hd0 (by rw [← HD.out]; exact x.2))).symm.trans HX2.out)
                have hd1 : J.hv s[q].toNat = -1 := by omega
                rw [hd1] at hd
                clear HX2 HD hd1 d1 d2 hd0
                go_wp2_with fail
                go_quiet (fail)
                go_wp2_with fail
                go_quiet (first | (go_at_call 33; refine (hd _).mono ?_; rintro _ _ ⟨rfl, rfl⟩; exact ⟨rfl, _, rfl⟩))
                go_wp2_with fail
                go_ret
                rw [← HX3.out]
                exact ⟨rfl, (h3.drewN _).set2 30, grown_trans G3.out (grown_trans (grownBy_drewN _ _ _) (grownBy_set _ _ _ _))⟩
            · have HX3 := Lib.hid ((J.hxF_wrong (fun x => hqs x.1)).symm.trans HX2.out)
              clear HX2
              go_wp2_with fail
              go_quiet (fail)
              go_wp2_with fail
              go_ret
              rw [← HX3.out]
              exact ⟨rfl, (h3.drewN nq).set2 30, grown_trans G3.out (grown_trans (grownBy_drewN _ nq _) (grownBy_set _ _ _ _))⟩
          · obtain rfl : k = 4 := by omega
            have HX2 := Lib.hid (show (m, q, 0) = X from HW.out.2.2.1)
            clear HW
            go_wp2_with fail
            go_ret
            rw [← HX2.out]
            exact ⟨rfl, h3, G3.out⟩
end Go.Proofs.YtbdpghmpdghnbaaDoor
