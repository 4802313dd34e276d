/- The program's writer: the fields of an object, one by one. Conditions: what is written is at most 10^11 bytes. -/
import Derived.Test.YtepjomdjkoaofaaGreatDoorMB40
namespace Go.Proofs.YtepjomdjkoaofaaGreatDoor
open Go Go.RowKit Go.Shelf Go.Lib

set_option maxHeartbeats 6000000 in
set_option maxRecDepth 100000 in
theorem itemsF_any (N : Nat) (ih : WrOk N) (v : Value) (t : V.T) (A : Nat → Prop) (B : Nat) (b : Value) (lb : List UInt8) (w : World) (ht : t.size ≤ N) (hk : Kd t) (hlen : lb.length + wgt t ≤ 100000000000) (hv : HS w A 1 v t) (hA : ∀ c, A c → c < B)
    (hown : w.ownsRow B 5 1 b lb.length (U.cellsOf lb)) (hBw : B ≤ w.heap.size) (hl1 : 1 ≤ lb.length) :
    Calls Tryz.prog 208 #[b, v, .func (.func 209) #[] #[]] w (WrK B lb.length b (aT t 1 true lb) w) := by
  obtain ⟨i0, hi0, hz0, hz1, hz2⟩ := info_parts infoByte
  have ew : ∀ args w, (callFunc 209 args).run Tryz.prog w = .ok (.enter 209 args) w := enters_of Tryz.func209 (by kernel_rfl) rfl
  obtain ⟨p, c, rfl, b0, b1, b2⟩ := hv.len
  generalize hn : t.len = n at *
  have HN := Lib.hid hn
  have HA := Lib.hid (And.intro hv hA)
  have HH := Lib.hid (And.intro ht hk)
  have HL1 := Lib.hid hl1
  have H0 := Lib.hid (show WtAt t 1 b lb B 0 b lb w w from ⟨by rw [V.T.drop_zero]; rfl, by rw [V.T.drop_zero]; exact hlen, hown, Below.refl _ _, KeepX.refl _ _ _, fun _ => ⟨rfl, rfl⟩, fun h => absurd h (Nat.lt_irrefl _), fun h => h⟩)
  clear hn hv hA ht hk hown hlen hl1
  go_enter Tryz.func208, Tryz.ntmps208
  go_wp2_with fail
  go_loopw [0, 11] (fun u q wr => ∃ (i : Nat) (b' : Value) (lb' : List UInt8), b' = u ∧ q = .int .i64 i ∧ i ≤ n ∧ Hid (WtAt t 1 b lb B i b' lb' w wr)) (fun _ q _ => n - (RowKit.intOf q).toNat)
  case atStart => exact ⟨0, _, lb, rfl, rfl, Nat.zero_le _, H0⟩
  case round =>
    obtain ⟨i, b', lb', rfl, rfl, hi, HI⟩ := hrel
    by_cases hlt : i < n
    · obtain ⟨nm1, k1, x1, l1, f1, tl1, hd1⟩ := V.T.drop_some (t := t) (i := i) (by rw [HN.out]; exact hlt)
      obtain ⟨g1, o1, v1, u1, rfl, E1⟩ := (HA.out.1.lowB HA.out.2 HI.out.below).elem (by rw [HN.out]; exact hlt) hd1
      obtain ⟨p1, c5, rfl, -⟩ := E1.hl.len
      obtain ⟨p2, c6, rfl, -⟩ := E1.hf.len
      have e0 := E1.name rfl
      have e1 := E1.kind
      have e2 := E1.text
      have e3 := E1.list
      have e4 := E1.fields
      simp only [Nat.reduceAdd] at e0 e1 e2 e3 e4
      rw [show o1 + i * 5 + 1 + 1 = o1 + i * 5 + 2 by omega] at e2
      rw [show o1 + i * 5 + 1 + 2 = o1 + i * 5 + 3 by omega] at e3
      rw [show o1 + i * 5 + 1 + 3 = o1 + i * 5 + 4 by omega] at e4
      have hsz := V.T.drop_size hd1
      have hkd := HH.out.2.drop hd1
      have hcl := HI.out.len
      have hown' := HI.out.own
      rw [hd1] at hcl
      unfold wgt at hcl
      have HC := Lib.hid (And.intro hd1 hcl)
      have hbk : Bx5 (wr.alloc (.cells #[.string nm1, .int .u8 k1, .string x1, .slice p1 l1.len c5, .slice p2 f1.len c6] 91)) wr.heap.size nm1 k1 x1 (.slice p1 l1.len c5) (.slice p2 f1.len c6) := heap_alloc_new _ _
      have HBK := Lib.hid hbk
      have hBr := Nat.le_trans hBw HI.out.below.size
      have hA1 := Lib.hid ((Below.refl B wr).alloc hBr (.cells #[.string nm1, .int .u8 k1, .string x1, .slice p1 l1.len c5, .slice p2 f1.len c6] 91))
      have hA2 := Lib.hid (keepX_below lb'.length b' ((Below.refl wr.heap.size wr).alloc (Nat.le_refl _) (.cells #[.string nm1, .int .u8 k1, .string x1, .slice p1 l1.len c5, .slice p2 f1.len c6] 91)))
      have HE := Lib.hid E1
      have HS := Lib.hid (And.intro hsz hkd)
      clear hcl hd1 hbk E1 hsz hkd
      by_cases h0 : i = 0
      · have ti : decide (0 < i) = false := decide_eq_false (by omega)
        have H00 := Lib.hid h0
        clear h0
        go_wp2_with fail
        refine (appendField_any N ih nm1 k1 x1 _ _ l1 f1 A B _ lb' _ (by have := HS.out.1; have := HH.out.1; omega) HS.out.2.1.1 HS.out.2.1.2 HS.out.2.2.1 HS.out.2.2.2.1 (by have := HC.out.2; omega) (HE.out.hl.lowB HA.out.2 hA1.out) (HE.out.hf.lowB HA.out.2 hA1.out) HA.out.2 (hown'.alloc _) (by simp; omega) (HI.out.atl HL1.out)).mono ?_
        rintro e w1 ⟨v', rfl, hown1, hB1, hK1⟩
        have HN2 := Lib.hid (HI.out.step HC.out.1 HS.out.2.1.2 (l2 := lb' ++ qL nm1 ++ [58]) (by rw [H00.out, decide_eq_true rfl]; simp [ahead]) hown1 (hA1.out.trans hB1) (hA2.out.same hK1))
        clear hown1 hB1 hK1 hown'
        go_wp2_with fail
        go_roundw
        case rel => exact ⟨i + 1, v', _, rfl, by push_cast; rfl, hlt, HN2⟩
        case measure => show n - (((i : Int) + 1).toNat) < n - ((i : Int).toNat); omega
      · have ti : decide (0 < i) = true := decide_eq_true (by omega)
        have H00 := Lib.hid h0
        clear h0
        go_wp2_with (at_builtin; refine wpList_append_own _ rfl _ _ 92 rfl B 5 i0 (.int .u8 0) 1 1 Tryz.underlying92 hi0 hz0 hz1 hz2 rfl (by decide) _ lb'.length (U.cellsOf lb') rfl ((hown'.alloc _).alloc _) ⟨wr.heap.size + 1, 0, none⟩ 1 1 [.int .u8 44] rfl rfl ?c1 ?c2 ?c3 ?c4 ?c5 ?_)
        case c1 =>
          have es : (wr.alloc (.cells #[.string nm1, .int .u8 k1, .string x1, .slice p1 l1.len c5, .slice p2 f1.len c6] 91)).heap.size = wr.heap.size + 1 := by simp
          rw [← es]
          exact cells1
        case c2 => intro u hu; simp at hu; rcases hu with rfl; rfl
        case c3 => have := HC.out.2; unfold maxLen; omega
        case c4 => have := HC.out.2; omega
        case c5 => simp; omega
        intro v1 w1 hown2 hgrow2 _
        have hown2' : w1.ownsRow B 5 1 v1 (lb' ++ [44]).length (U.cellsOf (lb' ++ [44])) := by
          rw [List.length_append, ← U.cellsOf_append]
          exact hown2
        have hb2 := Lib.hid (grows_below hA1.out (by simp; omega) (.inr ⟨_, .inl hgrow2⟩) (fun k hk => (hown'.lt k hk).1))
        have hg2 := keepX_grows (n := lb'.length) (hown'.alloc (.cells #[.string nm1, .int .u8 k1, .string x1, .slice p1 l1.len c5, .slice p2 f1.len c6] 91)) (.inr ⟨_, .inl hgrow2⟩)
        have hk2 := Lib.hid (hA2.out.same hg2)
        have hbx := HBK.out.keep hg2
        obtain ⟨q0, q1, q2, q3, q4⟩ := hbx.cells
        have HBX := Lib.hid hbx
        clear hbx hg2
        clear hown2 hgrow2 hown'
        go_wp2_with fail
        refine (appendField_any N ih nm1 k1 x1 _ _ l1 f1 A B v1 (lb' ++ [44]) _ (by have := HS.out.1; have := HH.out.1; omega) HS.out.2.1.1 HS.out.2.1.2 HS.out.2.2.1 HS.out.2.2.2.1 (by have := HC.out.2; simp only [List.length_append, List.length_singleton]; omega) (HE.out.hl.lowB HA.out.2 hb2.out) (HE.out.hf.lowB HA.out.2 hb2.out) HA.out.2 hown2' (Nat.le_trans hBr hb2.out.size) (by simp)).mono ?_
        rintro e w2 ⟨v', rfl, hown1, hB1, hK1⟩
        have HN2 := Lib.hid (HI.out.step HC.out.1 HS.out.2.1.2 (l2 := lb' ++ [44] ++ qL nm1 ++ [58]) (by rw [decide_eq_false H00.out]; simp [ahead]) hown1 (hb2.out.trans hB1) (hk2.out.onto hK1 hown2' (fun h => by simp; omega)))
        clear hown1 hB1 hK1 hown2'
        go_wp2_with fail
        go_roundw
        case rel => exact ⟨i + 1, v', _, rfl, by push_cast; rfl, hlt, HN2⟩
        case measure => show n - (((i : Int) + 1).toNat) < n - ((i : Int).toNat); omega
    · obtain rfl : i = n := by omega
      have hfin : lb' = aT t 1 true lb := by
        have := HI.out.eq
        rw [← HN.out, V.T.drop_len] at this
        exact this
      have HF := Lib.hid (show WrK B lb.length b (aT t 1 true lb) w (.returned b') wr from ⟨b', rfl, by rw [← hfin]; exact HI.out.own, HI.out.below, HI.out.keep⟩)
      clear hfin
      go_wp2_with fail
      go_ret
      exact HF.out
end Go.Proofs.YtepjomdjkoaofaaGreatDoor
