/- The document's own writer, walked. Conditions: what is written is at most 10^11 bytes. -/
import Derived.Test.YtoolkaahjmnjeaaGreatDoorMW44
namespace Go.Proofs.YtoolkaahjmnjeaaGreatDoor
open Go Go.RowKit Go.Shelf Go.Lib

set_option maxHeartbeats 4000000 in
set_option maxRecDepth 100000 in
theorem write04_0 (N : Nat) (x : ByteArray) (va ua : Value) (l f : V.T) (A : Nat → Prop) (B : Nat) (b : Value) (lb : List UInt8) (w : World) (hN : l.size + f.size < N + 1) (hkl : Kd l) (hkf : Kd f) (hlen : lb.length + 6 * x.size + 10 + wgt l + wgt f ≤ 100000000000) (hva : HS w A 0 va l) (hua : HS w A 1 ua f)
    (hA : ∀ c, A c → c < B) (hown : w.ownsRow B 5 1 b lb.length (U.cellsOf lb)) (hBw : B ≤ w.heap.size) : Calls Tryz.prog 47 #[b, .agg #[.int .u8 0, .string x, va, ua]] w (WrI B (lb ++ [110, 117, 108, 108]) w) := by
  obtain ⟨i0, hi, hz0, hz1, hz2⟩ := info_parts infoByte
  obtain ⟨pa, ca, rfl, ba0, ba1, ba2⟩ := hva.len
  obtain ⟨qa, da, rfl, ba5, ba3, ba4⟩ := hua.len
  have HB := Lib.hid ((Below.refl B w).alloc hBw (.cells #[.int .u8 0, .string x, .slice pa l.len ca, .slice qa f.len da] 25))
  have HK := Lib.hid (keepV_below ((Below.refl w.heap.size w).alloc (Nat.le_refl _) (.cells #[.int .u8 0, .string x, .slice pa l.len ca, .slice qa f.len da] 25)))
  have hbk : Blk4 (w.alloc (.cells #[.int .u8 0, .string x, .slice pa l.len ca, .slice qa f.len da] 25)) w.heap.size 25 (.int .u8 0) (.string x) (.slice pa l.len ca) (.slice qa f.len da) := heap_alloc_new _ _
  have ho := hown.alloc (.cells #[.int .u8 0, .string x, .slice pa l.len ca, .slice qa f.len da] 25)
  have hBz := Nat.le_trans hBw HB.out.size
  have hBw0 := hBw
  clear hkl hkf hva hua hA hown hBw
  go_enter Tryz.func47, Tryz.ntmps47
  go_upto_region 1 with fail
  obtain ⟨c0, c1, c2, c3⟩ := hbk.box
  generalize w.alloc (.cells #[.int .u8 0, .string x, .slice pa l.len ca, .slice qa f.len da] 25) = W0 at *
  clear hbk
  go_wp2_with (at_builtin; refine wpList_append_own_string _ rfl _ _ 81 9 rfl B 5 i0 Tryz.underlying81 Tryz.underlying9 hi hz0 hz1 hz2 _ lb.length (U.cellsOf lb) rfl ho _ rfl ?c3 ?c4 ?c5 ?_)
  case c3 => unfold maxLen; show lb.length + 4 ≤ _; omega
  case c4 => show (lb.length + 4) ≤ _; omega
  case c5 => omega
  intro v' w2 hown2 hgrow _
  go_wp2_with fail
  go_ret
  refine ⟨v', rfl, ?_, grows_below HB.out hBz (.inl hgrow) (fun k hk => (ho.lt k hk).1), HK.out.trans (keepX_grows (n := 0) ho (.inl hgrow)).keepV⟩
  rw [List.length_append, ← U.cellsOf_append]
  exact hown2
set_option maxHeartbeats 4000000 in
set_option maxRecDepth 100000 in
theorem write04_1 (N : Nat) (x : ByteArray) (va ua : Value) (l f : V.T) (A : Nat → Prop) (B : Nat) (b : Value) (lb : List UInt8) (w : World) (hN : l.size + f.size < N + 1) (hkl : Kd l) (hkf : Kd f) (hlen : lb.length + 6 * x.size + 10 + wgt l + wgt f ≤ 100000000000) (hva : HS w A 0 va l) (hua : HS w A 1 ua f)
    (hA : ∀ c, A c → c < B) (hown : w.ownsRow B 5 1 b lb.length (U.cellsOf lb)) (hBw : B ≤ w.heap.size) : Calls Tryz.prog 47 #[b, .agg #[.int .u8 1, .string x, va, ua]] w (WrI B (lb ++ [102, 97, 108, 115, 101]) w) := by
  obtain ⟨i0, hi, hz0, hz1, hz2⟩ := info_parts infoByte
  obtain ⟨pa, ca, rfl, ba0, ba1, ba2⟩ := hva.len
  obtain ⟨qa, da, rfl, ba5, ba3, ba4⟩ := hua.len
  have HB := Lib.hid ((Below.refl B w).alloc hBw (.cells #[.int .u8 1, .string x, .slice pa l.len ca, .slice qa f.len da] 25))
  have HK := Lib.hid (keepV_below ((Below.refl w.heap.size w).alloc (Nat.le_refl _) (.cells #[.int .u8 1, .string x, .slice pa l.len ca, .slice qa f.len da] 25)))
  have hbk : Blk4 (w.alloc (.cells #[.int .u8 1, .string x, .slice pa l.len ca, .slice qa f.len da] 25)) w.heap.size 25 (.int .u8 1) (.string x) (.slice pa l.len ca) (.slice qa f.len da) := heap_alloc_new _ _
  have ho := hown.alloc (.cells #[.int .u8 1, .string x, .slice pa l.len ca, .slice qa f.len da] 25)
  have hBz := Nat.le_trans hBw HB.out.size
  have hBw0 := hBw
  clear hkl hkf hva hua hA hown hBw
  go_enter Tryz.func47, Tryz.ntmps47
  go_upto_region 1 with fail
  obtain ⟨c0, c1, c2, c3⟩ := hbk.box
  generalize w.alloc (.cells #[.int .u8 1, .string x, .slice pa l.len ca, .slice qa f.len da] 25) = W0 at *
  clear hbk
  go_wp2_with (at_builtin; refine wpList_append_own_string _ rfl _ _ 81 9 rfl B 5 i0 Tryz.underlying81 Tryz.underlying9 hi hz0 hz1 hz2 _ lb.length (U.cellsOf lb) rfl ho _ rfl ?c3 ?c4 ?c5 ?_)
  case c3 => unfold maxLen; show lb.length + 5 ≤ _; omega
  case c4 => show (lb.length + 5) ≤ _; omega
  case c5 => omega
  intro v' w2 hown2 hgrow _
  go_wp2_with fail
  go_ret
  refine ⟨v', rfl, ?_, grows_below HB.out hBz (.inl hgrow) (fun k hk => (ho.lt k hk).1), HK.out.trans (keepX_grows (n := 0) ho (.inl hgrow)).keepV⟩
  rw [List.length_append, ← U.cellsOf_append]
  exact hown2
set_option maxHeartbeats 4000000 in
set_option maxRecDepth 100000 in
theorem write04_2 (N : Nat) (x : ByteArray) (va ua : Value) (l f : V.T) (A : Nat → Prop) (B : Nat) (b : Value) (lb : List UInt8) (w : World) (hN : l.size + f.size < N + 1) (hkl : Kd l) (hkf : Kd f) (hlen : lb.length + 6 * x.size + 10 + wgt l + wgt f ≤ 100000000000) (hva : HS w A 0 va l) (hua : HS w A 1 ua f)
    (hA : ∀ c, A c → c < B) (hown : w.ownsRow B 5 1 b lb.length (U.cellsOf lb)) (hBw : B ≤ w.heap.size) : Calls Tryz.prog 47 #[b, .agg #[.int .u8 2, .string x, va, ua]] w (WrI B (lb ++ [116, 114, 117, 101]) w) := by
  obtain ⟨i0, hi, hz0, hz1, hz2⟩ := info_parts infoByte
  obtain ⟨pa, ca, rfl, ba0, ba1, ba2⟩ := hva.len
  obtain ⟨qa, da, rfl, ba5, ba3, ba4⟩ := hua.len
  have HB := Lib.hid ((Below.refl B w).alloc hBw (.cells #[.int .u8 2, .string x, .slice pa l.len ca, .slice qa f.len da] 25))
  have HK := Lib.hid (keepV_below ((Below.refl w.heap.size w).alloc (Nat.le_refl _) (.cells #[.int .u8 2, .string x, .slice pa l.len ca, .slice qa f.len da] 25)))
  have hbk : Blk4 (w.alloc (.cells #[.int .u8 2, .string x, .slice pa l.len ca, .slice qa f.len da] 25)) w.heap.size 25 (.int .u8 2) (.string x) (.slice pa l.len ca) (.slice qa f.len da) := heap_alloc_new _ _
  have ho := hown.alloc (.cells #[.int .u8 2, .string x, .slice pa l.len ca, .slice qa f.len da] 25)
  have hBz := Nat.le_trans hBw HB.out.size
  have hBw0 := hBw
  clear hkl hkf hva hua hA hown hBw
  go_enter Tryz.func47, Tryz.ntmps47
  go_upto_region 1 with fail
  obtain ⟨c0, c1, c2, c3⟩ := hbk.box
  generalize w.alloc (.cells #[.int .u8 2, .string x, .slice pa l.len ca, .slice qa f.len da] 25) = W0 at *
  clear hbk
  go_wp2_with (at_builtin; refine wpList_append_own_string _ rfl _ _ 81 9 rfl B 5 i0 Tryz.underlying81 Tryz.underlying9 hi hz0 hz1 hz2 _ lb.length (U.cellsOf lb) rfl ho _ rfl ?c3 ?c4 ?c5 ?_)
  case c3 => unfold maxLen; show lb.length + 4 ≤ _; omega
  case c4 => show (lb.length + 4) ≤ _; omega
  case c5 => omega
  intro v' w2 hown2 hgrow _
  go_wp2_with fail
  go_ret
  refine ⟨v', rfl, ?_, grows_below HB.out hBz (.inl hgrow) (fun k hk => (ho.lt k hk).1), HK.out.trans (keepX_grows (n := 0) ho (.inl hgrow)).keepV⟩
  rw [List.length_append, ← U.cellsOf_append]
  exact hown2
set_option maxHeartbeats 4000000 in
set_option maxRecDepth 100000 in
theorem write04_3 (N : Nat) (x : ByteArray) (va ua : Value) (l f : V.T) (A : Nat → Prop) (B : Nat) (b : Value) (lb : List UInt8) (w : World) (hN : l.size + f.size < N + 1) (hkl : Kd l) (hkf : Kd f) (hlen : lb.length + 6 * x.size + 10 + wgt l + wgt f ≤ 100000000000) (hva : HS w A 0 va l) (hua : HS w A 1 ua f)
    (hA : ∀ c, A c → c < B) (hown : w.ownsRow B 5 1 b lb.length (U.cellsOf lb)) (hBw : B ≤ w.heap.size) : Calls Tryz.prog 47 #[b, .agg #[.int .u8 3, .string x, va, ua]] w (WrI B (lb ++ x.data.toList) w) := by
  obtain ⟨i0, hi, hz0, hz1, hz2⟩ := info_parts infoByte
  obtain ⟨pa, ca, rfl, ba0, ba1, ba2⟩ := hva.len
  obtain ⟨qa, da, rfl, ba5, ba3, ba4⟩ := hua.len
  have HB := Lib.hid ((Below.refl B w).alloc hBw (.cells #[.int .u8 3, .string x, .slice pa l.len ca, .slice qa f.len da] 25))
  have HK := Lib.hid (keepV_below ((Below.refl w.heap.size w).alloc (Nat.le_refl _) (.cells #[.int .u8 3, .string x, .slice pa l.len ca, .slice qa f.len da] 25)))
  have hbk : Blk4 (w.alloc (.cells #[.int .u8 3, .string x, .slice pa l.len ca, .slice qa f.len da] 25)) w.heap.size 25 (.int .u8 3) (.string x) (.slice pa l.len ca) (.slice qa f.len da) := heap_alloc_new _ _
  have ho := hown.alloc (.cells #[.int .u8 3, .string x, .slice pa l.len ca, .slice qa f.len da] 25)
  have hBz := Nat.le_trans hBw HB.out.size
  have hBw0 := hBw
  clear hkl hkf hva hua hA hown hBw
  go_enter Tryz.func47, Tryz.ntmps47
  go_upto_region 1 with fail
  obtain ⟨c0, c1, c2, c3⟩ := hbk.box
  generalize w.alloc (.cells #[.int .u8 3, .string x, .slice pa l.len ca, .slice qa f.len da] 25) = W0 at *
  clear hbk
  go_wp2_with (at_builtin; refine wpList_append_own_string _ rfl _ _ 81 9 rfl B 5 i0 Tryz.underlying81 Tryz.underlying9 hi hz0 hz1 hz2 _ lb.length (U.cellsOf lb) rfl ho x rfl ?c3 ?c4 ?c5 ?_)
  case c3 => unfold maxLen; omega
  case c4 => omega
  case c5 => omega
  intro v' w2 hown2 hgrow _
  go_wp2_with fail
  go_ret
  refine ⟨v', rfl, ?_, grows_below HB.out hBz (.inl hgrow) (fun k hk => (ho.lt k hk).1), HK.out.trans (keepX_grows (n := 0) ho (.inl hgrow)).keepV⟩
  rw [List.length_append, ← U.cellsOf_append]
  exact hown2
set_option maxHeartbeats 4000000 in
set_option maxRecDepth 100000 in
theorem write04_4 (N : Nat) (x : ByteArray) (va ua : Value) (l f : V.T) (A : Nat → Prop) (B : Nat) (b : Value) (lb : List UInt8) (w : World) (hN : l.size + f.size < N + 1) (hkl : Kd l) (hkf : Kd f) (hlen : lb.length + 6 * x.size + 10 + wgt l + wgt f ≤ 100000000000) (hva : HS w A 0 va l) (hua : HS w A 1 ua f)
    (hA : ∀ c, A c → c < B) (hown : w.ownsRow B 5 1 b lb.length (U.cellsOf lb)) (hBw : B ≤ w.heap.size) : Calls Tryz.prog 47 #[b, .agg #[.int .u8 4, .string x, va, ua]] w (WrI B (lb ++ qL x) w) := by
  obtain ⟨i0, hi, hz0, hz1, hz2⟩ := info_parts infoByte
  obtain ⟨pa, ca, rfl, ba0, ba1, ba2⟩ := hva.len
  obtain ⟨qa, da, rfl, ba5, ba3, ba4⟩ := hua.len
  have HB := Lib.hid ((Below.refl B w).alloc hBw (.cells #[.int .u8 4, .string x, .slice pa l.len ca, .slice qa f.len da] 25))
  have HK := Lib.hid (keepV_below ((Below.refl w.heap.size w).alloc (Nat.le_refl _) (.cells #[.int .u8 4, .string x, .slice pa l.len ca, .slice qa f.len da] 25)))
  have hbk : Blk4 (w.alloc (.cells #[.int .u8 4, .string x, .slice pa l.len ca, .slice qa f.len da] 25)) w.heap.size 25 (.int .u8 4) (.string x) (.slice pa l.len ca) (.slice qa f.len da) := heap_alloc_new _ _
  have ho := hown.alloc (.cells #[.int .u8 4, .string x, .slice pa l.len ca, .slice qa f.len da] 25)
  have hBz := Nat.le_trans hBw HB.out.size
  have hBw0 := hBw
  have hz := fixS_len x
  have hq := fun W => refQuote_any x W (by omega) (by omega)
  rw [quote_eq] at hq
  have hql := qL_len x
  have HQ := Lib.hid (show (⟨(qL x).toArray⟩ : ByteArray).data.toList = qL x ∧ (⟨(qL x).toArray⟩ : ByteArray).size = (qL x).length from ⟨rfl, rfl⟩)
  have HQL := Lib.hid (show (qL x).length + lb.length ≤ 100000000000 by omega)
  generalize (⟨(qL x).toArray⟩ : ByteArray) = Q at *
  generalize qL x = q at *
  have hsz := HQ.out.2
  clear hkl hkf hva hua hA hown hBw hz hql
  go_enter Tryz.func47, Tryz.ntmps47
  go_upto_region 1 with fail
  obtain ⟨c0, c1, c2, c3⟩ := hbk.box
  generalize w.alloc (.cells #[.int .u8 4, .string x, .slice pa l.len ca, .slice qa f.len da] 25) = W0 at *
  clear hbk
  go_wp2_with fail
  refine (hq _).mono ?_
  rintro e w1 ⟨rfl, hB1⟩
  have ho1 := own8_below ho hB1
  have HB1 := Lib.hid (HB.out.trans (hB1.mono hBz))
  have HK1 := Lib.hid (HK.out.trans (keepV_below hB1))
  have hBz1 := Nat.le_trans hBz hB1.size
  clear hB1 hq ho c0 c1 c2 c3
  go_wp2_with (at_builtin; refine wpList_append_own_string _ rfl _ _ 81 9 rfl B 5 i0 Tryz.underlying81 Tryz.underlying9 hi hz0 hz1 hz2 _ lb.length (U.cellsOf lb) rfl ho1 Q rfl ?c3 ?c4 ?c5 ?_)
  case c3 => have := HQL.out; unfold maxLen; omega
  case c4 => have := HQL.out; omega
  case c5 => omega
  intro v' w2 hown2 hgrow _
  go_wp2_with fail
  go_ret
  refine ⟨v', rfl, ?_, grows_below HB1.out hBz1 (.inl hgrow) (fun k hk => (ho1.lt k hk).1), HK1.out.trans (keepX_grows (n := 0) ho1 (.inl hgrow)).keepV⟩
  rw [List.length_append, ← U.cellsOf_append, show U.cellsOf q = strCells Q by rw [← HQ.out.1]; rfl]
  exact hown2
set_option maxHeartbeats 4000000 in
set_option maxRecDepth 100000 in
theorem write04_5 (N : Nat) (ih : WrR N) (x : ByteArray) (va ua : Value) (l f : V.T) (A : Nat → Prop) (B : Nat) (b : Value) (lb : List UInt8) (w : World) (hN : l.size + f.size < N + 1) (hkl : Kd l) (hkf : Kd f) (hlen : lb.length + 6 * x.size + 10 + wgt l + wgt f ≤ 100000000000) (hva : HS w A 0 va l) (hua : HS w A 1 ua f)
    (hA : ∀ c, A c → c < B) (hown : w.ownsRow B 5 1 b lb.length (U.cellsOf lb)) (hBw : B ≤ w.heap.size) : Calls Tryz.prog 47 #[b, .agg #[.int .u8 5, .string x, va, ua]] w (WrI B (lb ++ ([91] ++ wrT l 0 true ++ [93])) w) := by
  obtain ⟨i0, hi, hz0, hz1, hz2⟩ := info_parts infoByte
  obtain ⟨pa, ca, rfl, ba0, ba1, ba2⟩ := hva.len
  obtain ⟨qa, da, rfl, ba5, ba3, ba4⟩ := hua.len
  have HB := Lib.hid ((Below.refl B w).alloc hBw (.cells #[.int .u8 5, .string x, .slice pa l.len ca, .slice qa f.len da] 25))
  have HK := Lib.hid (keepV_below ((Below.refl w.heap.size w).alloc (Nat.le_refl _) (.cells #[.int .u8 5, .string x, .slice pa l.len ca, .slice qa f.len da] 25)))
  have hbk : Blk4 (w.alloc (.cells #[.int .u8 5, .string x, .slice pa l.len ca, .slice qa f.len da] 25)) w.heap.size 25 (.int .u8 5) (.string x) (.slice pa l.len ca) (.slice qa f.len da) := heap_alloc_new _ _
  have ho := hown.alloc (.cells #[.int .u8 5, .string x, .slice pa l.len ca, .slice qa f.len da] 25)
  have hBz := Nat.le_trans hBw HB.out.size
  have hBw0 := hBw
  have HV := Lib.hid (And.intro (hva) hA)
  have HKD := Lib.hid (And.intro hkl hkf)
  have HN := Lib.hid hN
  have HLEN := Lib.hid hlen
  have HLE := Lib.hid (And.intro (V.T.len_size l) (V.T.len_size f))
  generalize hnl : l.len = na at *
  generalize hnf : f.len = ma at *
  have HE := Lib.hid (And.intro hnl hnf)
  clear hkl hkf hva hua hA hown hBw hN hnl hnf
  go_enter Tryz.func47, Tryz.ntmps47
  go_upto_region 1 with fail
  obtain ⟨c0, c1, c2, c3⟩ := hbk.box
  have HBK := Lib.hid hbk
  generalize w.alloc (.cells #[.int .u8 5, .string x, .slice pa na ca, .slice qa ma da] 25) = W0 at *
  clear hbk
  go_wp2_with (at_builtin; refine wpList_append_own _ rfl _ _ 81 rfl B 5 i0 (.int .u8 0) 1 1 Tryz.underlying81 hi hz0 hz1 hz2 rfl (by decide) _ lb.length (U.cellsOf lb) rfl (ho.alloc _) ⟨W0.heap.size, 0, none⟩ 1 1 [.int .u8 91] rfl rfl ?c1 ?c2 ?c3 ?c4 ?c5 ?_)
  case c1 => exact cells1
  case c2 => intro u hu; simp at hu; rcases hu with rfl; rfl
  case c3 => have := HLEN.out; unfold maxLen; omega
  case c4 => have := HLEN.out; omega
  case c5 => simp; omega
  intro v1 w1 hown1 hgrow1 _
  have hown1 := snocU (c := 91) hown1
  have HB1 := Lib.hid (grows_below HB.out hBz (.inr ⟨_, .inl hgrow1⟩) (fun k hk => (ho.lt k hk).1))
  have HK1 := Lib.hid (HK.out.trans (keepX_grows (n := 0) ho (.inr ⟨_, .inl hgrow1⟩)).keepV)
  have HBK1 := Lib.hid (HBK.out.keepV (keepX_grows (n := 0) ho (.inr ⟨_, .inl hgrow1⟩)).keepV)
  have hBz1 := Nat.le_trans hBz (show W0.heap.size ≤ w1.heap.size by have := hgrow1.size; simp at this; omega)
  clear hgrow1 c0 c1 c2 c3 ho
  have HAT := Lib.hid (show WwAt l 0 B (lb ++ [91]) 0 (lb ++ [91]) v1 w w1 from ⟨by rw [V.T.drop_zero]; rfl, by rw [V.T.drop_zero, snoc_len]; have := HLEN.out; omega, hown1, HB1.out, HK1.out⟩)
  clear hown1
  go_wp2_with fail
  go_loopw [0, 5] (fun u q wr => ∃ (i : Nat) (b' : Value) (lb' : List UInt8), b' = u ∧ q = .int .i64 i ∧ i ≤ na ∧ Hid (WwAt l 0 B (lb ++ [91]) i lb' b' w wr ∧ Blk4 wr w.heap.size 25 (.int .u8 5) (.string x) (.slice pa na ca) (.slice qa ma da))) (fun _ q _ => na - (RowKit.intOf q).toNat)
  case atStart => exact ⟨0, v1, lb ++ [91], rfl, rfl, Nat.zero_le _, Lib.hid ⟨HAT.out, HBK1.out⟩⟩
  case round =>
    obtain ⟨i, b', lb', rfl, rfl, hi2, HI⟩ := hrel
    obtain ⟨c0, c1, c2, c3⟩ := HI.out.2.box
    have hBr := Nat.le_trans hBw0 HI.out.1.below.size
    by_cases hlt : i < na
    · obtain ⟨nm1, k1, x1, l1, f1, tl1, hd1⟩ := V.T.drop_some (t := l) (i := i) (by rw [HE.out.1]; exact hlt)
      obtain ⟨g1, o1, v1, u1, hpa, E1⟩ := (HV.out.1.lowB HV.out.2 HI.out.1.below).elem (by rw [HE.out.1]; exact hlt) hd1
      subst hpa
      have hkd := HKD.out.1.drop hd1
      have hsz := V.T.drop_size hd1
      have hcl := HI.out.1.len
      have hown' := HI.out.1.own
      rw [hd1] at hcl
      unfold wgt at hcl
      have HC := Lib.hid (And.intro hd1 (And.intro hkd (And.intro hsz E1)))
      have HCL := Lib.hid hcl
      have HL := Lib.hid hlt
      have HIW := Lib.hid HI
      clear hd1 hkd hsz E1 hcl HI
      by_cases h0 : i = 0
      · have ti : decide ((0 : Int) < (i : Int)) = false := decide_eq_false (by omega)
        have tin : decide (0 < i) = false := decide_eq_false (by omega)
        have H0 := Lib.hid h0
        clear h0
        have HB2 := Lib.hid (Below.refl B wr)
        have HK2 := Lib.hid (KeepV.refl wr)
        have E2 := (HV.out.1.lowB HV.out.2 (HIW.out.out.1.below.trans HB2.out)).elem (by rw [HE.out.1]; exact HL.out) HC.out.1
        obtain ⟨g2, o2, v3, u3, hpa2, E2⟩ := E2
        cases hpa2
        have e1 := E2.kind
        have e2 := E2.text
        have e3 := E2.list
        have e4 := E2.fields
        simp only [Nat.add_zero] at e1 e2 e3 e4
        have IH := ih k1 x1 _ _ l1 f1 A B _ lb' wr (by have := HN.out; have := HC.out.2.2.1; omega) HC.out.2.1.1.1 HC.out.2.1.2.1 HC.out.2.1.2.2.1 (by have := HCL.out; first | omega | (rw [snoc_len]; omega)) E2.hl E2.hf HV.out.2 hown' (Nat.le_trans hBr HB2.out.size)
        clear E2
        go_wp2_with fail
        (with_reducible refine IH.mono ?_)
        rintro e w3 ⟨v', rfl, hown3, hB3, hK3⟩
        have HN2 := Lib.hid (HIW.out.out.1.step HC.out.1 (l2 := lb') (by rw [decide_eq_true H0.out]; simp [ahead]) hown3 (HB2.out.trans hB3) (HK2.out.trans hK3))
        have HBK3 := Lib.hid (HIW.out.out.2.keepV (HK2.out.trans hK3))
        clear hown3 hB3 hK3 IH c0 c1 c2 c3 e1 e2 e3 e4 hown'
        go_wp2_with fail
        go_roundw
        case rel => exact ⟨i + 1, v', _, rfl, by push_cast; rfl, HL.out, Lib.hid ⟨HN2.out, HBK3.out⟩⟩
        case measure => have := HL.out; show na - (((i : Int) + 1).toNat) < na - ((i : Int).toNat); omega
      · have ti : decide ((0 : Int) < (i : Int)) = true := decide_eq_true (by omega)
        have tin : decide (0 < i) = true := decide_eq_true (by omega)
        have H0 := Lib.hid h0
        clear h0
        go_wp2_with (at_builtin; refine wpList_append_own _ rfl _ _ 81 rfl B 5 i0 (.int .u8 0) 1 1 Tryz.underlying81 hi hz0 hz1 hz2 rfl (by decide) _ lb'.length (U.cellsOf lb') rfl (hown'.alloc _) ⟨wr.heap.size, 0, none⟩ 1 1 [.int .u8 44] rfl rfl ?c1 ?c2 ?c3 ?c4 ?c5 ?_)
        case c1 => exact cells1
        case c2 => intro u hu; simp at hu; rcases hu with rfl; rfl
        case c3 => have := HCL.out; unfold maxLen; omega
        case c4 => have := HCL.out; omega
        case c5 => simp; omega
        intro v2 w2 hown2 hgrow2 _
        have hown2 := snocU (c := 44) hown2
        have HB2 := Lib.hid (grows_below (Below.refl B wr) hBr (.inr ⟨_, .inl hgrow2⟩) (fun k hk => (hown'.lt k hk).1))
        have HK2 := Lib.hid (keepX_grows (n := 0) hown' (.inr ⟨_, .inl hgrow2⟩)).keepV
        clear hgrow2 hown' c0 c1 c2 c3
        obtain ⟨c0, c1, c2, c3⟩ := (HIW.out.out.2.keepV HK2.out).box
        have E2 := (HV.out.1.lowB HV.out.2 (HIW.out.out.1.below.trans HB2.out)).elem (by rw [HE.out.1]; exact HL.out) HC.out.1
        obtain ⟨g2, o2, v3, u3, hpa2, E2⟩ := E2
        cases hpa2
        have e1 := E2.kind
        have e2 := E2.text
        have e3 := E2.list
        have e4 := E2.fields
        simp only [Nat.add_zero] at e1 e2 e3 e4
        have IH := ih k1 x1 _ _ l1 f1 A B _ (lb' ++ [44]) w2 (by have := HN.out; have := HC.out.2.2.1; omega) HC.out.2.1.1.1 HC.out.2.1.2.1 HC.out.2.1.2.2.1 (by have := HCL.out; first | omega | (rw [snoc_len]; omega)) E2.hl E2.hf HV.out.2 hown2 (Nat.le_trans hBr HB2.out.size)
        clear E2
        go_wp2_with fail
        (with_reducible refine IH.mono ?_)
        rintro e w3 ⟨v', rfl, hown3, hB3, hK3⟩
        have HN2 := Lib.hid (HIW.out.out.1.step HC.out.1 (l2 := (lb' ++ [44])) (by rw [decide_eq_false H0.out]; simp [ahead]) hown3 (HB2.out.trans hB3) (HK2.out.trans hK3))
        have HBK3 := Lib.hid (HIW.out.out.2.keepV (HK2.out.trans hK3))
        clear hown3 hB3 hK3 IH c0 c1 c2 c3 e1 e2 e3 e4 hown2
        go_wp2_with fail
        go_roundw
        case rel => exact ⟨i + 1, v', _, rfl, by push_cast; rfl, HL.out, Lib.hid ⟨HN2.out, HBK3.out⟩⟩
        case measure => have := HL.out; show na - (((i : Int) + 1).toNat) < na - ((i : Int).toNat); omega
    · obtain rfl : i = na := by omega
      have hfin : lb' = lb ++ [91] ++ wrT l 0 true := WwAt.fin (b' := b') (w := w) (wr := wr) (B := B) (by rw [HE.out.1]; exact HI.out.1)
      have hown' := HI.out.1.own
      have HF := Lib.hid (And.intro HI.out.1.below HI.out.1.keep)
      have HFL := Lib.hid (show lb'.length ≤ 100000000000 by have := HI.out.1.len; omega)
      have HFN := Lib.hid hfin
      clear hfin HI
      go_wp2_with (at_builtin; refine wpList_append_own _ rfl _ _ 81 rfl B 5 i0 (.int .u8 0) 1 1 Tryz.underlying81 hi hz0 hz1 hz2 rfl (by decide) _ lb'.length (U.cellsOf lb') rfl (hown'.alloc _) ⟨wr.heap.size, 0, none⟩ 1 1 [.int .u8 93] rfl rfl ?c1 ?c2 ?c3 ?c4 ?c5 ?_)
      case c1 => exact cells1
      case c2 => intro u hu; simp at hu; rcases hu with rfl; rfl
      case c3 => have := HFL.out; unfold maxLen; omega
      case c4 => have := HFL.out; omega
      case c5 => simp; omega
      intro v2 w2 hown2 hgrow2 _
      have hown2 := snocU (c := 93) hown2
      go_wp2_with fail
      go_ret
      refine ⟨v2, rfl, ?_, grows_below HF.out.1 hBr (.inr ⟨_, .inl hgrow2⟩) (fun k hk => (hown'.lt k hk).1), HF.out.2.trans (keepX_grows (n := 0) hown' (.inr ⟨_, .inl hgrow2⟩)).keepV⟩
      rw [show lb ++ 91 :: (wrT l 0 true ++ [93]) = lb' ++ [93] by rw [HFN.out]; simp]
      exact hown2
set_option maxHeartbeats 4000000 in
set_option maxRecDepth 100000 in
theorem write04_6 (N : Nat) (ih : WrR N) (x : ByteArray) (va ua : Value) (l f : V.T) (A : Nat → Prop) (B : Nat) (b : Value) (lb : List UInt8) (w : World) (hN : l.size + f.size < N + 1) (hkl : Kd l) (hkf : Kd f) (hlen : lb.length + 6 * x.size + 10 + wgt l + wgt f ≤ 100000000000) (hva : HS w A 0 va l) (hua : HS w A 1 ua f)
    (hA : ∀ c, A c → c < B) (hown : w.ownsRow B 5 1 b lb.length (U.cellsOf lb)) (hBw : B ≤ w.heap.size) : Calls Tryz.prog 47 #[b, .agg #[.int .u8 6, .string x, va, ua]] w (WrI B (lb ++ ([123] ++ wrT f 1 true ++ [125])) w) := by
  obtain ⟨i0, hi, hz0, hz1, hz2⟩ := info_parts infoByte
  obtain ⟨pa, ca, rfl, ba0, ba1, ba2⟩ := hva.len
  obtain ⟨qa, da, rfl, ba5, ba3, ba4⟩ := hua.len
  have HB := Lib.hid ((Below.refl B w).alloc hBw (.cells #[.int .u8 6, .string x, .slice pa l.len ca, .slice qa f.len da] 25))
  have HK := Lib.hid (keepV_below ((Below.refl w.heap.size w).alloc (Nat.le_refl _) (.cells #[.int .u8 6, .string x, .slice pa l.len ca, .slice qa f.len da] 25)))
  have hbk : Blk4 (w.alloc (.cells #[.int .u8 6, .string x, .slice pa l.len ca, .slice qa f.len da] 25)) w.heap.size 25 (.int .u8 6) (.string x) (.slice pa l.len ca) (.slice qa f.len da) := heap_alloc_new _ _
  have ho := hown.alloc (.cells #[.int .u8 6, .string x, .slice pa l.len ca, .slice qa f.len da] 25)
  have hBz := Nat.le_trans hBw HB.out.size
  have hBw0 := hBw
  have HV := Lib.hid (And.intro (hua) hA)
  have HKD := Lib.hid (And.intro hkl hkf)
  have HN := Lib.hid hN
  have HLEN := Lib.hid hlen
  have HLE := Lib.hid (And.intro (V.T.len_size l) (V.T.len_size f))
  generalize hnl : l.len = na at *
  generalize hnf : f.len = ma at *
  have HE := Lib.hid (And.intro hnl hnf)
  clear hkl hkf hva hua hA hown hBw hN hnl hnf
  go_enter Tryz.func47, Tryz.ntmps47
  go_upto_region 1 with fail
  obtain ⟨c0, c1, c2, c3⟩ := hbk.box
  have HBK := Lib.hid hbk
  generalize w.alloc (.cells #[.int .u8 6, .string x, .slice pa na ca, .slice qa ma da] 25) = W0 at *
  clear hbk
  go_wp2_with (at_builtin; refine wpList_append_own _ rfl _ _ 81 rfl B 5 i0 (.int .u8 0) 1 1 Tryz.underlying81 hi hz0 hz1 hz2 rfl (by decide) _ lb.length (U.cellsOf lb) rfl (ho.alloc _) ⟨W0.heap.size, 0, none⟩ 1 1 [.int .u8 123] rfl rfl ?c1 ?c2 ?c3 ?c4 ?c5 ?_)
  case c1 => exact cells1
  case c2 => intro u hu; simp at hu; rcases hu with rfl; rfl
  case c3 => have := HLEN.out; unfold maxLen; omega
  case c4 => have := HLEN.out; omega
  case c5 => simp; omega
  intro v1 w1 hown1 hgrow1 _
  have hown1 := snocU (c := 123) hown1
  have HB1 := Lib.hid (grows_below HB.out hBz (.inr ⟨_, .inl hgrow1⟩) (fun k hk => (ho.lt k hk).1))
  have HK1 := Lib.hid (HK.out.trans (keepX_grows (n := 0) ho (.inr ⟨_, .inl hgrow1⟩)).keepV)
  have HBK1 := Lib.hid (HBK.out.keepV (keepX_grows (n := 0) ho (.inr ⟨_, .inl hgrow1⟩)).keepV)
  have hBz1 := Nat.le_trans hBz (show W0.heap.size ≤ w1.heap.size by have := hgrow1.size; simp at this; omega)
  clear hgrow1 c0 c1 c2 c3 ho
  have HAT := Lib.hid (show WwAt f 1 B (lb ++ [123]) 0 (lb ++ [123]) v1 w w1 from ⟨by rw [V.T.drop_zero]; rfl, by rw [V.T.drop_zero, snoc_len]; have := HLEN.out; omega, hown1, HB1.out, HK1.out⟩)
  clear hown1
  go_wp2_with fail
  go_loopw [0, 6] (fun u q wr => ∃ (i : Nat) (b' : Value) (lb' : List UInt8), b' = u ∧ q = .int .i64 i ∧ i ≤ ma ∧ Hid (WwAt f 1 B (lb ++ [123]) i lb' b' w wr ∧ Blk4 wr w.heap.size 25 (.int .u8 6) (.string x) (.slice pa na ca) (.slice qa ma da))) (fun _ q _ => ma - (RowKit.intOf q).toNat)
  case atStart => exact ⟨0, v1, lb ++ [123], rfl, rfl, Nat.zero_le _, Lib.hid ⟨HAT.out, HBK1.out⟩⟩
  case round =>
    obtain ⟨i, b', lb', rfl, rfl, hi2, HI⟩ := hrel
    obtain ⟨c0, c1, c2, c3⟩ := HI.out.2.box
    have hBr := Nat.le_trans hBw0 HI.out.1.below.size
    by_cases hlt : i < ma
    · obtain ⟨nm1, k1, x1, l1, f1, tl1, hd1⟩ := V.T.drop_some (t := f) (i := i) (by rw [HE.out.2]; exact hlt)
      obtain ⟨g1, o1, v1, u1, hpa, E1⟩ := (HV.out.1.lowB HV.out.2 HI.out.1.below).elem (by rw [HE.out.2]; exact hlt) hd1
      subst hpa
      have hkd := HKD.out.2.drop hd1
      have hsz := V.T.drop_size hd1
      have hcl := HI.out.1.len
      have hown' := HI.out.1.own
      rw [hd1] at hcl
      unfold wgt at hcl
      have HC := Lib.hid (And.intro hd1 (And.intro hkd (And.intro hsz E1)))
      have HCL := Lib.hid hcl
      have HL := Lib.hid hlt
      have HIW := Lib.hid HI
      clear hd1 hkd hsz E1 hcl HI
      by_cases h0 : i = 0
      · have ti : decide ((0 : Int) < (i : Int)) = false := decide_eq_false (by omega)
        have tin : decide (0 < i) = false := decide_eq_false (by omega)
        have H0 := Lib.hid h0
        clear h0
        have HB2 := Lib.hid (Below.refl B wr)
        have HK2 := Lib.hid (KeepV.refl wr)
        have E2 := (HV.out.1.lowB HV.out.2 (HIW.out.out.1.below.trans HB2.out)).elem (by rw [HE.out.2]; exact HL.out) HC.out.1
        obtain ⟨g2, o2, v3, u3, hpa2, E2⟩ := E2
        cases hpa2
        have e0 := E2.name rfl
        have e1 := E2.kind
        have e2 := E2.text
        have e3 := E2.list
        have e4 := E2.fields
        simp only [Nat.reduceAdd] at e0 e1 e2 e3 e4
        have hz := fixS_len nm1
        have hnl := HCL.out
        have hq := fun W => refQuote_any nm1 W (by omega) (by omega)
        rw [quote_eq] at hq
        have hql := qL_len nm1
        have HQ := Lib.hid (show (⟨(qL nm1).toArray⟩ : ByteArray).data.toList = qL nm1 ∧ (⟨(qL nm1).toArray⟩ : ByteArray).size = (qL nm1).length from ⟨rfl, rfl⟩)
        have HQL := Lib.hid hql
        generalize (⟨(qL nm1).toArray⟩ : ByteArray) = Q at *
        clear hz hnl hql
        go_wp2_with fail
        refine (hq _).mono ?_
        rintro e wq ⟨rfl, hBq⟩
        have hoq := own8_below hown' hBq
        have HBq := Lib.hid (HB2.out.trans (hBq.mono (Nat.le_trans hBr HB2.out.size)))
        have HKq := Lib.hid (HK2.out.trans (keepV_below hBq))
        have hBzq := Nat.le_trans hBr HBq.out.size
        obtain ⟨d0, d1, d2, d3⟩ := (HIW.out.out.2.keepV HKq.out).box
        clear hBq hq e0 e1 e2 e3 e4 c0 c1 c2 c3 E2 hown'
        have HQ2 := Lib.hid (show (Q ++ (⟨#[58]⟩ : ByteArray)).size = (qL nm1).length + 1 ∧ strCells (Q ++ (⟨#[58]⟩ : ByteArray)) = U.cellsOf (qL nm1 ++ [58]) from ⟨by rw [ByteArray.size_append, HQ.out.2]; rfl, by unfold U.cellsOf; rw [← HQ.out.1]; simp [strCells]⟩)
        have hqs : Q.size ≤ 1000000000000 := by have := HCL.out; have := HQL.out; have := HQ.out.2; omega
        
        go_wp2_with (at_builtin; refine wpList_append_own_string _ rfl _ _ 81 9 rfl B 5 i0 Tryz.underlying81 Tryz.underlying9 hi hz0 hz1 hz2 _ lb'.length (U.cellsOf lb') rfl hoq _ rfl ?c3 ?c4 ?c5 ?_)
        case c3 => have := HCL.out; have := HQL.out; have := HQ2.out.1; have := HQ.out.2; unfold maxLen; simp only [ByteArray.size_append] at *; omega
        case c4 => have := HCL.out; have := HQL.out; have := HQ2.out.1; have := HQ.out.2; simp only [ByteArray.size_append] at *; omega
        case c5 => omega
        intro v4 w4 hown4 hgrow4 _
        have hown5 : w4.ownsRow B 5 1 v4 (lb' ++ (qL nm1 ++ [58])).length (U.cellsOf (lb' ++ (qL nm1 ++ [58]))) := by
          have hqq : (qL nm1 ++ [(58 : UInt8)]).length = Q.size + 1 := by rw [snoc_len, HQ.out.2]
          rw [List.length_append, ← U.cellsOf_append, ← HQ2.out.2, hqq]
          exact hown4
        have HBw := Lib.hid (grows_below HBq.out hBzq (.inl hgrow4) (fun k hk => (hoq.lt k hk).1))
        have HKw := Lib.hid (HKq.out.trans (keepX_grows (n := 0) hoq (.inl hgrow4)).keepV)
        clear hown4 hgrow4 hoq d0 d1 d2 d3 hqs
        obtain ⟨c0, c1, c2, c3⟩ := (HIW.out.out.2.keepV HKw.out).box
        have E2 := (HV.out.1.lowB HV.out.2 (HIW.out.out.1.below.trans HBw.out)).elem (by rw [HE.out.2]; exact HL.out) HC.out.1
        obtain ⟨g2, o2, v3, u3, hpa2, E2⟩ := E2
        cases hpa2
        have e1 := E2.kind
        have e2 := E2.text
        have e3 := E2.list
        have e4 := E2.fields
        have IH := ih k1 x1 _ _ l1 f1 A B _ (lb' ++ (qL nm1 ++ [58])) w4 (by have := HN.out; have := HC.out.2.2.1; omega) HC.out.2.1.1.1 HC.out.2.1.2.1 HC.out.2.1.2.2.1 (by have := HCL.out; have := HQL.out; have := HQ2.out.1; have := HQ.out.2; rw [List.length_append, snoc_len]; omega) E2.hl E2.hf HV.out.2 hown5 (Nat.le_trans hBr HBw.out.size)
        have HSTEP := Lib.hid (fun w3 v' hown3 hB3 hK3 => HIW.out.out.1.step (v' := v') (w1 := w3) HC.out.1 (l2 := lb' ++ (qL nm1 ++ [58])) (by rw [decide_eq_true H0.out]; simp [ahead]) hown3 (HBw.out.trans hB3) (HKw.out.trans hK3))
        clear E2 hown5
        generalize lb' ++ (qL nm1 ++ [58]) = L2 at *
        go_wp2_with fail
        (with_reducible refine IH.mono ?_)
        rintro e w3 ⟨v', rfl, hown3, hB3, hK3⟩
        have HN2 := Lib.hid (HSTEP.out w3 v' hown3 hB3 hK3)
        have HBK3 := Lib.hid (HIW.out.out.2.keepV (HKw.out.trans hK3))
        clear hown3 hB3 hK3 IH c0 c1 c2 c3 e1 e2 e3 e4
        go_wp2_with fail
        go_roundw
        case rel => exact ⟨i + 1, v', _, rfl, by push_cast; rfl, HL.out, Lib.hid ⟨HN2.out, HBK3.out⟩⟩
        case measure => have := HL.out; show ma - (((i : Int) + 1).toNat) < ma - ((i : Int).toNat); omega
      · have ti : decide ((0 : Int) < (i : Int)) = true := decide_eq_true (by omega)
        have tin : decide (0 < i) = true := decide_eq_true (by omega)
        have H0 := Lib.hid h0
        clear h0
        go_wp2_with (at_builtin; refine wpList_append_own _ rfl _ _ 81 rfl B 5 i0 (.int .u8 0) 1 1 Tryz.underlying81 hi hz0 hz1 hz2 rfl (by decide) _ lb'.length (U.cellsOf lb') rfl (hown'.alloc _) ⟨wr.heap.size, 0, none⟩ 1 1 [.int .u8 44] rfl rfl ?c1 ?c2 ?c3 ?c4 ?c5 ?_)
        case c1 => exact cells1
        case c2 => intro u hu; simp at hu; rcases hu with rfl; rfl
        case c3 => have := HCL.out; unfold maxLen; omega
        case c4 => have := HCL.out; omega
        case c5 => simp; omega
        intro v2 w2 hown2 hgrow2 _
        have hown2 := snocU (c := 44) hown2
        have HB2 := Lib.hid (grows_below (Below.refl B wr) hBr (.inr ⟨_, .inl hgrow2⟩) (fun k hk => (hown'.lt k hk).1))
        have HK2 := Lib.hid (keepX_grows (n := 0) hown' (.inr ⟨_, .inl hgrow2⟩)).keepV
        clear hgrow2 hown' c0 c1 c2 c3
        obtain ⟨c0, c1, c2, c3⟩ := (HIW.out.out.2.keepV HK2.out).box
        obtain ⟨l2, hl2⟩ : ∃ q, q = lb' ++ [44] := ⟨_, rfl⟩
        rw [← hl2] at hown2
        have HL2 := Lib.hid hl2
        clear hl2
        have E2 := (HV.out.1.lowB HV.out.2 (HIW.out.out.1.below.trans HB2.out)).elem (by rw [HE.out.2]; exact HL.out) HC.out.1
        obtain ⟨g2, o2, v3, u3, hpa2, E2⟩ := E2
        cases hpa2
        have e0 := E2.name rfl
        have e1 := E2.kind
        have e2 := E2.text
        have e3 := E2.list
        have e4 := E2.fields
        simp only [Nat.reduceAdd] at e0 e1 e2 e3 e4
        have hz := fixS_len nm1
        have hnl := HCL.out
        have hq := fun W => refQuote_any nm1 W (by omega) (by omega)
        rw [quote_eq] at hq
        have hql := qL_len nm1
        have HQ := Lib.hid (show (⟨(qL nm1).toArray⟩ : ByteArray).data.toList = qL nm1 ∧ (⟨(qL nm1).toArray⟩ : ByteArray).size = (qL nm1).length from ⟨rfl, rfl⟩)
        have HQL := Lib.hid hql
        generalize (⟨(qL nm1).toArray⟩ : ByteArray) = Q at *
        clear hz hnl hql
        go_wp2_with fail
        refine (hq _).mono ?_
        rintro e wq ⟨rfl, hBq⟩
        have hoq := own8_below hown2 hBq
        have HBq := Lib.hid (HB2.out.trans (hBq.mono (Nat.le_trans hBr HB2.out.size)))
        have HKq := Lib.hid (HK2.out.trans (keepV_below hBq))
        have hBzq := Nat.le_trans hBr HBq.out.size
        obtain ⟨d0, d1, d2, d3⟩ := (HIW.out.out.2.keepV HKq.out).box
        clear hBq hq e0 e1 e2 e3 e4 c0 c1 c2 c3 E2 hown2
        have HQ2 := Lib.hid (show (Q ++ (⟨#[58]⟩ : ByteArray)).size = (qL nm1).length + 1 ∧ strCells (Q ++ (⟨#[58]⟩ : ByteArray)) = U.cellsOf (qL nm1 ++ [58]) from ⟨by rw [ByteArray.size_append, HQ.out.2]; rfl, by unfold U.cellsOf; rw [← HQ.out.1]; simp [strCells]⟩)
        have hqs : Q.size ≤ 1000000000000 := by have := HCL.out; have := HQL.out; have := HQ.out.2; omega
        
        go_wp2_with (at_builtin; refine wpList_append_own_string _ rfl _ _ 81 9 rfl B 5 i0 Tryz.underlying81 Tryz.underlying9 hi hz0 hz1 hz2 _ l2.length (U.cellsOf l2) rfl hoq _ rfl ?c3 ?c4 ?c5 ?_)
        case c3 => have := HCL.out; have := HQL.out; have := HQ2.out.1; have := HQ.out.2; have h2l : l2.length = lb'.length + 1 := (by rw [HL2.out, snoc_len]); unfold maxLen; simp only [ByteArray.size_append] at *; omega
        case c4 => have := HCL.out; have := HQL.out; have := HQ2.out.1; have := HQ.out.2; have h2l : l2.length = lb'.length + 1 := (by rw [HL2.out, snoc_len]); simp only [ByteArray.size_append] at *; omega
        case c5 => omega
        intro v4 w4 hown4 hgrow4 _
        have hown5 : w4.ownsRow B 5 1 v4 (l2 ++ (qL nm1 ++ [58])).length (U.cellsOf (l2 ++ (qL nm1 ++ [58]))) := by
          have hqq : (qL nm1 ++ [(58 : UInt8)]).length = Q.size + 1 := by rw [snoc_len, HQ.out.2]
          rw [List.length_append, ← U.cellsOf_append, ← HQ2.out.2, hqq]
          exact hown4
        have HBw := Lib.hid (grows_below HBq.out hBzq (.inl hgrow4) (fun k hk => (hoq.lt k hk).1))
        have HKw := Lib.hid (HKq.out.trans (keepX_grows (n := 0) hoq (.inl hgrow4)).keepV)
        clear hown4 hgrow4 hoq d0 d1 d2 d3 hqs
        obtain ⟨c0, c1, c2, c3⟩ := (HIW.out.out.2.keepV HKw.out).box
        have E2 := (HV.out.1.lowB HV.out.2 (HIW.out.out.1.below.trans HBw.out)).elem (by rw [HE.out.2]; exact HL.out) HC.out.1
        obtain ⟨g2, o2, v3, u3, hpa2, E2⟩ := E2
        cases hpa2
        have e1 := E2.kind
        have e2 := E2.text
        have e3 := E2.list
        have e4 := E2.fields
        have IH := ih k1 x1 _ _ l1 f1 A B _ (l2 ++ (qL nm1 ++ [58])) w4 (by have := HN.out; have := HC.out.2.2.1; omega) HC.out.2.1.1.1 HC.out.2.1.2.1 HC.out.2.1.2.2.1 (by have := HCL.out; have := HQL.out; have := HQ2.out.1; have := HQ.out.2; have h2l : l2.length = lb'.length + 1 := (by rw [HL2.out, snoc_len]); rw [List.length_append, snoc_len]; omega) E2.hl E2.hf HV.out.2 hown5 (Nat.le_trans hBr HBw.out.size)
        have HSTEP := Lib.hid (fun w3 v' hown3 hB3 hK3 => HIW.out.out.1.step (v' := v') (w1 := w3) HC.out.1 (l2 := l2 ++ (qL nm1 ++ [58])) (by rw [HL2.out, decide_eq_false H0.out]; simp [ahead]) hown3 (HBw.out.trans hB3) (HKw.out.trans hK3))
        clear E2 hown5
        generalize l2 ++ (qL nm1 ++ [58]) = L2 at *
        go_wp2_with fail
        (with_reducible refine IH.mono ?_)
        rintro e w3 ⟨v', rfl, hown3, hB3, hK3⟩
        have HN2 := Lib.hid (HSTEP.out w3 v' hown3 hB3 hK3)
        have HBK3 := Lib.hid (HIW.out.out.2.keepV (HKw.out.trans hK3))
        clear hown3 hB3 hK3 IH c0 c1 c2 c3 e1 e2 e3 e4
        go_wp2_with fail
        go_roundw
        case rel => exact ⟨i + 1, v', _, rfl, by push_cast; rfl, HL.out, Lib.hid ⟨HN2.out, HBK3.out⟩⟩
        case measure => have := HL.out; show ma - (((i : Int) + 1).toNat) < ma - ((i : Int).toNat); omega
    · obtain rfl : i = ma := by omega
      have hfin : lb' = lb ++ [123] ++ wrT f 1 true := WwAt.fin (b' := b') (w := w) (wr := wr) (B := B) (by rw [HE.out.2]; exact HI.out.1)
      have hown' := HI.out.1.own
      have HF := Lib.hid (And.intro HI.out.1.below HI.out.1.keep)
      have HFL := Lib.hid (show lb'.length ≤ 100000000000 by have := HI.out.1.len; omega)
      have HFN := Lib.hid hfin
      clear hfin HI
      go_wp2_with (at_builtin; refine wpList_append_own _ rfl _ _ 81 rfl B 5 i0 (.int .u8 0) 1 1 Tryz.underlying81 hi hz0 hz1 hz2 rfl (by decide) _ lb'.length (U.cellsOf lb') rfl (hown'.alloc _) ⟨wr.heap.size, 0, none⟩ 1 1 [.int .u8 125] rfl rfl ?c1 ?c2 ?c3 ?c4 ?c5 ?_)
      case c1 => exact cells1
      case c2 => intro u hu; simp at hu; rcases hu with rfl; rfl
      case c3 => have := HFL.out; unfold maxLen; omega
      case c4 => have := HFL.out; omega
      case c5 => simp; omega
      intro v2 w2 hown2 hgrow2 _
      have hown2 := snocU (c := 125) hown2
      go_wp2_with fail
      go_ret
      refine ⟨v2, rfl, ?_, grows_below HF.out.1 hBr (.inr ⟨_, .inl hgrow2⟩) (fun k hk => (hown'.lt k hk).1), HF.out.2.trans (keepX_grows (n := 0) hown' (.inr ⟨_, .inl hgrow2⟩)).keepV⟩
      rw [show lb ++ 123 :: (wrT f 1 true ++ [125]) = lb' ++ [125] by rw [HFN.out]; simp]
      exact hown2
end Go.Proofs.YtoolkaahjmnjeaaGreatDoor
