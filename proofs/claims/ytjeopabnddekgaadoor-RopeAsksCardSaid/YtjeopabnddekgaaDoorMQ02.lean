/- Places by lines in a text of pieces, plainly. Conditions: none. -/
import Derived.Test.YtjeopabnddekgaaDoorME42
import Derived.Test.YtjeopabnddekgaaDoorMQ01
namespace Go.Proofs.YtjeopabnddekgaaDoor
open Go Go.RowKit Go.Lib

theorem bga_at {x : ByteArray} {p : Nat} (h : U.At x p) (hp : p ≤ x.size) : U.bga x (p : Int) = p := U.bgn_at h hp
theorem bga_bgn (x : ByteArray) (i : Int) : U.bga x i = bgnAt x i := rfl
theorem ext_mid (u m v : ByteArray) : (u ++ m ++ v).extract u.size (u.size + m.size) = m ∧ (u ++ m ++ v).extract 0 u.size = u ∧ (u ++ m ++ v).extract 0 (u.size + m.size) = u ++ m ∧ (u ++ m ++ v).extract (u.size + m.size) (u ++ m ++ v).size = v := by
  have lu := Ed.bl_len u
  have lm := Ed.bl_len m
  have lv := Ed.bl_len v
  have z : (u ++ m ++ v).size = u.size + m.size + v.size := by rw [U.app_size, U.app_size]
  refine ⟨?_, ?_, ?_, ?_⟩ <;> apply Ed.ba_ext <;> show Ed.bl _ = Ed.bl _ <;> rw [Ed.bl_ext] <;> simp only [Ed.bl_app]
  · rw [← lu, List.append_assoc, List.drop_left, show (Ed.bl u).length + m.size - (Ed.bl u).length = (Ed.bl m).length by omega, List.take_left]
  · rw [List.drop_zero, Nat.sub_zero, ← lu, List.append_assoc, List.take_left]
  · rw [List.drop_zero, Nat.sub_zero, show u.size + m.size = (Ed.bl u ++ Ed.bl m).length by rw [List.length_append]; omega, List.take_left]
  · rw [show u.size + m.size = (Ed.bl u ++ Ed.bl m).length by rw [List.length_append]; omega, List.drop_left, List.take_of_length_le (by rw [z, List.length_append]; omega)]
theorem ext_same (x : ByteArray) (a b : Nat) (h : x.size ≤ b) : x.extract a b = x.extract a x.size := by
  apply Ed.ba_ext
  show Ed.bl _ = Ed.bl _
  rw [Ed.bl_ext, Ed.bl_ext, List.take_of_length_le (by rw [List.length_drop, Ed.bl_len]; omega), List.take_of_length_le (by rw [List.length_drop, Ed.bl_len]; omega)]
/-- a stretch between two places where the scan comes -/
theorem at_parts {x : ByteArray} (hv : U.valid x = true) {a b : Nat} (ha : U.At x a) (hb : U.At x b) (hab : a ≤ b) (hx : b ≤ x.size) : ∃ u m v, x = u ++ m ++ v ∧ a = u.size ∧ b = u.size + m.size ∧ U.valid u = true ∧ U.valid m = true ∧ U.valid v = true ∧ x.extract 0 a = u ∧ x.extract a b = m ∧ x.extract 0 b = u ++ m := by
  have hm : mayR x (a : Int) (b : Int) = true := by
    unfold mayR
    rw [bga_at ha (by omega), bga_at hb hx]
    simp [hab]
  obtain ⟨u, m, v, hx', e1, e2, v1, v2, v3⟩ := may_split hv hm
  have ea : a = u.size := by omega
  have eb : b = u.size + m.size := by omega
  obtain ⟨h1, h2, h3, _⟩ := ext_mid u m v
  refine ⟨u, m, v, hx', ea, eb, v1, v2, v3, ?_, ?_, ?_⟩
  · rw [hx', ea]; exact h2
  · rw [hx', ea, eb]; exact h1
  · rw [hx', eb]; exact h3
theorem cut_le' (s : ByteArray) (i : Int) : U.cut s i ≤ s.size := by obtain ⟨_, _, _, _, h, _⟩ := U.cut_facts s i; exact h
theorem cut_zero' (s : ByteArray) : U.cut s 0 = 0 := by
  unfold U.cut
  by_cases hp : 0 < s.size
  · obtain ⟨f, hf⟩ : ∃ f, s.size = f + 1 := ⟨s.size - 1, by omega⟩
    rw [hf]
    exact U.cutFrom_stop s 0 f 0 0 hp (by have := U.un_le hp; omega)
  · exact U.cutFrom_end s 0 s.size 0 0 hp
theorem cut_top {s : ByteArray} (hv : U.valid s = true) {i : Int} (h : ((U.units s : Nat) : Int) ≤ i) : U.cut s i = s.size := by
  have := U.cut_mid s ByteArray.empty ByteArray.empty hv (U.valid_none _ rfl) i (.inr h) (.inl rfl)
  rw [ByteArray.append_empty, ByteArray.append_empty] at this
  have e := cut_le' ByteArray.empty (i - (U.units s : Nat))
  have e0 : ByteArray.empty.size = 0 := rfl
  omega
/-- Offset, as layer 2 says it -/
theorem offX_ofs {x : ByteArray} (hv : U.valid x = true) (l c : Int) : Ed.offX x l c = (ofs x l c : Int) := by
  unfold Ed.offX Ed.conX ofs
  rw [show (max l 0).toNat = l.toNat by omega]
  by_cases hk : l.toNat < L.mny x
  · rw [if_pos hk, if_pos hk, if_pos rfl]
    dsimp only
    have hto := L.to_le hk
    have hge := L.to_ge hk
    obtain ⟨u, m, v, hx, ea, eb, vu, vm, vv, x1, x2, x3⟩ := at_parts hv (L.at_fr _ hk).1 (L.at_fr _ hk).2 hge hto
    have hct : content x l.toNat = m := x2
    rw [show ((L.fr x l.toNat : Nat) : Int).toNat = L.fr x l.toNat by omega, x1, hct]
    have hU : (R.cn x).u = U.units x := rfl
    have hu0 : (R.cn u).u = U.units u := rfl
    rw [hU, hu0]
    have hum : U.units (u ++ m) = U.units u + U.units m := U.units_app u m vu
    have hux : U.units x = U.units u + U.units m + U.units v := by
      rw [hx, ByteArray.append_assoc, U.units_app u _ vu, U.units_app m v vm]; omega
    have hcm := cut_le' m c
    by_cases h1 : max (min c ((U.units x : Nat) : Int)) 0 < ((U.units m : Nat) : Int) ∨ v.size = 0
    · have hmid := U.cut_mid u m v vu vm (((U.units u : Nat) : Int) + max (min c ((U.units x : Nat) : Int)) 0) (.inr (by omega)) (by
        rcases h1 with h1 | h1
        · exact .inr (by rw [hum]; omega)
        · exact .inl h1)
      rw [← ByteArray.append_assoc, ← hx] at hmid
      rw [hmid, show ((U.units u : Nat) : Int) + max (min c ((U.units x : Nat) : Int)) 0 - ((U.units u : Nat) : Int) = max (min c ((U.units x : Nat) : Int)) 0 by omega]
      have e : U.cut m (max (min c ((U.units x : Nat) : Int)) 0) = U.cut m c := by
        by_cases hc : c < 0
        · rw [U.cut_below m c hc, show max (min c ((U.units x : Nat) : Int)) 0 = 0 by omega]; exact cut_zero' m
        · by_cases hc2 : c ≤ ((U.units x : Nat) : Int)
          · rw [show max (min c ((U.units x : Nat) : Int)) 0 = c by omega]
          · rw [cut_top vm (i := c) (by omega), cut_top vm (by omega)]
      rw [e]
      omega
    · obtain ⟨h1a, h1b⟩ := not_or.1 h1
      have hmid := U.cut_mid (u ++ m) v ByteArray.empty (by rw [U.valid_app u m vu]; exact vm) vv (((U.units u : Nat) : Int) + max (min c ((U.units x : Nat) : Int)) 0) (.inr (by rw [hum]; omega)) (.inl rfl)
      rw [ByteArray.append_empty, ← hx] at hmid
      have hm : U.cut m c = m.size := by
        by_cases hc : ((U.units m : Nat) : Int) ≤ c
        · exact cut_top vm hc
        · have h0 := cut_top vm (i := 0) (by omega)
          rw [cut_zero'] at h0
          omega
      rw [hmid, hm, U.app_size]
      omega
  · rw [if_neg hk, if_neg hk, if_neg (by decide)]
theorem bk_none : ∀ (l : List UInt8), (∀ b ∈ l, b ≠ 10 ∧ b ≠ 13) → R.bk l = 0
  | [], _ => rfl
  | b :: r, h => by
    have h1 := h b (List.mem_cons_self ..)
    simp only [R.bk, if_neg h1.1, if_neg h1.2, Nat.zero_add]
    exact bk_none r (fun b hb => h b (List.mem_cons_of_mem _ hb))
theorem get_mem {x : ByteArray} {a n : Nat} {b : UInt8} (h : b ∈ ((Ed.bl x).drop a).take n) : ∃ j, a ≤ j ∧ j < a + n ∧ j < x.size ∧ x.get! j = b := by
  obtain ⟨i, hi, e⟩ := List.getElem_of_mem h
  rw [List.length_take, List.length_drop, Ed.bl_len] at hi
  rw [List.getElem_take, List.getElem_drop] at e
  refine ⟨a + i, by omega, by omega, by omega, ?_⟩
  rw [L.at_get (by omega)]
  exact e
/-- the breaks ahead of a place -/
theorem bk_take (x : ByteArray) (b : Nat) (hb : b ≤ x.size) : R.bk ((Ed.bl x).take b) = if L.to x (L.ln x b) < b then L.ln x b + 1 else L.ln x b := by
  have hn := L.ln_lt x b
  have hfb := L.ln_le x b
  have hge := L.to_ge hn
  have hto := L.to_le hn
  obtain ⟨h1, h2, h3, h4⟩ := R.ls_fr x _ hn
  have hup : L.ln x b + 1 < L.mny x → b < L.fr x (L.ln x b + 1) := fun h => L.ln_up x (Nat.lt_succ_self _) h
  have htl : ¬ L.ln x b + 1 < L.mny x → L.to x (L.ln x b) = x.size := fun h => L.to_end hn h
  have hce : ∀ j, L.fr x (L.ln x b) ≤ j → j < L.to x (L.ln x b) → L.brk x j = false := fun j ha hb' => L.ce_none (i := L.fr x (L.ln x b)) (L.fr_le hn) ha hb'
  have hfs := L.fr_succ x (L.ln x b)
  have hnb : ∀ n, n ≤ L.to x (L.ln x b) - L.fr x (L.ln x b) → R.bk (((Ed.bl x).drop (L.fr x (L.ln x b))).take n) = 0 := fun n hle => bk_none _ (fun c hc => by
    obtain ⟨j, g1, g2, g3, g4⟩ := get_mem hc
    have := L.of_nbrk (hce j g1 (by omega))
    rw [g4] at this
    exact ⟨fun e => this.1 (by rw [e]; rfl), fun e => this.2 (by rw [e]; rfl)⟩)
  generalize L.ln x b = i at *
  generalize hF : L.fr x i = f at *
  generalize hT : L.to x i = t at *
  have hsplit : (Ed.bl x).take b = (Ed.bl x).take f ++ ((Ed.bl x).drop f).take (b - f) := by
    have := List.take_add (l := Ed.bl x) (i := f) (j := b - f)
    rw [show f + (b - f) = b by omega] at this
    exact this
  have happ := R.bk_app ((Ed.bl x).take f) (((Ed.bl x).drop f).take (b - f))
  have hseam : R.seam ((Ed.bl x).take f) (((Ed.bl x).drop f).take (b - f)) = 0 := R.seam_no (fun ⟨e1, e2⟩ => h4 ⟨e1, by
    cases hd : (Ed.bl x).drop f with
    | nil => rw [hd] at e2; simp at e2
    | cons c r =>
      rw [hd] at e2
      cases hbf : b - f with
      | zero => rw [hbf] at e2; simp at e2
      | succ n => rw [hbf, List.take_succ_cons, List.head?_cons] at e2; show ((Ed.bl x).drop f).head? = _; rw [hd, List.head?_cons]; exact e2⟩)
  rw [hsplit]
  have h2' : R.bk ((Ed.bl x).take f) = i := h2
  by_cases hlt : t < b
  · rw [if_pos hlt]
    have hi1 : i + 1 < L.mny x := by
      by_cases h : i + 1 < L.mny x
      · exact h
      · have := htl h; omega
    have hb2 := hup hi1
    have hts : t < x.size := by omega
    rw [hfs] at hb2
    cases hp : L.pair x t
    · rw [L.nx_one hp] at hb2; omega
    · rw [L.nx_pair hp] at hb2
      obtain ⟨p1, p2, p3⟩ := L.of_pair hp
      have hb1 : b = t + 1 := by omega
      subst hb1
      have hpart : ((Ed.bl x).drop f).take (t + 1 - f) = ((Ed.bl x).drop f).take (t - f) ++ [13] := by
        rw [show t + 1 - f = (t - f) + 1 by omega, List.take_add_one]
        congr 1
        rw [List.getElem?_drop, show f + (t - f) = t by omega]
        have hl := Ed.bl_len x
        rw [List.getElem?_eq_getElem (by omega)]
        have e13 : x.get! t = 13 := (R.toNat_eq _ 13 (by omega)).2 p1
        rw [L.at_get hts] at e13
        simp only [Option.toList_some]
        congr 1
      have ha2 := R.bk_app (((Ed.bl x).drop f).take (t - f)) [13]
      have hz : R.bk (((Ed.bl x).drop f).take (t - f)) = 0 := hnb (t - f) (by omega)
      have hs13 : R.seam (((Ed.bl x).drop f).take (t - f)) [13] = 0 := R.seam_no (fun ⟨_, e2⟩ => by simp at e2)
      have hb13 : R.bk [13] = 1 := rfl
      rw [hpart] at happ hseam ⊢
      omega
  · rw [if_neg hlt]
    have hz : R.bk (((Ed.bl x).drop f).take (b - f)) = 0 := hnb (b - f) (by omega)
    omega
end Go.Proofs.YtjeopabnddekgaaDoor
