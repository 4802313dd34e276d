/- The document's own reader of JSON: a field is put behind the others, or in the place of one of its name. Conditions: at most 2^20 fields. -/
import Derived.Test.YtbdpghmpdghnbaaDoorMJ24
import Derived.Deep.AppendLies
import Derived.Laws.RangeAny
namespace Go.Proofs.YtbdpghmpdghnbaaDoor
open Go Go.RowKit Go.Lib

/-- fields in a row of one's own -/
def FR (base : Nat) (Rw : Value) (t : V.T) (W : World) : Prop := ∃ xs, W.ownsRow base 38 5 Rw t.len xs ∧ RP W (Aside base Rw) 1 t t.len xs
/-- put gives a row back -/
def PutIs (base : Nat) (Rw : Value) (t : V.T) (w : World) (en : Ending) (w' : World) : Prop := ∃ Rw', en = .returned Rw' ∧ FR base Rw' t w' ∧ w.grownBy w' Rw.ownBlock
theorem own_slice {w : World} {base : Nat} {e : TypeId} {size n : Nat} {v : Value} {xs : List Value} (h : w.ownsRow base e size v n xs) : ∃ p c, v = .slice p n c ∧ n ≤ c ∧ c ≤ maxLen := by
  rcases h.2 with ⟨e1, e2⟩ | ⟨k, cap, cur, e1, _, _, h1, h2, _⟩
  · exact ⟨none, 0, by rw [e1, e2], by omega, Nat.zero_le _⟩
  · exact ⟨_, cap, e1, h1, h2⟩
theorem idx_none_len {t : V.T} {n : ByteArray} {i : Nat} (hi : t.len ≤ i) (h : t.idx n = ((t.drop i).idx n).map (· + i)) : t.idx n = none := by
  have : t.drop i = .nil := by
    have := V.T.drop_len t
    obtain ⟨j, rfl⟩ : ∃ j, i = t.len + j := ⟨i - t.len, by omega⟩
    clear hi h
    induction t with
    | nil => cases j <;> rfl
    | cons a b c d e tl _ _ ih => rw [show (V.T.cons a b c d e tl).len + j = (tl.len + j) + 1 from by show tl.len + 1 + j = _; omega]; exact ih (V.T.drop_len tl)
  rw [h, this]; rfl
theorem idx_step {t : V.T} {n a x : ByteArray} {k i : Nat} {l f tl : V.T} (hd : t.drop i = .cons a k x l f tl) (h : t.idx n = ((t.drop i).idx n).map (· + i)) : (a = n → t.idx n = some i) ∧ (¬ a = n → t.idx n = ((t.drop (i + 1)).idx n).map (· + (i + 1))) := by
  have hs : t.drop (i + 1) = tl := by
    clear h
    induction i generalizing t with
    | zero => rw [V.T.drop_zero] at hd; subst hd; exact V.T.drop_zero tl
    | succ i ih => cases t with
      | nil => cases hd
      | cons _ _ _ _ _ t2 => exact ih (t := t2) hd
  rw [hd] at h
  rw [hs, h]
  constructor
  · intro e; unfold V.T.idx; rw [if_pos e]; simp
  · intro e
    conv => lhs; unfold V.T.idx
    rw [if_neg e, Option.map_map]
    congr 1
    funext y
    show y + 1 + i = y + (i + 1)
    omega
theorem aside_own {base g n m c c' : Nat} : Aside base (.slice (some ⟨g, 0, none⟩) n c) = Aside base (.slice (some ⟨g, 0, none⟩) m c') := rfl
set_option maxRecDepth 100000 in
set_option maxHeartbeats 4000000 in
theorem put_any (nm x : ByteArray) (k base : Nat) (Rw v u : Value) (t l f : V.T) (W : World) (hn : t.len ≤ 1048576) (hF : FR base Rw t W) (hbase : base ≤ W.heap.size)
    (hl : HS W (Aside base Rw) 0 v l) (hf : HS W (Aside base Rw) 1 u f) (hfit : Fit nm k x) :
    Calls Tryd.prog 24 #[Rw, .string nm, .agg #[.int .u8 k, .string x, v, u]] W (PutIs base Rw (t.put nm k x l f) W) := by
  obtain ⟨xs, ho, hr⟩ := hF
  obtain ⟨pV, cV, rfl, hc1, hc2⟩ := own_slice ho
  obtain ⟨p3, c3, rfl, -⟩ := hl.len
  obtain ⟨p4, c4, rfl, -⟩ := hf.len
  obtain ⟨i1, hi1, hy0, hy1, hy2⟩ := info_parts infoField
  have hc3 : cV ≤ 9223372036854775807 := by unfold maxLen at hc2; omega
  have HA := Lib.hid (And.intro hl (And.intro hf hfit))
  have HR := Lib.hid (And.intro ho hr)
  go_enter Tryd.func24, Tryd.ntmps24
  go_upto_region 1 with fail
  generalize hW : W.alloc _ = W0
  have B0 : Blk4 W0 W.heap.size 25 (.int .u8 k) (.string x) (.slice p3 l.len c3) (.slice p4 f.len c4) := by rw [← hW]; exact heap_alloc_new W _
  have HB := Lib.hid (show Below W.heap.size W W0 ∧ W.heap.size < W0.heap.size by rw [← hW]; exact ⟨(Below.refl _ _).alloc (Nat.le_refl _) _, by rw [World.size_alloc]; omega⟩)
  obtain ⟨b0, b1, b2, b3⟩ := B0.box
  clear hW
  have ho0 := ownsRow_below ho HB.out.1
  have HO := Lib.hid (And.intro ho0 (hr.imp (w' := W0) (fun _ a _ => a) (fun b _ hb => HB.out.1.block b hb)))
  generalize hnb : W.heap.size = nb at *
  go_wp2_with fail
  go_loopw [7] (fun vi wx => ∃ i : Nat, vi = .int .i64 i ∧ i ≤ t.len ∧ Hid (wx = W0 ∧ t.idx nm = ((t.drop i).idx nm).map (· + i))) (fun vi _ => t.len - (RowKit.intOf vi).toNat)
  case atStart => exact ⟨0, rfl, Nat.zero_le _, Lib.hid ⟨rfl, by rw [V.T.drop_zero]; cases t.idx nm <;> rfl⟩⟩
  case round =>
    obtain ⟨i, rfl, hi, HI⟩ := hrel
    obtain rfl : wr = W0 := HI.out.1
    by_cases hlt : i < t.len
    · have j1 : (i : Int) < (t.len : Int) := by omega
      have j0 : (0 : Int) ≤ (i : Int) := Int.natCast_nonneg _
      obtain ⟨a, ka, xa, la, fa, tl, va, ua, hd, -, hx1, hx2, hx3, hx4, hx5, -⟩ := HO.out.2.2 i hlt
      obtain ⟨gp, rfl⟩ : ∃ g, pV = some ⟨g, 0, none⟩ := by
        rcases HO.out.1.2 with ⟨e, e2⟩ | ⟨g, cap, cur, e, _⟩
        · omega
        · cases e; exact ⟨g, rfl⟩
      have hca := HO.out.1.cells (g := gp) rfl _ _ (hx1 rfl)
      have hadd : ∀ j, (⟨gp, 0, none⟩ : Addr).add j = ⟨gp, j, none⟩ := fun j => by cases j <;> simp [Addr.add]
      rw [hadd] at hca
      have q1 := HO.out.1.cells (g := gp) rfl _ _ hx2
      have q2 := HO.out.1.cells (g := gp) rfl _ _ hx3
      have q3 := HO.out.1.cells (g := gp) rfl _ _ hx4
      have q4 := HO.out.1.cells (g := gp) rfl _ _ hx5
      rw [hadd] at q1 q2 q3 q4
      simp only [Nat.reduceAdd] at hca q1 q2 q3 q4
      have hst := idx_step hd HI.out.2
      have HLT := Lib.hid hlt
      by_cases he : a = nm
      · have HX := Lib.hid (hst.1 he)
        have ee : (a.toList == nm.toList) = true := by rw [he, beq_self_eq_true]
        have hfz : ∀ o, wr.frozen? ⟨gp, o, none⟩ = false := fun o => by
          rcases HO.out.1.2 with ⟨e, _⟩ | ⟨g, c, cur, e, _, hg, _⟩
          · cases e
          · cases e; simp [World.frozen?, hg]
        have f1 := hfz (i * 5 + 1)
        have f2 := hfz (i * 5 + 1 + 1)
        have f3 := hfz (i * 5 + 1 + 2)
        have f4 := hfz (i * 5 + 1 + 3)
        have HFI := Lib.hid (own_xs4 (j := i * 5 + 1) HO.out.1 (.int .u8 k) (.string x) (.slice p3 l.len c3) (.slice p4 f.len c4))
        clear hst he hfz hi
        go_wp2_with fail
        generalize hW6 : (((wr.setCell ⟨gp, i * 5 + 1, none⟩ (.int .u8 k)).setCell ⟨gp, i * 5 + 1 + 1, none⟩ (.string x)).setCell ⟨gp, i * 5 + 1 + 2, none⟩ (.slice p3 l.len c3)).setCell ⟨gp, i * 5 + 1 + 3, none⟩ (.slice p4 f.len c4) = W6 at *
        go_ret
        have gg : wr.grownBy W6 (some gp) := by rw [← hW6]; exact (((grow_set wr gp (i * 5 + 1) (.int .u8 k)).trans (grow_set _ gp (i * 5 + 1 + 1) (.string x))).trans (grow_set _ gp (i * 5 + 1 + 2) (.slice p3 l.len c3))).trans (grow_set _ gp (i * 5 + 1 + 3) (.slice p4 f.len c4))
        have keep : ∀ b, b < wr.heap.size → b ≠ gp → W6.heap[b]? = wr.heap[b]? := fun b hb hne => gg.block b hb (fun e => hne (by cases e; rfl))
        have hA : ∀ b, Aside base (.slice (some ⟨gp, 0, none⟩) t.len cV) b → b ≠ gp := fun b hb e => hb.2 (by rw [e]; rfl)
        have hlen := V.T.put_len_old HX.out k x l f
        refine ⟨_, rfl, ⟨xs4 xs (i * 5 + 1) (.int .u8 k) (.string x) (.slice p3 l.len c3) (.slice p4 f.len c4), ?_, ?_⟩, ?_⟩
        · rw [hlen]; exact HFI.out
        · exact RP.put (HO.out.2.imp (fun _ a _ => a) (fun b a hb => keep b hb (hA b a))) HX.out ((HA.out.1.imp (w' := wr) (fun _ a _ => a) (fun b _ hb => HB.out.1.block b (by rw [← hnb]; exact hb))).imp (fun _ a _ => a) (fun b a hb => keep b hb (hA b a))) ((HA.out.2.1.imp (w' := wr) (fun _ a _ => a) (fun b _ hb => HB.out.1.block b (by rw [← hnb]; exact hb))).imp (fun _ a _ => a) (fun b a hb => keep b hb (hA b a))) HA.out.2.2
        · exact grow_trans (grow_below (hnb ▸ HB.out.1) _) gg
      · have HE := Lib.hid (hst.2 he)
        have ee : (a.toList == nm.toList) = false := by rw [bytes_beq]; exact decide_eq_false he
        clear hst he hi
        go_wp2_with fail
        go_roundw
        case rel => exact ⟨i + 1, by go_num, HLT.out, Lib.hid ⟨by first | rfl | trivial, HE.out⟩⟩
        case measure => have := HLT.out; simp [RowKit.intOf]; omega
    · obtain rfl : i = t.len := by omega
      have HX := Lib.hid (idx_none_len (Nat.le_refl _) HI.out.2)
      have j1 : ¬ ((t.len : Nat) : Int) < (t.len : Int) := by omega
      clear hlt hi HI
      have hn1 : t.len + 1 ≤ maxLen := by unfold maxLen; omega
      have hn2 : (t.len + 1) * 88 ≤ 140737488355328 := by omega
      have H0 := Lib.hid (show base ≤ (wr.alloc (.cells #[.string nm, .int .u8 k, .string x, .slice p3 l.len c3, .slice p4 f.len c4] 38)).heap.size by rw [World.size_alloc]; have := HB.out.2; omega)
      go_wp2_with (at_builtin; go_loud (refine wpList_append_lies _ rfl _ _ 23 rfl base 38 i1 _ 5 88 Tryd.underlying23 hi1 hy0 hy1 hy2 rfl (by decide) (.slice pV t.len cV) t.len xs rfl (HO.out.1.alloc _) ⟨wr.heap.size, 0, none⟩ 1 1 [.string nm, .int .u8 k, .string x, .slice p3 l.len c3, .slice p4 f.len c4] rfl rfl (World.news_of_block (cs := #[.string nm, .int .u8 k, .string x, .slice p3 l.len c3, .slice p4 f.len c4]) (t := 38) (fr := (0, 0)) (heap_alloc_new wr _)) (by simp [Value.oneCell']) (by decide) hn1 hn2 H0.out (wr.heap.size + 1) (by simp) ?_); intro gg cap w2 hown2 hgrow hat hlt2)
      go_ret
      have ga := Below.heap_alloc wr (.cells #[.string nm, .int .u8 k, .string x, .slice p3 l.len c3, .slice p4 f.len c4] 38)
      have r1 : RP (wr.alloc (.cells #[.string nm, .int .u8 k, .string x, .slice p3 l.len c3, .slice p4 f.len c4] 38)) (Aside base (.slice pV t.len cV)) 1 t t.len xs := HO.out.2.imp (fun _ a _ => a) (fun b _ hb => ga b hb)
      have l0 := HA.out.1.imp (w' := wr) (fun _ a _ => a) (fun b _ hb => HB.out.1.block b (by rw [← hnb]; exact hb))
      have f0 := HA.out.2.1.imp (w' := wr) (fun _ a _ => a) (fun b _ hb => HB.out.1.block b (by rw [← hnb]; exact hb))
      have l1 := (l0.alloc (.cells #[.string nm, .int .u8 k, .string x, .slice p3 l.len c3, .slice p4 f.len c4] 38)).appended (n := t.len + 1) (cap := cap) hgrow (by simpa using hat)
      have f1 := (f0.alloc (.cells #[.string nm, .int .u8 k, .string x, .slice p3 l.len c3, .slice p4 f.len c4] 38)).appended (n := t.len + 1) (cap := cap) hgrow (by simpa using hat)
      have r2 := ((r1.appended (n := t.len + 1) (cap := cap) hgrow (by simpa using hat)).more nm k x l f).snoc1 (V.T.snoc_new ..) l1 f1 HA.out.2.2
      refine ⟨_, rfl, ?_, ?_⟩
      · rw [V.T.put_new HX.out]
        exact ⟨_, by rw [V.T.snoc_len]; exact hown2, by rw [V.T.snoc_len]; exact r2⟩
      · exact (grow_below (hnb ▸ HB.out.1) _).trans ((World.grownBy_alloc _ _ _).trans hgrow)
end Go.Proofs.YtbdpghmpdghnbaaDoor
