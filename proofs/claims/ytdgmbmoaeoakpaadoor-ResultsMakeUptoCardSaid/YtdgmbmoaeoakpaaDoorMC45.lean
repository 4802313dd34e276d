/- The document's Chains. Conditions: at most 10^6 chains, of at most 10^6 ranges each. -/
import Derived.Test.YtdgmbmoaeoakpaaDoorMC43
import Derived.Test.YtdgmbmoaeoakpaaDoorMC37
import Derived.Test.YtdgmbmoaeoakpaaDoorMC44
namespace Go.Proofs.YtdgmbmoaeoakpaaDoor
open Go Go.RowKit Go.Lib

def FRcs (w : World) (p4 : Option Addr) (na c : Nat) (v : Value) (i b o : Nat) (e : Ch) : Nat → Value → World → Prop
  | 0, y, _ => y = .pointer (some ⟨w.heap.size + 1, 2, none⟩)
  | 1, y, _ => y = v
  | 2, y, _ => y = .slice (some ⟨b, o, none⟩) na c
  | 3, y, _ => y = .int .i64 i
  | 4, y, _ => y = .pointer (some ⟨b, o + i, none⟩)
  | 5, y, _ => y = .slice e.p e.n e.c
  | 6, y, W => VS (Av w v) (chainK e.l) ⟨#[]⟩ .nil (chainT e.l) y W
  | 7, y, W => NewV (Av w v) (chainK e.l) ⟨#[]⟩ .nil (chainT e.l) y W
  | _, _, _ => True
theorem FRcs.on {w : World} {p4 : Option Addr} {na c : Nat} {v : Value} {i b o : Nat} {e : Ch} {iz : Nat} {y : Value} {W W' : World} (h : FRcs w p4 na c v i b o e iz y W) (hB : Below W.heap.size W W') : FRcs w p4 na c v i b o e iz y W' := by
  unfold FRcs at h ⊢
  split at h
  · exact h
  · exact h
  · exact h
  · exact h
  · exact h
  · exact h
  · exact h.on hB
  · exact h.on hB
  · trivial
theorem listChT_snoc (l : List Ch) (e : Ch) : listChT (l ++ [e]) = appT (listChT l) ⟨#[]⟩ (chainK e.l) ⟨#[]⟩ .nil (chainT e.l) := by
  induction l with
  | nil => rfl
  | cons s r ih => show V.T.cons _ _ _ _ _ (listChT (r ++ [e])) = V.T.cons _ _ _ _ _ (appT (listChT r) _ _ _ _ _); rw [ih]
set_option maxHeartbeats 4000000 in
set_option maxRecDepth 100000 in
theorem refChains_any (v0 : Value) (l : List Ch) (w : World) (h : SrcC w v0 l) (hn : l.length ≤ 1000000) :
    Calls Tryd.prog 31 #[v0] w (RetV w.heap.size 5 ⟨#[]⟩ (listChT l) .nil w) := by
  obtain ⟨i0, hi0, hz0, hz1, hz2⟩ := info_parts infoValue
  have hsl : ∃ p4 c, v0 = .slice p4 l.length c ∧ ∀ i, i < l.length → ∃ b o e, p4 = some ⟨b, o, none⟩ ∧ (∀ W, Below w.heap.size w W → ChOk W e ∧ W.cell? ⟨b, o + i, none⟩ = some (.slice e.p e.n e.c)) ∧ listChT (l.take (i + 1)) = appT (listChT (l.take i)) ⟨#[]⟩ (chainK e.l) ⟨#[]⟩ .nil (chainT e.l) := by
    rcases h with ⟨rfl, p, c, rfl, hc⟩ | ⟨b, o, c, rfl, h2, h3, h4, h5, h6⟩
    · exact ⟨p, c, rfl, fun i hi => by cases hi⟩
    · refine ⟨_, c, rfl, fun i hi => ⟨b, o, l[i], rfl, fun W hB => ⟨ChOk_below hB (h6 _ (List.getElem_mem hi)), (hB.cell (p := ⟨b, o + i, none⟩) h4).trans (h5 i _ (List.getElem?_eq_getElem hi))⟩, ?_⟩⟩
      rw [List.take_succ_eq_append_getElem hi, listChT_snoc]
  obtain ⟨p4, c, rfl, hEl⟩ := hsl
  have HEl := Lib.hid hEl
  have HTk := Lib.hid (show listChT (l.take l.length) = listChT l by rw [List.take_length])
  have HG0 := Lib.hid (LoG.start w)
  generalize en : l.length = na at *
  clear h hEl en
  go_enter Tryd.func31, Tryd.ntmps31
  go_upto_region 2 with fail
  generalize (w.alloc (.cells #[.int .u8 0, .string ⟨#[]⟩, .slice none 0 0, .slice none 0 0] 25)).alloc (.cells #[.int .u8 5, .string ⟨#[]⟩, .slice none 0 0, .slice none 0 0] 25) = W0 at *
  go_wp2_with fail
  go_loopw [4] (fun p wr => ∃ (i : Nat) (v : Value) (es : List Fe), p = .int .i64 (i : Int) ∧ i ≤ na ∧ Hid (LoG w v es wr ∧ treeOf es = listChT (l.take i) ∧ es.length = i)) (fun p _ => na - (RowKit.intOf p).toNat)
  case atStart => exact ⟨0, _, [], rfl, Nat.zero_le _, Lib.hid ⟨HG0.out, rfl, rfl⟩⟩
  case round =>
    obtain ⟨i, v, es, rfl, hi, HR⟩ := hrel
    by_cases hlt : i < na
    · obtain ⟨b, o, e, rfl, hes, ht⟩ := HEl.out i hlt
      have HEs := Lib.hid hes
      have HT := Lib.hid ht
      have HTr := Lib.hid HR.out.2
      have HL := Lib.hid (show i < na ∧ na ≤ 1000000 ∧ es.length = i from ⟨hlt, hn, HR.out.2.2⟩)
      clear hes ht
      go_upto_region 5 with fail
      have HGd := HR.out.1.on (Below.refl wr.heap.size wr).drew
      refine wp_region_stepsZ [8, 9, 10] [some 12, some 13, some 14, some 15, some 16, some 17, some 18, some 19, some 20, some 21, none] _ _ (G := LoG w v es) (F := FRcs w (some ⟨b, o, none⟩) na c v i b o e) (by kernel_rfl) rfl (by decide +kernel) rfl (by decide +kernel) (by decide +kernel) ⟨8, by decide, by decide⟩ (by decide +kernel) (fun W W' h hB => h.on hB) (fun i y W W' h hB => h.on hB) ?_ ?_ HGd
      · intro i' o' ho hz a W hg hd hold K' hK
        have HG := Lib.hid hg
        have hlt' : i' < 11 := (Array.getElem?_eq_some_iff.1 ho).1
        clear hg HGd
        obtain rfl | rfl | rfl | rfl | rfl | rfl | rfl | rfl | rfl | rfl | rfl : i' = 0 ∨ i' = 1 ∨ i' = 2 ∨ i' = 3 ∨ i' = 4 ∨ i' = 5 ∨ i' = 6 ∨ i' = 7 ∨ i' = 8 ∨ i' = 9 ∨ i' = 10 := by omega
        · obtain rfl := Option.some.inj ho
          have o3 : a.tmps[3]? = _ := (hold 3 rfl).trans rfl
          clear hd hold
          go_simp
          exact hK.out _ _ (by rfl) (Below.refl _ _)
        · obtain rfl := Option.some.inj ho
          obtain ⟨y0, e0, h0⟩ := hd 0 12 rfl (by decide +kernel) (by decide)
          have h0 : y0 = _ := h0
          subst h0
          obtain ⟨s0, s1, s2, s3⟩ := HG.out.b1.box
          clear hd hold
          go_simp
          exact hK.out _ _ (by rfl) (Below.refl _ _)
        · obtain rfl := Option.some.inj ho
          have o0 : a.tmps[0]? = _ := (hold 0 rfl).trans rfl
          clear hd hold
          go_simp
          exact hK.out _ _ (by rfl) (Below.refl _ _)
        · obtain rfl := Option.some.inj ho
          have o4 : a.tmps[4]? = _ := (hold 4 rfl).trans rfl
          clear hd hold
          go_simp
          exact hK.out _ _ (by rfl) (Below.refl _ _)
        · obtain rfl := Option.some.inj ho
          obtain ⟨y2, e2, h2⟩ := hd 2 14 rfl (by decide +kernel) (by decide)
          have h2 : y2 = _ := h2
          subst h2
          obtain ⟨y3, e3, h3⟩ := hd 3 15 rfl (by decide +kernel) (by decide)
          have h3 : y3 = _ := h3
          subst h3
          have hi1 := HL.out.1
          have hi2 : (0 : Int) ≤ (i : Int) := Int.natCast_nonneg i
          have hi3 : (i : Int) < (na : Int) := by omega
          clear hd hold
          go_simp
          exact hK.out _ _ (by rfl) (Below.refl _ _)
        · obtain rfl := Option.some.inj ho
          obtain ⟨y4, e4, h4⟩ := hd 4 16 rfl (by decide +kernel) (by decide)
          have h4 : y4 = _ := h4
          subst h4
          have hc := (HEs.out W HG.out.below).2
          clear hd hold
          go_simp
          exact hK.out _ _ (by rfl) (Below.refl _ _)
        · obtain rfl := Option.some.inj ho
          obtain ⟨y5, e5, h5⟩ := hd 5 17 rfl (by decide +kernel) (by decide)
          have h5 : y5 = _ := h5
          subst h5
          have hcall := Calls.mono (refChain_any e.l e.p e.n e.c W (HEs.out W HG.out.below).1.1 (HEs.out W HG.out.below).1.2) (fun e W1 h => RetV.s (S := (Av w v)) h HG.out.new)
          have HC := Lib.hid hcall
          clear hd hold hcall 
          go_simp
          go_at_call 63
          (with_reducible refine HC.out.mono ?_)
          rintro e W1 ⟨y, rfl, hv, hB⟩
          exact hK.out _ _ hv hB
        · obtain rfl := Option.some.inj ho
          obtain ⟨y6, e6, h6⟩ := hd 6 18 rfl (by decide +kernel) (by decide)
          have h6 : VS (Av w v) (chainK e.l) ⟨#[]⟩ .nil (chainT e.l) y6 W := h6
          obtain ⟨p8, n8, c8, q8, m8, d8, rfl, l8, f8⟩ := h6
          have hB := (Below.refl W.heap.size W).alloc (Nat.le_refl _) (.cells #[.int .u8 (chainK e.l), .string ⟨#[]⟩, .slice p8 n8 c8, .slice q8 m8 d8] 25)
          have HQ := Lib.hid (And.intro (newV_of (k := chainK e.l) (x := ⟨#[]⟩) l8 f8) hB)
          clear hd hold hB l8 f8
          go_simp
          exact hK.out _ _ HQ.out.1 HQ.out.2
        · cases hz
        · cases hz
        · cases hz
      · clear HGd
        intro rr W hg hf
        have e1 : rr 1 = v := hf 1 (by decide) (by decide)
        obtain ⟨b', p9, n9, c9, q9, m9, d9, e7, hnews, hl9, hf9⟩ : NewV (Av w v) (chainK e.l) ⟨#[]⟩ .nil (chainT e.l) (rr 7) W := hf 7 (by decide) (by decide)
        have HG := Lib.hid hg
        clear hg hf
        simp only [putL, Act.put, List.setIfInBounds_toArray, List.set_cons_zero, List.set_cons_succ, e1, e7]
        refine wpAnyL_op 8 (by kernel_rfl) rfl (fun K hK => ?_)
        refine step_append_lies W rfl (.tmp 13) (.tmp 19) 22 rfl (w.heap.size + 2) 25 i0 _ 4 72 Tryd.underlying22 hi0 hz0 hz1 hz2 rfl (by decide) v es.length (vcells es) rfl HG.out.own ⟨b', 0, none⟩ 1 1 (vcells [⟨⟨#[]⟩, (chainK e.l), ⟨#[]⟩, .slice p9 n9 c9, .slice q9 m9 d9, .nil, (chainT e.l)⟩]) rfl rfl hnews (fun u hu => by
          simp only [vcells, List.mem_cons, List.not_mem_nil, or_false] at hu
          rcases hu with rfl | rfl | rfl | rfl <;> rfl) (by decide) (by unfold maxLen; have := HL.out; omega) (by have := HL.out; omega) HG.out.lt _ rfl (fun g9 cap w3 own3 hg3 hor9 _ => ?_)
        refine hK.out _ _ (fun _ => trivial) ?_
        simp only [Act.put, List.setIfInBounds_toArray, List.set_cons_zero, List.set_cons_succ]
        have H5 := Lib.hid (LoG.step (e := ⟨⟨#[]⟩, (chainK e.l), ⟨#[]⟩, .slice p9 n9 c9, .slice q9 m9 d9, .nil, (chainT e.l)⟩) HG.out own3 hg3 hor9 ⟨hl9.mono (fun _ h _ => h), hf9.mono (fun _ h _ => h), ⟨chainK_lt _, (by show (0 : Nat) ≤ 140737488355328; decide), (by show (0 : Nat) ≤ 140737488355328; decide)⟩⟩ rfl)
        have hB3 : Below (w.heap.size + 2) W w3 := (Below.refl (w.heap.size + 2) W).grown hg3 HG.out.lt (fun k hk => (HG.out.own.lt k hk).1)
        have b1 := HG.out.b1.same (hB3.block _ (by omega))
        obtain ⟨s0, s1, s2, s3⟩ := b1.box
        have f0 := b1.free 0
        have f1 := b1.free 1
        have f2 := b1.free 2
        have f3 := b1.free 3
        clear hK K own3 hg3 hB3 b1 hnews e1 e7 hl9 hf9 hor9
        refine wpAnyL_op 9 (by kernel_rfl) rfl (fun K hK => ?_)
        go_simp
        refine hK.out _ _ (fun _ => trivial) ?_
        try simp only [Act.put, List.setIfInBounds_toArray, List.set_cons_zero, List.set_cons_succ]
        clear hK K
        refine wpAnyL_op 10 (by kernel_rfl) rfl (fun K hK => ?_)
        go_simp
        refine hK.out _ _ (fun _ => trivial) ?_
        clear hK K
        refine wpAnyL_end (by kernel_rfl) ?_
        clear s0 s1 s2 s3 f0 f1 f2 f3
        generalize w3.setCell ⟨w.heap.size + 1, 2, none⟩ (.slice (some ⟨g9, 0, none⟩) (es.length + 1) cap) = w5 at *
        go_wp2_with fail
        go_roundw
        case rel => exact ⟨i + 1, _, _, by go_num, HL.out.1, Lib.hid ⟨H5.out, by rw [treeOf_app, HTr.out.1]; exact HT.out.symm, by rw [List.length_append, HTr.out.2]; rfl⟩⟩
        case measure => have := HL.out; simp [RowKit.intOf]; omega
    · have hnn : na ≤ 1000000 := hn
      obtain rfl : i = na := by omega
      have hh := HR.out.1.whole (by rw [HR.out.2.2]; omega)
      rw [HR.out.2.1, HTk.out] at hh
      have HF := Lib.hid (And.intro hh HR.out.1)
      obtain ⟨p, c', rfl, -⟩ := hh.len
      obtain ⟨s0, s1, s2, s3⟩ := HR.out.1.b1.box
      obtain ⟨x0, x1, x2, x3⟩ := HR.out.1.b0.box
      have f0 := HR.out.1.b0.free 0
      have f1 := HR.out.1.b0.free 1
      have f2 := HR.out.1.b0.free 2
      have f3 := HR.out.1.b0.free 3
      clear hh HR
      generalize (listChT l).len = nt at *
      go_wp2_with fail
      obtain ⟨g1, g2, g3⟩ := HF.out.2.b0.all (.int .u8 5) (.string ⟨#[]⟩) (.slice p nt c') (.slice none 0 0)
      have hw3 := set4_else wr w.heap.size (.int .u8 5) (.string ⟨#[]⟩) (.slice p nt c') (.slice none 0 0)
      have g3' := g3 w.heap.size (Nat.le_refl _)
      clear s0 s1 s2 s3 x0 x1 x2 x3 f0 f1 f2 f3
      generalize (((wr.setCell ⟨w.heap.size, 0, none⟩ (.int .u8 5)).setCell ⟨w.heap.size, 1, none⟩ (.string ⟨#[]⟩)).setCell ⟨w.heap.size, 2, none⟩ (.slice p nt c')).setCell ⟨w.heap.size, 3, none⟩ (.slice none 0 0) = w3 at *
      obtain ⟨x0, x1, x2, x3⟩ := g1.box
      refine bodyPost_ret (v := .agg #[.int .u8 5, .string ⟨#[]⟩, .slice p nt c', .slice none 0 0]) (by simp [results, Tryd.results31, go_sem, x0, x1, x2, x3]) rfl ?_
      exact ⟨_, rfl, VF.mk (HF.out.1.fre (fun b hb => by omega) (fun b hb _ => hw3 b (by omega))) (HS.nil _ _ _), HF.out.2.below.trans g3'⟩
end Go.Proofs.YtdgmbmoaeoakpaaDoor
