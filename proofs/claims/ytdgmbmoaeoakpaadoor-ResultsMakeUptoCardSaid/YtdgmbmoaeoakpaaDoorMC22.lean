/- The document's with, walked. Conditions: at most 1000 fields; such as Go can hold. -/
import Derived.Test.YtdgmbmoaeoakpaaDoorMC21
namespace Go.Proofs.YtdgmbmoaeoakpaaDoor
open Go Go.RowKit Go.Lib

/-- the boxes of a value, of the field's value, and of the answer -/
structure WiG (S : Nat → Prop) (w : World) (xx : ByteArray) (v u : Value) (la fa : V.T) (k2 : Nat) (x2 : ByteArray) (v2 u2 : Value) (l2 f2 : V.T) (W : World) : Prop where
  below : Below w.heap.size w W
  lt : w.heap.size + 3 ≤ W.heap.size
  b0 : Blk4 W w.heap.size 25 (.int .u8 6) (.string xx) v u
  b1 : Blk4 W (w.heap.size + 1) 25 (.int .u8 k2) (.string x2) v2 u2
  b2 : Blk4 W (w.heap.size + 2) 25 (.int .u8 0) (.string ⟨#[]⟩) (.slice none 0 0) (.slice none 0 0)
  l : HS W (AO S w.heap.size W) 0 v la
  f : HS W (AO S w.heap.size W) 1 u fa
  l2 : HS W (AO S w.heap.size W) 0 v2 l2
  f2 : HS W (AO S w.heap.size W) 1 u2 f2
theorem WiG.on {S : Nat → Prop} {w : World} {xx : ByteArray} {v u : Value} {la fa : V.T} {k2 : Nat} {x2 : ByteArray} {v2 u2 : Value} {l2 f2 : V.T} {W W' : World} (h : WiG S w xx v u la fa k2 x2 v2 u2 l2 f2 W) (hB : Below (w.heap.size + 3) W W') : WiG S w xx v u la fa k2 x2 v2 u2 l2 f2 W' := by
  have hM : Below w.heap.size W W' := hB.mono (by omega)
  exact ⟨h.below.trans hM, Nat.le_trans h.lt hB.size, h.b0.same (hB.block _ (by omega)), h.b1.same (hB.block _ (by omega)), h.b2.same (hB.block _ (by omega)), AO.below h.l hM, AO.below h.f hM, AO.below h.l2 hM, AO.below h.f2 hM⟩
def FWi (S : Nat → Prop) (w : World) (nm : ByteArray) (u : Value) (fa : V.T) (k2 : Nat) (x2 : ByteArray) (v2 u2 : Value) : Nat → Value → World → Prop
  | 0, y, _ => ∃ b, y = .slice (some ⟨b, 0, none⟩) 0 0
  | 1, y, _ => y = .pointer (some ⟨w.heap.size, 3, none⟩)
  | 2, y, _ => y = u
  | 3, y, W => AF S w.heap.size (w.heap.size + 3) fa y W ∧ w.heap.size ≤ W.heap.size
  | 4, y, _ => y = .string nm
  | 5, y, _ => y = .agg #[.int .u8 k2, .string x2, v2, u2]
  | 6, y, _ => y = .agg #[.string nm, .int .u8 k2, .string x2, v2, u2]
  | 7, y, W => ∃ b, y = .slice (some ⟨b, 0, none⟩) 1 1 ∧ b < W.heap.size ∧ ∀ j z, (([.string nm, .int .u8 k2, .string x2, v2, u2] : List Value))[j]? = some z → W.cell? ((⟨b, 0, none⟩ : Addr).add j) = some z
  | _, _, _ => True
set_option maxHeartbeats 4000000 in
set_option maxRecDepth 100000 in
theorem with_any (S : Nat → Prop) (k : Nat) (xx : ByteArray) (la fa : V.T) (nm : ByteArray) (k2 : Nat) (x2 : ByteArray) (l2 f2 : V.T) (y1 y2 : Value) (w : World) (hN : ∀ b, w.heap.size ≤ b → S b) (h1 : VS S k xx la fa y1 w) (h2 : VS S k2 x2 l2 f2 y2 w) (hk : Fit nm k2 x2) (hlen : fa.len ≤ 1000) :
    Calls Tryd.prog 55 #[y1, .string nm, y2] w (RetS S 6 xx la (appT fa nm k2 x2 l2 f2) w) := by
  obtain ⟨p, n, c, q, m, d, rfl, hl, hf⟩ := h1
  obtain ⟨p2, n2, c2, q2, m2, d2, rfl, hl2, hf2⟩ := h2
  have ha : ∀ {d : Nat} {v : Value} {t : V.T}, HS w (FrS S w) d v t → HS w (AO S w.heap.size w) d v t := fun h => h.mono (fun b hb hlt => ⟨hb, hlt⟩)
  have h2n := two_new w (.cells #[.int .u8 6, .string xx, .slice p n c, .slice q m d] 25) (.cells #[.int .u8 k2, .string x2, .slice p2 n2 c2, .slice q2 m2 d2] 25)
  have h2b := two_below w (.cells #[.int .u8 6, .string xx, .slice p n c, .slice q m d] 25) (.cells #[.int .u8 k2, .string x2, .slice p2 n2 c2, .slice q2 m2 d2] 25)
  have h2s := two_size w (.cells #[.int .u8 6, .string xx, .slice p n c, .slice q m d] 25) (.cells #[.int .u8 k2, .string x2, .slice p2 n2 c2, .slice q2 m2 d2] 25)
  have HG0 := Lib.hid (show WiG S w xx (.slice p n c) (.slice q m d) la fa k2 x2 (.slice p2 n2 c2) (.slice q2 m2 d2) l2 f2 (((w.alloc (.cells #[.int .u8 6, .string xx, .slice p n c, .slice q m d] 25)).alloc (.cells #[.int .u8 k2, .string x2, .slice p2 n2 c2, .slice q2 m2 d2] 25)).alloc (.cells #[.int .u8 0, .string ⟨#[]⟩, .slice none 0 0, .slice none 0 0] 25)) from by
    generalize (w.alloc (.cells #[.int .u8 6, .string xx, .slice p n c, .slice q m d] 25)).alloc (.cells #[.int .u8 k2, .string x2, .slice p2 n2 c2, .slice q2 m2 d2] 25) = W2 at *
    have hB := (Below.refl W2.heap.size W2).alloc (Nat.le_refl _) (.cells #[.int .u8 0, .string ⟨#[]⟩, .slice none 0 0, .slice none 0 0] 25)
    have hM := h2b.trans (hB.mono h2b.size)
    have b0 : Blk4 W2 w.heap.size 25 _ _ _ _ := h2n.1
    have b1 : Blk4 W2 (w.heap.size + 1) 25 _ _ _ _ := h2n.2
    have b2 : Blk4 (W2.alloc (.cells #[.int .u8 0, .string ⟨#[]⟩, .slice none 0 0, .slice none 0 0] 25)) W2.heap.size 25 _ _ _ _ := heap_alloc_new _ _
    rw [h2s] at b2
    exact ⟨hM, by rw [World.size_alloc, h2s]; omega, b0.same (hB.block _ b0.lt), b1.same (hB.block _ b1.lt), b2, AO.below (ha hl) hM, AO.below (ha hf) hM, AO.below (ha hl2) hM, AO.below (ha hf2) hM⟩)
  have HH := Lib.hid (And.intro hN hk)
  clear h2n h2b h2s hl hf hl2 hf2 ha hN hk
  go_enter Tryd.func55, Tryd.ntmps55
  go_upto_region 2 with fail
  generalize ((w.alloc (.cells #[.int .u8 6, .string xx, .slice p n c, .slice q m d] 25)).alloc (.cells #[.int .u8 k2, .string x2, .slice p2 n2 c2, .slice q2 m2 d2] 25)).alloc (.cells #[.int .u8 0, .string ⟨#[]⟩, .slice none 0 0, .slice none 0 0] 25) = W3 at *
  have HG1 := HG0.out.on ((Below.refl W3.heap.size W3).drew.mono HG0.out.lt)
  refine wp_region_stepsZ [8, 9, 10] [some 8, some 9, some 10, some 11, some 12, some 13, some 14, some 15, some 16, some 17, none] _ _ (G := WiG S w xx (.slice p n c) (.slice q m d) la fa k2 x2 (.slice p2 n2 c2) (.slice q2 m2 d2) l2 f2) (F := (FWi S w nm (.slice q m d) fa k2 x2 (.slice p2 n2 c2) (.slice q2 m2 d2))) (by kernel_rfl) rfl (by decide +kernel) rfl (by decide +kernel) (by decide +kernel) ⟨8, by decide, by decide⟩ (by decide +kernel) (fun W W' h hB => h.on (hB.mono h.lt)) ?_ ?_ ?_ HG1
  · intro i y W W' h hB
    unfold FWi at h ⊢
    split at h
    · exact h
    · exact h
    · exact h
    · exact ⟨h.1.on h.2 hB, Nat.le_trans h.2 hB.size⟩
    · exact h
    · exact h
    · exact h
    · obtain ⟨b, h1, h2, h3⟩ := h
      exact ⟨b, h1, Nat.lt_of_lt_of_le h2 hB.size, fun j z hz => bcellv hB (h3 j z hz)⟩
    · trivial
  · intro i o ho hz a W hg hd hold K' hK
    have HG := Lib.hid hg
    have hlt : i < 11 := (Array.getElem?_eq_some_iff.1 ho).1
    clear hg
    obtain rfl | rfl | rfl | rfl | rfl | rfl | rfl | rfl | rfl | rfl | rfl : i = 0 ∨ i = 1 ∨ i = 2 ∨ i = 3 ∨ i = 4 ∨ i = 5 ∨ i = 6 ∨ i = 7 ∨ i = 8 ∨ i = 9 ∨ i = 10 := by omega
    · obtain rfl := Option.some.inj ho
      have hB := (Below.refl W.heap.size W).alloc (Nat.le_refl _) (.cells #[] 43)
      have HQ := Lib.hid hB
      clear hd hold hB
      go_simp
      exact hK.out _ _ ⟨_, rfl⟩ HQ.out
    · obtain rfl := Option.some.inj ho
      have o3 : a.tmps[3]? = _ := (hold 3 rfl).trans rfl
      clear hd hold
      go_simp
      exact hK.out _ _ (by rfl) (Below.refl _ _)
    · obtain rfl := Option.some.inj ho
      obtain ⟨y1, e1, h1⟩ := hd 1 9 rfl (by decide +kernel) (by decide)
      have h1 : y1 = _ := h1
      subst h1
      obtain ⟨s0, s1, s2, s3⟩ := HG.out.b0.box
      clear hd hold
      go_simp
      exact hK.out _ _ (by rfl) (Below.refl _ _)
    · obtain rfl := Option.some.inj ho
      obtain ⟨y0, e0, h0⟩ := hd 0 8 rfl (by decide +kernel) (by decide)
      obtain ⟨b0, rfl⟩ := h0
      obtain ⟨y2, e2, h2⟩ := hd 2 10 rfl (by decide +kernel) (by decide)
      have h2 : y2 = _ := h2
      subst h2
      clear hd hold
      rcases hs_fes HG.out.f with ⟨hn, p', c', hu⟩ | ⟨b, o', c', es, hu, hne, ht, hok, hcl⟩
      · cases hu
        have HF := Lib.hid hn
        clear hn
        rcases q with _ | qa
        all_goals go_simp
        all_goals exact hK.out _ _ ⟨.inl ⟨HF.out, _, rfl⟩, Nat.le_trans (Nat.le_add_right _ 3) HG.out.lt⟩ (Below.refl _ _)
      · cases hu
        refine af_copy rfl (.tmp 8) (.tmp 10) rfl b0 (by simp [Act.eval, Array.getD_eq_getD_getElem?, e0]) b o' d es (by simp [Act.eval, Array.getD_eq_getD_getElem?, e2]) hne ht hok hcl hlen (Nat.le_add_right _ _) HG.out.lt (fun v' w' h1 h2 => ?_)
        exact hK.out _ _ ⟨h1, Nat.le_trans (Nat.le_trans (Nat.le_add_right _ 3) HG.out.lt) h2.size⟩ h2
    · obtain rfl := Option.some.inj ho
      have o1 : a.tmps[1]? = _ := (hold 1 rfl).trans rfl
      clear hd hold
      go_simp
      exact hK.out _ _ (by rfl) (Below.refl _ _)
    · obtain rfl := Option.some.inj ho
      have o5 : a.tmps[5]? = _ := (hold 5 rfl).trans rfl
      obtain ⟨s0, s1, s2, s3⟩ := HG.out.b1.box
      clear hd hold
      go_simp
      exact hK.out _ _ (by rfl) (Below.refl _ _)
    · obtain rfl := Option.some.inj ho
      obtain ⟨y4, e4, h4⟩ := hd 4 12 rfl (by decide +kernel) (by decide)
      have h4 : y4 = _ := h4
      subst h4
      obtain ⟨y5, e5, h5⟩ := hd 5 13 rfl (by decide +kernel) (by decide)
      have h5 : y5 = _ := h5
      subst h5
      clear hd hold
      go_simp
      exact hK.out _ _ (by rfl) (Below.refl _ _)
    · obtain rfl := Option.some.inj ho
      obtain ⟨y6, e6, h6⟩ := hd 6 14 rfl (by decide +kernel) (by decide)
      have h6 : y6 = _ := h6
      subst h6
      have hB := (Below.refl W.heap.size W).alloc (Nat.le_refl _) (.cells #[.string nm, .int .u8 k2, .string x2, .slice p2 n2 c2, .slice q2 m2 d2] 43)
      have hnew : FWi S w nm (.slice q m d) fa k2 x2 (.slice p2 n2 c2) (.slice q2 m2 d2) 7 (.slice (some ⟨W.heap.size, 0, none⟩) 1 1) (W.alloc (.cells #[.string nm, .int .u8 k2, .string x2, .slice p2 n2 c2, .slice q2 m2 d2] 43)) :=
        ⟨_, rfl, by simp, (lies_new (w := W) (cs := #[.string nm, .int .u8 k2, .string x2, .slice p2 n2 c2, .slice q2 m2 d2]) (es := [⟨nm, k2, x2, .slice p2 n2 c2, .slice q2 m2 d2, l2, f2⟩]) (t := 43) (n := 1) rfl rfl (by decide)).news⟩
      have HQ := Lib.hid (And.intro hnew hB)
      clear hd hold hB hnew
      go_simp
      exact hK.out _ _ HQ.out.1 HQ.out.2
    · cases hz
    · cases hz
    · cases hz
  · intro rr W hg hf
    have hAF : AF S w.heap.size (w.heap.size + 3) fa (rr 3) W := (hf 3 (by decide) (by decide)).1
    obtain ⟨b, e7, hb, hnews⟩ : FWi S w nm (.slice q m d) fa k2 x2 (.slice p2 n2 c2) (.slice q2 m2 d2) 7 (rr 7) W := hf 7 (by decide) (by decide)
    have HG := Lib.hid hg
    clear hg hf
    simp only [putL, Act.put, List.setIfInBounds_toArray, List.set_cons_zero, List.set_cons_succ, e7]
    generalize rr 3 = y3 at *
    refine wpAnyL_op 8 (by kernel_rfl) rfl (fun K hK => ?_)
    refine af_append ⟨nm, k2, x2, .slice p2 n2 c2, .slice q2 m2 d2, l2, f2⟩ rfl (.tmp 11) (.tmp 15) rfl rfl hAF hlen (Nat.le_add_right _ _) HG.out.lt b rfl hnews (cellsOf_one (w := W) (A := AO S w.heap.size W) _ (fun e he => by obtain rfl := List.mem_singleton.1 he; exact ⟨HG.out.l2, HG.out.f2, HH.out.2⟩)) (fun g cap w' es ht hown hok hB hle => ?_)
    refine hK.out _ _ (fun _ => trivial) ?_
    simp only [Act.put, List.setIfInBounds_toArray, List.set_cons_zero, List.set_cons_succ]
    have HG2 := Lib.hid (HG.out.on hB)
    have hg3 : w.heap.size + 3 ≤ g := (hown.lt g rfl).1
    have hhs : HS w' (fun b => FrS S w' b ∧ (b < w.heap.size ∨ w.heap.size + 3 ≤ b)) 1 (.slice (some ⟨g, 0, none⟩) (es.length + 1) cap) (appT fa nm k2 x2 l2 f2) := by
      have h1 := Lies.hs (A := fun b => FrS S w' b ∧ (b < w.heap.size ∨ w.heap.size + 3 ≤ b)) (lies_owned (es := es ++ [⟨nm, k2, x2, .slice p2 n2 c2, .slice q2 m2 d2, l2, f2⟩]) (by simp) hown) (fun e he => by
        rcases List.mem_append.1 he with he | he
        · exact (hok e he).mono (fun b hb _ => ⟨hb.1, .inl hb.2⟩)
        · obtain rfl := List.mem_singleton.1 he
          exact ⟨HG2.out.l2.mono (fun b hb _ => ⟨hb.1, .inl hb.2⟩), HG2.out.f2.mono (fun b hb _ => ⟨hb.1, .inl hb.2⟩), HH.out.2⟩) (fun b hb => by cases hb; exact ⟨⟨HH.out.1 g (by omega), fun j => hown.frozenAt j⟩, .inr hg3⟩) (by simp; omega)
      rw [treeOf_app, ht] at h1
      exact h1
    have HR := Lib.hid hhs
    obtain ⟨s0, s1, s2, s3⟩ := HG2.out.b0.box
    have f0 := HG2.out.b0.free 0
    have f1 := HG2.out.b0.free 1
    have f2' := HG2.out.b0.free 2
    have f3 := HG2.out.b0.free 3
    clear hK K hAF hnews hb e7 hown hok hB hhs ht hle hg3
    refine wpAnyL_op 9 (by kernel_rfl) rfl (fun K hK => ?_)
    go_simp
    refine hK.out _ _ (fun _ => trivial) ?_
    try simp only [Act.put, List.setIfInBounds_toArray, List.set_cons_zero, List.set_cons_succ]
    clear hK K
    refine wpAnyL_op 10 (by kernel_rfl) rfl (fun K hK => ?_)
    go_simp
    refine hK.out _ _ (fun _ => trivial) ?_
    clear hK K
    refine wpAnyL_end (by kernel_rfl) ?_
    have b0' := HG2.out.b0.set3 (.slice (some ⟨g, 0, none⟩) (es.length + 1) cap)
    have b2' := HG2.out.b2.else (b' := w.heap.size) (o := 3) (y := .slice (some ⟨g, 0, none⟩) (es.length + 1) cap) (by omega)
    have hw5 : ∀ j, j ≠ w.heap.size → (w'.setCell ⟨w.heap.size, 3, none⟩ (.slice (some ⟨g, 0, none⟩) (es.length + 1) cap)).heap[j]? = w'.heap[j]? := fun j hj => Below.heap_setCell _ _ _ j hj
    have hb5 : Below w.heap.size w' (w'.setCell ⟨w.heap.size, 3, none⟩ (.slice (some ⟨g, 0, none⟩) (es.length + 1) cap)) := (Below.refl w.heap.size w').setCell (Nat.le_refl _) _
    have H5 := Lib.hid (And.intro b0' (And.intro b2' (And.intro hw5 hb5)))
    clear b0' b2' hw5 hb5 s0 s1 s2 s3 f0 f1 f2' f3
    generalize w'.setCell ⟨w.heap.size, 3, none⟩ (.slice (some ⟨g, 0, none⟩) (es.length + 1) cap) = w5 at *
    obtain ⟨s0, s1, s2, s3⟩ := H5.out.1.box
    obtain ⟨z0, z1, z2, z3⟩ := H5.out.2.1.box
    have f0 := H5.out.2.1.free 0
    have f1 := H5.out.2.1.free 1
    have f2' := H5.out.2.1.free 2
    have f3 := H5.out.2.1.free 3
    go_wp2_with fail
    clear s0 s1 s2 s3 z0 z1 z2 z3 f0 f1 f2' f3
    obtain ⟨g1, g2, g3⟩ := H5.out.2.1.all (.int .u8 6) (.string xx) (.slice p n c) (.slice (some ⟨g, 0, none⟩) (es.length + 1) cap)
    have hw6 := set4_else w5 (w.heap.size + 2) (.int .u8 6) (.string xx) (.slice p n c) (.slice (some ⟨g, 0, none⟩) (es.length + 1) cap)
    have g3' := g3 w.heap.size (Nat.le_add_right _ _)
    change bodyPost _ _ _ _ _ ((((w5.setCell ⟨w.heap.size + 2, 0, none⟩ (.int .u8 6)).setCell ⟨w.heap.size + 2, 1, none⟩ (.string xx)).setCell ⟨w.heap.size + 2, 2, none⟩ (.slice p n c)).setCell ⟨w.heap.size + 2, 3, none⟩ (.slice (some ⟨g, 0, none⟩) (es.length + 1) cap))
    generalize (((w5.setCell ⟨w.heap.size + 2, 0, none⟩ (.int .u8 6)).setCell ⟨w.heap.size + 2, 1, none⟩ (.string xx)).setCell ⟨w.heap.size + 2, 2, none⟩ (.slice p n c)).setCell ⟨w.heap.size + 2, 3, none⟩ (.slice (some ⟨g, 0, none⟩) (es.length + 1) cap) = w6 at *
    obtain ⟨x0, x1, x2', x3⟩ := g1.box
    have x0 : w6.cell? ⟨w.heap.size + 1 + 1, 0, none⟩ = _ := x0
    have x1 : w6.cell? ⟨w.heap.size + 1 + 1, 1, none⟩ = _ := x1
    have x2' : w6.cell? ⟨w.heap.size + 1 + 1, 2, none⟩ = _ := x2'
    have x3 : w6.cell? ⟨w.heap.size + 1 + 1, 3, none⟩ = _ := x3
    refine bodyPost_ret (v := .agg #[.int .u8 6, .string xx, .slice p n c, .slice (some ⟨g, 0, none⟩) (es.length + 1) cap]) (by simp [results, Tryd.results55, go_sem, x0, x1, x2', x3]) rfl ?_
    have hall : ∀ b, b ≠ w.heap.size → b ≠ w.heap.size + 2 → w6.heap[b]? = w'.heap[b]? := fun b h1 h2 => (hw6 b h2).trans (H5.out.2.2.1 b h1)
    refine ⟨_, rfl, VS.mk (HG2.out.l.imp (fun b hb _ => hb.1.imp hb.1.1 (hall b (by have := hb.2; omega) (by have := hb.2; omega))) (fun b hb _ => hall b (by have := hb.2; omega) (by have := hb.2; omega)))
      (HR.out.imp (fun b hb _ => hb.1.imp hb.1.1 (hall b (by rcases hb.2 with h | h <;> omega) (by rcases hb.2 with h | h <;> omega))) (fun b hb _ => hall b (by rcases hb.2 with h | h <;> omega) (by rcases hb.2 with h | h <;> omega))),
      (HG2.out.below.trans H5.out.2.2.2).trans g3'⟩
end Go.Proofs.YtdgmbmoaeoakpaaDoor
