/- The document's place by lines, walked. Conditions: such as Go can hold. -/
import Derived.Test.YtdgmbmoaeoakpaaDoorMC22
import Derived.Test.YtdgmbmoaeoakpaaDoorMC23
import Derived.Test.YtdgmbmoaeoakpaaDoorMC24
import Derived.Test.YtdgmbmoaeoakpaaDoorMC25
import Derived.Test.YtdgmbmoaeoakpaaDoorMC28
namespace Go.Proofs.YtdgmbmoaeoakpaaDoor
open Go Go.RowKit Go.Lib

/-- the call's own, behind so many blocks -/
def SN (w : World) (n k : Nat) : Prop := w.heap.size + n ≤ k
theorem hs_fre {S : Nat → Prop} {W w3 : World} {b N d : Nat} {v : Value} {t : V.T} (h : HS W (FrS S W) d v t) (hS : ∀ j, S j → N ≤ j ∧ j ≠ b) (hw : ∀ j, j ≠ b → w3.heap[j]? = W.heap[j]?) : HS w3 (Fre N w3) d v t :=
  h.imp (fun j h _ => ⟨(hS j h.1).1, (h.imp (S' := S) h.1 (hw j (hS j h.1).2)).2⟩) (fun j h _ => hw j (hS j h.1).2)
def FRp (w : World) (a0 b0 : Int) : Nat → Value → World → Prop
  | 0, y, W => VS (SN w 2) 0 ⟨#[]⟩ .nil .nil y W
  | 1, y, _ => y = .pointer (some ⟨w.heap.size, 0, none⟩)
  | 2, y, _ => y = .int .i64 a0
  | 3, y, W => VS (SN w 2) 3 ⟨(Lib.itoa a0).toArray⟩ .nil .nil y W
  | 4, y, W => VS (SN w 2) 6 ⟨#[]⟩ .nil (appT .nil ⟨#[108, 105, 110, 101]⟩ 3 ⟨(Lib.itoa a0).toArray⟩ .nil .nil) y W
  | 5, y, _ => y = .pointer (some ⟨w.heap.size, 1, none⟩)
  | 6, y, _ => y = .int .i64 b0
  | 7, y, W => VS (SN w 2) 3 ⟨(Lib.itoa b0).toArray⟩ .nil .nil y W
  | 8, y, W => VS (SN w 2) 6 ⟨#[]⟩ .nil (appT (appT .nil ⟨#[108, 105, 110, 101]⟩ 3 ⟨(Lib.itoa a0).toArray⟩ .nil .nil) ⟨#[99, 104, 97, 114, 97, 99, 116, 101, 114]⟩ 3 ⟨(Lib.itoa b0).toArray⟩ .nil .nil) y W
  | _, _, _ => True
theorem FRp.on {w : World} {a0 b0 : Int} {i : Nat} {y : Value} {W W' : World} (h : FRp w a0 b0 i y W) (hB : Below W.heap.size W W') : FRp w a0 b0 i y W' := by
  unfold FRp at h ⊢
  split at h
  · exact h.on hB
  · exact h
  · exact h
  · exact h.on hB
  · exact h.on hB
  · exact h
  · exact h
  · exact h.on hB
  · exact h.on hB
  · trivial

set_option maxHeartbeats 4000000 in
set_option maxRecDepth 100000 in
theorem refPlace_any (a0 b0 : Int) (w : World) (ha : I64 a0) (hb : I64 b0) : Calls Tryd.prog 87 #[.agg #[.int .i64 a0, .int .i64 b0]] w (RetV w.heap.size 6 ⟨#[]⟩ .nil (posT a0 b0) w) := by
  have H0 := Lib.hid (mkG0 w 72 #[.int .i64 a0, .int .i64 b0])
  go_enter Tryd.func87, Tryd.ntmps87
  go_upto_region 1 with fail
  generalize (w.alloc (.cells #[.int .i64 a0, .int .i64 b0] 72)).alloc (.cells #[.int .u8 0, .string ⟨#[]⟩, .slice none 0 0, .slice none 0 0] 25) = W0 at *
  have HX := Lib.hid (H0.out.on (Below.refl W0.heap.size W0).drew)
  refine wp_region_stepsF [some 3, some 4, some 5, some 6, some 7, some 8, some 9, some 10, some 11, none] _ _ (G := MkG w 72 #[.int .i64 a0, .int .i64 b0]) (F := FRp w a0 b0) (z := 9) (by kernel_rfl) rfl (by decide +kernel) rfl (by decide +kernel) (by decide +kernel) rfl (fun W W' h hB => h.on hB) (fun i y W W' h hB => h.on hB) ?_ ?_ HX.out
  · intro i o ho hz a W hg hd hold K' hK
    have HG := Lib.hid hg
    have hlt : i < 10 := (Array.getElem?_eq_some_iff.1 ho).1
    clear hg
    obtain rfl | rfl | rfl | rfl | rfl | rfl | rfl | rfl | rfl | rfl : i = 0 ∨ i = 1 ∨ i = 2 ∨ i = 3 ∨ i = 4 ∨ i = 5 ∨ i = 6 ∨ i = 7 ∨ i = 8 ∨ i = 9 := by omega
    · obtain rfl := Option.some.inj ho
      clear hd hold
      go_simp
      exact hK.out _ _ (VS.mk (HS.nil _ _ _) (HS.nil _ _ _)) (Below.refl _ _)
    · obtain rfl := Option.some.inj ho
      have o1 : a.tmps[1]? = _ := (hold 1 rfl).trans rfl
      clear hd hold
      go_simp
      exact hK.out _ _ (by rfl) (Below.refl _ _)
    · obtain rfl := Option.some.inj ho
      obtain ⟨y1, e1, h1⟩ := hd 1 4 rfl (by decide +kernel) (by decide)
      have h1 : y1 = _ := h1
      subst h1
      have g0 := HG.out.c 0 _ rfl
      clear hd hold
      go_simp
      exact hK.out _ _ (by rfl) (Below.refl _ _)
    · obtain rfl := Option.some.inj ho
      obtain ⟨y2, e2, h2⟩ := hd 2 5 rfl (by decide +kernel) (by decide)
      have h2 : y2 = _ := h2
      subst h2
      have hcall := Calls.mono (refNumber_any a0 ha.1 ha.2 W) (fun e W1 h => (num_ret (N := w.heap.size + 2) h).s (S := (SN w 2)) (fun j hj => hj))
      have HC := Lib.hid hcall
      clear hd hold hcall 
      go_simp
      go_at_call 45
      (with_reducible refine HC.out.mono ?_)
      rintro e W1 ⟨y, rfl, hv, hB⟩
      exact hK.out _ _ hv hB
    · obtain rfl := Option.some.inj ho
      obtain ⟨y0, e0, h0⟩ := hd 0 3 rfl (by decide +kernel) (by decide)
      have h0 : VS (SN w 2) 0 ⟨#[]⟩ .nil .nil y0 W := h0
      obtain ⟨y3, e3, h3⟩ := hd 3 6 rfl (by decide +kernel) (by decide)
      have h3 : VS (SN w 2) 3 ⟨(Lib.itoa a0).toArray⟩ .nil .nil y3 W := h3
      have hcall := with_any (SN w 2) 0 ⟨#[]⟩ .nil .nil ⟨#[108, 105, 110, 101]⟩ 3 ⟨(Lib.itoa a0).toArray⟩ .nil .nil y0 y3 W (fun j hj => Nat.le_trans HG.out.lt hj) h0 h3 (num_fit a0 (by decide) ha) (by show (0 : Nat) ≤ 1000; decide)
      have HC := Lib.hid hcall
      clear hd hold hcall h0 h3
      go_simp
      go_at_call 55
      (with_reducible refine HC.out.mono ?_)
      rintro e W1 ⟨y, rfl, hv, hB⟩
      exact hK.out _ _ hv hB
    · obtain rfl := Option.some.inj ho
      have o1 : a.tmps[1]? = _ := (hold 1 rfl).trans rfl
      clear hd hold
      go_simp
      exact hK.out _ _ (by rfl) (Below.refl _ _)
    · obtain rfl := Option.some.inj ho
      obtain ⟨y5, e5, h5⟩ := hd 5 8 rfl (by decide +kernel) (by decide)
      have h5 : y5 = _ := h5
      subst h5
      have g0 := HG.out.c 1 _ rfl
      clear hd hold
      go_simp
      exact hK.out _ _ (by rfl) (Below.refl _ _)
    · obtain rfl := Option.some.inj ho
      obtain ⟨y6, e6, h6⟩ := hd 6 9 rfl (by decide +kernel) (by decide)
      have h6 : y6 = _ := h6
      subst h6
      have hcall := Calls.mono (refNumber_any b0 hb.1 hb.2 W) (fun e W1 h => (num_ret (N := w.heap.size + 2) h).s (S := (SN w 2)) (fun j hj => hj))
      have HC := Lib.hid hcall
      clear hd hold hcall 
      go_simp
      go_at_call 45
      (with_reducible refine HC.out.mono ?_)
      rintro e W1 ⟨y, rfl, hv, hB⟩
      exact hK.out _ _ hv hB
    · obtain rfl := Option.some.inj ho
      obtain ⟨y4, e4, h4⟩ := hd 4 7 rfl (by decide +kernel) (by decide)
      have h4 : VS (SN w 2) 6 ⟨#[]⟩ .nil (appT .nil ⟨#[108, 105, 110, 101]⟩ 3 ⟨(Lib.itoa a0).toArray⟩ .nil .nil) y4 W := h4
      obtain ⟨y7, e7, h7⟩ := hd 7 10 rfl (by decide +kernel) (by decide)
      have h7 : VS (SN w 2) 3 ⟨(Lib.itoa b0).toArray⟩ .nil .nil y7 W := h7
      have hcall := with_any (SN w 2) 6 ⟨#[]⟩ .nil (appT .nil ⟨#[108, 105, 110, 101]⟩ 3 ⟨(Lib.itoa a0).toArray⟩ .nil .nil) ⟨#[99, 104, 97, 114, 97, 99, 116, 101, 114]⟩ 3 ⟨(Lib.itoa b0).toArray⟩ .nil .nil y4 y7 W (fun j hj => Nat.le_trans HG.out.lt hj) h4 h7 (num_fit b0 (by decide) hb) (by show (1 : Nat) ≤ 1000; decide)
      have HC := Lib.hid hcall
      clear hd hold hcall h4 h7
      go_simp
      go_at_call 55
      (with_reducible refine HC.out.mono ?_)
      rintro e W1 ⟨y, rfl, hv, hB⟩
      exact hK.out _ _ hv hB
    · exact absurd rfl hz
  · intro a W hg hf hold hdf hasz K' hK
    obtain ⟨yz, oz, hvz⟩ := hf 8 11 rfl (by decide) (by decide)
    obtain ⟨p, n, d, q, m, d', rfl, hl, hf'⟩ : VS (SN w 2) 6 ⟨#[]⟩ .nil (posT a0 b0) yz W := hvz
    have o2 : a.tmps[2]? = some (Value.pointer (some ⟨w.heap.size + 1, 0, none⟩)) := (hold 2 rfl).trans rfl
    have od : a.defers = [] := hdf.trans rfl
    have HG := Lib.hid hg
    have HV := Lib.hid (And.intro hl hf')
    obtain ⟨s0, s1, s2, s3⟩ := hg.b1.box
    have f0 := hg.b1.free 0
    have f1 := hg.b1.free 1
    have f2 := hg.b1.free 2
    have f3 := hg.b1.free 3
    clear hg hl hf hf' hold hdf hasz
    go_simp
    refine hK.out _ _ ?_
    clear hK K'
    go_wp2_with fail
    obtain ⟨g1, g2, g3⟩ := HG.out.b1.all (.int .u8 6) (.string ⟨#[]⟩) (.slice p n d) (.slice q m d')
    have hw3 := set4_else W (w.heap.size + 1) (.int .u8 6) (.string ⟨#[]⟩) (.slice p n d) (.slice q m d')
    have g3' := g3 w.heap.size (Nat.le_add_right _ _)
    clear s0 s1 s2 s3 f0 f1 f2 f3
    generalize (((W.setCell ⟨w.heap.size + 1, 0, none⟩ (.int .u8 6)).setCell ⟨w.heap.size + 1, 1, none⟩ (.string ⟨#[]⟩)).setCell ⟨w.heap.size + 1, 2, none⟩ (.slice p n d)).setCell ⟨w.heap.size + 1, 3, none⟩ (.slice q m d') = w3 at *
    obtain ⟨x0, x1, x2, x3⟩ := g1.box
    refine bodyPost_ret (v := .agg #[.int .u8 6, .string ⟨#[]⟩, .slice p n d, .slice q m d']) (by simp [results, Tryd.results87, go_sem, o2, x0, x1, x2, x3]) od ?_
    have hS : ∀ j, SN w 2 j → w.heap.size ≤ j ∧ j ≠ w.heap.size + 1 := fun j hj => by unfold SN at hj; omega
    exact ⟨_, rfl, VF.mk (hs_fre HV.out.1 hS hw3) (hs_fre HV.out.2 hS hw3), HG.out.below.trans g3'⟩
end Go.Proofs.YtdgmbmoaeoakpaaDoor
