/- The document's chain: an object within an object, by recursion. Conditions: at most 10^6 ranges. -/
import Derived.Test.YtdgmbmoaeoakpaaDoorMC29
import Derived.Test.YtdgmbmoaeoakpaaDoorMC36
import Derived.Test.YtdgmbmoaeoakpaaDoorMC42
namespace Go.Proofs.YtdgmbmoaeoakpaaDoor
open Go Go.RowKit Go.Lib

def FRc3 (w : World) (g : Rg) (b o n c : Nat) (ob : Option Nat) : Nat → Value → World → Prop
  | 0, y, W => VS (Sob w ob) 0 ⟨#[]⟩ .nil .nil y W
  | 1, y, W => VS (Sob w ob) 0 ⟨#[]⟩ .nil .nil y W
  | 2, y, _ => y = .slice (some ⟨b, o, none⟩) n c
  | 3, y, _ => y = .pointer (some ⟨b, o, none⟩)
  | 4, y, _ => y = .pointer (some ⟨b, o, none⟩)
  | 5, y, _ => y = .agg #[.int .i64 g.a, .int .i64 g.b]
  | 6, y, W => VS (Sob w ob) 6 ⟨#[]⟩ .nil (posT g.a g.b) y W
  | 7, y, W => VS (Sob w ob) 6 ⟨#[]⟩ .nil (appT .nil ⟨#[115, 116, 97, 114, 116]⟩ 6 ⟨#[]⟩ .nil (posT g.a g.b)) y W
  | 8, y, _ => y = .slice (some ⟨b, o, none⟩) n c
  | 9, y, _ => y = .pointer (some ⟨b, o, none⟩)
  | 10, y, _ => y = .pointer (some ⟨b, o + 2, none⟩)
  | 11, y, _ => y = .agg #[.int .i64 g.c, .int .i64 g.d]
  | 12, y, W => VS (Sob w ob) 6 ⟨#[]⟩ .nil (posT g.c g.d) y W
  | 13, y, W => VS (Sob w ob) 6 ⟨#[]⟩ .nil (appT (appT .nil ⟨#[115, 116, 97, 114, 116]⟩ 6 ⟨#[]⟩ .nil (posT g.a g.b)) ⟨#[101, 110, 100]⟩ 6 ⟨#[]⟩ .nil (posT g.c g.d)) y W
  | 14, y, W => VS (Sob w ob) 6 ⟨#[]⟩ .nil (chT g false 0 .nil) y W
  | _, _, _ => True
theorem FRc3.on {w : World} {g : Rg} {b o n c : Nat} {ob : Option Nat} {i : Nat} {y : Value} {W W' : World} (h : FRc3 w g b o n c ob i y W) (hB : Below W.heap.size W W') : FRc3 w g b o n c ob i y W' := by
  unfold FRc3 at h ⊢
  split at h
  · exact h.on hB
  · exact h.on hB
  · exact h
  · exact h
  · exact h
  · exact h
  · exact h.on hB
  · exact h.on hB
  · exact h
  · exact h
  · exact h
  · exact h
  · exact h.on hB
  · exact h.on hB
  · exact h.on hB
  · trivial
theorem FRc3.al {w : World} {g : Rg} {b o n c : Nat} {i : Nat} {y : Value} {W : World} (ox : Obj) (h : FRc3 w g b o n c none i y W) : FRc3 w g b o n c (some W.heap.size) i y (W.alloc ox) := by
  unfold FRc3 at h ⊢
  split at h
  · exact vs_alloc ox h
  · exact vs_alloc ox h
  · exact h
  · exact h
  · exact h
  · exact h
  · exact vs_alloc ox h
  · exact vs_alloc ox h
  · exact h
  · exact h
  · exact h
  · exact h
  · exact vs_alloc ox h
  · exact vs_alloc ox h
  · exact vs_alloc ox h
  · trivial
def FRc5 (w : World) (b4 : Nat) (g : Rg) (rest : List Rg) (b o n c : Nat) : Nat → Value → World → Prop
  | 0, y, W => VS (Sob w (some b4)) 6 ⟨#[]⟩ .nil (chT g false 0 .nil) y W
  | 1, y, _ => y = .slice (some ⟨b, o, none⟩) n c
  | 2, y, _ => y = .slice (some ⟨b, o + 4, none⟩) (n - 1) (c - 1)
  | 3, y, W => VS (Sob w (some b4)) 6 ⟨#[]⟩ .nil (chainT rest) y W
  | 4, y, W => VS (Sob w (some b4)) 6 ⟨#[]⟩ .nil (chT g true 6 (chainT rest)) y W
  | _, _, _ => True
theorem FRc5.on {w : World} {b4 : Nat} {g : Rg} {rest : List Rg} {b o n c : Nat} {i : Nat} {y : Value} {W W' : World} (h : FRc5 w b4 g rest b o n c i y W) (hB : Below W.heap.size W W') : FRc5 w b4 g rest b o n c i y W' := by
  unfold FRc5 at h ⊢
  split at h
  · exact h.on hB
  · exact h
  · exact h
  · exact h.on hB
  · exact h.on hB
  · trivial
theorem srcR_tail {w : World} {b o n c : Nat} {g : Rg} {rest : List Rg} (h : SrcR w (.slice (some ⟨b, o, none⟩) n c) (g :: rest)) : SrcR w (.slice (some ⟨b, o + 4, none⟩) (n - 1) (c - 1)) rest := by
  rcases h with ⟨e, _⟩ | ⟨b', o', c', e, h1, h2, h3, h4, h5⟩
  · cases e
  · cases e
    refine .inr ⟨b, o + 4, c - 1, rfl, by rw [List.length_cons] at h1; omega, by omega, h3, fun j e hj => ?_, fun e he => h5 e (List.mem_cons_of_mem _ he)⟩
    have := h4 (j + 1) e hj
    rw [show o + (j + 1) * 4 = o + 4 + j * 4 by omega] at this
    exact this
theorem srcR_head {w : World} {p : Option Addr} {n c : Nat} {g : Rg} {rest : List Rg} (h : SrcR w (.slice p n c) (g :: rest)) : ∃ b o, p = some ⟨b, o, none⟩ ∧ n = rest.length + 1 ∧ n ≤ c ∧ g.Ok ∧ ∀ W, Below w.heap.size w W → W.cell? ⟨b, o, none⟩ = some (.int .i64 g.a) ∧ W.cell? ⟨b, o + 1, none⟩ = some (.int .i64 g.b) ∧ W.cell? ⟨b, o + 2, none⟩ = some (.int .i64 g.c) ∧ W.cell? ⟨b, o + 3, none⟩ = some (.int .i64 g.d) := by
  rcases h with ⟨e, _⟩ | ⟨b, o, c', e, h1, h2, h3, h4, h5⟩
  · cases e
  · cases e
    obtain ⟨k0, k1, k2, k3⟩ := h4 0 g rfl
    rw [Nat.zero_mul, Nat.add_zero] at k0 k1 k2 k3
    exact ⟨b, o, rfl, rfl, h1, h5 g (List.mem_cons_self ..), fun W hB => ⟨(hB.cell (p := ⟨b, o, none⟩) h3).trans k0, (hB.cell (p := ⟨b, o + 1, none⟩) h3).trans k1, (hB.cell (p := ⟨b, o + 2, none⟩) h3).trans k2, (hB.cell (p := ⟨b, o + 3, none⟩) h3).trans k3⟩⟩
set_option maxHeartbeats 8000000 in
set_option maxRecDepth 100000 in
theorem refChain_any : ∀ (ls : List Rg) (p : Option Addr) (n c : Nat) (w : World), SrcR w (.slice p n c) ls → ls.length ≤ 1000000 →
    Calls Tryd.prog 63 #[.slice p n c] w (RetV w.heap.size (chainK ls) ⟨#[]⟩ .nil (chainT ls) w)
  | [], p, n, c, w, hs, _ => by
    obtain ⟨rfl, -, -⟩ := src_cells hs
    clear hs
    have hB := (Below.refl w.heap.size w).alloc (Nat.le_refl _) (.cells #[.int .u8 0, .string ⟨#[]⟩, .slice none 0 0, .slice none 0 0] 25)
    have b0 : Blk4 (w.alloc (.cells #[.int .u8 0, .string ⟨#[]⟩, .slice none 0 0, .slice none 0 0] 25)) w.heap.size 25 _ _ _ _ := heap_alloc_new _ _
    have HB := Lib.hid (And.intro b0 hB)
    clear b0 hB
    go_enter Tryd.func63, Tryd.ntmps63
    go_upto_region 1 with fail
    generalize w.alloc (.cells #[.int .u8 0, .string ⟨#[]⟩, .slice none 0 0, .slice none 0 0] 25) = W0 at *
    obtain ⟨s0, s1, s2, s3⟩ := HB.out.1.box
    have f0 := HB.out.1.free 0
    have f1 := HB.out.1.free 1
    have f2 := HB.out.1.free 2
    have f3 := HB.out.1.free 3
    go_wp2_with fail
    obtain ⟨g1, g2, g3⟩ := HB.out.1.all (.int .u8 0) (.string ⟨#[]⟩) (.slice none 0 0) (.slice none 0 0)
    have g3' := g3 w.heap.size (Nat.le_refl _)
    clear s0 s1 s2 s3 f0 f1 f2 f3
    generalize (((W0.setCell ⟨w.heap.size, 0, none⟩ (.int .u8 0)).setCell ⟨w.heap.size, 1, none⟩ (.string ⟨#[]⟩)).setCell ⟨w.heap.size, 2, none⟩ (.slice none 0 0)).setCell ⟨w.heap.size, 3, none⟩ (.slice none 0 0) = wz at *
    obtain ⟨x0, x1, x2, x3⟩ := g1.box
    refine bodyPost_ret (v := .agg #[.int .u8 0, .string ⟨#[]⟩, .slice none 0 0, .slice none 0 0]) (by simp [results, Tryd.results63, go_sem, x0, x1, x2, x3]) rfl ?_
    exact ⟨_, rfl, VF.mk (HS.nil _ _ _) (HS.nil _ _ _), HB.out.2.trans g3'⟩
  | g :: rest, p, n, c, w, hs, hl => by
    obtain ⟨b, o, rfl, hn, hnc, hok, hcl⟩ := srcR_head hs
    have HIH := Lib.hid (fun W (hB : Below w.heap.size w W) => refChain_any rest (some ⟨b, o + 4, none⟩) (n - 1) (c - 1) W ((srcR_tail hs).below hB) (by rw [List.length_cons] at hl; omega))
    have HCl := Lib.hid hcl
    have HOk := Lib.hid hok
    have HN := Lib.hid (show 0 < n by omega)
    have HNN := Lib.hid (And.intro hn hnc)
    have hnz : ¬ (n : Int) = 0 := by omega
    have hB0 := (Below.refl w.heap.size w).alloc (Nat.le_refl _) (.cells #[.int .u8 0, .string ⟨#[]⟩, .slice none 0 0, .slice none 0 0] 25)
    have HG0 := Lib.hid (show RcG w [] (w.alloc (.cells #[.int .u8 0, .string ⟨#[]⟩, .slice none 0 0, .slice none 0 0] 25)) from ⟨hB0, by simp, heap_alloc_new _ _, fun e he => by cases he⟩)
    have hlb : n ≤ 1000001 := by rw [List.length_cons] at hl; omega
    clear hs hcl hok hB0 hl hn hnc
    go_enter Tryd.func63, Tryd.ntmps63
    go_upto_region 3 with fail
    generalize w.alloc (.cells #[.int .u8 0, .string ⟨#[]⟩, .slice none 0 0, .slice none 0 0] 25) = W0 at *
    have HM3 := Lib.hid (HG0.out.m.on (Below.refl W0.heap.size W0).drew)
    refine wp_region_stepsA 15 16 W0.heap.size (.cells #[.int .u8 0, .string ⟨#[]⟩, .slice none 0 0, .slice none 0 0] 25) [some 8, some 9, some 10, some 11, some 12, some 13, some 14, some 15, some 16, some 17, some 18, some 19, some 20, some 21, some 22, some 3, none] _ _ (G := RcM w _ W0.heap.size) (F := FRc3 w g b o n c) (by kernel_rfl) rfl (by decide +kernel) rfl (by decide +kernel) (by decide +kernel) (by decide) (by decide) (by decide) (by decide +kernel) (fun W h => h.le) (fun W W' h hB => h.on hB) (fun ob i y W W' h hB => h.on hB) (fun i y W _ h => h.al _) ?_ ?_ ?_ HM3.out
    · intro o ho a W hg K' hK
      obtain rfl := Option.some.inj ho
      clear hg
      go_simp
      exact hK.out
    · intro i o' ho hz hx ob a W hg hob hd hold K' hK
      have HG := Lib.hid hg
      have hlt : i < 17 := (Array.getElem?_eq_some_iff.1 ho).1
      clear hg
      obtain rfl | rfl | rfl | rfl | rfl | rfl | rfl | rfl | rfl | rfl | rfl | rfl | rfl | rfl | rfl | rfl | rfl : i = 0 ∨ i = 1 ∨ i = 2 ∨ i = 3 ∨ i = 4 ∨ i = 5 ∨ i = 6 ∨ i = 7 ∨ i = 8 ∨ i = 9 ∨ i = 10 ∨ i = 11 ∨ i = 12 ∨ i = 13 ∨ i = 14 ∨ i = 15 ∨ i = 16 := by omega
      · obtain rfl := Option.some.inj ho
        clear hd hold
        go_simp
        exact hK.out _ _ (VS.mk (HS.nil _ _ _) (HS.nil _ _ _)) (Below.refl _ _)
      · obtain rfl := Option.some.inj ho
        clear hd hold
        go_simp
        exact hK.out _ _ (VS.mk (HS.nil _ _ _) (HS.nil _ _ _)) (Below.refl _ _)
      · obtain rfl := Option.some.inj ho
        have o0 : a.tmps[0]? = _ := (hold 0 rfl).trans rfl
        clear hd hold
        go_simp
        exact hK.out _ _ (by rfl) (Below.refl _ _)
      · obtain rfl := Option.some.inj ho
        obtain ⟨y2, e2, h2⟩ := hd 2 10 rfl (by decide +kernel) (by decide) (by decide)
        have h2 : y2 = _ := h2
        subst h2
        have i1 := HN.out
        clear hd hold
        go_simp
        exact hK.out _ _ (by rfl) (Below.refl _ _)
      · obtain rfl := Option.some.inj ho
        obtain ⟨y3, e3, h3⟩ := hd 3 11 rfl (by decide +kernel) (by decide) (by decide)
        have h3 : y3 = _ := h3
        subst h3
        clear hd hold
        go_simp
        exact hK.out _ _ (by rfl) (Below.refl _ _)
      · obtain rfl := Option.some.inj ho
        obtain ⟨y4, e4, h4⟩ := hd 4 12 rfl (by decide +kernel) (by decide) (by decide)
        have h4 : y4 = _ := h4
        subst h4
        obtain ⟨k0, k1, k2, k3⟩ := HCl.out W HG.out.below
        clear hd hold
        go_simp
        exact hK.out _ _ (by rfl) (Below.refl _ _)
      · obtain rfl := Option.some.inj ho
        obtain ⟨y5, e5, h5⟩ := hd 5 13 rfl (by decide +kernel) (by decide) (by decide)
        have h5 : y5 = _ := h5
        subst h5
        have hcall := Calls.mono (refPlace_any g.a g.b W HOk.out.1 HOk.out.2.1) (fun e W1 h => RetV.s (S := (Sob w ob)) h (sob_new HG.out hob))
        have HC := Lib.hid hcall
        clear hd hold hcall 
        go_simp
        go_at_call 87
        (with_reducible refine HC.out.mono ?_)
        rintro e W1 ⟨y, rfl, hv, hB⟩
        exact hK.out _ _ hv hB
      · obtain rfl := Option.some.inj ho
        obtain ⟨y1, e1, h1⟩ := hd 1 9 rfl (by decide +kernel) (by decide) (by decide)
        have h1 : VS (Sob w ob) 0 ⟨#[]⟩ .nil .nil y1 W := h1
        obtain ⟨y6, e6, h6⟩ := hd 6 14 rfl (by decide +kernel) (by decide) (by decide)
        have h6 : VS (Sob w ob) 6 ⟨#[]⟩ .nil (posT g.a g.b) y6 W := h6
        have hcall := with_any (Sob w ob) 0 ⟨#[]⟩ .nil .nil ⟨#[115, 116, 97, 114, 116]⟩ 6 ⟨#[]⟩ .nil (posT g.a g.b) y1 y6 W (sob_new HG.out hob) h1 h6 ⟨by decide, by decide, by decide⟩ (by show (0 : Nat) ≤ 1000; decide)
        have HC := Lib.hid hcall
        clear hd hold hcall h1 h6
        go_simp
        go_at_call 55
        (with_reducible refine HC.out.mono ?_)
        rintro e W1 ⟨y, rfl, hv, hB⟩
        exact hK.out _ _ hv hB
      · obtain rfl := Option.some.inj ho
        have o0 : a.tmps[0]? = _ := (hold 0 rfl).trans rfl
        clear hd hold
        go_simp
        exact hK.out _ _ (by rfl) (Below.refl _ _)
      · obtain rfl := Option.some.inj ho
        obtain ⟨y8, e8, h8⟩ := hd 8 16 rfl (by decide +kernel) (by decide) (by decide)
        have h8 : y8 = _ := h8
        subst h8
        have i1 := HN.out
        clear hd hold
        go_simp
        exact hK.out _ _ (by rfl) (Below.refl _ _)
      · obtain rfl := Option.some.inj ho
        obtain ⟨y9, e9, h9⟩ := hd 9 17 rfl (by decide +kernel) (by decide) (by decide)
        have h9 : y9 = _ := h9
        subst h9
        clear hd hold
        go_simp
        exact hK.out _ _ (by rfl) (Below.refl _ _)
      · obtain rfl := Option.some.inj ho
        obtain ⟨y10, e10, h10⟩ := hd 10 18 rfl (by decide +kernel) (by decide) (by decide)
        have h10 : y10 = _ := h10
        subst h10
        obtain ⟨k0, k1, k2, k3⟩ := HCl.out W HG.out.below
        clear hd hold
        go_simp
        exact hK.out _ _ (by rfl) (Below.refl _ _)
      · obtain rfl := Option.some.inj ho
        obtain ⟨y11, e11, h11⟩ := hd 11 19 rfl (by decide +kernel) (by decide) (by decide)
        have h11 : y11 = _ := h11
        subst h11
        have hcall := Calls.mono (refPlace_any g.c g.d W HOk.out.2.2.1 HOk.out.2.2.2) (fun e W1 h => RetV.s (S := (Sob w ob)) h (sob_new HG.out hob))
        have HC := Lib.hid hcall
        clear hd hold hcall 
        go_simp
        go_at_call 87
        (with_reducible refine HC.out.mono ?_)
        rintro e W1 ⟨y, rfl, hv, hB⟩
        exact hK.out _ _ hv hB
      · obtain rfl := Option.some.inj ho
        obtain ⟨y7, e7, h7⟩ := hd 7 15 rfl (by decide +kernel) (by decide) (by decide)
        have h7 : VS (Sob w ob) 6 ⟨#[]⟩ .nil (appT .nil ⟨#[115, 116, 97, 114, 116]⟩ 6 ⟨#[]⟩ .nil (posT g.a g.b)) y7 W := h7
        obtain ⟨y12, e12, h12⟩ := hd 12 20 rfl (by decide +kernel) (by decide) (by decide)
        have h12 : VS (Sob w ob) 6 ⟨#[]⟩ .nil (posT g.c g.d) y12 W := h12
        have hcall := with_any (Sob w ob) 6 ⟨#[]⟩ .nil (appT .nil ⟨#[115, 116, 97, 114, 116]⟩ 6 ⟨#[]⟩ .nil (posT g.a g.b)) ⟨#[101, 110, 100]⟩ 6 ⟨#[]⟩ .nil (posT g.c g.d) y7 y12 W (sob_new HG.out hob) h7 h12 ⟨by decide, by decide, by decide⟩ (by show (1 : Nat) ≤ 1000; decide)
        have HC := Lib.hid hcall
        clear hd hold hcall h7 h12
        go_simp
        go_at_call 55
        (with_reducible refine HC.out.mono ?_)
        rintro e W1 ⟨y, rfl, hv, hB⟩
        exact hK.out _ _ hv hB
      · obtain rfl := Option.some.inj ho
        obtain ⟨y0, e0, h0⟩ := hd 0 8 rfl (by decide +kernel) (by decide) (by decide)
        have h0 : VS (Sob w ob) 0 ⟨#[]⟩ .nil .nil y0 W := h0
        obtain ⟨y13, e13, h13⟩ := hd 13 21 rfl (by decide +kernel) (by decide) (by decide)
        have h13 : VS (Sob w ob) 6 ⟨#[]⟩ .nil (appT (appT .nil ⟨#[115, 116, 97, 114, 116]⟩ 6 ⟨#[]⟩ .nil (posT g.a g.b)) ⟨#[101, 110, 100]⟩ 6 ⟨#[]⟩ .nil (posT g.c g.d)) y13 W := h13
        have hcall := with_any (Sob w ob) 0 ⟨#[]⟩ .nil .nil ⟨#[114, 97, 110, 103, 101]⟩ 6 ⟨#[]⟩ .nil (appT (appT .nil ⟨#[115, 116, 97, 114, 116]⟩ 6 ⟨#[]⟩ .nil (posT g.a g.b)) ⟨#[101, 110, 100]⟩ 6 ⟨#[]⟩ .nil (posT g.c g.d)) y0 y13 W (sob_new HG.out hob) h0 h13 ⟨by decide, by decide, by decide⟩ (by show (0 : Nat) ≤ 1000; decide)
        have HC := Lib.hid hcall
        clear hd hold hcall h0 h13
        go_simp
        go_at_call 55
        (with_reducible refine HC.out.mono ?_)
        rintro e W1 ⟨y, rfl, hv, hB⟩
        exact hK.out _ _ hv hB
      · exact absurd rfl hx
      · exact absurd rfl hz
    intro b4 rr W hg hMb hbk hrx hf
    obtain ⟨p1, n1, c1, q1, m1, d1, elast, hl1, hf1⟩ : VS (Sob w (some b4)) 6 ⟨#[]⟩ .nil (chT g false 0 .nil) (rr 14) W := hf 14 (by decide) (by decide) (by decide)
    have hbk : Blk4 W b4 25 (.int .u8 0) (.string ⟨#[]⟩) (.slice none 0 0) (.slice none 0 0) := hbk
    have hv : VS (Sob w (some b4)) 6 ⟨#[]⟩ .nil (chT g false 0 .nil) (.agg #[.int .u8 6, .string ⟨#[]⟩, .slice p1 n1 c1, .slice q1 m1 d1]) W := VS.mk hl1 hf1
    have HFI := Lib.hid (And.intro (hg.fill hMb hbk hv) (Nat.le_trans hg.lt hMb))
    obtain ⟨s0, s1, s2, s3⟩ := hbk.box
    have f0 := hbk.free 0
    have f1 := hbk.free 1
    have f2 := hbk.free 2
    have f3 := hbk.free 3
    clear hg hbk hl1 hf1 hf hv hMb
    simp only [putL, Act.put, List.setIfInBounds_toArray, List.set_cons_zero, List.set_cons_succ, elast, hrx]
    clear elast hrx
    refine wpAnyL_op 16 (by kernel_rfl) rfl (fun K hK => ?_)
    go_simp
    refine hK.out _ _ (fun _ => trivial) ?_
    clear hK K
    refine wpAnyL_end (by kernel_rfl) ?_
    clear s0 s1 s2 s3 f0 f1 f2 f3
    generalize (((W.setCell ⟨b4, 0, none⟩ (.int .u8 6)).setCell ⟨b4, 1, none⟩ (.string ⟨#[]⟩)).setCell ⟨b4, 2, none⟩ (.slice p1 n1 c1)).setCell ⟨b4, 3, none⟩ (.slice q1 m1 d1) = W4 at *
    by_cases hr : rest = []
    · subst hr
      have hn1 : n = 1 := HNN.out.1
      have HZ := Lib.hid HFI.out.1.1
      clear HFI HIH HNN HN
      subst hn1
      obtain ⟨pz, nz, cz, qz, mz, dz, hbz, hlz, hfz⟩ := HZ.out.bx _ (.head _)
      have hb0 := HZ.out.b0
      have HY := Lib.hid (And.intro hlz (And.intro hfz hb0))
      obtain ⟨v0, v1, v2, v3⟩ := hbz.box
      obtain ⟨s0, s1, s2, s3⟩ := hb0.box
      have f0 := hb0.free 0
      have f1 := hb0.free 1
      have f2 := hb0.free 2
      have f3 := hb0.free 3
      clear hbz hlz hfz hb0
      dsimp only at v0 v1 v2 v3
      go_wp2_with fail
      obtain ⟨g1, g2, g3⟩ := HY.out.2.2.all (.int .u8 6) (.string ⟨#[]⟩) (.slice pz nz cz) (.slice qz mz dz)
      have hw3 := set4_else W4 w.heap.size (.int .u8 6) (.string ⟨#[]⟩) (.slice pz nz cz) (.slice qz mz dz)
      have g3' := g3 w.heap.size (Nat.le_refl _)
      clear s0 s1 s2 s3 f0 f1 f2 f3 v0 v1 v2 v3
      generalize (((W4.setCell ⟨w.heap.size, 0, none⟩ (.int .u8 6)).setCell ⟨w.heap.size, 1, none⟩ (.string ⟨#[]⟩)).setCell ⟨w.heap.size, 2, none⟩ (.slice pz nz cz)).setCell ⟨w.heap.size, 3, none⟩ (.slice qz mz dz) = wz at *
      obtain ⟨x0, x1, x2, x3⟩ := g1.box
      refine bodyPost_ret (v := .agg #[.int .u8 6, .string ⟨#[]⟩, .slice pz nz cz, .slice qz mz dz]) (by simp [results, Tryd.results63, go_sem, x0, x1, x2, x3]) rfl ?_
      have hS : ∀ j, S0 w j → w.heap.size ≤ j ∧ j ≠ w.heap.size := fun j hj => by unfold S0 at hj; omega
      exact ⟨_, rfl, VF.mk (hs_fre HY.out.1 hS hw3) (hs_fre HY.out.2.1 hS hw3), HZ.out.below.trans g3'⟩
    · have hrl : 0 < rest.length := List.length_pos_iff.2 hr
      have hn2 : (n : Int) > 1 := by have := HNN.out.1; omega
      have hk6 : chainK rest = 6 := by
        cases rest with
        | nil => exact absurd rfl hr
        | cons a l => rfl
      have hct : chainT (g :: rest) = chT g true 6 (chainT rest) := by
        cases rest with
        | nil => exact absurd rfl hr
        | cons a l => rfl
      have HIH6 : Hid (∀ W, Below w.heap.size w W → Calls Tryd.prog 63 #[.slice (some ⟨b, o + 4, none⟩) (n - 1) (c - 1)] W (RetV W.heap.size 6 ⟨#[]⟩ .nil (chainT rest) W)) := Lib.hid (fun W hB => by
        have := HIH.out W hB
        rw [hk6] at this
        exact this)
      have HN2 := Lib.hid (show 1 ≤ n ∧ ¬ c = 1 ∧ n ≤ c ∧ (1 : Int) ≤ (n : Int) from by have h1 := HNN.out.1; have h2 := HNN.out.2; omega)
      have HCT := Lib.hid hct
      clear hr hrl hk6 hct HIH
      have HX5 := Lib.hid (show RcY w b4 .nil (chT g false 0 .nil) W4 from ⟨HFI.out.1.1.below, HFI.out.1.1.lt, HFI.out.2, HFI.out.1.1.b0, HFI.out.1.2⟩)
      clear HFI HNN HN
      go_upto_region 5 with fail
      have HX6 := Lib.hid (HX5.out.on (Below.refl W4.heap.size W4).drew)
      refine wp_region_stepsP [some 26, some 27, some 28, some 29, some 30, none] _ _ (G := RcY w b4 .nil (chT g false 0 .nil)) (F := FRc5 w b4 g rest b o n c) (z := 5) (by kernel_rfl) rfl (by decide +kernel) rfl (by decide +kernel) (by decide +kernel) rfl (fun W W' h hB => h.on hB) (fun i y W W' h hB => h.on hB) ?_ ?_ HX6.out
      · intro i o' ho hz a W hg hd hold K' hK
        have HG := Lib.hid hg
        have hlt : i < 6 := (Array.getElem?_eq_some_iff.1 ho).1
        clear hg
        obtain rfl | rfl | rfl | rfl | rfl | rfl : i = 0 ∨ i = 1 ∨ i = 2 ∨ i = 3 ∨ i = 4 ∨ i = 5 := by omega
        · obtain rfl := Option.some.inj ho
          have o3 : a.tmps[3]? = _ := (hold 3 rfl).trans rfl
          clear hd hold
          obtain ⟨p, n, c, q, m, d, hby, hl, hf⟩ := HG.out.box
          obtain ⟨s0, s1, s2, s3⟩ := hby.box
          have HV := Lib.hid (And.intro hl hf)
          clear hby hl hf
          go_simp
          exact hK.out _ _ (VS.mk HV.out.1 HV.out.2) (Below.refl _ _)
        · obtain rfl := Option.some.inj ho
          have o0 : a.tmps[0]? = _ := (hold 0 rfl).trans rfl
          clear hd hold
          go_simp
          exact hK.out _ _ (by rfl) (Below.refl _ _)
        · obtain rfl := Option.some.inj ho
          obtain ⟨y1, e1, h1⟩ := hd 1 27 rfl (by decide +kernel) (by decide)
          have h1 : y1 = _ := h1
          subst h1
          obtain ⟨i1, i2, i3, i4⟩ := HN2.out
          clear hd hold
          go_simp
          exact hK.out _ _ (by rfl) (Below.refl _ _)
        · obtain rfl := Option.some.inj ho
          obtain ⟨y2, e2, h2⟩ := hd 2 28 rfl (by decide +kernel) (by decide)
          have h2 : y2 = _ := h2
          subst h2
          have hcall := Calls.mono (HIH6.out W HG.out.below) (fun e W1 h => RetV.s (S := (Sob w (some b4))) h HG.out.new)
          have HC := Lib.hid hcall
          clear hd hold hcall 
          go_simp
          go_at_call 63
          (with_reducible refine HC.out.mono ?_)
          rintro e W1 ⟨y, rfl, hv, hB⟩
          exact hK.out _ _ hv hB
        · obtain rfl := Option.some.inj ho
          obtain ⟨y0, e0, h0⟩ := hd 0 26 rfl (by decide +kernel) (by decide)
          have h0 : VS (Sob w (some b4)) 6 ⟨#[]⟩ .nil (chT g false 0 .nil) y0 W := h0
          obtain ⟨y3, e3, h3⟩ := hd 3 29 rfl (by decide +kernel) (by decide)
          have h3 : VS (Sob w (some b4)) 6 ⟨#[]⟩ .nil (chainT rest) y3 W := h3
          have hcall := with_any (Sob w (some b4)) 6 ⟨#[]⟩ .nil (chT g false 0 .nil) ⟨#[112, 97, 114, 101, 110, 116]⟩ 6 ⟨#[]⟩ .nil (chainT rest) y0 y3 W (HG.out.new) h0 h3 ⟨by decide, by decide, by decide⟩ (by show (1 : Nat) ≤ 1000; decide)
          have HC := Lib.hid hcall
          clear hd hold hcall h0 h3
          go_simp
          go_at_call 55
          (with_reducible refine HC.out.mono ?_)
          rintro e W1 ⟨y, rfl, hv, hB⟩
          exact hK.out _ _ hv hB
        · exact absurd rfl hz
      · intro a W hg hf hold hput K' hK
        obtain ⟨y30, o30, hv30⟩ := hf 4 30 rfl (by decide) (by decide)
        obtain ⟨p1, n1, c1, q1, m1, d1, rfl, hl1, hf1⟩ : VS (Sob w (some b4)) 6 ⟨#[]⟩ .nil (chT g true 6 (chainT rest)) y30 W := hv30
        obtain ⟨_, _, _, _, _, _, hbk, -⟩ := hg.box
        obtain ⟨s0, s1, s2, s3⟩ := hbk.box
        have f0 := hbk.free 0
        have f1 := hbk.free 1
        have f2 := hbk.free 2
        have f3 := hbk.free 3
        have HZ := Lib.hid (hg.fill (VS.mk (k := 6) (x := ⟨#[]⟩) hl1 hf1))
        have o3 : a.tmps[3]? = some (Value.pointer (some ⟨b4, 0, none⟩)) := (hold 3 rfl).trans rfl
        clear hg hl1 hf1 hbk hold
        go_simp
        refine hK.out _ _ ?_
        obtain ⟨rr, ha⟩ := hput.out
        clear hput o3 o30
        subst ha
        simp only [putL, Act.put, List.setIfInBounds_toArray, List.set_cons_zero, List.set_cons_succ]
        clear hK K' s0 s1 s2 s3 f0 f1 f2 f3 hf
        generalize (((W.setCell ⟨b4, 0, none⟩ (.int .u8 6)).setCell ⟨b4, 1, none⟩ (.string ⟨#[]⟩)).setCell ⟨b4, 2, none⟩ (.slice p1 n1 c1)).setCell ⟨b4, 3, none⟩ (.slice q1 m1 d1) = W7 at *
        obtain ⟨pz, nz, cz, qz, mz, dz, hbz, hlz, hfz⟩ := HZ.out.bx _ (.head _)
        have hb0 := HZ.out.b0
        have HY := Lib.hid (And.intro hlz (And.intro hfz hb0))
        obtain ⟨v0, v1, v2, v3⟩ := hbz.box
        obtain ⟨s0, s1, s2, s3⟩ := hb0.box
        have f0 := hb0.free 0
        have f1 := hb0.free 1
        have f2 := hb0.free 2
        have f3 := hb0.free 3
        clear hbz hlz hfz hb0
        dsimp only at v0 v1 v2 v3
        go_wp2_with fail
        obtain ⟨g1, g2, g3⟩ := HY.out.2.2.all (.int .u8 6) (.string ⟨#[]⟩) (.slice pz nz cz) (.slice qz mz dz)
        have hw3 := set4_else W7 w.heap.size (.int .u8 6) (.string ⟨#[]⟩) (.slice pz nz cz) (.slice qz mz dz)
        have g3' := g3 w.heap.size (Nat.le_refl _)
        clear s0 s1 s2 s3 f0 f1 f2 f3 v0 v1 v2 v3
        generalize (((W7.setCell ⟨w.heap.size, 0, none⟩ (.int .u8 6)).setCell ⟨w.heap.size, 1, none⟩ (.string ⟨#[]⟩)).setCell ⟨w.heap.size, 2, none⟩ (.slice pz nz cz)).setCell ⟨w.heap.size, 3, none⟩ (.slice qz mz dz) = wz at *
        obtain ⟨x0, x1, x2, x3⟩ := g1.box
        refine bodyPost_ret (v := .agg #[.int .u8 6, .string ⟨#[]⟩, .slice pz nz cz, .slice qz mz dz]) (by simp [results, Tryd.results63, go_sem, x0, x1, x2, x3]) rfl ?_
        have hS : ∀ j, S0 w j → w.heap.size ≤ j ∧ j ≠ w.heap.size := fun j hj => by unfold S0 at hj; omega
        have hvf := VF.mk (k := 6) (x := ⟨#[]⟩) (hs_fre HY.out.1 hS hw3) (hs_fre HY.out.2.1 hS hw3)
        rw [← HCT.out] at hvf
        exact ⟨_, rfl, hvf, HZ.out.below.trans g3'⟩
end Go.Proofs.YtdgmbmoaeoakpaaDoor
