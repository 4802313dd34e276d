/- .. and of none: the document's list of numbers, of any ints. Conditions: at most 10^6 numbers. -/
import Derived.Test.YtdgmbmoaeoakpaaDoorMC30
import Derived.Test.YtdgmbmoaeoakpaaDoorMC28
namespace Go.Proofs.YtdgmbmoaeoakpaaDoor
open Go Go.RowKit Go.Lib

set_option maxHeartbeats 4000000 in
set_option maxRecDepth 100000 in
theorem numsR_nil (p : Option Addr) (c : Nat) (w : World) (hc : c ≤ 9223372036854775807) :
    Calls Tryd.prog 56 #[.slice p 0 c] w (RetV w.heap.size 5 ⟨#[]⟩ .nil .nil w) := by
  have h2n := two_new w (.cells #[.int .u8 0, .string ⟨#[]⟩, .slice none 0 0, .slice none 0 0] 25) (.cells #[.int .u8 5, .string ⟨#[]⟩, .slice none 0 0, .slice none 0 0] 25)
  have h2b := two_below w (.cells #[.int .u8 0, .string ⟨#[]⟩, .slice none 0 0, .slice none 0 0] 25) (.cells #[.int .u8 5, .string ⟨#[]⟩, .slice none 0 0, .slice none 0 0] 25)
  have h2s := two_size w (.cells #[.int .u8 0, .string ⟨#[]⟩, .slice none 0 0, .slice none 0 0] 25) (.cells #[.int .u8 5, .string ⟨#[]⟩, .slice none 0 0, .slice none 0 0] 25)
  have HG0 := Lib.hid (show TxG w (.slice none 0 0) ([]) 0 ((w.alloc (.cells #[.int .u8 0, .string ⟨#[]⟩, .slice none 0 0, .slice none 0 0] 25)).alloc (.cells #[.int .u8 5, .string ⟨#[]⟩, .slice none 0 0, .slice none 0 0] 25)) from
    ⟨h2b, by rw [h2s]; omega, h2n.1, h2n.2, World.ownsRow_nil _ _ _ _⟩)
  clear h2n h2b h2s
  go_enter Tryd.func56, Tryd.ntmps56
  go_upto_region 2 with fail
  generalize (w.alloc (.cells #[.int .u8 0, .string ⟨#[]⟩, .slice none 0 0, .slice none 0 0] 25)).alloc (.cells #[.int .u8 5, .string ⟨#[]⟩, .slice none 0 0, .slice none 0 0] 25) = W0 at *
  go_wp2_with fail
  go_loopw [4] (fun p wr => ∃ (i : Nat) (v : Value), p = .int .i64 i ∧ i ≤ 0 ∧ Hid (TxG w v ([]) i wr)) (fun p _ => 0 - (RowKit.intOf p).toNat)
  case atStart => exact ⟨0, _, rfl, Nat.zero_le _, HG0⟩
  case round =>
    obtain ⟨i, v, rfl, hi, HR⟩ := hrel
    obtain rfl : i = 0 := by omega
    have hh : HS wr (Fre (w.heap.size + 2) wr) 0 v .nil := num_hs (l := []) (show wr.ownsRow (w.heap.size + 2) 25 4 v 0 (ncells []) from HR.out.own) (fun _ h => by cases h) (by decide)
    have HF := Lib.hid (And.intro hh HR.out)
    obtain ⟨p, c', rfl⟩ : ∃ p c', v = .slice p 0 c' := by
      obtain ⟨p, c', e, -⟩ := hh.len
      exact ⟨p, c', e⟩
    obtain ⟨s0, s1, s2, s3⟩ := HR.out.b1.box
    obtain ⟨x0, x1, x2, x3⟩ := HR.out.b0.box
    have f0 := HR.out.b0.free 0
    have f1 := HR.out.b0.free 1
    have f2 := HR.out.b0.free 2
    have f3 := HR.out.b0.free 3
    clear hh HR
    
    go_wp2_with fail
    obtain ⟨g1, g2, g3⟩ := HF.out.2.b0.all (.int .u8 5) (.string ⟨#[]⟩) (.slice p 0 c') (.slice none 0 0)
    have hw3 := set4_else wr w.heap.size (.int .u8 5) (.string ⟨#[]⟩) (.slice p 0 c') (.slice none 0 0)
    have g3' := g3 w.heap.size (Nat.le_refl _)
    clear s0 s1 s2 s3 x0 x1 x2 x3 f0 f1 f2 f3
    generalize (((wr.setCell ⟨w.heap.size, 0, none⟩ (.int .u8 5)).setCell ⟨w.heap.size, 1, none⟩ (.string ⟨#[]⟩)).setCell ⟨w.heap.size, 2, none⟩ (.slice p 0 c')).setCell ⟨w.heap.size, 3, none⟩ (.slice none 0 0) = w3 at *
    obtain ⟨x0, x1, x2, x3⟩ := g1.box
    refine bodyPost_ret (v := .agg #[.int .u8 5, .string ⟨#[]⟩, .slice p 0 c', .slice none 0 0]) (by simp [results, Tryd.results56, go_sem, x0, x1, x2, x3]) rfl ?_
    exact ⟨_, rfl, VF.mk (HF.out.1.fre (fun b hb => by omega) (fun b hb _ => hw3 b (by omega))) (HS.nil _ _ _), HF.out.2.below.trans g3'⟩

theorem numsR_any (v : Value) (l : List Int) (w : World) (h : SrcI w v l) (hn : l.length ≤ 1000000) : Calls Tryd.prog 56 #[v] w (RetV w.heap.size 5 ⟨#[]⟩ (nmT l) .nil w) := by
  rcases h with ⟨rfl, p, c, rfl, hc⟩ | ⟨b, o, c, rfl, h2, h3, h4, h5, h6⟩
  · exact numsR_nil p c w hc
  · exact numsR_some b o c l w ⟨h2, h3⟩ hn h4 h5 h6
end Go.Proofs.YtdgmbmoaeoakpaaDoor

namespace Go.Proofs.YtdgmbmoaeoakpaaDoor
open Go Go.RowKit Go.Lib

def spliceT (st de : Int) (li : List Int) : V.T := .cons ⟨#[115, 116, 97, 114, 116]⟩ 3 ⟨(Lib.itoa st).toArray⟩ .nil .nil (.cons ⟨#[100, 101, 108, 101, 116, 101, 67, 111, 117, 110, 116]⟩ 3 ⟨(Lib.itoa de).toArray⟩ .nil .nil (.cons ⟨#[100, 97, 116, 97]⟩ 5 ⟨#[]⟩ (nmT li) .nil .nil))
def Fsplice_any (st de : Int) (sp : Option Addr) (sn sc : Nat) (li : List Int) (w : World) : Nat → Value → World → Prop
  | 0, y, _ => y = .iface 9 (.string ⟨#[115, 116, 97, 114, 116]⟩)
  | 1, y, _ => y = .pointer (some ⟨w.heap.size, 0, none⟩)
  | 2, y, _ => y = .int .i64 st
  | 3, y, _ => y = .iface 3 (.int .i64 st)
  | 4, y, _ => y = .iface 9 (.string ⟨#[100, 101, 108, 101, 116, 101, 67, 111, 117, 110, 116]⟩)
  | 5, y, _ => y = .pointer (some ⟨w.heap.size, 1, none⟩)
  | 6, y, _ => y = .int .i64 de
  | 7, y, _ => y = .iface 3 (.int .i64 de)
  | 8, y, _ => y = .iface 9 (.string ⟨#[100, 97, 116, 97]⟩)
  | 9, y, _ => y = .pointer (some ⟨w.heap.size, 2, none⟩)
  | 10, y, _ => y = .slice sp sn sc
  | 11, y, W => VF (w.heap.size + 2) 5 ⟨#[]⟩ (nmT li) .nil y W
  | 12, y, W => IVP (w.heap.size + 2) 5 ⟨#[]⟩ (nmT li) .nil y W
  | 13, y, W => PsF (w.heap.size + 2) 3 (spliceT st de li) y W
  | 14, y, W => VF (w.heap.size + 2) 6 ⟨#[]⟩ .nil (spliceT st de li) y W
  | _, _, _ => True
theorem Fsplice_any.on {st de : Int} {sp : Option Addr} {sn sc : Nat} {li : List Int} {w : World} {i : Nat} {y : Value} {W W' : World} (h : Fsplice_any st de sp sn sc li w i y W) (hB : Below W.heap.size W W') : Fsplice_any st de sp sn sc li w i y W' := by
  unfold Fsplice_any at h ⊢
  split at h
  · exact h
  · exact h
  · exact h
  · exact h
  · exact h
  · exact h
  · exact h
  · exact h
  · exact h
  · exact h
  · exact h
  · exact h.on hB
  · exact h.on hB
  · exact h.on hB
  · exact h.on hB
  · trivial
set_option maxHeartbeats 4000000 in
set_option maxRecDepth 100000 in
theorem splice_any (st de : Int) (sp : Option Addr) (sn sc : Nat) (li : List Int) (N : Nat) (w : World) (h_st : I64 st) (h_de : I64 de) (h_src : SrcI w (.slice sp sn sc) li) (h_len : li.length ≤ 1000000) (hN : N ≤ w.heap.size) (hP : PowTab w) : Calls Tryd.prog 58 #[.agg #[.int .i64 st, .int .i64 de, .slice sp sn sc]] w (RetV N 6 ⟨#[]⟩ .nil (spliceT st de li) w) := by
  have HPo := Lib.hid (fun W (h : Below w.heap.size w W) => pow_below hP h)
  have H0 := Lib.hid (mkG0 w 81 #[.int .i64 st, .int .i64 de, .slice sp sn sc])
  clear hP
  go_enter Tryd.func58, Tryd.ntmps58
  go_upto_region 1 with fail
  generalize (w.alloc (.cells #[.int .i64 st, .int .i64 de, .slice sp sn sc] 81)).alloc (.cells #[.int .u8 0, .string ⟨#[]⟩, .slice none 0 0, .slice none 0 0] 25) = W0 at *
  have HX := Lib.hid (H0.out.on (Below.refl W0.heap.size W0).drew)
  refine wp_region_stepsF [some 3, some 4, some 5, some 6, some 7, some 8, some 9, some 10, some 11, some 12, some 13, some 14, some 15, some 16, some 17, none] _ _ (G := MkG w 81 #[.int .i64 st, .int .i64 de, .slice sp sn sc]) (F := Fsplice_any st de sp sn sc li w) (z := 15) (by kernel_rfl) rfl (by decide +kernel) rfl (by decide +kernel) (by decide +kernel) rfl (fun W W' h hB => h.on hB) (fun i y W W' h hB => h.on hB) ?_ ?_ HX.out
  · intro i o ho hz a W hg hd hold K' hK
    have HG := Lib.hid hg
    have hlt : i < 16 := (Array.getElem?_eq_some_iff.1 ho).1
    clear hg
    obtain rfl | rfl | rfl | rfl | rfl | rfl | rfl | rfl | rfl | rfl | rfl | rfl | rfl | rfl | rfl | rfl : i = 0 ∨ i = 1 ∨ i = 2 ∨ i = 3 ∨ i = 4 ∨ i = 5 ∨ i = 6 ∨ i = 7 ∨ i = 8 ∨ i = 9 ∨ i = 10 ∨ i = 11 ∨ i = 12 ∨ i = 13 ∨ i = 14 ∨ i = 15 := by omega
    · obtain rfl := Option.some.inj ho
      clear hd hold
      go_simp
      exact hK.out _ _ (by rfl) (Below.refl _ _)
    · obtain rfl := Option.some.inj ho
      have o1 : a.tmps[1]? = _ := (hold 1 rfl).trans rfl
      clear hd hold
      go_simp
      exact hK.out _ _ (by rfl) (Below.refl _ _)
    · obtain rfl := Option.some.inj ho
      obtain ⟨y1, e1, h1⟩ := hd 1 4 rfl (by decide +kernel) (by decide)
      have h1 : y1 = _ := h1
      subst h1
      have g0 := HG.out.c 0 _ rfl
      clear hd hold
      go_simp
      exact hK.out _ _ (by rfl) (Below.refl _ _)
    · obtain rfl := Option.some.inj ho
      obtain ⟨y2, e2, h2⟩ := hd 2 5 rfl (by decide +kernel) (by decide)
      have h2 : y2 = _ := h2
      subst h2
      clear hd hold
      go_simp
      exact hK.out _ _ (by rfl) (Below.refl _ _)
    · obtain rfl := Option.some.inj ho
      clear hd hold
      go_simp
      exact hK.out _ _ (by rfl) (Below.refl _ _)
    · obtain rfl := Option.some.inj ho
      have o1 : a.tmps[1]? = _ := (hold 1 rfl).trans rfl
      clear hd hold
      go_simp
      exact hK.out _ _ (by rfl) (Below.refl _ _)
    · obtain rfl := Option.some.inj ho
      obtain ⟨y5, e5, h5⟩ := hd 5 8 rfl (by decide +kernel) (by decide)
      have h5 : y5 = _ := h5
      subst h5
      have g1 := HG.out.c 1 _ rfl
      clear hd hold
      go_simp
      exact hK.out _ _ (by rfl) (Below.refl _ _)
    · obtain rfl := Option.some.inj ho
      obtain ⟨y6, e6, h6⟩ := hd 6 9 rfl (by decide +kernel) (by decide)
      have h6 : y6 = _ := h6
      subst h6
      clear hd hold
      go_simp
      exact hK.out _ _ (by rfl) (Below.refl _ _)
    · obtain rfl := Option.some.inj ho
      clear hd hold
      go_simp
      exact hK.out _ _ (by rfl) (Below.refl _ _)
    · obtain rfl := Option.some.inj ho
      have o1 : a.tmps[1]? = _ := (hold 1 rfl).trans rfl
      clear hd hold
      go_simp
      exact hK.out _ _ (by rfl) (Below.refl _ _)
    · obtain rfl := Option.some.inj ho
      obtain ⟨y9, e9, h9⟩ := hd 9 12 rfl (by decide +kernel) (by decide)
      have h9 : y9 = _ := h9
      subst h9
      have g2 := HG.out.c 2 _ rfl
      clear hd hold
      go_simp
      exact hK.out _ _ (by rfl) (Below.refl _ _)
    · obtain rfl := Option.some.inj ho
      obtain ⟨y10, e10, h10⟩ := hd 10 13 rfl (by decide +kernel) (by decide)
      have h10 : y10 = _ := h10
      subst h10
      have hcall := numbers_any sp sn sc li (w.heap.size + 2) W HG.out.lt (h_src.below HG.out.below) h_len (HPo.out _ HG.out.below)
      have HC := Lib.hid hcall
      clear hd hold hcall
      go_simp
      go_at_call 54
      (with_reducible refine HC.out.mono ?_)
      rintro e W1 ⟨y, rfl, hv, hB⟩
      exact hK.out _ _ hv hB
    · obtain rfl := Option.some.inj ho
      obtain ⟨y11, e11, h11⟩ := hd 11 14 rfl (by decide +kernel) (by decide)
      obtain ⟨p11, n11, c11, q11, m11, d11, rfl, l11, f11⟩ : VF (w.heap.size + 2) 5 ⟨#[]⟩ (nmT li) .nil y11 W := h11
      clear hd hold
      go_simp
      exact hK.out _ _ ⟨_, rfl, VF.mk l11 f11⟩ (Below.refl _ _)
    · obtain rfl := Option.some.inj ho
      obtain ⟨y0, e0, h0⟩ := hd 0 3 rfl (by decide +kernel) (by decide)
      have h0 : y0 = _ := h0
      subst h0
      obtain ⟨y3, e3, h3⟩ := hd 3 6 rfl (by decide +kernel) (by decide)
      have h3 : y3 = _ := h3
      subst h3
      obtain ⟨y4, e4, h4⟩ := hd 4 7 rfl (by decide +kernel) (by decide)
      have h4 : y4 = _ := h4
      subst h4
      obtain ⟨y7, e7, h7⟩ := hd 7 10 rfl (by decide +kernel) (by decide)
      have h7 : y7 = _ := h7
      subst h7
      obtain ⟨y8, e8, h8⟩ := hd 8 11 rfl (by decide +kernel) (by decide)
      have h8 : y8 = _ := h8
      subst h8
      obtain ⟨y12, e12, h12⟩ := hd 12 15 rfl (by decide +kernel) (by decide)
      obtain ⟨z12, rfl, p12, n12, c12, q12, m12, d12, rfl, l12, f12⟩ : IVP (w.heap.size + 2) 5 ⟨#[]⟩ (nmT li) .nil y12 W := h12
      have hps := psf_new (cs := #[.iface 9 (.string ⟨#[115, 116, 97, 114, 116]⟩), .iface 3 (.int .i64 st), .iface 9 (.string ⟨#[100, 101, 108, 101, 116, 101, 67, 111, 117, 110, 116]⟩), .iface 3 (.int .i64 de), .iface 9 (.string ⟨#[100, 97, 116, 97]⟩), .iface 25 (.agg #[.int .u8 5, .string ⟨#[]⟩, .slice p12 n12 c12, .slice q12 m12 d12])]) (N := (w.heap.size + 2)) (W := W) (t := 20) (T := (spliceT st de li)) (m := 3) [nPt ⟨#[115, 116, 97, 114, 116]⟩ st, nPt ⟨#[100, 101, 108, 101, 116, 101, 67, 111, 117, 110, 116]⟩ de, vPt ⟨#[100, 97, 116, 97]⟩ 5 ⟨#[]⟩ (.slice p12 n12 c12) (.slice q12 m12 d12) (nmT li) .nil] rfl rfl rfl (fun p hp => by
        simp only [List.mem_cons, List.not_mem_nil, or_false] at hp
        rcases hp with rfl | rfl | rfl
        · exact nPt_ok h_st (by decide)
        · exact nPt_ok h_de (by decide)
        · exact vPt_ok ⟨by decide, by decide, by decide⟩ l12 f12)
      have hB := (Below.refl W.heap.size W).alloc (Nat.le_refl _) (.cells #[.iface 9 (.string ⟨#[115, 116, 97, 114, 116]⟩), .iface 3 (.int .i64 st), .iface 9 (.string ⟨#[100, 101, 108, 101, 116, 101, 67, 111, 117, 110, 116]⟩), .iface 3 (.int .i64 de), .iface 9 (.string ⟨#[100, 97, 116, 97]⟩), .iface 25 (.agg #[.int .u8 5, .string ⟨#[]⟩, .slice p12 n12 c12, .slice q12 m12 d12])] 20)
      have HQ := Lib.hid (And.intro hps hB)
      clear hd hold hps hB
      go_simp
      exact hK.out _ _ HQ.out.1 HQ.out.2
    · obtain rfl := Option.some.inj ho
      obtain ⟨y13, e13, h13⟩ := hd 13 16 rfl (by decide +kernel) (by decide)
      have h13 : PsF (w.heap.size + 2) 3 (spliceT st de li) y13 W := h13
      have hcall := obj_ret (y := y13) (w := W) (N := (w.heap.size + 2)) HG.out.lt (by decide) h13 (HPo.out _ HG.out.below)
      have HC := Lib.hid hcall
      clear hd hold hcall h13
      go_simp
      go_at_call 53
      (with_reducible refine HC.out.mono ?_)
      rintro e W1 ⟨y, rfl, hv, hB⟩
      exact hK.out _ _ hv hB
    · exact absurd rfl hz
  · intro a W hg hf hold hdf hasz K' hK
    obtain ⟨yz, oz, hvz⟩ := hf 14 17 rfl (by decide) (by decide)
    obtain ⟨p, n, d, q, m, d', rfl, hl, hf'⟩ : VF (w.heap.size + 2) 6 ⟨#[]⟩ .nil (spliceT st de li) yz W := hvz
    have o2 : a.tmps[2]? = some (Value.pointer (some ⟨w.heap.size + 1, 0, none⟩)) := (hold 2 rfl).trans rfl
    have od : a.defers = [] := hdf.trans rfl
    have HG := Lib.hid hg
    have HV := Lib.hid (And.intro hl hf')
    obtain ⟨s0, s1, s2, s3⟩ := hg.b1.box
    have f0 := hg.b1.free 0
    have f1 := hg.b1.free 1
    have f2 := hg.b1.free 2
    have f3 := hg.b1.free 3
    clear hg hl hf hf' hold hdf hasz
    go_simp
    refine hK.out _ _ ?_
    clear hK K'
    go_wp2_with fail
    obtain ⟨g1, g2, g3⟩ := HG.out.b1.all (.int .u8 6) (.string ⟨#[]⟩) (.slice p n d) (.slice q m d')
    have hw3 := set4_else W (w.heap.size + 1) (.int .u8 6) (.string ⟨#[]⟩) (.slice p n d) (.slice q m d')
    have g3' := g3 w.heap.size (Nat.le_add_right _ _)
    clear s0 s1 s2 s3 f0 f1 f2 f3
    generalize (((W.setCell ⟨w.heap.size + 1, 0, none⟩ (.int .u8 6)).setCell ⟨w.heap.size + 1, 1, none⟩ (.string ⟨#[]⟩)).setCell ⟨w.heap.size + 1, 2, none⟩ (.slice p n d)).setCell ⟨w.heap.size + 1, 3, none⟩ (.slice q m d') = w3 at *
    obtain ⟨x0, x1, x2, x3⟩ := g1.box
    refine bodyPost_ret (v := .agg #[.int .u8 6, .string ⟨#[]⟩, .slice p n d, .slice q m d']) (by simp [results, Tryd.results58, go_sem, o2, x0, x1, x2, x3]) od ?_
    exact ⟨_, rfl, VF.mk (HV.out.1.fre (fun b hb => by omega) (fun b hb _ => hw3 b (by omega))) (HV.out.2.fre (fun b hb => by omega) (fun b hb _ => hw3 b (by omega))), HG.out.below.trans g3'⟩
end Go.Proofs.YtdgmbmoaeoakpaaDoor
