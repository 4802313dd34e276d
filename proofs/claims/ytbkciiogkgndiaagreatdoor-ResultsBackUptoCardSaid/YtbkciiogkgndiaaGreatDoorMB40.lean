/- A splice's value. Conditions: at most 10^6 numbers; the library's table of powers. -/
import Derived.Test.YtbkciiogkgndiaaGreatDoorMB12
import Derived.Test.YtbkciiogkgndiaaGreatDoorMB13
namespace Go.Proofs.YtbkciiogkgndiaaGreatDoor
open Go Go.RowKit Go.Lib

def spliceT (st de : Int) (li : List Int) : V.T := .cons ⟨#[115, 116, 97, 114, 116]⟩ 3 ⟨(Lib.itoa st).toArray⟩ .nil .nil (.cons ⟨#[100, 101, 108, 101, 116, 101, 67, 111, 117, 110, 116]⟩ 3 ⟨(Lib.itoa de).toArray⟩ .nil .nil (.cons ⟨#[100, 97, 116, 97]⟩ 5 ⟨#[]⟩ (nmT li) .nil .nil))
def Fsplice_any (st de : Int) (sp : Option Addr) (sn sc : Nat) (li : List Int) (w : World) : Nat → Value → World → Prop
  | 0, y, _ => y = .iface 9 (.string ⟨#[115, 116, 97, 114, 116]⟩)
  | 1, y, _ => y = .pointer (some ⟨w.heap.size, 0, none⟩)
  | 2, y, _ => y = .int .i64 st
  | 3, y, _ => y = .iface 3 (.int .i64 st)
  | 4, y, _ => y = .iface 9 (.string ⟨#[100, 101, 108, 101, 116, 101, 67, 111, 117, 110, 116]⟩)
  | 5, y, _ => y = .pointer (some ⟨w.heap.size, 1, none⟩)
  | 6, y, _ => y = .int .i64 de
  | 7, y, _ => y = .iface 3 (.int .i64 de)
  | 8, y, _ => y = .iface 9 (.string ⟨#[100, 97, 116, 97]⟩)
  | 9, y, _ => y = .pointer (some ⟨w.heap.size, 2, none⟩)
  | 10, y, _ => y = .slice sp sn sc
  | 11, y, W => VF (w.heap.size + 2) 5 ⟨#[]⟩ (nmT li) .nil y W
  | 12, y, W => IVP (w.heap.size + 2) 5 ⟨#[]⟩ (nmT li) .nil y W
  | 13, y, W => PsF (w.heap.size + 2) 3 (spliceT st de li) y W
  | 14, y, W => VF (w.heap.size + 2) 6 ⟨#[]⟩ .nil (spliceT st de li) y W
  | _, _, _ => True
theorem Fsplice_any.on {st de : Int} {sp : Option Addr} {sn sc : Nat} {li : List Int} {w : World} {i : Nat} {y : Value} {W W' : World} (h : Fsplice_any st de sp sn sc li w i y W) (hB : Below W.heap.size W W') : Fsplice_any st de sp sn sc li w i y W' := by
  unfold Fsplice_any at h ⊢
  split at h
  · exact h
  · exact h
  · exact h
  · exact h
  · exact h
  · exact h
  · exact h
  · exact h
  · exact h
  · exact h
  · exact h
  · exact h.on hB
  · exact h.on hB
  · exact h.on hB
  · exact h.on hB
  · trivial
set_option maxHeartbeats 4000000 in
set_option maxRecDepth 100000 in
theorem splice_any (st de : Int) (sp : Option Addr) (sn sc : Nat) (li : List Int) (N : Nat) (w : World) (h_st : I64 st) (h_de : I64 de) (h_src : SrcI w (.slice sp sn sc) li) (h_len : li.length ≤ 1000000) (hN : N ≤ w.heap.size) (hP : PowTab w) : Calls Tryz.prog 110 #[.agg #[.int .i64 st, .int .i64 de, .slice sp sn sc]] w (RetV N 6 ⟨#[]⟩ .nil (spliceT st de li) w) := by
  have HPo := Lib.hid (fun W (h : Below w.heap.size w W) => pow_below hP h)
  have H0 := Lib.hid (mkG0 w 91 #[.int .i64 st, .int .i64 de, .slice sp sn sc])
  clear hP
  go_enter Tryz.func110, Tryz.ntmps110
  go_upto_region 1 with fail
  generalize (w.alloc (.cells #[.int .i64 st, .int .i64 de, .slice sp sn sc] 91)).alloc (.cells #[.int .u8 0, .string ⟨#[]⟩, .slice none 0 0, .slice none 0 0] 25) = W0 at *
  have HX := Lib.hid (H0.out.on (Below.refl W0.heap.size W0).drew)
  refine wp_region_stepsF [some 3, some 4, some 5, some 6, some 7, some 8, some 9, some 10, some 11, some 12, some 13, some 14, some 15, some 16, some 17, none] _ _ (G := MkG w 91 #[.int .i64 st, .int .i64 de, .slice sp sn sc]) (F := Fsplice_any st de sp sn sc li w) (z := 15) (by kernel_rfl) rfl (by decide +kernel) rfl (by decide +kernel) (by decide +kernel) rfl (fun W W' h hB => h.on hB) (fun i y W W' h hB => h.on hB) ?_ ?_ HX.out
  · intro i o ho hz a W hg hd hold K' hK
    have HG := Lib.hid hg
    have hlt : i < 16 := (Array.getElem?_eq_some_iff.1 ho).1
    clear hg
    obtain rfl | rfl | rfl | rfl | rfl | rfl | rfl | rfl | rfl | rfl | rfl | rfl | rfl | rfl | rfl | rfl : i = 0 ∨ i = 1 ∨ i = 2 ∨ i = 3 ∨ i = 4 ∨ i = 5 ∨ i = 6 ∨ i = 7 ∨ i = 8 ∨ i = 9 ∨ i = 10 ∨ i = 11 ∨ i = 12 ∨ i = 13 ∨ i = 14 ∨ i = 15 := by omega
    · obtain rfl := Option.some.inj ho
      clear hd hold
      go_simp
      exact hK.out _ _ (by rfl) (Below.refl _ _)
    · obtain rfl := Option.some.inj ho
      have o1 : a.tmps[1]? = _ := (hold 1 rfl).trans rfl
      clear hd hold
      go_simp
      exact hK.out _ _ (by rfl) (Below.refl _ _)
    · obtain rfl := Option.some.inj ho
      obtain ⟨y1, e1, h1⟩ := hd 1 4 rfl (by decide +kernel) (by decide)
      have h1 : y1 = _ := h1
      subst h1
      have g0 := HG.out.c 0 _ rfl
      clear hd hold
      go_simp
      exact hK.out _ _ (by rfl) (Below.refl _ _)
    · obtain rfl := Option.some.inj ho
      obtain ⟨y2, e2, h2⟩ := hd 2 5 rfl (by decide +kernel) (by decide)
      have h2 : y2 = _ := h2
      subst h2
      clear hd hold
      go_simp
      exact hK.out _ _ (by rfl) (Below.refl _ _)
    · obtain rfl := Option.some.inj ho
      clear hd hold
      go_simp
      exact hK.out _ _ (by rfl) (Below.refl _ _)
    · obtain rfl := Option.some.inj ho
      have o1 : a.tmps[1]? = _ := (hold 1 rfl).trans rfl
      clear hd hold
      go_simp
      exact hK.out _ _ (by rfl) (Below.refl _ _)
    · obtain rfl := Option.some.inj ho
      obtain ⟨y5, e5, h5⟩ := hd 5 8 rfl (by decide +kernel) (by decide)
      have h5 : y5 = _ := h5
      subst h5
      have g1 := HG.out.c 1 _ rfl
      clear hd hold
      go_simp
      exact hK.out _ _ (by rfl) (Below.refl _ _)
    · obtain rfl := Option.some.inj ho
      obtain ⟨y6, e6, h6⟩ := hd 6 9 rfl (by decide +kernel) (by decide)
      have h6 : y6 = _ := h6
      subst h6
      clear hd hold
      go_simp
      exact hK.out _ _ (by rfl) (Below.refl _ _)
    · obtain rfl := Option.some.inj ho
      clear hd hold
      go_simp
      exact hK.out _ _ (by rfl) (Below.refl _ _)
    · obtain rfl := Option.some.inj ho
      have o1 : a.tmps[1]? = _ := (hold 1 rfl).trans rfl
      clear hd hold
      go_simp
      exact hK.out _ _ (by rfl) (Below.refl _ _)
    · obtain rfl := Option.some.inj ho
      obtain ⟨y9, e9, h9⟩ := hd 9 12 rfl (by decide +kernel) (by decide)
      have h9 : y9 = _ := h9
      subst h9
      have g2 := HG.out.c 2 _ rfl
      clear hd hold
      go_simp
      exact hK.out _ _ (by rfl) (Below.refl _ _)
    · obtain rfl := Option.some.inj ho
      obtain ⟨y10, e10, h10⟩ := hd 10 13 rfl (by decide +kernel) (by decide)
      have h10 : y10 = _ := h10
      subst h10
      have hcall := numbers_any sp sn sc li (w.heap.size + 2) W HG.out.lt (h_src.below HG.out.below) h_len (HPo.out _ HG.out.below)
      have HC := Lib.hid hcall
      clear hd hold hcall
      go_simp
      go_at_call 108
      (with_reducible refine HC.out.mono ?_)
      rintro e W1 ⟨y, rfl, hv, hB⟩
      exact hK.out _ _ hv hB
    · obtain rfl := Option.some.inj ho
      obtain ⟨y11, e11, h11⟩ := hd 11 14 rfl (by decide +kernel) (by decide)
      obtain ⟨p11, n11, c11, q11, m11, d11, rfl, l11, f11⟩ : VF (w.heap.size + 2) 5 ⟨#[]⟩ (nmT li) .nil y11 W := h11
      clear hd hold
      go_simp
      exact hK.out _ _ ⟨_, rfl, VF.mk l11 f11⟩ (Below.refl _ _)
    · obtain rfl := Option.some.inj ho
      obtain ⟨y0, e0, h0⟩ := hd 0 3 rfl (by decide +kernel) (by decide)
      have h0 : y0 = _ := h0
      subst h0
      obtain ⟨y3, e3, h3⟩ := hd 3 6 rfl (by decide +kernel) (by decide)
      have h3 : y3 = _ := h3
      subst h3
      obtain ⟨y4, e4, h4⟩ := hd 4 7 rfl (by decide +kernel) (by decide)
      have h4 : y4 = _ := h4
      subst h4
      obtain ⟨y7, e7, h7⟩ := hd 7 10 rfl (by decide +kernel) (by decide)
      have h7 : y7 = _ := h7
      subst h7
      obtain ⟨y8, e8, h8⟩ := hd 8 11 rfl (by decide +kernel) (by decide)
      have h8 : y8 = _ := h8
      subst h8
      obtain ⟨y12, e12, h12⟩ := hd 12 15 rfl (by decide +kernel) (by decide)
      obtain ⟨z12, rfl, p12, n12, c12, q12, m12, d12, rfl, l12, f12⟩ : IVP (w.heap.size + 2) 5 ⟨#[]⟩ (nmT li) .nil y12 W := h12
      have hps := psf_new (cs := #[.iface 9 (.string ⟨#[115, 116, 97, 114, 116]⟩), .iface 3 (.int .i64 st), .iface 9 (.string ⟨#[100, 101, 108, 101, 116, 101, 67, 111, 117, 110, 116]⟩), .iface 3 (.int .i64 de), .iface 9 (.string ⟨#[100, 97, 116, 97]⟩), .iface 25 (.agg #[.int .u8 5, .string ⟨#[]⟩, .slice p12 n12 c12, .slice q12 m12 d12])]) (N := (w.heap.size + 2)) (W := W) (t := 20) (T := (spliceT st de li)) (m := 3) [nPt ⟨#[115, 116, 97, 114, 116]⟩ st, nPt ⟨#[100, 101, 108, 101, 116, 101, 67, 111, 117, 110, 116]⟩ de, vPt ⟨#[100, 97, 116, 97]⟩ 5 ⟨#[]⟩ (.slice p12 n12 c12) (.slice q12 m12 d12) (nmT li) .nil] rfl rfl rfl (fun p hp => by
        simp only [List.mem_cons, List.not_mem_nil, or_false] at hp
        rcases hp with rfl | rfl | rfl
        · exact nPt_ok h_st (by decide)
        · exact nPt_ok h_de (by decide)
        · exact vPt_ok ⟨by decide, by decide, by decide⟩ l12 f12)
      have hB := (Below.refl W.heap.size W).alloc (Nat.le_refl _) (.cells #[.iface 9 (.string ⟨#[115, 116, 97, 114, 116]⟩), .iface 3 (.int .i64 st), .iface 9 (.string ⟨#[100, 101, 108, 101, 116, 101, 67, 111, 117, 110, 116]⟩), .iface 3 (.int .i64 de), .iface 9 (.string ⟨#[100, 97, 116, 97]⟩), .iface 25 (.agg #[.int .u8 5, .string ⟨#[]⟩, .slice p12 n12 c12, .slice q12 m12 d12])] 20)
      have HQ := Lib.hid (And.intro hps hB)
      clear hd hold hps hB
      go_simp
      exact hK.out _ _ HQ.out.1 HQ.out.2
    · obtain rfl := Option.some.inj ho
      obtain ⟨y13, e13, h13⟩ := hd 13 16 rfl (by decide +kernel) (by decide)
      have h13 : PsF (w.heap.size + 2) 3 (spliceT st de li) y13 W := h13
      have hcall := obj_ret (y := y13) (w := W) (N := (w.heap.size + 2)) HG.out.lt (by decide) h13 (HPo.out _ HG.out.below)
      have HC := Lib.hid hcall
      clear hd hold hcall h13
      go_simp
      go_at_call 107
      (with_reducible refine HC.out.mono ?_)
      rintro e W1 ⟨y, rfl, hv, hB⟩
      exact hK.out _ _ hv hB
    · exact absurd rfl hz
  · intro a W hg hf hold hdf hasz K' hK
    obtain ⟨yz, oz, hvz⟩ := hf 14 17 rfl (by decide) (by decide)
    obtain ⟨p, n, d, q, m, d', rfl, hl, hf'⟩ : VF (w.heap.size + 2) 6 ⟨#[]⟩ .nil (spliceT st de li) yz W := hvz
    have o2 : a.tmps[2]? = some (Value.pointer (some ⟨w.heap.size + 1, 0, none⟩)) := (hold 2 rfl).trans rfl
    have od : a.defers = [] := hdf.trans rfl
    have HG := Lib.hid hg
    have HV := Lib.hid (And.intro hl hf')
    obtain ⟨s0, s1, s2, s3⟩ := hg.b1.box
    have f0 := hg.b1.free 0
    have f1 := hg.b1.free 1
    have f2 := hg.b1.free 2
    have f3 := hg.b1.free 3
    clear hg hl hf hf' hold hdf hasz
    go_simp
    refine hK.out _ _ ?_
    clear hK K'
    go_wp2_with fail
    obtain ⟨g1, g2, g3⟩ := HG.out.b1.all (.int .u8 6) (.string ⟨#[]⟩) (.slice p n d) (.slice q m d')
    have hw3 := set4_else W (w.heap.size + 1) (.int .u8 6) (.string ⟨#[]⟩) (.slice p n d) (.slice q m d')
    have g3' := g3 w.heap.size (Nat.le_add_right _ _)
    clear s0 s1 s2 s3 f0 f1 f2 f3
    generalize (((W.setCell ⟨w.heap.size + 1, 0, none⟩ (.int .u8 6)).setCell ⟨w.heap.size + 1, 1, none⟩ (.string ⟨#[]⟩)).setCell ⟨w.heap.size + 1, 2, none⟩ (.slice p n d)).setCell ⟨w.heap.size + 1, 3, none⟩ (.slice q m d') = w3 at *
    obtain ⟨x0, x1, x2, x3⟩ := g1.box
    refine bodyPost_ret (v := .agg #[.int .u8 6, .string ⟨#[]⟩, .slice p n d, .slice q m d']) (by simp [results, Tryz.results110, go_sem, o2, x0, x1, x2, x3]) od ?_
    exact ⟨_, rfl, VF.mk (HV.out.1.fre (fun b hb => by omega) (fun b hb _ => hw3 b (by omega))) (HV.out.2.fre (fun b hb => by omega) (fun b hb _ => hw3 b (by omega))), HG.out.below.trans g3'⟩
end Go.Proofs.YtbkciiogkgndiaaGreatDoor

namespace Go.Proofs.YtbkciiogkgndiaaGreatDoor
open Go Go.RowKit Go.Lib

structure Sp where
  st : Int
  de : Int
  p : Option Addr
  n : Nat
  c : Nat
  li : List Int
def SpOk (w : World) (e : Sp) : Prop := I64 e.st ∧ I64 e.de ∧ SrcI w (.slice e.p e.n e.c) e.li ∧ e.li.length ≤ 1000000
theorem SpOk_below {w w' : World} {e : Sp} (hB : Below w.heap.size w w') (h : SpOk w e) : SpOk w' e := ⟨h.1, h.2.1, h.2.2.1.below hB, h.2.2.2⟩
theorem SpOk_below' {w w' : World} {e : Sp} (hB : Below w.heap.size w w') (h : SpOk w e) : SpOk w' e := SpOk_below hB h
def listSpT : List Sp → V.T
  | [] => .nil
  | e :: r => .cons ⟨#[]⟩ 6 ⟨#[]⟩ .nil (spliceT e.st e.de e.li) (listSpT r)
theorem listSpT_len (l : List Sp) : (listSpT l).len = l.length := by
  induction l with
  | nil => rfl
  | cons s r ih => show (listSpT r).len + 1 = _; rw [ih]; rfl
theorem listSpT_drop : ∀ (l : List Sp) (i : Nat) (e : Sp), l[i]? = some e → (listSpT l).drop i = .cons ⟨#[]⟩ 6 ⟨#[]⟩ .nil (spliceT e.st e.de e.li) (listSpT (l.drop (i + 1)))
  | [], _, _, h => by simp at h
  | s' :: r, 0, s, h => by
    simp at h; subst h
    rfl
  | s' :: r, i + 1, s, h => listSpT_drop r i s (by simpa using h)
set_option maxRecDepth 100000 in
set_option maxHeartbeats 1000000 in
theorem listSp (b o c : Nat) (l : List Sp) (w : World) (hc : l.length ≤ c ∧ c ≤ 9223372036854775807) (hn : l.length ≤ 1000000) (hb : l ≠ [] → b < w.heap.size) (hS : ∀ (j : Nat) (e : Sp), l[j]? = some e → w.cell? ⟨b, o + j * 3, none⟩ = some (.int .i64 e.st) ∧ w.cell? ⟨b, o + j * 3 + 1, none⟩ = some (.int .i64 e.de) ∧ w.cell? ⟨b, o + j * 3 + 2, none⟩ = some (.slice e.p e.n e.c)) (hz : ∀ e ∈ l, SpOk w e) (hP : PowTab w) :
    Calls Tryz.prog 109 #[.slice (some ⟨b, o, none⟩) l.length c, .func (.func 110) #[] #[]] w (ListR (listSpT l) w) := by
  have HTx := Lib.hid (fun W (hB : Below w.heap.size w W) (N : Nat) (hN : N ≤ W.heap.size) (e : Sp) (h : SpOk W e) => (show Calls Tryz.prog 110 #[.agg #[.int .i64 e.st, .int .i64 e.de, .slice e.p e.n e.c]] W (RetV N 6 ⟨#[]⟩ .nil (spliceT e.st e.de e.li) W) from splice_any e.st e.de e.p e.n e.c e.li N W h.1 h.2.1 h.2.2.1 h.2.2.2 hN (pow_below hP hB)))
  have HEl := Lib.hid (fun i (hi : i < l.length) => (show ∃ e : Sp, (∀ W, Below w.heap.size w W → SpOk W e ∧ W.cell? ⟨b, o + i * 3, none⟩ = some (.int .i64 e.st) ∧ W.cell? ⟨b, o + i * 3 + 1, none⟩ = some (.int .i64 e.de) ∧ W.cell? ⟨b, o + i * 3 + 2, none⟩ = some (.slice e.p e.n e.c)) ∧ (listSpT l).drop i = .cons ⟨#[]⟩ 6 ⟨#[]⟩ .nil (spliceT e.st e.de e.li) (listSpT (l.drop (i + 1))) from
    ⟨l[i], fun W hB => ⟨SpOk_below hB (hz l[i] (List.getElem_mem hi)), (hB.cell (p := ⟨b, o + i * 3, none⟩) (hb (by intro e; subst e; simp at hi))).trans (hS i _ (List.getElem?_eq_getElem hi)).1, (hB.cell (p := ⟨b, o + i * 3 + 1, none⟩) (hb (by intro e; subst e; simp at hi))).trans (hS i _ (List.getElem?_eq_getElem hi)).2.1, (hB.cell (p := ⟨b, o + i * 3 + 2, none⟩) (hb (by intro e; subst e; simp at hi))).trans (hS i _ (List.getElem?_eq_getElem hi)).2.2⟩, listSpT_drop l i l[i] (List.getElem?_eq_getElem hi)⟩))
  have HE := Lib.hid (listSpT_len l)
  generalize en : l.length = na at *
  have HN := Lib.hid en
  obtain ⟨i0, hi0, hz0, hz1, hz2⟩ := info_parts infoValue
  obtain ⟨M, hM⟩ : ∃ M, M = madeCells (Value.agg #[.int .u8 0, .string ⟨#[]⟩, .slice none 0 0, .slice none 0 0]).cells (((na : Nat) : Int).toNat * i0.size) := ⟨_, rfl⟩
  have hMs : M.size = na * 4 := by rw [hM, size_madeCells, hz1, Int.toNat_natCast]
  have hmk : ∀ W : World, (Instr.makeSlice 22 (.int .i64 (na : Int)) (.int .i64 (na : Int))).run Tryz.prog W = .ok (.slice (some ⟨W.heap.size, 0, none⟩) na na) (W.alloc (.cells M 25)) := fun W => by
    have h := run_make (P := Tryz.prog) W 22 25 i0 _ Tryz.underlying22 hi0 hz0 .i64 .i64 (na : Int) (na : Int) (by omega) (by omega) (by rw [hz2]; omega) (by omega)
    rw [← hM] at h
    simpa using h
  have hB0 := (Below.refl w.heap.size w).alloc (Nat.le_refl _) (.cells #[.int .u8 0, .string ⟨#[]⟩, .slice none 0 0, .slice none 0 0] 25)
  have b0 : Blk4 (w.alloc (.cells #[.int .u8 0, .string ⟨#[]⟩, .slice none 0 0, .slice none 0 0] 25)) w.heap.size 25 _ _ _ _ := heap_alloc_new _ _
  have hz0 := World.size_alloc w (.cells #[.int .u8 0, .string ⟨#[]⟩, .slice none 0 0, .slice none 0 0] 25)
  have HB := Lib.hid (And.intro b0 (And.intro hB0 hz0))
  clear hM hS hz hP en hB0 b0 hz0 hb
  go_enter Tryz.func109, Tryz.ntmps109
  go_wp2_with fail
  generalize w.alloc (.cells #[.int .u8 0, .string ⟨#[]⟩, .slice none 0 0, .slice none 0 0] 25) = w1 at *
  have hB1 := (Below.refl w1.heap.size w1).alloc (Nat.le_refl _) (.cells M 25)
  have hg : w1.heap.size = w.heap.size + 1 := HB.out.2.2
  have HC := Lib.hid (show LsSt w1 w.heap.size (w.heap.size + 1) (listSpT l) 0 M (w1.alloc (.cells M 25)) from
    ⟨⟨hB1, hg ▸ heap_alloc_new _ _, by rw [hMs, HE.out], Nat.le_of_eq hg, by rw [Nat.zero_mul, List.take_zero]; exact RP.nil _ _ _ _⟩, HB.out.1.same (hB1.block _ HB.out.1.lt), HB.out.1.lt⟩)
  generalize w1.alloc (.cells M 25) = W0 at *
  have HG := Lib.hid hg
  clear hB1 hMs hmk hg
  go_loopw [13] (fun p wr => ∃ i : Nat, p = .int .i64 i ∧ i ≤ na ∧ Hid (∃ cur, LsSt w1 w.heap.size (w.heap.size + 1) (listSpT l) i cur wr)) (fun p _ => na - (RowKit.intOf p).toNat)
  case atStart => exact ⟨0, rfl, Nat.zero_le _, Lib.hid ⟨_, HC.out⟩⟩
  case round =>
    obtain ⟨i, rfl, hi, HR⟩ := hrel
    obtain ⟨cur, hR⟩ := HR.out
    by_cases hlt : i < na
    · have HQ := Lib.hid hR
      clear HR hR
      have hbw := HB.out.2.1.trans (HQ.out.ca.below.mono HB.out.2.1.size)
      obtain ⟨e, e1', d1'⟩ := HEl.out i hlt
      obtain ⟨v1', e1, e2, e3⟩ := e1' wr hbw
      have hBx := (Below.refl wr.heap.size wr).alloc (Nat.le_refl _) (.cells #[.int .i64 e.st, .int .i64 e.de, .slice e.p e.n e.c] 91)
      have HV1 := Lib.hid (SpOk_below' hBx v1')
      have HX1 := Lib.hid (And.intro hBx (hbw.trans (hBx.mono hbw.size)))
      have D1 := Lib.hid d1'
      have HL := Lib.hid hlt
      clear e1' d1' v1' hBx
      have HW := Lib.hid hbw
      have hrow := HQ.out.ca.row
      have hgl := hrow.lt
      have hcs : i * 4 + 4 ≤ cur.size := by rw [HQ.out.ca.size, HE.out]; have := HL.out; omega
      clear hbw
      go_wp2_with fail
      go_at_call 110
      (with_reducible refine (HTx.out _ HX1.out.2 wr.heap.size HX1.out.1.size e HV1.out).mono ?_)
      rintro en w2 ⟨y, rfl, ⟨p1, n1, c1, q1, m1, d1, rfl, hl1, hf1⟩, hBc⟩
      have hB2 := HX1.out.1.trans (hBc.mono HX1.out.1.size)
      have HR1 := Lib.hid (And.intro hl1 hf1)
      clear hBc hl1 hf1
      have hr1 := hrow.same (hB2.block _ hgl)
      have q0 := hr1.cell (j := i * 4) (by omega)
      have q1 := hr1.cell (j := i * 4 + 1) (by omega)
      have q2 := hr1.cell (j := i * 4 + 2) (by omega)
      have q3 := hr1.cell (j := i * 4 + 3) (by omega)
      have z0 := hr1.free (i * 4)
      have z1 := hr1.free (i * 4 + 1)
      have z2 := hr1.free (i * 4 + 2)
      have z3 := hr1.free (i * 4 + 3)
      have HB2 := Lib.hid hB2
      clear hB2 hr1
      go_wp2_with fail
      go_roundw
      case rel => exact ⟨i + 1, by go_num, HL.out, Lib.hid ⟨_, HQ.out.step (by rw [HE.out]; exact HL.out) D1.out rfl ⟨by decide, by decide, by decide⟩ HB2.out HR1.out.1 HR1.out.2⟩⟩
      case measure => have := HL.out; simp [RowKit.intOf]; omega
    · obtain rfl : i = na := by omega
      clear HR
      have hw := CaSt.whole (by rw [HE.out]; exact hR.ca) (by rw [HE.out]; omega)
      rw [HE.out] at hw
      have hb2 := hR.box
      have HF := Lib.hid (And.intro hw (And.intro hb2 (And.intro hR.ca.below hR.lt)))
      obtain ⟨x0, x1, x2, x3⟩ := hb2.box
      have f0 := hb2.free 0
      have f1 := hb2.free 1
      have f2 := hb2.free 2
      have f3 := hb2.free 3
      clear hw hR hb2
      go_wp2_with fail
      obtain ⟨g1, g2, g3⟩ := HF.out.2.1.all (.int .u8 5) (.string ⟨#[]⟩) (.slice (some ⟨w.heap.size + 1, 0, none⟩) i i) (.slice none 0 0)
      have hw3 := set4_else wr w.heap.size (.int .u8 5) (.string ⟨#[]⟩) (.slice (some ⟨w.heap.size + 1, 0, none⟩) i i) (.slice none 0 0)
      have g3' := g3 w.heap.size (Nat.le_refl _)
      clear x0 x1 x2 x3 f0 f1 f2 f3
      generalize (((wr.setCell ⟨w.heap.size, 0, none⟩ (.int .u8 5)).setCell ⟨w.heap.size, 1, none⟩ (.string ⟨#[]⟩)).setCell ⟨w.heap.size, 2, none⟩ (.slice (some ⟨w.heap.size + 1, 0, none⟩) i i)).setCell ⟨w.heap.size, 3, none⟩ (.slice none 0 0) = w3 at *
      obtain ⟨x0, x1, x2, x3⟩ := g1.box
      refine bodyPost_ret (v := .agg #[.int .u8 5, .string ⟨#[]⟩, .slice (some ⟨w.heap.size + 1, 0, none⟩) i i, .slice none 0 0]) (by simp [results, Tryz.results109, go_sem, x0, x1, x2, x3]) rfl ?_
      have hlt := HF.out.2.2.2
      have hg := HG.out
      exact ⟨_, rfl, HF.out.1.fre (fun b hb => by omega) (fun b hb _ => hw3 b (by omega)), (HB.out.2.1.trans (HF.out.2.2.1.mono HB.out.2.1.size)).trans g3'⟩
end Go.Proofs.YtbkciiogkgndiaaGreatDoor

namespace Go.Proofs.YtbkciiogkgndiaaGreatDoor
open Go Go.RowKit Go.Lib

structure Fo where
  a : Int
  b : Int
  cm : Bool
def FoOk (_ : World) (e : Fo) : Prop := I64 e.a ∧ I64 e.b
theorem FoOk_below {w w' : World} {e : Fo} (_ : Below w.heap.size w w') (h : FoOk w e) : FoOk w' e := h
theorem FoOk_below' {w w' : World} {e : Fo} (_ : Below w.heap.size w w') (h : FoOk w e) : FoOk w' e := h
def listFoT : List Fo → V.T
  | [] => .nil
  | e :: r => .cons ⟨#[]⟩ 6 ⟨#[]⟩ .nil (foldT e.a e.b e.cm) (listFoT r)
theorem listFoT_len (l : List Fo) : (listFoT l).len = l.length := by
  induction l with
  | nil => rfl
  | cons s r ih => show (listFoT r).len + 1 = _; rw [ih]; rfl
theorem listFoT_drop : ∀ (l : List Fo) (i : Nat) (e : Fo), l[i]? = some e → (listFoT l).drop i = .cons ⟨#[]⟩ 6 ⟨#[]⟩ .nil (foldT e.a e.b e.cm) (listFoT (l.drop (i + 1)))
  | [], _, _, h => by simp at h
  | s' :: r, 0, s, h => by
    simp at h; subst h
    rfl
  | s' :: r, i + 1, s, h => listFoT_drop r i s (by simpa using h)
set_option maxRecDepth 100000 in
set_option maxHeartbeats 1000000 in
theorem listFo (b o c : Nat) (l : List Fo) (w : World) (hc : l.length ≤ c ∧ c ≤ 9223372036854775807) (hn : l.length ≤ 1000000) (hb : l ≠ [] → b < w.heap.size) (hS : ∀ (j : Nat) (e : Fo), l[j]? = some e → w.cell? ⟨b, o + j * 3, none⟩ = some (.int .i64 e.a) ∧ w.cell? ⟨b, o + j * 3 + 1, none⟩ = some (.int .i64 e.b) ∧ w.cell? ⟨b, o + j * 3 + 2, none⟩ = some (.bool e.cm)) (hz : ∀ e ∈ l, FoOk w e) (hP : PowTab w) (hT : Tabs w) :
    Calls Tryz.prog 112 #[.slice (some ⟨b, o, none⟩) l.length c, .func (.func 113) #[] #[]] w (ListR (listFoT l) w) := by
  have HTx := Lib.hid (fun W (hB : Below w.heap.size w W) (N : Nat) (hN : N ≤ W.heap.size) (e : Fo) (h : FoOk W e) => (show Calls Tryz.prog 113 #[.agg #[.int .i64 e.a, .int .i64 e.b, .bool e.cm]] W (RetV N 6 ⟨#[]⟩ .nil (foldT e.a e.b e.cm) W) from fold_any e.a e.b e.cm N W h.1 h.2 hN (pow_below hP hB) (tabs_below hT hB)))
  have HEl := Lib.hid (fun i (hi : i < l.length) => (show ∃ e : Fo, (∀ W, Below w.heap.size w W → FoOk W e ∧ W.cell? ⟨b, o + i * 3, none⟩ = some (.int .i64 e.a) ∧ W.cell? ⟨b, o + i * 3 + 1, none⟩ = some (.int .i64 e.b) ∧ W.cell? ⟨b, o + i * 3 + 2, none⟩ = some (.bool e.cm)) ∧ (listFoT l).drop i = .cons ⟨#[]⟩ 6 ⟨#[]⟩ .nil (foldT e.a e.b e.cm) (listFoT (l.drop (i + 1))) from
    ⟨l[i], fun W hB => ⟨FoOk_below hB (hz l[i] (List.getElem_mem hi)), (hB.cell (p := ⟨b, o + i * 3, none⟩) (hb (by intro e; subst e; simp at hi))).trans (hS i _ (List.getElem?_eq_getElem hi)).1, (hB.cell (p := ⟨b, o + i * 3 + 1, none⟩) (hb (by intro e; subst e; simp at hi))).trans (hS i _ (List.getElem?_eq_getElem hi)).2.1, (hB.cell (p := ⟨b, o + i * 3 + 2, none⟩) (hb (by intro e; subst e; simp at hi))).trans (hS i _ (List.getElem?_eq_getElem hi)).2.2⟩, listFoT_drop l i l[i] (List.getElem?_eq_getElem hi)⟩))
  have HE := Lib.hid (listFoT_len l)
  generalize en : l.length = na at *
  have HN := Lib.hid en
  obtain ⟨i0, hi0, hz0, hz1, hz2⟩ := info_parts infoValue
  obtain ⟨M, hM⟩ : ∃ M, M = madeCells (Value.agg #[.int .u8 0, .string ⟨#[]⟩, .slice none 0 0, .slice none 0 0]).cells (((na : Nat) : Int).toNat * i0.size) := ⟨_, rfl⟩
  have hMs : M.size = na * 4 := by rw [hM, size_madeCells, hz1, Int.toNat_natCast]
  have hmk : ∀ W : World, (Instr.makeSlice 22 (.int .i64 (na : Int)) (.int .i64 (na : Int))).run Tryz.prog W = .ok (.slice (some ⟨W.heap.size, 0, none⟩) na na) (W.alloc (.cells M 25)) := fun W => by
    have h := run_make (P := Tryz.prog) W 22 25 i0 _ Tryz.underlying22 hi0 hz0 .i64 .i64 (na : Int) (na : Int) (by omega) (by omega) (by rw [hz2]; omega) (by omega)
    rw [← hM] at h
    simpa using h
  have hB0 := (Below.refl w.heap.size w).alloc (Nat.le_refl _) (.cells #[.int .u8 0, .string ⟨#[]⟩, .slice none 0 0, .slice none 0 0] 25)
  have b0 : Blk4 (w.alloc (.cells #[.int .u8 0, .string ⟨#[]⟩, .slice none 0 0, .slice none 0 0] 25)) w.heap.size 25 _ _ _ _ := heap_alloc_new _ _
  have hz0 := World.size_alloc w (.cells #[.int .u8 0, .string ⟨#[]⟩, .slice none 0 0, .slice none 0 0] 25)
  have HB := Lib.hid (And.intro b0 (And.intro hB0 hz0))
  clear hM hS hz hP hT en hB0 b0 hz0 hb
  go_enter Tryz.func112, Tryz.ntmps112
  go_wp2_with fail
  generalize w.alloc (.cells #[.int .u8 0, .string ⟨#[]⟩, .slice none 0 0, .slice none 0 0] 25) = w1 at *
  have hB1 := (Below.refl w1.heap.size w1).alloc (Nat.le_refl _) (.cells M 25)
  have hg : w1.heap.size = w.heap.size + 1 := HB.out.2.2
  have HC := Lib.hid (show LsSt w1 w.heap.size (w.heap.size + 1) (listFoT l) 0 M (w1.alloc (.cells M 25)) from
    ⟨⟨hB1, hg ▸ heap_alloc_new _ _, by rw [hMs, HE.out], Nat.le_of_eq hg, by rw [Nat.zero_mul, List.take_zero]; exact RP.nil _ _ _ _⟩, HB.out.1.same (hB1.block _ HB.out.1.lt), HB.out.1.lt⟩)
  generalize w1.alloc (.cells M 25) = W0 at *
  have HG := Lib.hid hg
  clear hB1 hMs hmk hg
  go_loopw [13] (fun p wr => ∃ i : Nat, p = .int .i64 i ∧ i ≤ na ∧ Hid (∃ cur, LsSt w1 w.heap.size (w.heap.size + 1) (listFoT l) i cur wr)) (fun p _ => na - (RowKit.intOf p).toNat)
  case atStart => exact ⟨0, rfl, Nat.zero_le _, Lib.hid ⟨_, HC.out⟩⟩
  case round =>
    obtain ⟨i, rfl, hi, HR⟩ := hrel
    obtain ⟨cur, hR⟩ := HR.out
    by_cases hlt : i < na
    · have HQ := Lib.hid hR
      clear HR hR
      have hbw := HB.out.2.1.trans (HQ.out.ca.below.mono HB.out.2.1.size)
      obtain ⟨e, e1', d1'⟩ := HEl.out i hlt
      obtain ⟨v1', e1, e2, e3⟩ := e1' wr hbw
      have hBx := (Below.refl wr.heap.size wr).alloc (Nat.le_refl _) (.cells #[.int .i64 e.a, .int .i64 e.b, .bool e.cm] 94)
      have HV1 := Lib.hid (FoOk_below' hBx v1')
      have HX1 := Lib.hid (And.intro hBx (hbw.trans (hBx.mono hbw.size)))
      have D1 := Lib.hid d1'
      have HL := Lib.hid hlt
      clear e1' d1' v1' hBx
      have HW := Lib.hid hbw
      have hrow := HQ.out.ca.row
      have hgl := hrow.lt
      have hcs : i * 4 + 4 ≤ cur.size := by rw [HQ.out.ca.size, HE.out]; have := HL.out; omega
      clear hbw
      go_wp2_with fail
      go_at_call 113
      (with_reducible refine (HTx.out _ HX1.out.2 wr.heap.size HX1.out.1.size e HV1.out).mono ?_)
      rintro en w2 ⟨y, rfl, ⟨p1, n1, c1, q1, m1, d1, rfl, hl1, hf1⟩, hBc⟩
      have hB2 := HX1.out.1.trans (hBc.mono HX1.out.1.size)
      have HR1 := Lib.hid (And.intro hl1 hf1)
      clear hBc hl1 hf1
      have hr1 := hrow.same (hB2.block _ hgl)
      have q0 := hr1.cell (j := i * 4) (by omega)
      have q1 := hr1.cell (j := i * 4 + 1) (by omega)
      have q2 := hr1.cell (j := i * 4 + 2) (by omega)
      have q3 := hr1.cell (j := i * 4 + 3) (by omega)
      have z0 := hr1.free (i * 4)
      have z1 := hr1.free (i * 4 + 1)
      have z2 := hr1.free (i * 4 + 2)
      have z3 := hr1.free (i * 4 + 3)
      have HB2 := Lib.hid hB2
      clear hB2 hr1
      go_wp2_with fail
      go_roundw
      case rel => exact ⟨i + 1, by go_num, HL.out, Lib.hid ⟨_, HQ.out.step (by rw [HE.out]; exact HL.out) D1.out rfl ⟨by decide, by decide, by decide⟩ HB2.out HR1.out.1 HR1.out.2⟩⟩
      case measure => have := HL.out; simp [RowKit.intOf]; omega
    · obtain rfl : i = na := by omega
      clear HR
      have hw := CaSt.whole (by rw [HE.out]; exact hR.ca) (by rw [HE.out]; omega)
      rw [HE.out] at hw
      have hb2 := hR.box
      have HF := Lib.hid (And.intro hw (And.intro hb2 (And.intro hR.ca.below hR.lt)))
      obtain ⟨x0, x1, x2, x3⟩ := hb2.box
      have f0 := hb2.free 0
      have f1 := hb2.free 1
      have f2 := hb2.free 2
      have f3 := hb2.free 3
      clear hw hR hb2
      go_wp2_with fail
      obtain ⟨g1, g2, g3⟩ := HF.out.2.1.all (.int .u8 5) (.string ⟨#[]⟩) (.slice (some ⟨w.heap.size + 1, 0, none⟩) i i) (.slice none 0 0)
      have hw3 := set4_else wr w.heap.size (.int .u8 5) (.string ⟨#[]⟩) (.slice (some ⟨w.heap.size + 1, 0, none⟩) i i) (.slice none 0 0)
      have g3' := g3 w.heap.size (Nat.le_refl _)
      clear x0 x1 x2 x3 f0 f1 f2 f3
      generalize (((wr.setCell ⟨w.heap.size, 0, none⟩ (.int .u8 5)).setCell ⟨w.heap.size, 1, none⟩ (.string ⟨#[]⟩)).setCell ⟨w.heap.size, 2, none⟩ (.slice (some ⟨w.heap.size + 1, 0, none⟩) i i)).setCell ⟨w.heap.size, 3, none⟩ (.slice none 0 0) = w3 at *
      obtain ⟨x0, x1, x2, x3⟩ := g1.box
      refine bodyPost_ret (v := .agg #[.int .u8 5, .string ⟨#[]⟩, .slice (some ⟨w.heap.size + 1, 0, none⟩) i i, .slice none 0 0]) (by simp [results, Tryz.results112, go_sem, x0, x1, x2, x3]) rfl ?_
      have hlt := HF.out.2.2.2
      have hg := HG.out
      exact ⟨_, rfl, HF.out.1.fre (fun b hb => by omega) (fun b hb _ => hw3 b (by omega)), (HB.out.2.1.trans (HF.out.2.2.1.mono HB.out.2.1.size)).trans g3'⟩
end Go.Proofs.YtbkciiogkgndiaaGreatDoor
