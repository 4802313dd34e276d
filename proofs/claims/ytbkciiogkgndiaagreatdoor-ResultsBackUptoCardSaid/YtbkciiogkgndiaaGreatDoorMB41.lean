/- Results in full, and what has changed. Conditions: an ID of at most 10^7 bytes, at most 10^6 numbers and splices; the library's tables. -/
import Derived.Test.YtbkciiogkgndiaaGreatDoorMB40
namespace Go.Proofs.YtbkciiogkgndiaaGreatDoor
open Go Go.RowKit Go.Lib

set_option maxRecDepth 100000 in
set_option maxHeartbeats 1000000 in
theorem listSp_nil (p : Option Addr) (c : Nat) (w : World) (hc : c ≤ 9223372036854775807) :
    Calls Tryz.prog 109 #[.slice p 0 c, .func (.func 110) #[] #[]] w (ListR .nil w) := by
  obtain ⟨i0, hi0, hz0, hz1, hz2⟩ := info_parts infoValue
  obtain ⟨M, hM⟩ : ∃ M, M = madeCells (Value.agg #[.int .u8 0, .string ⟨#[]⟩, .slice none 0 0, .slice none 0 0]).cells (((0 : Nat) : Int).toNat * i0.size) := ⟨_, rfl⟩
  have hMs : M.size = 0 * 4 := by rw [hM, size_madeCells, hz1, Int.toNat_natCast]
  have hmk : ∀ W : World, (Instr.makeSlice 22 (.int .i64 0) (.int .i64 0)).run Tryz.prog W = .ok (.slice (some ⟨W.heap.size, 0, none⟩) 0 0) (W.alloc (.cells M 25)) := fun W => by
    have h := run_make (P := Tryz.prog) W 22 25 i0 _ Tryz.underlying22 hi0 hz0 .i64 .i64 ((0 : Nat) : Int) ((0 : Nat) : Int) (by omega) (by omega) (by rw [hz2]; omega) (by omega)
    rw [← hM] at h
    simpa using h
  have hB0 := (Below.refl w.heap.size w).alloc (Nat.le_refl _) (.cells #[.int .u8 0, .string ⟨#[]⟩, .slice none 0 0, .slice none 0 0] 25)
  have b0 : Blk4 (w.alloc (.cells #[.int .u8 0, .string ⟨#[]⟩, .slice none 0 0, .slice none 0 0] 25)) w.heap.size 25 _ _ _ _ := heap_alloc_new _ _
  have hz0 := World.size_alloc w (.cells #[.int .u8 0, .string ⟨#[]⟩, .slice none 0 0, .slice none 0 0] 25)
  have HB := Lib.hid (And.intro b0 (And.intro hB0 hz0))
  clear hM hB0 b0 hz0
  go_enter Tryz.func109, Tryz.ntmps109
  go_wp2_with fail
  generalize w.alloc (.cells #[.int .u8 0, .string ⟨#[]⟩, .slice none 0 0, .slice none 0 0] 25) = w1 at *
  have hB1 := (Below.refl w1.heap.size w1).alloc (Nat.le_refl _) (.cells M 25)
  have hg : w1.heap.size = w.heap.size + 1 := HB.out.2.2
  have HC := Lib.hid (show LsSt w1 w.heap.size (w.heap.size + 1) .nil 0 M (w1.alloc (.cells M 25)) from
    ⟨⟨hB1, hg ▸ heap_alloc_new _ _, by rw [hMs]; rfl, Nat.le_of_eq hg, by rw [Nat.zero_mul, List.take_zero]; exact RP.nil _ _ _ _⟩, HB.out.1.same (hB1.block _ HB.out.1.lt), HB.out.1.lt⟩)
  generalize w1.alloc (.cells M 25) = W0 at *
  have HG := Lib.hid hg
  clear hB1 hMs hmk hg
  go_loopw [13] (fun p wr => ∃ i : Nat, p = .int .i64 i ∧ i ≤ 0 ∧ Hid (∃ cur, LsSt w1 w.heap.size (w.heap.size + 1) .nil i cur wr)) (fun p _ => 0 - (RowKit.intOf p).toNat)
  case atStart => exact ⟨0, rfl, Nat.zero_le _, Lib.hid ⟨_, HC.out⟩⟩
  case round =>
    obtain ⟨i, rfl, hi, HR⟩ := hrel
    obtain ⟨cur, hR⟩ := HR.out
    obtain rfl : i = 0 := by omega
    clear HR
    have hw := CaSt.whole (t := .nil) hR.ca (by decide)
    have hb2 := hR.box
    have HF := Lib.hid (And.intro hw (And.intro hb2 (And.intro hR.ca.below hR.lt)))
    obtain ⟨x0, x1, x2, x3⟩ := hb2.box
    have f0 := hb2.free 0
    have f1 := hb2.free 1
    have f2 := hb2.free 2
    have f3 := hb2.free 3
    clear hw hR hb2
    go_wp2_with fail
    obtain ⟨g1, g2, g3⟩ := HF.out.2.1.all (.int .u8 5) (.string ⟨#[]⟩) (.slice (some ⟨w.heap.size + 1, 0, none⟩) 0 0) (.slice none 0 0)
    have hw3 := set4_else wr w.heap.size (.int .u8 5) (.string ⟨#[]⟩) (.slice (some ⟨w.heap.size + 1, 0, none⟩) 0 0) (.slice none 0 0)
    have g3' := g3 w.heap.size (Nat.le_refl _)
    clear x0 x1 x2 x3 f0 f1 f2 f3
    generalize (((wr.setCell ⟨w.heap.size, 0, none⟩ (.int .u8 5)).setCell ⟨w.heap.size, 1, none⟩ (.string ⟨#[]⟩)).setCell ⟨w.heap.size, 2, none⟩ (.slice (some ⟨w.heap.size + 1, 0, none⟩) 0 0)).setCell ⟨w.heap.size, 3, none⟩ (.slice none 0 0) = w3 at *
    obtain ⟨x0, x1, x2, x3⟩ := g1.box
    refine bodyPost_ret (v := .agg #[.int .u8 5, .string ⟨#[]⟩, .slice (some ⟨w.heap.size + 1, 0, none⟩) 0 0, .slice none 0 0]) (by simp [results, Tryz.results109, go_sem, x0, x1, x2, x3]) rfl ?_
    have hlt := HF.out.2.2.2
    have hg := HG.out
    exact ⟨_, rfl, HF.out.1.fre (fun b hb => by omega) (fun b hb _ => hw3 b (by omega)), (HB.out.2.1.trans (HF.out.2.2.1.mono HB.out.2.1.size)).trans g3'⟩

set_option maxRecDepth 100000 in
set_option maxHeartbeats 1000000 in
theorem listFo_nil (p : Option Addr) (c : Nat) (w : World) (hc : c ≤ 9223372036854775807) :
    Calls Tryz.prog 112 #[.slice p 0 c, .func (.func 113) #[] #[]] w (ListR .nil w) := by
  obtain ⟨i0, hi0, hz0, hz1, hz2⟩ := info_parts infoValue
  obtain ⟨M, hM⟩ : ∃ M, M = madeCells (Value.agg #[.int .u8 0, .string ⟨#[]⟩, .slice none 0 0, .slice none 0 0]).cells (((0 : Nat) : Int).toNat * i0.size) := ⟨_, rfl⟩
  have hMs : M.size = 0 * 4 := by rw [hM, size_madeCells, hz1, Int.toNat_natCast]
  have hmk : ∀ W : World, (Instr.makeSlice 22 (.int .i64 0) (.int .i64 0)).run Tryz.prog W = .ok (.slice (some ⟨W.heap.size, 0, none⟩) 0 0) (W.alloc (.cells M 25)) := fun W => by
    have h := run_make (P := Tryz.prog) W 22 25 i0 _ Tryz.underlying22 hi0 hz0 .i64 .i64 ((0 : Nat) : Int) ((0 : Nat) : Int) (by omega) (by omega) (by rw [hz2]; omega) (by omega)
    rw [← hM] at h
    simpa using h
  have hB0 := (Below.refl w.heap.size w).alloc (Nat.le_refl _) (.cells #[.int .u8 0, .string ⟨#[]⟩, .slice none 0 0, .slice none 0 0] 25)
  have b0 : Blk4 (w.alloc (.cells #[.int .u8 0, .string ⟨#[]⟩, .slice none 0 0, .slice none 0 0] 25)) w.heap.size 25 _ _ _ _ := heap_alloc_new _ _
  have hz0 := World.size_alloc w (.cells #[.int .u8 0, .string ⟨#[]⟩, .slice none 0 0, .slice none 0 0] 25)
  have HB := Lib.hid (And.intro b0 (And.intro hB0 hz0))
  clear hM hB0 b0 hz0
  go_enter Tryz.func112, Tryz.ntmps112
  go_wp2_with fail
  generalize w.alloc (.cells #[.int .u8 0, .string ⟨#[]⟩, .slice none 0 0, .slice none 0 0] 25) = w1 at *
  have hB1 := (Below.refl w1.heap.size w1).alloc (Nat.le_refl _) (.cells M 25)
  have hg : w1.heap.size = w.heap.size + 1 := HB.out.2.2
  have HC := Lib.hid (show LsSt w1 w.heap.size (w.heap.size + 1) .nil 0 M (w1.alloc (.cells M 25)) from
    ⟨⟨hB1, hg ▸ heap_alloc_new _ _, by rw [hMs]; rfl, Nat.le_of_eq hg, by rw [Nat.zero_mul, List.take_zero]; exact RP.nil _ _ _ _⟩, HB.out.1.same (hB1.block _ HB.out.1.lt), HB.out.1.lt⟩)
  generalize w1.alloc (.cells M 25) = W0 at *
  have HG := Lib.hid hg
  clear hB1 hMs hmk hg
  go_loopw [13] (fun p wr => ∃ i : Nat, p = .int .i64 i ∧ i ≤ 0 ∧ Hid (∃ cur, LsSt w1 w.heap.size (w.heap.size + 1) .nil i cur wr)) (fun p _ => 0 - (RowKit.intOf p).toNat)
  case atStart => exact ⟨0, rfl, Nat.zero_le _, Lib.hid ⟨_, HC.out⟩⟩
  case round =>
    obtain ⟨i, rfl, hi, HR⟩ := hrel
    obtain ⟨cur, hR⟩ := HR.out
    obtain rfl : i = 0 := by omega
    clear HR
    have hw := CaSt.whole (t := .nil) hR.ca (by decide)
    have hb2 := hR.box
    have HF := Lib.hid (And.intro hw (And.intro hb2 (And.intro hR.ca.below hR.lt)))
    obtain ⟨x0, x1, x2, x3⟩ := hb2.box
    have f0 := hb2.free 0
    have f1 := hb2.free 1
    have f2 := hb2.free 2
    have f3 := hb2.free 3
    clear hw hR hb2
    go_wp2_with fail
    obtain ⟨g1, g2, g3⟩ := HF.out.2.1.all (.int .u8 5) (.string ⟨#[]⟩) (.slice (some ⟨w.heap.size + 1, 0, none⟩) 0 0) (.slice none 0 0)
    have hw3 := set4_else wr w.heap.size (.int .u8 5) (.string ⟨#[]⟩) (.slice (some ⟨w.heap.size + 1, 0, none⟩) 0 0) (.slice none 0 0)
    have g3' := g3 w.heap.size (Nat.le_refl _)
    clear x0 x1 x2 x3 f0 f1 f2 f3
    generalize (((wr.setCell ⟨w.heap.size, 0, none⟩ (.int .u8 5)).setCell ⟨w.heap.size, 1, none⟩ (.string ⟨#[]⟩)).setCell ⟨w.heap.size, 2, none⟩ (.slice (some ⟨w.heap.size + 1, 0, none⟩) 0 0)).setCell ⟨w.heap.size, 3, none⟩ (.slice none 0 0) = w3 at *
    obtain ⟨x0, x1, x2, x3⟩ := g1.box
    refine bodyPost_ret (v := .agg #[.int .u8 5, .string ⟨#[]⟩, .slice (some ⟨w.heap.size + 1, 0, none⟩) 0 0, .slice none 0 0]) (by simp [results, Tryz.results112, go_sem, x0, x1, x2, x3]) rfl ?_
    have hlt := HF.out.2.2.2
    have hg := HG.out
    exact ⟨_, rfl, HF.out.1.fre (fun b hb => by omega) (fun b hb _ => hw3 b (by omega)), (HB.out.2.1.trans (HF.out.2.2.1.mono HB.out.2.1.size)).trans g3'⟩

/-- splices as they lie behind a slice -/
def SrcS (w : World) (v : Value) (l : List Sp) : Prop := (l = [] ∧ ∃ p c, v = .slice p 0 c ∧ c ≤ 9223372036854775807) ∨ ∃ b o c, v = .slice (some ⟨b, o, none⟩) l.length c ∧ l.length ≤ c ∧ c ≤ 9223372036854775807 ∧ b < w.heap.size ∧ (∀ (j : Nat) (e : Sp), l[j]? = some e → w.cell? ⟨b, o + j * 3, none⟩ = some (.int .i64 e.st) ∧ w.cell? ⟨b, o + j * 3 + 1, none⟩ = some (.int .i64 e.de) ∧ w.cell? ⟨b, o + j * 3 + 2, none⟩ = some (.slice e.p e.n e.c)) ∧ ∀ e ∈ l, SpOk w e
theorem SrcS.below {w w' : World} {v : Value} {l : List Sp} (h : SrcS w v l) (hB : Below w.heap.size w w') : SrcS w' v l := by
  rcases h with h | ⟨b, o, c, h1, h2, h3, h4, h5, h6⟩
  · exact .inl h
  · exact .inr ⟨b, o, c, h1, h2, h3, Nat.lt_of_lt_of_le h4 hB.size, fun j e hj => ⟨(hB.cell (p := ⟨b, o + j * 3, none⟩) h4).trans (h5 j e hj).1, (hB.cell (p := ⟨b, o + j * 3 + 1, none⟩) h4).trans (h5 j e hj).2.1, (hB.cell (p := ⟨b, o + j * 3 + 2, none⟩) h4).trans (h5 j e hj).2.2⟩, fun e he => SpOk_below hB (h6 e he)⟩
theorem listS_any (v : Value) (l : List Sp) (w : World) (h : SrcS w v l) (hn : l.length ≤ 1000000) (hP : PowTab w) :
    Calls Tryz.prog 109 #[v, .func (.func 110) #[] #[]] w (ListR (listSpT l) w) := by
  rcases h with ⟨rfl, p, c, rfl, hc⟩ | ⟨b, o, c, rfl, h2, h3, h4, h5, h6⟩
  · exact listSp_nil p c w hc
  · exact listSp b o c l w ⟨h2, h3⟩ hn (fun _ => h4) h5 h6 hP
def full_anyT (id : ByteArray) (li : List Int) : V.T := .cons ⟨#[114, 101, 115, 117, 108, 116, 73, 100]⟩ 4 (U.fixS id) .nil .nil (.cons ⟨#[100, 97, 116, 97]⟩ 5 ⟨#[]⟩ (nmT li) .nil .nil)
set_option maxHeartbeats 2000000 in
set_option maxRecDepth 100000 in
theorem full_any (id : ByteArray) (p : Option Addr) (n c : Nat) (li : List Int) (N : Nat) (w : World) (hid : id.size ≤ 10000000) (h_src : SrcI w (.slice p n c) li) (h_len : li.length ≤ 1000000) (hN : N ≤ w.heap.size) (hP : PowTab w) (hT : Tabs w) : Calls Tryz.prog 47 #[.string id, .slice p n c] w (RetV N 6 ⟨#[]⟩ .nil (full_anyT id li) w) := by
  have hfz := U.fix_size id
  have HPo := Lib.hid (fun W (h : Below w.heap.size w W) => pow_below hP h)
  have HX := Lib.hid (fun W (h : Below w.heap.size w W) => text4_any id W (by omega) (by omega) (tabs_below hT h))
  have HC2 := Lib.hid (fun W (hB : Below w.heap.size w W) (hN2 : w.heap.size + 1 ≤ W.heap.size) => (show Calls Tryz.prog 108 #[.slice p n c] W (RetV (w.heap.size + 1) 5 ⟨#[]⟩ (nmT li) .nil W) from numbers_any p n c li (w.heap.size + 1) W hN2 (h_src.below hB) h_len (HPo.out W hB)))
  have hB0 := (Below.refl w.heap.size w).alloc (Nat.le_refl _) (.cells #[.int .u8 0, .string ⟨#[]⟩, .slice none 0 0, .slice none 0 0] 25)
  have b0 : Blk4 (w.alloc (.cells #[.int .u8 0, .string ⟨#[]⟩, .slice none 0 0, .slice none 0 0] 25)) w.heap.size 25 _ _ _ _ := heap_alloc_new _ _
  have hs0 := World.size_alloc w (.cells #[.int .u8 0, .string ⟨#[]⟩, .slice none 0 0, .slice none 0 0] 25)
  have H0 := Lib.hid (And.intro b0 (And.intro hB0 hs0))
  clear hB0 b0 hs0 hP hT h_src h_len
  go_enter Tryz.func47, Tryz.ntmps47
  go_upto_region 1 with fail
  generalize w.alloc (.cells #[.int .u8 0, .string ⟨#[]⟩, .slice none 0 0, .slice none 0 0] 25) = W0 at *
  go_wp2_with fail
  refine (HX.out W0 H0.out.2.1).mono ?_
  rintro e w1 ⟨rfl, hB1⟩
  have hb1 := H0.out.2.1.trans (hB1.mono H0.out.2.1.size)
  have H1 := Lib.hid (And.intro (H0.out.1.same (hB1.block _ H0.out.1.lt)) (And.intro hb1 (show w.heap.size + 1 ≤ w1.heap.size from by have := hB1.size; have := H0.out.2.2; omega)))
  clear hB1 hb1
  go_wp2_with fail
  refine (HC2.out w1 H1.out.2.1 H1.out.2.2).mono ?_
  rintro e w2 ⟨y, rfl, ⟨p1, n1, c1, q1, m1, d1, rfl, hl1, hf1⟩, hB2⟩
  have hps := psf_new (cs := #[.iface 9 (.string ⟨#[114, 101, 115, 117, 108, 116, 73, 100]⟩), .iface 25 (.agg #[.int .u8 4, .string (U.fixS id), .slice none 0 0, .slice none 0 0]), .iface 9 (.string ⟨#[100, 97, 116, 97]⟩), .iface 25 (.agg #[.int .u8 5, .string ⟨#[]⟩, .slice p1 n1 c1, .slice q1 m1 d1])]) (N := w.heap.size + 1) (W := w2) (t := 20) (T := full_anyT id li) (m := 2) [vPt ⟨#[114, 101, 115, 117, 108, 116, 73, 100]⟩ 4 (U.fixS id) (.slice none 0 0) (.slice none 0 0) .nil .nil, vPt ⟨#[100, 97, 116, 97]⟩ 5 ⟨#[]⟩ (.slice p1 n1 c1) (.slice q1 m1 d1) (nmT li) .nil] rfl rfl rfl (fun p hp => by
    simp only [List.mem_cons, List.not_mem_nil, or_false] at hp
    rcases hp with rfl | rfl
    · exact vPt_ok ⟨by decide, by omega, by decide⟩ (HS.nil _ _ _) (HS.nil _ _ _)
    · exact vPt_ok ⟨by decide, by decide, by decide⟩ hl1 hf1)
  have hB3 := (Below.refl w2.heap.size w2).alloc (Nat.le_refl _) (.cells #[.iface 9 (.string ⟨#[114, 101, 115, 117, 108, 116, 73, 100]⟩), .iface 25 (.agg #[.int .u8 4, .string (U.fixS id), .slice none 0 0, .slice none 0 0]), .iface 9 (.string ⟨#[100, 97, 116, 97]⟩), .iface 25 (.agg #[.int .u8 5, .string ⟨#[]⟩, .slice p1 n1 c1, .slice q1 m1 d1])] 20)
  have hBB := hB2.trans (hB3.mono hB2.size)
  have hbw := H1.out.2.1.trans (hBB.mono H1.out.2.1.size)
  have hob := obj_ret (N := w.heap.size + 1) (by have := hBB.size; have := H1.out.2.2; omega) (by decide) hps (HPo.out _ hbw)
  have H3 := Lib.hid (And.intro hob (And.intro (H1.out.1.same (hBB.block _ H1.out.1.lt)) hbw))
  clear hps hB3 hBB hbw hob hB2 hl1 hf1
  go_wp2_with fail
  generalize w2.alloc (.cells #[.iface 9 (.string ⟨#[114, 101, 115, 117, 108, 116, 73, 100]⟩), .iface 25 (.agg #[.int .u8 4, .string (U.fixS id), .slice none 0 0, .slice none 0 0]), .iface 9 (.string ⟨#[100, 97, 116, 97]⟩), .iface 25 (.agg #[.int .u8 5, .string ⟨#[]⟩, .slice p1 n1 c1, .slice q1 m1 d1])] 20) = w3 at *
  refine H3.out.1.mono ?_
  rintro e w4 ⟨y, rfl, ⟨p4, n4, c4, q4, m4, d4, rfl, h1, h2⟩, hB4⟩
  have b2 := H3.out.2.1.same (hB4.block _ H3.out.2.1.lt)
  have H4 := Lib.hid (And.intro h1 (And.intro h2 (And.intro b2 (H3.out.2.2.trans (hB4.mono H3.out.2.2.size)))))
  obtain ⟨x0, x1, x2, x3⟩ := b2.box
  have f0 := b2.free 0
  have f1 := b2.free 1
  have f2 := b2.free 2
  have f3 := b2.free 3
  clear h1 h2 b2 hB4
  go_wp2_with fail
  obtain ⟨g1, g2, g3⟩ := H4.out.2.2.1.all (.int .u8 6) (.string ⟨#[]⟩) (.slice p4 n4 c4) (.slice q4 m4 d4)
  have hw3 := set4_else w4 w.heap.size (.int .u8 6) (.string ⟨#[]⟩) (.slice p4 n4 c4) (.slice q4 m4 d4)
  have g3' := g3 w.heap.size (Nat.le_refl _)
  clear x0 x1 x2 x3 f0 f1 f2 f3
  generalize (((w4.setCell ⟨w.heap.size, 0, none⟩ (.int .u8 6)).setCell ⟨w.heap.size, 1, none⟩ (.string ⟨#[]⟩)).setCell ⟨w.heap.size, 2, none⟩ (.slice p4 n4 c4)).setCell ⟨w.heap.size, 3, none⟩ (.slice q4 m4 d4) = w5 at *
  obtain ⟨x0, x1, x2, x3⟩ := g1.box
  refine bodyPost_ret (v := .agg #[.int .u8 6, .string ⟨#[]⟩, .slice p4 n4 c4, .slice q4 m4 d4]) (by simp [results, Tryz.results47, go_sem, x0, x1, x2, x3]) rfl ?_
  exact ⟨_, rfl, VF.mk (H4.out.1.fre (fun b hb => by omega) (fun b hb _ => hw3 b (by omega))) (H4.out.2.1.fre (fun b hb => by omega) (fun b hb _ => hw3 b (by omega))), H4.out.2.2.2.trans g3'⟩
def delta_anyT (id : ByteArray) (ls : List Sp) : V.T := .cons ⟨#[114, 101, 115, 117, 108, 116, 73, 100]⟩ 4 (U.fixS id) .nil .nil (.cons ⟨#[101, 100, 105, 116, 115]⟩ 5 ⟨#[]⟩ (listSpT ls) .nil .nil)
set_option maxHeartbeats 2000000 in
set_option maxRecDepth 100000 in
theorem delta_any (id : ByteArray) (p : Option Addr) (n c : Nat) (ls : List Sp) (N : Nat) (w : World) (hid : id.size ≤ 10000000) (h_src : SrcS w (.slice p n c) ls) (h_len : ls.length ≤ 1000000) (hN : N ≤ w.heap.size) (hP : PowTab w) (hT : Tabs w) : Calls Tryz.prog 48 #[.string id, .slice p n c] w (RetV N 6 ⟨#[]⟩ .nil (delta_anyT id ls) w) := by
  have hfz := U.fix_size id
  have HPo := Lib.hid (fun W (h : Below w.heap.size w W) => pow_below hP h)
  have HX := Lib.hid (fun W (h : Below w.heap.size w W) => text4_any id W (by omega) (by omega) (tabs_below hT h))
  have HC2 := Lib.hid (fun W (hB : Below w.heap.size w W) (hN2 : w.heap.size + 1 ≤ W.heap.size) => (show Calls Tryz.prog 109 #[.slice p n c, .func (.func 110) #[] #[]] W (RetV (w.heap.size + 1) 5 ⟨#[]⟩ (listSpT ls) .nil W) from (listS_any (.slice p n c) ls W (h_src.below hB) h_len (HPo.out W hB)).mono (fun _ _ h => list_ret hN2 h)))
  have hB0 := (Below.refl w.heap.size w).alloc (Nat.le_refl _) (.cells #[.int .u8 0, .string ⟨#[]⟩, .slice none 0 0, .slice none 0 0] 25)
  have b0 : Blk4 (w.alloc (.cells #[.int .u8 0, .string ⟨#[]⟩, .slice none 0 0, .slice none 0 0] 25)) w.heap.size 25 _ _ _ _ := heap_alloc_new _ _
  have hs0 := World.size_alloc w (.cells #[.int .u8 0, .string ⟨#[]⟩, .slice none 0 0, .slice none 0 0] 25)
  have H0 := Lib.hid (And.intro b0 (And.intro hB0 hs0))
  clear hB0 b0 hs0 hP hT h_src h_len
  go_enter Tryz.func48, Tryz.ntmps48
  go_upto_region 1 with fail
  generalize w.alloc (.cells #[.int .u8 0, .string ⟨#[]⟩, .slice none 0 0, .slice none 0 0] 25) = W0 at *
  go_wp2_with fail
  refine (HX.out W0 H0.out.2.1).mono ?_
  rintro e w1 ⟨rfl, hB1⟩
  have hb1 := H0.out.2.1.trans (hB1.mono H0.out.2.1.size)
  have H1 := Lib.hid (And.intro (H0.out.1.same (hB1.block _ H0.out.1.lt)) (And.intro hb1 (show w.heap.size + 1 ≤ w1.heap.size from by have := hB1.size; have := H0.out.2.2; omega)))
  clear hB1 hb1
  go_wp2_with fail
  refine (HC2.out w1 H1.out.2.1 H1.out.2.2).mono ?_
  rintro e w2 ⟨y, rfl, ⟨p1, n1, c1, q1, m1, d1, rfl, hl1, hf1⟩, hB2⟩
  have hps := psf_new (cs := #[.iface 9 (.string ⟨#[114, 101, 115, 117, 108, 116, 73, 100]⟩), .iface 25 (.agg #[.int .u8 4, .string (U.fixS id), .slice none 0 0, .slice none 0 0]), .iface 9 (.string ⟨#[101, 100, 105, 116, 115]⟩), .iface 25 (.agg #[.int .u8 5, .string ⟨#[]⟩, .slice p1 n1 c1, .slice q1 m1 d1])]) (N := w.heap.size + 1) (W := w2) (t := 20) (T := delta_anyT id ls) (m := 2) [vPt ⟨#[114, 101, 115, 117, 108, 116, 73, 100]⟩ 4 (U.fixS id) (.slice none 0 0) (.slice none 0 0) .nil .nil, vPt ⟨#[101, 100, 105, 116, 115]⟩ 5 ⟨#[]⟩ (.slice p1 n1 c1) (.slice q1 m1 d1) (listSpT ls) .nil] rfl rfl rfl (fun p hp => by
    simp only [List.mem_cons, List.not_mem_nil, or_false] at hp
    rcases hp with rfl | rfl
    · exact vPt_ok ⟨by decide, by omega, by decide⟩ (HS.nil _ _ _) (HS.nil _ _ _)
    · exact vPt_ok ⟨by decide, by decide, by decide⟩ hl1 hf1)
  have hB3 := (Below.refl w2.heap.size w2).alloc (Nat.le_refl _) (.cells #[.iface 9 (.string ⟨#[114, 101, 115, 117, 108, 116, 73, 100]⟩), .iface 25 (.agg #[.int .u8 4, .string (U.fixS id), .slice none 0 0, .slice none 0 0]), .iface 9 (.string ⟨#[101, 100, 105, 116, 115]⟩), .iface 25 (.agg #[.int .u8 5, .string ⟨#[]⟩, .slice p1 n1 c1, .slice q1 m1 d1])] 20)
  have hBB := hB2.trans (hB3.mono hB2.size)
  have hbw := H1.out.2.1.trans (hBB.mono H1.out.2.1.size)
  have hob := obj_ret (N := w.heap.size + 1) (by have := hBB.size; have := H1.out.2.2; omega) (by decide) hps (HPo.out _ hbw)
  have H3 := Lib.hid (And.intro hob (And.intro (H1.out.1.same (hBB.block _ H1.out.1.lt)) hbw))
  clear hps hB3 hBB hbw hob hB2 hl1 hf1
  go_wp2_with fail
  generalize w2.alloc (.cells #[.iface 9 (.string ⟨#[114, 101, 115, 117, 108, 116, 73, 100]⟩), .iface 25 (.agg #[.int .u8 4, .string (U.fixS id), .slice none 0 0, .slice none 0 0]), .iface 9 (.string ⟨#[101, 100, 105, 116, 115]⟩), .iface 25 (.agg #[.int .u8 5, .string ⟨#[]⟩, .slice p1 n1 c1, .slice q1 m1 d1])] 20) = w3 at *
  refine H3.out.1.mono ?_
  rintro e w4 ⟨y, rfl, ⟨p4, n4, c4, q4, m4, d4, rfl, h1, h2⟩, hB4⟩
  have b2 := H3.out.2.1.same (hB4.block _ H3.out.2.1.lt)
  have H4 := Lib.hid (And.intro h1 (And.intro h2 (And.intro b2 (H3.out.2.2.trans (hB4.mono H3.out.2.2.size)))))
  obtain ⟨x0, x1, x2, x3⟩ := b2.box
  have f0 := b2.free 0
  have f1 := b2.free 1
  have f2 := b2.free 2
  have f3 := b2.free 3
  clear h1 h2 b2 hB4
  go_wp2_with fail
  obtain ⟨g1, g2, g3⟩ := H4.out.2.2.1.all (.int .u8 6) (.string ⟨#[]⟩) (.slice p4 n4 c4) (.slice q4 m4 d4)
  have hw3 := set4_else w4 w.heap.size (.int .u8 6) (.string ⟨#[]⟩) (.slice p4 n4 c4) (.slice q4 m4 d4)
  have g3' := g3 w.heap.size (Nat.le_refl _)
  clear x0 x1 x2 x3 f0 f1 f2 f3
  generalize (((w4.setCell ⟨w.heap.size, 0, none⟩ (.int .u8 6)).setCell ⟨w.heap.size, 1, none⟩ (.string ⟨#[]⟩)).setCell ⟨w.heap.size, 2, none⟩ (.slice p4 n4 c4)).setCell ⟨w.heap.size, 3, none⟩ (.slice q4 m4 d4) = w5 at *
  obtain ⟨x0, x1, x2, x3⟩ := g1.box
  refine bodyPost_ret (v := .agg #[.int .u8 6, .string ⟨#[]⟩, .slice p4 n4 c4, .slice q4 m4 d4]) (by simp [results, Tryz.results48, go_sem, x0, x1, x2, x3]) rfl ?_
  exact ⟨_, rfl, VF.mk (H4.out.1.fre (fun b hb => by omega) (fun b hb _ => hw3 b (by omega))) (H4.out.2.1.fre (fun b hb => by omega) (fun b hb _ => hw3 b (by omega))), H4.out.2.2.2.trans g3'⟩
end Go.Proofs.YtbkciiogkgndiaaGreatDoor

namespace Go.Proofs.YtbkciiogkgndiaaGreatDoor
open Go Go.RowKit Go.Lib

/-- folds as they lie behind a slice -/
def SrcF (w : World) (v : Value) (l : List Fo) : Prop := (l = [] ∧ ∃ p c, v = .slice p 0 c ∧ c ≤ 9223372036854775807) ∨ ∃ b o c, v = .slice (some ⟨b, o, none⟩) l.length c ∧ l.length ≤ c ∧ c ≤ 9223372036854775807 ∧ b < w.heap.size ∧ (∀ (j : Nat) (e : Fo), l[j]? = some e → w.cell? ⟨b, o + j * 3, none⟩ = some (.int .i64 e.a) ∧ w.cell? ⟨b, o + j * 3 + 1, none⟩ = some (.int .i64 e.b) ∧ w.cell? ⟨b, o + j * 3 + 2, none⟩ = some (.bool e.cm)) ∧ ∀ e ∈ l, FoOk w e
theorem SrcF.below {w w' : World} {v : Value} {l : List Fo} (h : SrcF w v l) (hB : Below w.heap.size w w') : SrcF w' v l := by
  rcases h with h | ⟨b, o, c, h1, h2, h3, h4, h5, h6⟩
  · exact .inl h
  · exact .inr ⟨b, o, c, h1, h2, h3, Nat.lt_of_lt_of_le h4 hB.size, fun j e hj => ⟨(hB.cell (p := ⟨b, o + j * 3, none⟩) h4).trans (h5 j e hj).1, (hB.cell (p := ⟨b, o + j * 3 + 1, none⟩) h4).trans (h5 j e hj).2.1, (hB.cell (p := ⟨b, o + j * 3 + 2, none⟩) h4).trans (h5 j e hj).2.2⟩, fun e he => FoOk_below hB (h6 e he)⟩
theorem listF_any (v : Value) (l : List Fo) (w : World) (h : SrcF w v l) (hn : l.length ≤ 1000000) (hP : PowTab w) (hT : Tabs w) :
    Calls Tryz.prog 112 #[v, .func (.func 113) #[] #[]] w (ListR (listFoT l) w) := by
  rcases h with ⟨rfl, p, c, rfl, hc⟩ | ⟨b, o, c, rfl, h2, h3, h4, h5, h6⟩
  · exact listFo_nil p c w hc
  · exact listFo b o c l w ⟨h2, h3⟩ hn (fun _ => h4) h5 h6 hP hT
set_option maxHeartbeats 1000000 in
set_option maxRecDepth 100000 in
theorem folds_any (p : Option Addr) (n c : Nat) (l : List Fo) (N : Nat) (w : World) (hN : N ≤ w.heap.size) (h : SrcF w (.slice p n c) l) (hn : l.length ≤ 1000000) (hP : PowTab w) (hT : Tabs w) :
    Calls Tryz.prog 53 #[.slice p n c] w (RetV N 5 ⟨#[]⟩ (listFoT l) .nil w) := by
  have hB0 := (Below.refl w.heap.size w).alloc (Nat.le_refl _) (.cells #[.int .u8 0, .string ⟨#[]⟩, .slice none 0 0, .slice none 0 0] 25)
  have b0 : Blk4 (w.alloc (.cells #[.int .u8 0, .string ⟨#[]⟩, .slice none 0 0, .slice none 0 0] 25)) w.heap.size 25 _ _ _ _ := heap_alloc_new _ _
  have HC := Lib.hid (listF_any (.slice p n c) l _ (h.below hB0) hn (pow_below hP hB0) (tabs_below hT hB0))
  have hs0 := World.size_alloc w (.cells #[.int .u8 0, .string ⟨#[]⟩, .slice none 0 0, .slice none 0 0] 25)
  have H0 := Lib.hid (And.intro b0 (And.intro hB0 hs0))
  clear hB0 b0 hs0 h hP hT
  go_enter Tryz.func53, Tryz.ntmps53
  go_wp2_with fail
  refine HC.out.mono ?_
  rintro e w1 ⟨v, rfl, hv, hB⟩
  obtain ⟨q, d, rfl, -⟩ := hv.len
  have b1 := H0.out.1.same (hB.block _ H0.out.1.lt)
  have H1 := Lib.hid (And.intro hv (And.intro b1 (H0.out.2.1.trans (hB.mono H0.out.2.1.size))))
  obtain ⟨x0, x1, x2, x3⟩ := b1.box
  have f0 := b1.free 0
  have f1 := b1.free 1
  have f2 := b1.free 2
  have f3 := b1.free 3
  clear hv hB b1 HC
  generalize (listFoT l).len = nl at *
  go_wp2_with fail
  obtain ⟨g1, g2, g3⟩ := H1.out.2.1.all (.int .u8 5) (.string ⟨#[]⟩) (.slice q nl d) (.slice none 0 0)
  have hw3 := set4_else w1 w.heap.size (.int .u8 5) (.string ⟨#[]⟩) (.slice q nl d) (.slice none 0 0)
  have g3' := g3 w.heap.size (Nat.le_refl _)
  clear x0 x1 x2 x3 f0 f1 f2 f3
  generalize (((w1.setCell ⟨w.heap.size, 0, none⟩ (.int .u8 5)).setCell ⟨w.heap.size, 1, none⟩ (.string ⟨#[]⟩)).setCell ⟨w.heap.size, 2, none⟩ (.slice q nl d)).setCell ⟨w.heap.size, 3, none⟩ (.slice none 0 0) = w3 at *
  obtain ⟨x0, x1, x2, x3⟩ := g1.box
  refine bodyPost_ret (v := .agg #[.int .u8 5, .string ⟨#[]⟩, .slice q nl d, .slice none 0 0]) (by simp [results, Tryz.results53, go_sem, x0, x1, x2, x3]) rfl ?_
  have hz := H0.out.2.2
  exact ⟨_, rfl, VF.mk (H1.out.1.fre (fun b hb => by omega) (fun b hb _ => hw3 b (by omega))) (HS.nil _ _ _), H1.out.2.2.trans g3'⟩
end Go.Proofs.YtbkciiogkgndiaaGreatDoor
