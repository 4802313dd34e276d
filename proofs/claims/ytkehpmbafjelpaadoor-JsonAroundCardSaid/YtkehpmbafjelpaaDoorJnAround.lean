/- The statement on blanks, brackets and braces around a text, walked: whatever the text, it answers true. Conditions: such as Go can hold; the library's tables as its text lays them. -/
import Derived.Test.YtkehpmbafjelpaaDoorJnAwake
import Derived.Test.YtkehpmbafjelpaaDoorJpAround
namespace Go.Proofs.YtkehpmbafjelpaaDoor
open Go Go.RowKit Go.Lib

theorem around_no' {s : ByteArray} (hs : s.size ≤ 20000) (h : ¬ (prsAll s).2.2 = 0) : ¬ (prsAll (bk1 ++ s ++ bk2)).2.2 = 0 := by
  have hz := (wide_at s).2.1
  unfold prsAll at h ⊢
  rw [if_neg (by omega)] at h
  rw [if_neg (by omega)]
  exact around_no h
theorem around_all {s : ByteArray} (hs : s.size ≤ 20000) (h : (prsAll s).2.2 = 0) : ∃ x, prsAll s = (x, 0, 0) ∧ prsAll (bk1 ++ s ++ bk2) = (x, 0, 0) ∧
    ((prsAll (inL s) = ((5, ⟨#[]⟩, .cons ⟨#[]⟩ 3 ⟨#[49]⟩ .nil .nil (.cons ⟨#[]⟩ x.1 x.2.1 x.2.2.1 x.2.2.2 .nil), .nil), 0, 0) ∧ prsAll (inO s) = ((6, ⟨#[]⟩, .nil, .cons ⟨#[107]⟩ x.1 x.2.1 x.2.2.1 x.2.2.2 .nil), 0, 0)) ∨
    ∃ q q', prsAll (inL s) = ((0, ⟨#[]⟩, .nil, .nil), q, 31) ∧ prsAll (inO s) = ((0, ⟨#[]⟩, .nil, .nil), q', 31)) := by
  have z1 := (wide_at s).2.1
  have z2 := (inL_at s).2.1
  have z3 := (inO_at s).2.2.1
  have e : ∀ t : ByteArray, t.size ≤ 200000 → prsAll t = prs t := fun t ht => by unfold prsAll; rw [if_neg (by omega)]
  rw [e s (by omega)] at h ⊢
  rw [e _ (show (bk1 ++ s ++ bk2).size ≤ _ by omega), e (inL s) (by omega), e (inO s) (by omega)]
  obtain ⟨hv, hp⟩ := prs_inv (s := s) (x := (prs s).1) (p := (prs s).2.1) (by rw [← h])
  refine ⟨(prs s).1, prs_of hv, around_yes hv, ?_⟩
  exact around_in hv

set_option maxHeartbeats 2000000 in
set_option maxRecDepth 100000 in
theorem aroundLaw_any (s : ByteArray) (w : World) (_hs : s.size ≤ 9223372036854775807) (hT : Tabs w) :
    Calls Tryd.prog 5 #[.string s] w (SaysTrue w) := by
  have ha := jsonAwake_any w hT
  have HT := Lib.hid hT
  clear hT
  by_cases hl : 20000 < s.size
  · go_enter Tryd.func5, Tryd.ntmps5
    go_wp2_with fail
    refine ha.mono ?_
    rintro e w1 ⟨rfl, hB1⟩
    go_wp2_with fail
    go_ret
    exact ⟨rfl, hB1⟩
  · have hp := fun W (hW : Tabs W) => Parse_any s W (by omega) hW
    have hp1 := fun W (hW : Tabs W) => Parse_any (bk1 ++ s ++ bk2) W (by have := (wide_at s).2.1; omega) hW
    by_cases h0 : (prsAll s).2.2 = 0
    · obtain ⟨x, e1, e2, hc⟩ := around_all (by omega) h0
      clear h0
      simp only [e1] at hp
      simp only [e2] at hp1
      clear e1 e2
      obtain ⟨k, x, l, f⟩ := x
      have hp2 := fun W (hW : Tabs W) => Parse_any (inL s) W (by have := (inL_at s).2.1; omega) hW
      have hp3 := fun W (hW : Tabs W) => Parse_any (inO s) W (by have := (inO_at s).2.2.1; omega) hW
      have hzL := (inL_at s).2.1
      have hzO := (inO_at s).2.2.1
      have hsv := V.veq_self k x l f
      have HP := Lib.hid (And.intro hp2 hp3)
      have HC := Lib.hid hc
      clear hp2 hp3 hc
      unfold ParseIs at hp hp1
      unfold bk1 bk2 at hp1
      unfold inL lb at hzL
      unfold inO o1 o2 at hzO
      dsimp only at hp hp1
      go_enter Tryd.func5, Tryd.ntmps5
      go_wp2_with fail
      refine ha.mono ?_
      rintro e w1 ⟨rfl, hB1⟩
      go_wp2_with fail
      refine (hp _ (tabs_below HT.out hB1)).mono ?_
      rintro e w2 ⟨v, u, rfl, hl2, hf2, hfit, hB2⟩
      obtain ⟨p2, c2, rfl, -⟩ := hl2.len
      obtain ⟨p3, c3, rfl, -⟩ := hf2.len
      have hB3 := hB1.trans (hB2.mono hB1.size)
      have hB4 := hB3.alloc hB3.size (.cells #[.int .u8 k, .string x, .slice p2 l.len c2, .slice p3 f.len c3] 25)
      have b4 : Blk4 (w2.alloc (.cells #[.int .u8 k, .string x, .slice p2 l.len c2, .slice p3 f.len c3] 25)) w2.heap.size 25 _ _ _ _ := heap_alloc_new _ _
      have l4 := hl2.alloc (.cells #[.int .u8 k, .string x, .slice p2 l.len c2, .slice p3 f.len c3] 25)
      have f4 := hf2.alloc (.cells #[.int .u8 k, .string x, .slice p2 l.len c2, .slice p3 f.len c3] 25)
      have H4 := Lib.hid (And.intro b4 (And.intro l4 f4))
      clear hl2 hf2 hp hB2 b4 l4 f4
      go_wp2_with fail
      refine (hp1 _ (tabs_below HT.out hB4)).mono ?_
      rintro e w5 ⟨v, u, rfl, hl5, hf5, -, hB5⟩
      obtain ⟨p4, c4, rfl, -⟩ := hl5.len
      obtain ⟨p5, c5, rfl, -⟩ := hf5.len
      have hB6 := hB4.trans (hB5.mono hB4.size)
      have hB7 := hB6.alloc hB6.size (.cells #[.int .u8 k, .string x, .slice p4 l.len c4, .slice p5 f.len c5] 25)
      have b7 : Blk4 (w5.alloc (.cells #[.int .u8 k, .string x, .slice p4 l.len c4, .slice p5 f.len c5] 25)) w5.heap.size 25 _ _ _ _ := heap_alloc_new _ _
      have l7 := hl5.alloc (.cells #[.int .u8 k, .string x, .slice p4 l.len c4, .slice p5 f.len c5] 25)
      have f7 := hf5.alloc (.cells #[.int .u8 k, .string x, .slice p4 l.len c4, .slice p5 f.len c5] 25)
      have B5 := hB5.alloc hB5.size (.cells #[.int .u8 k, .string x, .slice p4 l.len c4, .slice p5 f.len c5] 25)
      have a7 := H4.out.1.same (B5.block _ H4.out.1.lt)
      have m7 := H4.out.2.1.below B5
      have n7 := H4.out.2.2.below B5
      obtain ⟨y0, y1, y2, y3⟩ := a7.box
      obtain ⟨z0, z1, z2, z3⟩ := b7.box
      have hsame := same_any (l.size + f.size + 1) k x _ _ l f k x _ _ l f _ _ _ (Nat.lt_succ_self _) m7 n7 l7 f7
      rw [hsv] at hsame
      have H7 := Lib.hid (And.intro a7 (And.intro m7 n7))
      clear hl5 hf5 hp1 hB5 B5 a7 b7 l7 f7 m7 n7 H4
      go_wp2_with fail
      refine hsame.mono ?_
      rintro e w8 ⟨rfl, hB8⟩
      have hB9 := hB7.trans (hB8.mono hB7.size)
      have a8 := H7.out.1.same (hB8.block _ H7.out.1.lt)
      have m8 := H7.out.2.1.below hB8
      have n8 := H7.out.2.2.below hB8
      have H8 := Lib.hid (And.intro a8 (And.intro m8 n8))
      clear hsame hB8 a8 m8 n8 H7 y0 y1 y2 y3 z0 z1 z2 z3
      go_wp2_with fail
      have HB9 := Lib.hid hB9
      clear hB9
      rcases HC.out with ⟨hL, hO⟩ | ⟨q, q', hL, hO⟩
      · have hpL := HP.out.1 w8 (tabs_below HT.out HB9.out)
        have hpO := fun W (hW : Tabs W) => HP.out.2 W hW
        rw [hL] at hpL
        simp only [hO] at hpO
        unfold ParseIs inL lb at hpL
        unfold ParseIs inO o1 o2 at hpO
        dsimp only at hpL hpO
        clear hL hO HC HP
        refine hpL.mono ?_
        rintro e w9 ⟨v, u, rfl, hl9, hf9, -, hB9⟩
        obtain ⟨p6, c6, rfl, -⟩ := hl9.len
        obtain ⟨p7, c7, rfl, -⟩ := hf9.len
        have hL2 : (V.T.cons ⟨#[]⟩ 3 ⟨#[49]⟩ .nil .nil (.cons ⟨#[]⟩ k x l f .nil)).len = 2 := rfl
        have hN0 : V.T.nil.len = 0 := rfl
        rw [hL2] at hl9 ⊢
        rw [hN0] at hf9 ⊢
        have hBa := hB9.alloc hB9.size (.cells #[.int .u8 5, .string ⟨#[]⟩, .slice p6 2 c6, .slice p7 0 c7] 25)
        have Ha := Lib.hid (HB9.out.trans (hBa.mono HB9.out.size))
        have b9 : Blk4 (w9.alloc (.cells #[.int .u8 5, .string ⟨#[]⟩, .slice p6 2 c6, .slice p7 0 c7] 25)) w9.heap.size 25 _ _ _ _ := heap_alloc_new _ _
        have g9 := Lib.hid (And.intro b9 (And.intro (hl9.alloc (.cells #[.int .u8 5, .string ⟨#[]⟩, .slice p6 2 c6, .slice p7 0 c7] 25)) (And.intro (H8.out.1.same (hBa.block _ H8.out.1.lt)) (And.intro (H8.out.2.1.below hBa) (H8.out.2.2.below hBa)))))
        clear hpL hl9 hf9 hB9 hBa b9 H8
        go_wp2_with fail
        refine (hpO _ (tabs_below HT.out Ha.out)).mono ?_
        rintro e w11 ⟨v, u, rfl, hl11, hf11, -, hB11⟩
        obtain ⟨p8, c8, rfl, -⟩ := hl11.len
        obtain ⟨p9, c9, rfl, -⟩ := hf11.len
        have hF1 : (V.T.cons ⟨#[107]⟩ k x l f .nil).len = 1 := rfl
        rw [hN0] at hl11 ⊢
        rw [hF1] at hf11 ⊢
        have hBb := hB11.alloc hB11.size (.cells #[.int .u8 6, .string ⟨#[]⟩, .slice p8 0 c8, .slice p9 1 c9] 25)
        have Hb := Lib.hid (Ha.out.trans (hBb.mono Ha.out.size))
        have b11 : Blk4 (w11.alloc (.cells #[.int .u8 6, .string ⟨#[]⟩, .slice p8 0 c8, .slice p9 1 c9] 25)) w11.heap.size 25 _ _ _ _ := heap_alloc_new _ _
        have b9 := g9.out.1.same (hBb.block _ g9.out.1.lt)
        have l9 := g9.out.2.1.below hBb
        have a8 := g9.out.2.2.1.same (hBb.block _ g9.out.2.2.1.lt)
        have m8 := g9.out.2.2.2.1.below hBb
        have n8 := g9.out.2.2.2.2.below hBb
        have hg := get_any 6 ⟨#[]⟩ ⟨#[107]⟩ _ _ _ _ _ _ (hl11.mono (A' := fun _ => True) (fun _ _ _ => trivial) |>.alloc (.cells #[.int .u8 6, .string ⟨#[]⟩, .slice p8 0 c8, .slice p9 1 c9] 25)) (hf11.mono (A' := fun _ => True) (fun _ _ _ => trivial) |>.alloc (.cells #[.int .u8 6, .string ⟨#[]⟩, .slice p8 0 c8, .slice p9 1 c9] 25))
        rw [show V.got 6 (V.T.cons ⟨#[107]⟩ k x l f .nil) ⟨#[107]⟩ = some (k, x, l, f) by unfold V.got V.T.find; rw [if_pos rfl, if_pos rfl]] at hg
        unfold GotF at hg
        simp only [V.res] at hg
        obtain ⟨x0, x1, x2, x3⟩ := b9.box
        obtain ⟨y0, y1, y2, y3⟩ := b11.box
        have G := Lib.hid (And.intro b9 (And.intro l9 (And.intro a8 (And.intro m8 n8))))
        clear hpO hl11 hf11 hB11 hBb b11 b9 l9 a8 m8 n8 g9
        go_wp2_with fail
        refine hg.mono ?_
        rintro e w12 ⟨v, u, rfl, hl12, hf12, -, -, hB12⟩
        obtain ⟨p10, c10, rfl, -⟩ := hl12.len
        obtain ⟨p11, c11, rfl, -⟩ := hf12.len
        have hBc := hB12.alloc hB12.size (.cells #[.int .u8 k, .string x, .slice p10 l.len c10, .slice p11 f.len c11] 25)
        have Hc := Lib.hid (Hb.out.trans (hBc.mono Hb.out.size))
        have b12 : Blk4 (w12.alloc (.cells #[.int .u8 k, .string x, .slice p10 l.len c10, .slice p11 f.len c11] 25)) w12.heap.size 25 _ _ _ _ := heap_alloc_new _ _
        have b9 := G.out.1.same (hBc.block _ G.out.1.lt)
        have l9 := G.out.2.1.below hBc
        have a8 := G.out.2.2.1.same (hBc.block _ G.out.2.2.1.lt)
        have m8 := G.out.2.2.2.1.below hBc
        have n8 := G.out.2.2.2.2.below hBc
        have l12 := hl12.alloc (.cells #[.int .u8 k, .string x, .slice p10 l.len c10, .slice p11 f.len c11] 25)
        have f12 := hf12.alloc (.cells #[.int .u8 k, .string x, .slice p10 l.len c10, .slice p11 f.len c11] 25)
        obtain ⟨b, o, v1, u1, rfl, E⟩ := l9.elem (i := 1) (by rw [hL2]; decide) rfl
        obtain ⟨q3, d3, rfl, -⟩ := E.hl.len
        obtain ⟨q4, d4, rfl, -⟩ := E.hf.len
        have e1 := E.kind
        have e2 := E.text
        have e3 := E.list
        have e4 := E.fields
        simp only [Nat.one_mul, Nat.add_zero, Nat.add_assoc, Nat.reduceAdd] at e1 e2 e3 e4
        obtain ⟨x0, x1, x2, x3⟩ := b9.box
        obtain ⟨y0, y1, y2, y3⟩ := a8.box
        obtain ⟨z0, z1, z2, z3⟩ := b12.box
        have hs1 := fun W (hB : Below (w12.alloc (.cells #[.int .u8 k, .string x, .slice p10 l.len c10, .slice p11 f.len c11] 25)).heap.size (w12.alloc (.cells #[.int .u8 k, .string x, .slice p10 l.len c10, .slice p11 f.len c11] 25)) W) => same_any (l.size + f.size + 1) k x _ _ l f k x _ _ l f _ _ W (Nat.lt_succ_self _) (E.hl.below hB) (E.hf.below hB) (m8.below hB) (n8.below hB)
        have hs2 := fun W (hB : Below (w12.alloc (.cells #[.int .u8 k, .string x, .slice p10 l.len c10, .slice p11 f.len c11] 25)).heap.size (w12.alloc (.cells #[.int .u8 k, .string x, .slice p10 l.len c10, .slice p11 f.len c11] 25)) W) => same_any (l.size + f.size + 1) k x _ _ l f k x _ _ l f _ _ W (Nat.lt_succ_self _) (l12.below hB) (f12.below hB) (m8.below hB) (n8.below hB)
        simp only [hsv] at hs1 hs2
        have keep : ∀ w', Below (w12.alloc (.cells #[.int .u8 k, .string x, .slice p10 l.len c10, .slice p11 f.len c11] 25)).heap.size (w12.alloc (.cells #[.int .u8 k, .string x, .slice p10 l.len c10, .slice p11 f.len c11] 25)) w' → w'.cell? ⟨w9.heap.size, 2, none⟩ = some (.slice (some ⟨b, o, none⟩) 2 c6) ∧ w'.cell? ⟨b, o + 4, none⟩ = some (.int .u8 k) ∧ w'.cell? ⟨b, o + 5, none⟩ = some (.string x) ∧ w'.cell? ⟨b, o + 6, none⟩ = some (.slice q3 l.len d3) ∧ w'.cell? ⟨b, o + 7, none⟩ = some (.slice q4 f.len d4) ∧ w'.cell? ⟨w2.heap.size, 0, none⟩ = some (.int .u8 k) ∧ w'.cell? ⟨w2.heap.size, 1, none⟩ = some (.string x) ∧ w'.cell? ⟨w2.heap.size, 2, none⟩ = some (.slice p2 l.len c2) ∧ w'.cell? ⟨w2.heap.size, 3, none⟩ = some (.slice p3 f.len c3) ∧ w'.cell? ⟨w12.heap.size, 0, none⟩ = some (.int .u8 k) ∧ w'.cell? ⟨w12.heap.size, 1, none⟩ = some (.string x) ∧ w'.cell? ⟨w12.heap.size, 2, none⟩ = some (.slice p10 l.len c10) ∧ w'.cell? ⟨w12.heap.size, 3, none⟩ = some (.slice p11 f.len c11) := fun w' hB =>
          ⟨bcellv hB x2, bcellv hB e1, bcellv hB e2, bcellv hB e3, bcellv hB e4, bcellv hB y0, bcellv hB y1, bcellv hB y2, bcellv hB y3, bcellv hB z0, bcellv hB z1, bcellv hB z2, bcellv hB z3⟩
        have KEEP := Lib.hid keep
        clear hl12 hf12 hB12 hBc b12 b9 l9 a8 m8 n8 G l12 f12 E hg keep
        go_wp2_with fail
        generalize w12.alloc (.cells #[.int .u8 k, .string x, .slice p10 l.len c10, .slice p11 f.len c11] 25) = W13 at *
        go_region_held3 (fun w' => w'.cell? ⟨w9.heap.size, 2, none⟩ = some (.slice (some ⟨b, o, none⟩) 2 c6) ∧ w'.cell? ⟨b, o + 4, none⟩ = some (.int .u8 k) ∧ w'.cell? ⟨b, o + 5, none⟩ = some (.string x) ∧ w'.cell? ⟨b, o + 6, none⟩ = some (.slice q3 l.len d3) ∧ w'.cell? ⟨b, o + 7, none⟩ = some (.slice q4 f.len d4) ∧ w'.cell? ⟨w2.heap.size, 0, none⟩ = some (.int .u8 k) ∧ w'.cell? ⟨w2.heap.size, 1, none⟩ = some (.string x) ∧ w'.cell? ⟨w2.heap.size, 2, none⟩ = some (.slice p2 l.len c2) ∧ w'.cell? ⟨w2.heap.size, 3, none⟩ = some (.slice p3 f.len c3) ∧ w'.cell? ⟨w12.heap.size, 0, none⟩ = some (.int .u8 k) ∧ w'.cell? ⟨w12.heap.size, 1, none⟩ = some (.string x) ∧ w'.cell? ⟨w12.heap.size, 2, none⟩ = some (.slice p10 l.len c10) ∧ w'.cell? ⟨w12.heap.size, 3, none⟩ = some (.slice p11 f.len c11))
          (first | exact KEEP.out _ hB4 | exact KEEP.out _ hB2 | exact KEEP.out _ (Below.refl _ _).drew | exact KEEP.out _ (Below.refl _ _))
          (first
            | (go_at_call 11; (with_reducible refine (hs2 _ hB2).mono ?_); rintro e w15 ⟨rfl, hB3⟩; have hB4 := hB2.trans (hB3.mono hB2.size); clear hB3)
            | (go_at_call 11; (with_reducible refine (hs1 _ (Below.refl _ _).drew).mono ?_); rintro e w14 ⟨rfl, hB1⟩; have hB2 := (Below.refl W13.heap.size W13).drew.trans hB1; clear hB1))
        go_wp2_with fail
        go_ret
        exact ⟨rfl, Hc.out.trans (hB4.mono Hc.out.size)⟩
      · have hpL := HP.out.1 w8 (tabs_below HT.out HB9.out)
        have hpO := fun W (hW : Tabs W) => HP.out.2 W hW
        rw [hL] at hpL
        simp only [hO] at hpO
        unfold ParseIs inL lb at hpL
        unfold ParseIs inO o1 o2 at hpO
        dsimp only at hpL hpO
        clear hL hO HC HP H8
        refine hpL.mono ?_
        rintro e w9 ⟨v, u, rfl, hl9, hf9, -, hB9⟩
        obtain ⟨p6, c6, rfl, -⟩ := hl9.len
        obtain ⟨p7, c7, rfl, -⟩ := hf9.len
        have Ha := Lib.hid (HB9.out.trans ((hB9.alloc hB9.size (.cells #[.int .u8 0, .string ⟨#[]⟩, .slice p6 V.T.nil.len c6, .slice p7 V.T.nil.len c7] 25)).mono HB9.out.size))
        clear hpL hl9 hf9 hB9
        go_wp2_with fail
        refine (hpO _ (tabs_below HT.out Ha.out)).mono ?_
        rintro e w11 ⟨v, u, rfl, hl11, hf11, -, hB11⟩
        obtain ⟨p8, c8, rfl, -⟩ := hl11.len
        obtain ⟨p9, c9, rfl, -⟩ := hf11.len
        have Hb := Lib.hid (Ha.out.trans ((hB11.alloc hB11.size (.cells #[.int .u8 0, .string ⟨#[]⟩, .slice p8 V.T.nil.len c8, .slice p9 V.T.nil.len c9] 25)).mono Ha.out.size))
        clear hpO hl11 hf11 hB11
        go_wp2_with fail
        go_ret
        exact ⟨rfl, Hb.out⟩
    · have h1 := around_no' (by omega) h0
      generalize prsAll s = r at *
      generalize prsAll (bk1 ++ s ++ bk2) = r1 at *
      obtain ⟨x, q, e⟩ := r
      obtain ⟨x1, q1, e1⟩ := r1
      dsimp only at h0 h1
      have t0 : ((e : Int) == 0) = false := by simp; omega
      have t1 : ((e1 : Int) == 0) = false := by simp; omega
      have t2 : ((e : Int) != 0) = true := by simp; omega
      clear h0 h1
      unfold ParseIs at hp hp1
      unfold bk1 bk2 at hp1
      dsimp only at hp hp1
      go_enter Tryd.func5, Tryd.ntmps5
      go_wp2_with fail
      refine ha.mono ?_
      rintro e w1 ⟨rfl, hB1⟩
      go_wp2_with fail
      refine (hp _ (tabs_below HT.out hB1)).mono ?_
      rintro e w2 ⟨v, u, rfl, hl2, hf2, -, hB2⟩
      obtain ⟨p2, c2, rfl, -⟩ := hl2.len
      obtain ⟨p3, c3, rfl, -⟩ := hf2.len
      have hB3 := hB1.trans (hB2.mono hB1.size)
      have hB4 := hB3.alloc hB3.size (.cells #[.int .u8 x.1, .string x.2.1, .slice p2 x.2.2.1.len c2, .slice p3 x.2.2.2.len c3] 25)
      clear hl2 hf2 hp hB2
      go_wp2_with fail
      refine (hp1 _ (tabs_below HT.out hB4)).mono ?_
      rintro e w5 ⟨v, u, rfl, hl5, hf5, -, hB5⟩
      obtain ⟨p4, c4, rfl, -⟩ := hl5.len
      obtain ⟨p5, c5, rfl, -⟩ := hf5.len
      have hB6 := hB4.trans (hB5.mono hB4.size)
      clear hl5 hf5 hp1
      go_wp2_with fail
      go_ret
      exact ⟨rfl, hB6.alloc hB6.size _⟩
end Go.Proofs.YtkehpmbafjelpaaDoor
