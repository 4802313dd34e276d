/- The document's Folds. Conditions: at most 10^6 folds. -/
import Derived.Test.YtdgmbmoaeoakpaaDoorMC37
import Derived.Test.YtdgmbmoaeoakpaaDoorMC38
namespace Go.Proofs.YtdgmbmoaeoakpaaDoor
open Go Go.RowKit Go.Lib

def FRfo (w : World) (na c : Nat) (v : Value) (i b o : Nat) (e : Fo) (ob : Option Nat) : Nat → Value → World → Prop
  | 0, y, W => VS (Avo w v ob) 0 ⟨#[]⟩ .nil .nil y W
  | 1, y, _ => y = .slice (some ⟨b, o, none⟩) na c
  | 2, y, _ => y = .int .i64 i
  | 3, y, _ => y = .pointer (some ⟨b, o + i * 3, none⟩)
  | 4, y, _ => y = .pointer (some ⟨b, o + i * 3, none⟩)
  | 5, y, _ => y = .int .i64 e.a
  | 6, y, W => VS (Avo w v ob) 3 ⟨(Lib.itoa e.a).toArray⟩ .nil .nil y W
  | 7, y, W => VS (Avo w v ob) 6 ⟨#[]⟩ .nil (appT .nil ⟨#[115, 116, 97, 114, 116, 76, 105, 110, 101]⟩ 3 ⟨(Lib.itoa e.a).toArray⟩ .nil .nil) y W
  | 8, y, _ => y = .slice (some ⟨b, o, none⟩) na c
  | 9, y, _ => y = .int .i64 i
  | 10, y, _ => y = .pointer (some ⟨b, o + i * 3, none⟩)
  | 11, y, _ => y = .pointer (some ⟨b, o + i * 3 + 1, none⟩)
  | 12, y, _ => y = .int .i64 e.b
  | 13, y, W => VS (Avo w v ob) 3 ⟨(Lib.itoa e.b).toArray⟩ .nil .nil y W
  | 14, y, W => VS (Avo w v ob) 6 ⟨#[]⟩ .nil (appT (appT .nil ⟨#[115, 116, 97, 114, 116, 76, 105, 110, 101]⟩ 3 ⟨(Lib.itoa e.a).toArray⟩ .nil .nil) ⟨#[101, 110, 100, 76, 105, 110, 101]⟩ 3 ⟨(Lib.itoa e.b).toArray⟩ .nil .nil) y W
  | _, _, _ => True
theorem FRfo.on {w : World} {na c : Nat} {v : Value} {i b o : Nat} {e : Fo} {ob : Option Nat} {iz : Nat} {y : Value} {W W' : World} (h : FRfo w na c v i b o e ob iz y W) (hB : Below W.heap.size W W') : FRfo w na c v i b o e ob iz y W' := by
  unfold FRfo at h ⊢
  split at h
  · exact h.on hB
  · exact h
  · exact h
  · exact h
  · exact h
  · exact h
  · exact h.on hB
  · exact h.on hB
  · exact h
  · exact h
  · exact h
  · exact h
  · exact h
  · exact h.on hB
  · exact h.on hB
  · trivial
theorem FRfo.al {w : World} {na c : Nat} {v : Value} {i b o : Nat} {e : Fo} {iz : Nat} {y : Value} {W : World} (ox : Obj) (h : FRfo w na c v i b o e none iz y W) : FRfo w na c v i b o e (some W.heap.size) iz y (W.alloc ox) := by
  unfold FRfo at h ⊢
  split at h
  · exact vs_allocB ox h
  · exact h
  · exact h
  · exact h
  · exact h
  · exact h
  · exact vs_allocB ox h
  · exact vs_allocB ox h
  · exact h
  · exact h
  · exact h
  · exact h
  · exact h
  · exact vs_allocB ox h
  · exact vs_allocB ox h
  · trivial
def FRfk (w : World) (v : Value) (b4 : Nat) (e : Fo) : Nat → Value → World → Prop
  | 0, y, W => VS (Avo w v (some b4)) 6 ⟨#[]⟩ .nil (appT (appT .nil ⟨#[115, 116, 97, 114, 116, 76, 105, 110, 101]⟩ 3 ⟨(Lib.itoa e.a).toArray⟩ .nil .nil) ⟨#[101, 110, 100, 76, 105, 110, 101]⟩ 3 ⟨(Lib.itoa e.b).toArray⟩ .nil .nil) y W
  | 1, y, W => VS (Avo w v (some b4)) 4 ⟨#[99, 111, 109, 109, 101, 110, 116]⟩ .nil .nil y W
  | 2, y, W => VS (Avo w v (some b4)) 6 ⟨#[]⟩ .nil (appT (appT (appT .nil ⟨#[115, 116, 97, 114, 116, 76, 105, 110, 101]⟩ 3 ⟨(Lib.itoa e.a).toArray⟩ .nil .nil) ⟨#[101, 110, 100, 76, 105, 110, 101]⟩ 3 ⟨(Lib.itoa e.b).toArray⟩ .nil .nil) ⟨#[107, 105, 110, 100]⟩ 4 ⟨#[99, 111, 109, 109, 101, 110, 116]⟩ .nil .nil) y W
  | _, _, _ => True
theorem FRfk.on {w : World} {v : Value} {b4 : Nat} {e : Fo} {iz : Nat} {y : Value} {W W' : World} (h : FRfk w v b4 e iz y W) (hB : Below W.heap.size W W') : FRfk w v b4 e iz y W' := by
  unfold FRfk at h ⊢
  split at h
  · exact h.on hB
  · exact h.on hB
  · exact h.on hB
  · trivial
theorem listFoT_snoc (l : List Fo) (e : Fo) : listFoT (l ++ [e]) = appT (listFoT l) ⟨#[]⟩ 6 ⟨#[]⟩ .nil (foldT e.a e.b e.cm) := by
  induction l with
  | nil => rfl
  | cons s r ih => show V.T.cons _ _ _ _ _ (listFoT (r ++ [e])) = V.T.cons _ _ _ _ _ (appT (listFoT r) _ _ _ _ _); rw [ih]
set_option maxHeartbeats 8000000 in
set_option maxRecDepth 100000 in
theorem refFolds_any (v0 : Value) (l : List Fo) (w : World) (h : SrcF w v0 l) (hn : l.length ≤ 1000000) :
    Calls Tryd.prog 29 #[v0] w (RetV w.heap.size 5 ⟨#[]⟩ (listFoT l) .nil w) := by
  obtain ⟨i0, hi0, hz0, hz1, hz2⟩ := info_parts infoValue
  have HNu := Lib.hid (fun W (s : Int) (hs : I64 s) => refNumber_any s hs.1 hs.2 W)
  have HTx := Lib.hid (fun W => refText4_any ⟨#[99, 111, 109, 109, 101, 110, 116]⟩ W (by decide))
  rw [fix_com] at HTx
  have hsl : ∃ p4 c, v0 = .slice p4 l.length c ∧ ∀ i, i < l.length → ∃ b o, ∃ e : Fo, p4 = some ⟨b, o, none⟩ ∧ (∀ W, Below w.heap.size w W → FoOk W e ∧ W.cell? ⟨b, o + i * 3, none⟩ = some (.int .i64 e.a) ∧ W.cell? ⟨b, o + i * 3 + 1, none⟩ = some (.int .i64 e.b) ∧ W.cell? ⟨b, o + i * 3 + 2, none⟩ = some (.bool e.cm)) ∧ listFoT (l.take (i + 1)) = appT (listFoT (l.take i)) ⟨#[]⟩ 6 ⟨#[]⟩ .nil (foldT e.a e.b e.cm) := by
    rcases h with ⟨rfl, p, c, rfl, hc⟩ | ⟨b, o, c, rfl, h2, h3, h4, h5, h6⟩
    · exact ⟨p, c, rfl, fun i hi => by cases hi⟩
    · refine ⟨_, c, rfl, fun i hi => ⟨b, o, l[i], rfl, fun W hB => ⟨FoOk_below hB (h6 _ (List.getElem_mem hi)), (hB.cell (p := ⟨b, o + i * 3, none⟩) h4).trans (h5 i _ (List.getElem?_eq_getElem hi)).1, (hB.cell (p := ⟨b, o + i * 3 + 1, none⟩) h4).trans (h5 i _ (List.getElem?_eq_getElem hi)).2.1, (hB.cell (p := ⟨b, o + i * 3 + 2, none⟩) h4).trans (h5 i _ (List.getElem?_eq_getElem hi)).2.2⟩, ?_⟩⟩
      rw [List.take_succ_eq_append_getElem hi, listFoT_snoc]
  obtain ⟨p4, c, rfl, hEl⟩ := hsl
  have HEl := Lib.hid hEl
  have HTk := Lib.hid (show listFoT (l.take l.length) = listFoT l by rw [List.take_length])
  have HG0 := Lib.hid (LoG.start w)
  generalize en : l.length = na at *
  clear h hEl en
  go_enter Tryd.func29, Tryd.ntmps29
  go_upto_region 2 with fail
  generalize (w.alloc (.cells #[.int .u8 0, .string ⟨#[]⟩, .slice none 0 0, .slice none 0 0] 25)).alloc (.cells #[.int .u8 5, .string ⟨#[]⟩, .slice none 0 0, .slice none 0 0] 25) = W0 at *
  go_wp2_with fail
  go_loopw [4] (fun p wr => ∃ (i : Nat) (v : Value) (es : List Fe), p = .int .i64 (i : Int) ∧ i ≤ na ∧ Hid (LoG w v es wr ∧ treeOf es = listFoT (l.take i) ∧ es.length = i)) (fun p _ => na - (RowKit.intOf p).toNat)
  case atStart => exact ⟨0, _, [], rfl, Nat.zero_le _, Lib.hid ⟨HG0.out, rfl, rfl⟩⟩
  case round =>
    obtain ⟨i, v, es, rfl, hi, HR⟩ := hrel
    by_cases hlt : i < na
    · obtain ⟨b, o, e, rfl, hes, ht⟩ := HEl.out i hlt
      have HEs := Lib.hid hes
      have HT := Lib.hid ht
      have HTr := Lib.hid HR.out.2
      have HOk := Lib.hid (show I64 e.a ∧ I64 e.b from (hes w (Below.refl _ _)).1)
      have HL := Lib.hid (show i < na ∧ na ≤ 1000000 ∧ es.length = i from ⟨hlt, hn, HR.out.2.2⟩)
      clear hes ht
      go_upto_region 5 with fail
      have HGd := HR.out.1.m.on (Below.refl wr.heap.size wr).drew
      refine wp_region_stepsA 15 16 wr.heap.size (.cells #[.int .u8 0, .string ⟨#[]⟩, .slice none 0 0, .slice none 0 0] 25) [some 13, some 14, some 15, some 16, some 17, some 18, some 19, some 20, some 21, some 22, some 23, some 24, some 25, some 26, some 27, some 5, none] _ _ (G := LoM w v es wr.heap.size) (F := FRfo w na c v i b o e) (by kernel_rfl) rfl (by decide +kernel) rfl (by decide +kernel) (by decide +kernel) (by decide) (by decide) (by decide) (by decide +kernel) (fun W h => h.le) (fun W W' h hB => h.on hB) (fun ob i y W W' h hB => h.on hB) (fun i y W _ h => h.al _) ?_ ?_ ?_ HGd
      · intro o' ho a W hg K' hK
        obtain rfl := Option.some.inj ho
        clear hg HGd
        go_simp
        exact hK.out
      · intro i' o' ho hz hx ob a W hg hob hd hold K' hK
        have HG := Lib.hid hg
        have hlt' : i' < 17 := (Array.getElem?_eq_some_iff.1 ho).1
        clear hg HGd
        obtain rfl | rfl | rfl | rfl | rfl | rfl | rfl | rfl | rfl | rfl | rfl | rfl | rfl | rfl | rfl | rfl | rfl : i' = 0 ∨ i' = 1 ∨ i' = 2 ∨ i' = 3 ∨ i' = 4 ∨ i' = 5 ∨ i' = 6 ∨ i' = 7 ∨ i' = 8 ∨ i' = 9 ∨ i' = 10 ∨ i' = 11 ∨ i' = 12 ∨ i' = 13 ∨ i' = 14 ∨ i' = 15 ∨ i' = 16 := by omega
        · obtain rfl := Option.some.inj ho
          clear hd hold
          go_simp
          exact hK.out _ _ (VS.mk (HS.nil _ _ _) (HS.nil _ _ _)) (Below.refl _ _)
        · obtain rfl := Option.some.inj ho
          have o0 : a.tmps[0]? = _ := (hold 0 rfl).trans rfl
          clear hd hold
          go_simp
          exact hK.out _ _ (by rfl) (Below.refl _ _)
        · obtain rfl := Option.some.inj ho
          have o4 : a.tmps[4]? = _ := (hold 4 rfl).trans rfl
          clear hd hold
          go_simp
          exact hK.out _ _ (by rfl) (Below.refl _ _)
        · obtain rfl := Option.some.inj ho
          obtain ⟨y1, e1, h1⟩ := hd 1 14 rfl (by decide +kernel) (by decide) (by decide)
          have h1 : y1 = _ := h1
          subst h1
          obtain ⟨y2, e2, h2⟩ := hd 2 15 rfl (by decide +kernel) (by decide) (by decide)
          have h2 : y2 = _ := h2
          subst h2
          have hi1 := HL.out.1
          have hi2 : (0 : Int) ≤ (i : Int) := Int.natCast_nonneg i
          have hi3 : (i : Int) < (na : Int) := by omega
          clear hd hold
          go_simp
          exact hK.out _ _ (by rfl) (Below.refl _ _)
        · obtain rfl := Option.some.inj ho
          obtain ⟨y3, e3, h3⟩ := hd 3 16 rfl (by decide +kernel) (by decide) (by decide)
          have h3 : y3 = _ := h3
          subst h3
          clear hd hold
          go_simp
          exact hK.out _ _ (by rfl) (Below.refl _ _)
        · obtain rfl := Option.some.inj ho
          obtain ⟨y4, e4, h4⟩ := hd 4 17 rfl (by decide +kernel) (by decide) (by decide)
          have h4 : y4 = _ := h4
          subst h4
          have hc := (HEs.out W HG.out.lo.below).2.1
          clear hd hold
          go_simp
          exact hK.out _ _ (by rfl) (Below.refl _ _)
        · obtain rfl := Option.some.inj ho
          obtain ⟨y5, e5, h5⟩ := hd 5 18 rfl (by decide +kernel) (by decide) (by decide)
          have h5 : y5 = _ := h5
          subst h5
          clear hd hold
          go_simp
          go_at_call 45
          (with_reducible refine (HNu.out W e.a HOk.out.1).mono ?_)
          rintro en W1 ⟨rfl, hB⟩
          exact hK.out _ _ (VS.mk (HS.nil _ _ _) (HS.nil _ _ _)) hB
        · obtain rfl := Option.some.inj ho
          obtain ⟨y0, e0, h0⟩ := hd 0 13 rfl (by decide +kernel) (by decide) (by decide)
          have h0 : VS (Avo w v ob) 0 ⟨#[]⟩ .nil .nil y0 W := h0
          obtain ⟨y6, e6, h6⟩ := hd 6 19 rfl (by decide +kernel) (by decide) (by decide)
          have h6 : VS (Avo w v ob) 3 ⟨(Lib.itoa e.a).toArray⟩ .nil .nil y6 W := h6
          have hcall := with_any (Avo w v ob) 0 ⟨#[]⟩ .nil .nil ⟨#[115, 116, 97, 114, 116, 76, 105, 110, 101]⟩ 3 ⟨(Lib.itoa e.a).toArray⟩ .nil .nil y0 y6 W (HG.out.new hob) h0 h6 (num_fit e.a (by decide) HOk.out.1) (by show (0 : Nat) ≤ 1000; decide)
          have HC := Lib.hid hcall
          clear hd hold hcall h0 h6
          go_simp
          go_at_call 55
          (with_reducible refine HC.out.mono ?_)
          rintro e W1 ⟨y, rfl, hv, hB⟩
          exact hK.out _ _ hv hB
        · obtain rfl := Option.some.inj ho
          have o0 : a.tmps[0]? = _ := (hold 0 rfl).trans rfl
          clear hd hold
          go_simp
          exact hK.out _ _ (by rfl) (Below.refl _ _)
        · obtain rfl := Option.some.inj ho
          have o4 : a.tmps[4]? = _ := (hold 4 rfl).trans rfl
          clear hd hold
          go_simp
          exact hK.out _ _ (by rfl) (Below.refl _ _)
        · obtain rfl := Option.some.inj ho
          obtain ⟨y8, e8, h8⟩ := hd 8 21 rfl (by decide +kernel) (by decide) (by decide)
          have h8 : y8 = _ := h8
          subst h8
          obtain ⟨y9, e9, h9⟩ := hd 9 22 rfl (by decide +kernel) (by decide) (by decide)
          have h9 : y9 = _ := h9
          subst h9
          have hi1 := HL.out.1
          have hi2 : (0 : Int) ≤ (i : Int) := Int.natCast_nonneg i
          have hi3 : (i : Int) < (na : Int) := by omega
          clear hd hold
          go_simp
          exact hK.out _ _ (by rfl) (Below.refl _ _)
        · obtain rfl := Option.some.inj ho
          obtain ⟨y10, e10, h10⟩ := hd 10 23 rfl (by decide +kernel) (by decide) (by decide)
          have h10 : y10 = _ := h10
          subst h10
          clear hd hold
          go_simp
          exact hK.out _ _ (by rfl) (Below.refl _ _)
        · obtain rfl := Option.some.inj ho
          obtain ⟨y11, e11, h11⟩ := hd 11 24 rfl (by decide +kernel) (by decide) (by decide)
          have h11 : y11 = _ := h11
          subst h11
          have hc := (HEs.out W HG.out.lo.below).2.2.1
          clear hd hold
          go_simp
          exact hK.out _ _ (by rfl) (Below.refl _ _)
        · obtain rfl := Option.some.inj ho
          obtain ⟨y12, e12, h12⟩ := hd 12 25 rfl (by decide +kernel) (by decide) (by decide)
          have h12 : y12 = _ := h12
          subst h12
          clear hd hold
          go_simp
          go_at_call 45
          (with_reducible refine (HNu.out W e.b HOk.out.2).mono ?_)
          rintro en W1 ⟨rfl, hB⟩
          exact hK.out _ _ (VS.mk (HS.nil _ _ _) (HS.nil _ _ _)) hB
        · obtain rfl := Option.some.inj ho
          obtain ⟨y7, e7, h7⟩ := hd 7 20 rfl (by decide +kernel) (by decide) (by decide)
          have h7 : VS (Avo w v ob) 6 ⟨#[]⟩ .nil (appT .nil ⟨#[115, 116, 97, 114, 116, 76, 105, 110, 101]⟩ 3 ⟨(Lib.itoa e.a).toArray⟩ .nil .nil) y7 W := h7
          obtain ⟨y13, e13, h13⟩ := hd 13 26 rfl (by decide +kernel) (by decide) (by decide)
          have h13 : VS (Avo w v ob) 3 ⟨(Lib.itoa e.b).toArray⟩ .nil .nil y13 W := h13
          have hcall := with_any (Avo w v ob) 6 ⟨#[]⟩ .nil (appT .nil ⟨#[115, 116, 97, 114, 116, 76, 105, 110, 101]⟩ 3 ⟨(Lib.itoa e.a).toArray⟩ .nil .nil) ⟨#[101, 110, 100, 76, 105, 110, 101]⟩ 3 ⟨(Lib.itoa e.b).toArray⟩ .nil .nil y7 y13 W (HG.out.new hob) h7 h13 (num_fit e.b (by decide) HOk.out.2) (by show (1 : Nat) ≤ 1000; decide)
          have HC := Lib.hid hcall
          clear hd hold hcall h7 h13
          go_simp
          go_at_call 55
          (with_reducible refine HC.out.mono ?_)
          rintro e W1 ⟨y, rfl, hv, hB⟩
          exact hK.out _ _ hv hB
        · exact absurd rfl hx
        · exact absurd rfl hz
      clear HGd
      intro b4 rr W hg hMb hbk hrx hf
      obtain ⟨p1, n1, c1, q1, m1, d1, elast, hl1, hf1⟩ : VS (Avo w v (some b4)) 6 ⟨#[]⟩ .nil (appT (appT .nil ⟨#[115, 116, 97, 114, 116, 76, 105, 110, 101]⟩ 3 ⟨(Lib.itoa e.a).toArray⟩ .nil .nil) ⟨#[101, 110, 100, 76, 105, 110, 101]⟩ 3 ⟨(Lib.itoa e.b).toArray⟩ .nil .nil) (rr 14) W := hf 14 (by decide) (by decide) (by decide)
      have hbk : Blk4 W b4 25 (.int .u8 0) (.string ⟨#[]⟩) (.slice none 0 0) (.slice none 0 0) := hbk
      have hv : VS (Avo w v (some b4)) 6 ⟨#[]⟩ .nil (appT (appT .nil ⟨#[115, 116, 97, 114, 116, 76, 105, 110, 101]⟩ 3 ⟨(Lib.itoa e.a).toArray⟩ .nil .nil) ⟨#[101, 110, 100, 76, 105, 110, 101]⟩ 3 ⟨(Lib.itoa e.b).toArray⟩ .nil .nil) (.agg #[.int .u8 6, .string ⟨#[]⟩, .slice p1 n1 c1, .slice q1 m1 d1]) W := VS.mk hl1 hf1
      have HX := Lib.hid (hg.fill hMb hbk hv)
      obtain ⟨s0, s1, s2, s3⟩ := hbk.box
      have f0 := hbk.free 0
      have f1 := hbk.free 1
      have f2 := hbk.free 2
      have f3 := hbk.free 3
      clear hg hbk hl1 hf1 hf hv hMb HR
      simp only [putL, Act.put, List.setIfInBounds_toArray, List.set_cons_zero, List.set_cons_succ, elast, hrx]
      clear elast hrx
      refine wpAnyL_op 16 (by kernel_rfl) rfl (fun K hK => ?_)
      go_simp
      refine hK.out _ _ (fun _ => trivial) ?_
      clear hK K
      refine wpAnyL_end (by kernel_rfl) ?_
      clear s0 s1 s2 s3 f0 f1 f2 f3
      generalize (((W.setCell ⟨b4, 0, none⟩ (.int .u8 6)).setCell ⟨b4, 1, none⟩ (.string ⟨#[]⟩)).setCell ⟨b4, 2, none⟩ (.slice p1 n1 c1)).setCell ⟨b4, 3, none⟩ (.slice q1 m1 d1) = W4 at *
      have ccm := (HEs.out W4 HX.out.lo.below).2.2.2
      have hi2 : (0 : Int) ≤ (i : Int) := Int.natCast_nonneg i
      have hi3 : (i : Int) < (na : Int) := by have := HL.out.1; omega
      obtain ⟨ea, eb, cm⟩ := e
      dsimp only at ccm
      cases cm
      · go_upto_region 8 with fail
        clear ccm hi2 hi3
        change Hid (LoX w v es b4 (foldT ea eb false) W4) at HX
        have HZ := HX
        have hb1 := HZ.out.lo.b1
        obtain ⟨pz, nz, cz, qz, mz, dz, hbz, hlz, hfz⟩ := HZ.out.box
        have hBn := (Below.refl W4.heap.size W4).alloc (Nat.le_refl _) (.cells #[.int .u8 6, .string ⟨#[]⟩, .slice pz nz cz, .slice qz mz dz] 25)
        have HZn := Lib.hid (HZ.out.lo.on hBn)
        have hnews : ∀ (j : Nat) (u : Value), (vcells [⟨⟨#[]⟩, 6, ⟨#[]⟩, .slice pz nz cz, .slice qz mz dz, .nil, (foldT ea eb false)⟩])[j]? = some u → (W4.alloc (.cells #[.int .u8 6, .string ⟨#[]⟩, .slice pz nz cz, .slice qz mz dz] 25)).cell? ((⟨W4.heap.size, 0, none⟩ : Addr).add j) = some u := fun j u hu => by
          have hadd : (⟨W4.heap.size, 0, none⟩ : Addr).add j = ⟨W4.heap.size, j, none⟩ := by unfold Addr.add; split <;> simp_all
          rw [hadd, cell_of_row _ _ j _ _ (0, 0) (heap_alloc_new _ _)]
          have hz' : ([.int .u8 6, .string ⟨#[]⟩, .slice pz nz cz, .slice qz mz dz] : List Value)[j]? = some u := hu
          simpa using hz'
        have HY := Lib.hid (And.intro hnews (And.intro ((hlz.mono (fun j hj _ => ⟨hj.1.1, hj.2⟩) : HS W4 (FrS (Av w v) W4) 0 (.slice pz nz cz) .nil).frS hBn) ((hfz.mono (fun j hj _ => ⟨hj.1.1, hj.2⟩) : HS W4 (FrS (Av w v) W4) 1 (.slice qz mz dz) (foldT ea eb false)).frS hBn)))
        obtain ⟨v0, v1, v2, v3⟩ := hbz.box
        obtain ⟨s0, s1, s2, s3⟩ := hb1.box
        have f0 := hb1.free 0
        have f1 := hb1.free 1
        have f2 := hb1.free 2
        have f3 := hb1.free 3
        clear hbz hlz hfz hb1 hnews hBn
        try dsimp only at v0 v1 v2 v3
        go_wp2_with (at_builtin; go_loud (refine wpList_append_lies _ rfl (.tmp 37) (.tmp 39) 22 rfl (w.heap.size + 2) 25 i0 _ 4 72 Tryd.underlying22 hi0 hz0 hz1 hz2 rfl (by decide) v es.length (vcells es) rfl HZn.out.own ⟨W4.heap.size, 0, none⟩ 1 1 (vcells [⟨⟨#[]⟩, 6, ⟨#[]⟩, .slice pz nz cz, .slice qz mz dz, .nil, (foldT ea eb false)⟩]) rfl rfl HY.out.1 (fun u hu => by
          simp only [vcells, List.mem_cons, List.not_mem_nil, or_false] at hu
          rcases hu with rfl | rfl | rfl | rfl <;> rfl) (by decide) (by unfold maxLen; have := HL.out; omega) (by have := HL.out; omega) HZn.out.lt _ rfl ?_))
        intro g9 cap w3 own3 hg3 hor9 _
        have H5 := Lib.hid (LoG.step (e := ⟨⟨#[]⟩, 6, ⟨#[]⟩, .slice pz nz cz, .slice qz mz dz, .nil, (foldT ea eb false)⟩) HZn.out own3 hg3 (hor9.imp id (fun h => by rw [World.size_alloc]; exact h)) ⟨HY.out.2.1, HY.out.2.2, ⟨(by show (6 : Nat) < 256; decide), (by show (0 : Nat) ≤ 140737488355328; decide), (by show (0 : Nat) ≤ 140737488355328; decide)⟩⟩ rfl)
        have hB3 : Below (w.heap.size + 2) (W4.alloc (.cells #[.int .u8 6, .string ⟨#[]⟩, .slice pz nz cz, .slice qz mz dz] 25)) w3 := (Below.refl (w.heap.size + 2) _).grown hg3 HZn.out.lt (fun k hk => (HZn.out.own.lt k hk).1)
        have b1 := HZn.out.b1.same (hB3.block _ (by omega))
        clear s0 s1 s2 s3 f0 f1 f2 f3 v0 v1 v2 v3
        obtain ⟨s0, s1, s2, s3⟩ := b1.box
        have f0 := b1.free 0
        have f1 := b1.free 1
        have f2 := b1.free 2
        have f3 := b1.free 3
        clear own3 hg3 hB3 b1 hor9
        go_wp2_with fail
        clear s0 s1 s2 s3 f0 f1 f2 f3
        generalize w3.setCell ⟨w.heap.size + 1, 2, none⟩ (.slice (some ⟨g9, 0, none⟩) (es.length + 1) cap) = w5 at *
        go_roundw
        case rel => exact ⟨i + 1, _, _, by go_num, HL.out.1, Lib.hid ⟨H5.out, by rw [treeOf_app, HTr.out.1]; exact HT.out.symm, by rw [List.length_append, HTr.out.2]; rfl⟩⟩
        case measure => have := HL.out; simp [RowKit.intOf]; omega
      · go_upto_region 7 with fail
        have HGe := HX.out.on (Below.refl W4.heap.size W4).drew
        refine wp_region_stepsP [some 33, some 34, some 35, none] _ _ (G := LoX w v es b4 (appT (appT .nil ⟨#[115, 116, 97, 114, 116, 76, 105, 110, 101]⟩ 3 ⟨(Lib.itoa ea).toArray⟩ .nil .nil) ⟨#[101, 110, 100, 76, 105, 110, 101]⟩ 3 ⟨(Lib.itoa eb).toArray⟩ .nil .nil)) (F := FRfk w v b4 ⟨ea, eb, true⟩) (z := 3) (by kernel_rfl) rfl (by decide +kernel) rfl (by decide +kernel) (by decide +kernel) rfl (fun W W' h hB => h.on hB) (fun i y W W' h hB => h.on hB) ?_ ?_ HGe
        · intro i' o' ho hz a W hg hd hold K' hK
          have HG := Lib.hid hg
          have hlt' : i' < 4 := (Array.getElem?_eq_some_iff.1 ho).1
          clear hg HGe
          obtain rfl | rfl | rfl | rfl : i' = 0 ∨ i' = 1 ∨ i' = 2 ∨ i' = 3 := by omega
          · obtain rfl := Option.some.inj ho
            have o5 : a.tmps[5]? = _ := (hold 5 rfl).trans rfl
            clear hd hold
            obtain ⟨p, n, c, q, m, d, hby, hl, hf⟩ := HG.out.box
            obtain ⟨s0, s1, s2, s3⟩ := hby.box
            have HV := Lib.hid (And.intro hl hf)
            clear hby hl hf
            go_simp
            exact hK.out _ _ (VS.mk HV.out.1 HV.out.2) (Below.refl _ _)
          · obtain rfl := Option.some.inj ho
            clear hd hold
            go_simp
            go_at_call 44
            (with_reducible refine (HTx.out W).mono ?_)
            rintro en W1 ⟨rfl, hB⟩
            exact hK.out _ _ (VS.mk (HS.nil _ _ _) (HS.nil _ _ _)) hB
          · obtain rfl := Option.some.inj ho
            obtain ⟨y0, e0, h0⟩ := hd 0 33 rfl (by decide +kernel) (by decide)
            have h0 : VS (Avo w v (some b4)) 6 ⟨#[]⟩ .nil (appT (appT .nil ⟨#[115, 116, 97, 114, 116, 76, 105, 110, 101]⟩ 3 ⟨(Lib.itoa ea).toArray⟩ .nil .nil) ⟨#[101, 110, 100, 76, 105, 110, 101]⟩ 3 ⟨(Lib.itoa eb).toArray⟩ .nil .nil) y0 W := h0
            obtain ⟨y1, e1, h1⟩ := hd 1 34 rfl (by decide +kernel) (by decide)
            have h1 : VS (Avo w v (some b4)) 4 ⟨#[99, 111, 109, 109, 101, 110, 116]⟩ .nil .nil y1 W := h1
            have hcall := with_any (Avo w v (some b4)) 6 ⟨#[]⟩ .nil (appT (appT .nil ⟨#[115, 116, 97, 114, 116, 76, 105, 110, 101]⟩ 3 ⟨(Lib.itoa ea).toArray⟩ .nil .nil) ⟨#[101, 110, 100, 76, 105, 110, 101]⟩ 3 ⟨(Lib.itoa eb).toArray⟩ .nil .nil) ⟨#[107, 105, 110, 100]⟩ 4 ⟨#[99, 111, 109, 109, 101, 110, 116]⟩ .nil .nil y0 y1 W (HG.out.new) h0 h1 ⟨by decide, by decide, by decide⟩ (by show (2 : Nat) ≤ 1000; decide)
            have HC := Lib.hid hcall
            clear hd hold hcall h0 h1
            go_simp
            go_at_call 55
            (with_reducible refine HC.out.mono ?_)
            rintro e W1 ⟨y, rfl, hv, hB⟩
            exact hK.out _ _ hv hB
          · exact absurd rfl hz
        intro a W hg hf hold hput K' hK
        obtain ⟨y35, o35, hv35⟩ := hf 2 35 rfl (by decide) (by decide)
        obtain ⟨p1, n1, c1, q1, m1, d1, rfl, hl1, hf1⟩ : VS (Avo w v (some b4)) 6 ⟨#[]⟩ .nil (appT (appT (appT .nil ⟨#[115, 116, 97, 114, 116, 76, 105, 110, 101]⟩ 3 ⟨(Lib.itoa ea).toArray⟩ .nil .nil) ⟨#[101, 110, 100, 76, 105, 110, 101]⟩ 3 ⟨(Lib.itoa eb).toArray⟩ .nil .nil) ⟨#[107, 105, 110, 100]⟩ 4 ⟨#[99, 111, 109, 109, 101, 110, 116]⟩ .nil .nil) y35 W := hv35
        obtain ⟨_, _, _, _, _, _, hbk, -⟩ := hg.box
        obtain ⟨s0, s1, s2, s3⟩ := hbk.box
        have f0 := hbk.free 0
        have f1 := hbk.free 1
        have f2 := hbk.free 2
        have f3 := hbk.free 3
        have HX7 := Lib.hid (hg.fill (VS.mk (k := 6) (x := ⟨#[]⟩) hl1 hf1))
        have o5 : a.tmps[5]? = some (Value.pointer (some ⟨b4, 0, none⟩)) := (hold 5 rfl).trans rfl
        clear hg hl1 hf1 hbk hold HGe HX
        go_simp
        refine hK.out _ _ ?_
        obtain ⟨rr, ha⟩ := hput.out
        clear hput o5 o35
        subst ha
        simp only [putL, Act.put, List.setIfInBounds_toArray, List.set_cons_zero, List.set_cons_succ]
        clear hK K' s0 s1 s2 s3 f0 f1 f2 f3 hf
        generalize (((W.setCell ⟨b4, 0, none⟩ (.int .u8 6)).setCell ⟨b4, 1, none⟩ (.string ⟨#[]⟩)).setCell ⟨b4, 2, none⟩ (.slice p1 n1 c1)).setCell ⟨b4, 3, none⟩ (.slice q1 m1 d1) = W7 at *
        have HX := HX7
        clear HX7
        clear hi2 hi3 ccm
        change Hid (LoX w v es b4 (foldT ea eb true) W7) at HX
        go_upto_region 8 with fail
        have HZ := HX
        have hb1 := HZ.out.lo.b1
        obtain ⟨pz, nz, cz, qz, mz, dz, hbz, hlz, hfz⟩ := HZ.out.box
        have hBn := (Below.refl W7.heap.size W7).alloc (Nat.le_refl _) (.cells #[.int .u8 6, .string ⟨#[]⟩, .slice pz nz cz, .slice qz mz dz] 25)
        have HZn := Lib.hid (HZ.out.lo.on hBn)
        have hnews : ∀ (j : Nat) (u : Value), (vcells [⟨⟨#[]⟩, 6, ⟨#[]⟩, .slice pz nz cz, .slice qz mz dz, .nil, (foldT ea eb true)⟩])[j]? = some u → (W7.alloc (.cells #[.int .u8 6, .string ⟨#[]⟩, .slice pz nz cz, .slice qz mz dz] 25)).cell? ((⟨W7.heap.size, 0, none⟩ : Addr).add j) = some u := fun j u hu => by
          have hadd : (⟨W7.heap.size, 0, none⟩ : Addr).add j = ⟨W7.heap.size, j, none⟩ := by unfold Addr.add; split <;> simp_all
          rw [hadd, cell_of_row _ _ j _ _ (0, 0) (heap_alloc_new _ _)]
          have hz' : ([.int .u8 6, .string ⟨#[]⟩, .slice pz nz cz, .slice qz mz dz] : List Value)[j]? = some u := hu
          simpa using hz'
        have HY := Lib.hid (And.intro hnews (And.intro ((hlz.mono (fun j hj _ => ⟨hj.1.1, hj.2⟩) : HS W7 (FrS (Av w v) W7) 0 (.slice pz nz cz) .nil).frS hBn) ((hfz.mono (fun j hj _ => ⟨hj.1.1, hj.2⟩) : HS W7 (FrS (Av w v) W7) 1 (.slice qz mz dz) (foldT ea eb true)).frS hBn)))
        obtain ⟨v0, v1, v2, v3⟩ := hbz.box
        obtain ⟨s0, s1, s2, s3⟩ := hb1.box
        have f0 := hb1.free 0
        have f1 := hb1.free 1
        have f2 := hb1.free 2
        have f3 := hb1.free 3
        clear hbz hlz hfz hb1 hnews hBn
        try dsimp only at v0 v1 v2 v3
        go_wp2_with (at_builtin; go_loud (refine wpList_append_lies _ rfl (.tmp 37) (.tmp 39) 22 rfl (w.heap.size + 2) 25 i0 _ 4 72 Tryd.underlying22 hi0 hz0 hz1 hz2 rfl (by decide) v es.length (vcells es) rfl HZn.out.own ⟨W7.heap.size, 0, none⟩ 1 1 (vcells [⟨⟨#[]⟩, 6, ⟨#[]⟩, .slice pz nz cz, .slice qz mz dz, .nil, (foldT ea eb true)⟩]) rfl rfl HY.out.1 (fun u hu => by
          simp only [vcells, List.mem_cons, List.not_mem_nil, or_false] at hu
          rcases hu with rfl | rfl | rfl | rfl <;> rfl) (by decide) (by unfold maxLen; have := HL.out; omega) (by have := HL.out; omega) HZn.out.lt _ rfl ?_))
        intro g9 cap w3 own3 hg3 hor9 _
        have H5 := Lib.hid (LoG.step (e := ⟨⟨#[]⟩, 6, ⟨#[]⟩, .slice pz nz cz, .slice qz mz dz, .nil, (foldT ea eb true)⟩) HZn.out own3 hg3 (hor9.imp id (fun h => by rw [World.size_alloc]; exact h)) ⟨HY.out.2.1, HY.out.2.2, ⟨(by show (6 : Nat) < 256; decide), (by show (0 : Nat) ≤ 140737488355328; decide), (by show (0 : Nat) ≤ 140737488355328; decide)⟩⟩ rfl)
        have hB3 : Below (w.heap.size + 2) (W7.alloc (.cells #[.int .u8 6, .string ⟨#[]⟩, .slice pz nz cz, .slice qz mz dz] 25)) w3 := (Below.refl (w.heap.size + 2) _).grown hg3 HZn.out.lt (fun k hk => (HZn.out.own.lt k hk).1)
        have b1 := HZn.out.b1.same (hB3.block _ (by omega))
        clear s0 s1 s2 s3 f0 f1 f2 f3 v0 v1 v2 v3
        obtain ⟨s0, s1, s2, s3⟩ := b1.box
        have f0 := b1.free 0
        have f1 := b1.free 1
        have f2 := b1.free 2
        have f3 := b1.free 3
        clear own3 hg3 hB3 b1 hor9
        go_wp2_with fail
        clear s0 s1 s2 s3 f0 f1 f2 f3
        generalize w3.setCell ⟨w.heap.size + 1, 2, none⟩ (.slice (some ⟨g9, 0, none⟩) (es.length + 1) cap) = w5 at *
        go_roundw
        case rel => exact ⟨i + 1, _, _, by go_num, HL.out.1, Lib.hid ⟨H5.out, by rw [treeOf_app, HTr.out.1]; exact HT.out.symm, by rw [List.length_append, HTr.out.2]; rfl⟩⟩
        case measure => have := HL.out; simp [RowKit.intOf]; omega
    · have hnn : na ≤ 1000000 := hn
      obtain rfl : i = na := by omega
      have hh := HR.out.1.whole (by rw [HR.out.2.2]; omega)
      rw [HR.out.2.1, HTk.out] at hh
      have HF := Lib.hid (And.intro hh HR.out.1)
      obtain ⟨p, c', rfl, -⟩ := hh.len
      obtain ⟨s0, s1, s2, s3⟩ := HR.out.1.b1.box
      obtain ⟨x0, x1, x2, x3⟩ := HR.out.1.b0.box
      have f0 := HR.out.1.b0.free 0
      have f1 := HR.out.1.b0.free 1
      have f2 := HR.out.1.b0.free 2
      have f3 := HR.out.1.b0.free 3
      clear hh HR
      generalize (listFoT l).len = nt at *
      go_wp2_with fail
      obtain ⟨g1, g2, g3⟩ := HF.out.2.b0.all (.int .u8 5) (.string ⟨#[]⟩) (.slice p nt c') (.slice none 0 0)
      have hw3 := set4_else wr w.heap.size (.int .u8 5) (.string ⟨#[]⟩) (.slice p nt c') (.slice none 0 0)
      have g3' := g3 w.heap.size (Nat.le_refl _)
      clear s0 s1 s2 s3 x0 x1 x2 x3 f0 f1 f2 f3
      generalize (((wr.setCell ⟨w.heap.size, 0, none⟩ (.int .u8 5)).setCell ⟨w.heap.size, 1, none⟩ (.string ⟨#[]⟩)).setCell ⟨w.heap.size, 2, none⟩ (.slice p nt c')).setCell ⟨w.heap.size, 3, none⟩ (.slice none 0 0) = w3 at *
      obtain ⟨x0, x1, x2, x3⟩ := g1.box
      refine bodyPost_ret (v := .agg #[.int .u8 5, .string ⟨#[]⟩, .slice p nt c', .slice none 0 0]) (by simp [results, Tryd.results29, go_sem, x0, x1, x2, x3]) rfl ?_
      exact ⟨_, rfl, VF.mk (HF.out.1.fre (fun b hb => by omega) (fun b hb _ => hw3 b (by omega))) (HS.nil _ _ _), HF.out.2.below.trans g3'⟩
end Go.Proofs.YtdgmbmoaeoakpaaDoor
