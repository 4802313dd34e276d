/- The document's Delta. Conditions: an ID of at most 10^7 bytes, at most 10^6 splices of at most 10^6 numbers. -/
import Derived.Test.YtdgmbmoaeoakpaaDoorMC37
import Derived.Test.YtdgmbmoaeoakpaaDoorMC38
namespace Go.Proofs.YtdgmbmoaeoakpaaDoor
open Go Go.RowKit Go.Lib

def delta_anyT2 (id : ByteArray) (T : V.T) : V.T := .cons ⟨#[114, 101, 115, 117, 108, 116, 73, 100]⟩ 4 (U.fixS id) .nil .nil (.cons ⟨#[101, 100, 105, 116, 115]⟩ 5 ⟨#[]⟩ T .nil .nil)
def FRde (w : World) (na c : Nat) (v : Value) (i b o : Nat) (e : Sp) (ob : Option Nat) : Nat → Value → World → Prop
  | 0, y, W => VS (Avo w v ob) 0 ⟨#[]⟩ .nil .nil y W
  | 1, y, _ => y = .slice (some ⟨b, o, none⟩) na c
  | 2, y, _ => y = .int .i64 i
  | 3, y, _ => y = .pointer (some ⟨b, o + i * 3, none⟩)
  | 4, y, _ => y = .pointer (some ⟨b, o + i * 3, none⟩)
  | 5, y, _ => y = .int .i64 e.st
  | 6, y, W => VS (Avo w v ob) 3 ⟨(Lib.itoa e.st).toArray⟩ .nil .nil y W
  | 7, y, W => VS (Avo w v ob) 6 ⟨#[]⟩ .nil (appT .nil ⟨#[115, 116, 97, 114, 116]⟩ 3 ⟨(Lib.itoa e.st).toArray⟩ .nil .nil) y W
  | 8, y, _ => y = .slice (some ⟨b, o, none⟩) na c
  | 9, y, _ => y = .int .i64 i
  | 10, y, _ => y = .pointer (some ⟨b, o + i * 3, none⟩)
  | 11, y, _ => y = .pointer (some ⟨b, o + i * 3 + 1, none⟩)
  | 12, y, _ => y = .int .i64 e.de
  | 13, y, W => VS (Avo w v ob) 3 ⟨(Lib.itoa e.de).toArray⟩ .nil .nil y W
  | 14, y, W => VS (Avo w v ob) 6 ⟨#[]⟩ .nil (appT (appT .nil ⟨#[115, 116, 97, 114, 116]⟩ 3 ⟨(Lib.itoa e.st).toArray⟩ .nil .nil) ⟨#[100, 101, 108, 101, 116, 101, 67, 111, 117, 110, 116]⟩ 3 ⟨(Lib.itoa e.de).toArray⟩ .nil .nil) y W
  | _, _, _ => True
theorem FRde.on {w : World} {na c : Nat} {v : Value} {i b o : Nat} {e : Sp} {ob : Option Nat} {iz : Nat} {y : Value} {W W' : World} (h : FRde w na c v i b o e ob iz y W) (hB : Below W.heap.size W W') : FRde w na c v i b o e ob iz y W' := by
  unfold FRde at h ⊢
  split at h
  · exact h.on hB
  · exact h
  · exact h
  · exact h
  · exact h
  · exact h
  · exact h.on hB
  · exact h.on hB
  · exact h
  · exact h
  · exact h
  · exact h
  · exact h
  · exact h.on hB
  · exact h.on hB
  · trivial
theorem FRde.al {w : World} {na c : Nat} {v : Value} {i b o : Nat} {e : Sp} {iz : Nat} {y : Value} {W : World} (ox : Obj) (h : FRde w na c v i b o e none iz y W) : FRde w na c v i b o e (some W.heap.size) iz y (W.alloc ox) := by
  unfold FRde at h ⊢
  split at h
  · exact vs_allocB ox h
  · exact h
  · exact h
  · exact h
  · exact h
  · exact h
  · exact vs_allocB ox h
  · exact vs_allocB ox h
  · exact h
  · exact h
  · exact h
  · exact h
  · exact h
  · exact vs_allocB ox h
  · exact vs_allocB ox h
  · trivial
def FRd6 (w : World) (na c : Nat) (v : Value) (i b o b4 : Nat) (e : Sp) : Nat → Value → World → Prop
  | 0, y, _ => y = .pointer (some ⟨w.heap.size + 1, 2, none⟩)
  | 1, y, _ => y = v
  | 2, y, W => VS (Avo w v (some b4)) 6 ⟨#[]⟩ .nil (appT (appT .nil ⟨#[115, 116, 97, 114, 116]⟩ 3 ⟨(Lib.itoa e.st).toArray⟩ .nil .nil) ⟨#[100, 101, 108, 101, 116, 101, 67, 111, 117, 110, 116]⟩ 3 ⟨(Lib.itoa e.de).toArray⟩ .nil .nil) y W
  | 3, y, _ => y = .slice (some ⟨b, o, none⟩) na c
  | 4, y, _ => y = .int .i64 i
  | 5, y, _ => y = .pointer (some ⟨b, o + i * 3, none⟩)
  | 6, y, _ => y = .pointer (some ⟨b, o + i * 3 + 2, none⟩)
  | 7, y, _ => y = .slice e.p e.n e.c
  | 8, y, W => VS (Avo w v (some b4)) 5 ⟨#[]⟩ (nmT e.li) .nil y W
  | 9, y, W => VS (Avo w v (some b4)) 6 ⟨#[]⟩ .nil (spliceT e.st e.de e.li) y W
  | 10, y, W => NewV (Avo w v (some b4)) 6 ⟨#[]⟩ .nil (spliceT e.st e.de e.li) y W
  | _, _, _ => True
theorem FRd6.on {w : World} {na c : Nat} {v : Value} {i b o b4 : Nat} {e : Sp} {iz : Nat} {y : Value} {W W' : World} (h : FRd6 w na c v i b o b4 e iz y W) (hB : Below W.heap.size W W') : FRd6 w na c v i b o b4 e iz y W' := by
  unfold FRd6 at h ⊢
  split at h
  · exact h
  · exact h
  · exact h.on hB
  · exact h
  · exact h
  · exact h
  · exact h
  · exact h
  · exact h.on hB
  · exact h.on hB
  · exact h.on hB
  · trivial
def FRd7 (w : World) (id : ByteArray) (T : V.T) : Nat → Value → World → Prop
  | 0, y, W => VS (SN w 2) 0 ⟨#[]⟩ .nil .nil y W
  | 1, y, _ => y = .string id
  | 2, y, W => VS (SN w 2) 4 (U.fixS id) .nil .nil y W
  | 3, y, W => VS (SN w 2) 6 ⟨#[]⟩ .nil (appT .nil ⟨#[114, 101, 115, 117, 108, 116, 73, 100]⟩ 4 (U.fixS id) .nil .nil) y W
  | 4, y, W => VS (SN w 2) 5 ⟨#[]⟩ T .nil y W
  | 5, y, W => VS (SN w 2) 6 ⟨#[]⟩ .nil (delta_anyT2 id T) y W
  | _, _, _ => True
theorem FRd7.on {w : World} {id : ByteArray} {T : V.T} {iz : Nat} {y : Value} {W W' : World} (h : FRd7 w id T iz y W) (hB : Below W.heap.size W W') : FRd7 w id T iz y W' := by
  unfold FRd7 at h ⊢
  split at h
  · exact h.on hB
  · exact h
  · exact h.on hB
  · exact h.on hB
  · exact h.on hB
  · exact h.on hB
  · trivial
theorem listSpT_snoc (l : List Sp) (e : Sp) : listSpT (l ++ [e]) = appT (listSpT l) ⟨#[]⟩ 6 ⟨#[]⟩ .nil (spliceT e.st e.de e.li) := by
  induction l with
  | nil => rfl
  | cons s r ih => show V.T.cons _ _ _ _ _ (listSpT (r ++ [e])) = V.T.cons _ _ _ _ _ (appT (listSpT r) _ _ _ _ _); rw [ih]
set_option maxHeartbeats 8000000 in
set_option maxRecDepth 100000 in
theorem refDelta_any (id : ByteArray) (v0 : Value) (l : List Sp) (w : World) (hid : id.size ≤ 10000000) (h : SrcS w v0 l) (hn : l.length ≤ 1000000) :
    Calls Tryd.prog 27 #[.string id, v0] w (RetV w.heap.size 6 ⟨#[]⟩ .nil (delta_anyT id l) w) := by
  obtain ⟨i0, hi0, hz0, hz1, hz2⟩ := info_parts infoValue
  have HNu := Lib.hid (fun W (s : Int) (hs : I64 s) => refNumber_any s hs.1 hs.2 W)
  have hfz := U.fix_size id
  have HZi := Lib.hid (show (U.fixS id).size ≤ 140737488355328 by omega)
  have HTx := Lib.hid (fun W => refText4_any id W (by omega))
  have hsl : ∃ p4 c, v0 = .slice p4 l.length c ∧ ∀ i, i < l.length → ∃ b o, ∃ e : Sp, p4 = some ⟨b, o, none⟩ ∧ (∀ W, Below w.heap.size w W → SpOk W e ∧ W.cell? ⟨b, o + i * 3, none⟩ = some (.int .i64 e.st) ∧ W.cell? ⟨b, o + i * 3 + 1, none⟩ = some (.int .i64 e.de) ∧ W.cell? ⟨b, o + i * 3 + 2, none⟩ = some (.slice e.p e.n e.c)) ∧ listSpT (l.take (i + 1)) = appT (listSpT (l.take i)) ⟨#[]⟩ 6 ⟨#[]⟩ .nil (spliceT e.st e.de e.li) := by
    rcases h with ⟨rfl, p, c, rfl, hc⟩ | ⟨b, o, c, rfl, h2, h3, h4, h5, h6⟩
    · exact ⟨p, c, rfl, fun i hi => by cases hi⟩
    · refine ⟨_, c, rfl, fun i hi => ⟨b, o, l[i], rfl, fun W hB => ⟨SpOk_below hB (h6 _ (List.getElem_mem hi)), (hB.cell (p := ⟨b, o + i * 3, none⟩) h4).trans (h5 i _ (List.getElem?_eq_getElem hi)).1, (hB.cell (p := ⟨b, o + i * 3 + 1, none⟩) h4).trans (h5 i _ (List.getElem?_eq_getElem hi)).2.1, (hB.cell (p := ⟨b, o + i * 3 + 2, none⟩) h4).trans (h5 i _ (List.getElem?_eq_getElem hi)).2.2⟩, ?_⟩⟩
      rw [List.take_succ_eq_append_getElem hi, listSpT_snoc]
  obtain ⟨p4, c, rfl, hEl⟩ := hsl
  have HEl := Lib.hid hEl
  have HTk := Lib.hid (show listSpT (l.take l.length) = listSpT l by rw [List.take_length])
  have HG0 := Lib.hid (LoG.start w)
  generalize en : l.length = na at *
  clear h hEl en hfz
  go_enter Tryd.func27, Tryd.ntmps27
  go_upto_region 2 with fail
  generalize (w.alloc (.cells #[.int .u8 0, .string ⟨#[]⟩, .slice none 0 0, .slice none 0 0] 25)).alloc (.cells #[.int .u8 5, .string ⟨#[]⟩, .slice none 0 0, .slice none 0 0] 25) = W0 at *
  go_wp2_with fail
  go_loopw [6] (fun p wr => ∃ (i : Nat) (v : Value) (es : List Fe), p = .int .i64 (i : Int) ∧ i ≤ na ∧ Hid (LoG w v es wr ∧ treeOf es = listSpT (l.take i) ∧ es.length = i)) (fun p _ => na - (RowKit.intOf p).toNat)
  case atStart => exact ⟨0, _, [], rfl, Nat.zero_le _, Lib.hid ⟨HG0.out, rfl, rfl⟩⟩
  case round =>
    obtain ⟨i, v, es, rfl, hi, HR⟩ := hrel
    by_cases hlt : i < na
    · obtain ⟨b, o, e, rfl, hes, ht⟩ := HEl.out i hlt
      have HEs := Lib.hid hes
      have HT := Lib.hid ht
      have HTr := Lib.hid HR.out.2
      have HOk := Lib.hid (show I64 e.st ∧ I64 e.de from ⟨(hes w (Below.refl _ _)).1.1, (hes w (Below.refl _ _)).1.2.1⟩)
      have HL := Lib.hid (show i < na ∧ na ≤ 1000000 ∧ es.length = i from ⟨hlt, hn, HR.out.2.2⟩)
      clear hes ht
      go_upto_region 5 with fail
      have HGd := HR.out.1.m.on (Below.refl wr.heap.size wr).drew
      refine wp_region_stepsA 15 16 wr.heap.size (.cells #[.int .u8 0, .string ⟨#[]⟩, .slice none 0 0, .slice none 0 0] 25) [some 15, some 16, some 17, some 18, some 19, some 20, some 21, some 22, some 23, some 24, some 25, some 26, some 27, some 28, some 29, some 7, none] _ _ (G := LoM w v es wr.heap.size) (F := FRde w na c v i b o e) (by kernel_rfl) rfl (by decide +kernel) rfl (by decide +kernel) (by decide +kernel) (by decide) (by decide) (by decide) (by decide +kernel) (fun W h => h.le) (fun W W' h hB => h.on hB) (fun ob i y W W' h hB => h.on hB) (fun i y W _ h => h.al _) ?_ ?_ ?_ HGd
      · intro o' ho a W hg K' hK
        obtain rfl := Option.some.inj ho
        clear hg HGd
        go_simp
        exact hK.out
      · intro i' o' ho hz hx ob a W hg hob hd hold K' hK
        have HG := Lib.hid hg
        have hlt' : i' < 17 := (Array.getElem?_eq_some_iff.1 ho).1
        clear hg HGd
        obtain rfl | rfl | rfl | rfl | rfl | rfl | rfl | rfl | rfl | rfl | rfl | rfl | rfl | rfl | rfl | rfl | rfl : i' = 0 ∨ i' = 1 ∨ i' = 2 ∨ i' = 3 ∨ i' = 4 ∨ i' = 5 ∨ i' = 6 ∨ i' = 7 ∨ i' = 8 ∨ i' = 9 ∨ i' = 10 ∨ i' = 11 ∨ i' = 12 ∨ i' = 13 ∨ i' = 14 ∨ i' = 15 ∨ i' = 16 := by omega
        · obtain rfl := Option.some.inj ho
          clear hd hold
          go_simp
          exact hK.out _ _ (VS.mk (HS.nil _ _ _) (HS.nil _ _ _)) (Below.refl _ _)
        · obtain rfl := Option.some.inj ho
          have o1 : a.tmps[1]? = _ := (hold 1 rfl).trans rfl
          clear hd hold
          go_simp
          exact hK.out _ _ (by rfl) (Below.refl _ _)
        · obtain rfl := Option.some.inj ho
          have o6 : a.tmps[6]? = _ := (hold 6 rfl).trans rfl
          clear hd hold
          go_simp
          exact hK.out _ _ (by rfl) (Below.refl _ _)
        · obtain rfl := Option.some.inj ho
          obtain ⟨y1, e1, h1⟩ := hd 1 16 rfl (by decide +kernel) (by decide) (by decide)
          have h1 : y1 = _ := h1
          subst h1
          obtain ⟨y2, e2, h2⟩ := hd 2 17 rfl (by decide +kernel) (by decide) (by decide)
          have h2 : y2 = _ := h2
          subst h2
          have hi1 := HL.out.1
          have hi2 : (0 : Int) ≤ (i : Int) := Int.natCast_nonneg i
          have hi3 : (i : Int) < (na : Int) := by omega
          clear hd hold
          go_simp
          exact hK.out _ _ (by rfl) (Below.refl _ _)
        · obtain rfl := Option.some.inj ho
          obtain ⟨y3, e3, h3⟩ := hd 3 18 rfl (by decide +kernel) (by decide) (by decide)
          have h3 : y3 = _ := h3
          subst h3
          clear hd hold
          go_simp
          exact hK.out _ _ (by rfl) (Below.refl _ _)
        · obtain rfl := Option.some.inj ho
          obtain ⟨y4, e4, h4⟩ := hd 4 19 rfl (by decide +kernel) (by decide) (by decide)
          have h4 : y4 = _ := h4
          subst h4
          have hc := (HEs.out W HG.out.lo.below).2.1
          clear hd hold
          go_simp
          exact hK.out _ _ (by rfl) (Below.refl _ _)
        · obtain rfl := Option.some.inj ho
          obtain ⟨y5, e5, h5⟩ := hd 5 20 rfl (by decide +kernel) (by decide) (by decide)
          have h5 : y5 = _ := h5
          subst h5
          clear hd hold
          go_simp
          go_at_call 45
          (with_reducible refine (HNu.out W e.st HOk.out.1).mono ?_)
          rintro en W1 ⟨rfl, hB⟩
          exact hK.out _ _ (VS.mk (HS.nil _ _ _) (HS.nil _ _ _)) hB
        · obtain rfl := Option.some.inj ho
          obtain ⟨y0, e0, h0⟩ := hd 0 15 rfl (by decide +kernel) (by decide) (by decide)
          have h0 : VS (Avo w v ob) 0 ⟨#[]⟩ .nil .nil y0 W := h0
          obtain ⟨y6, e6, h6⟩ := hd 6 21 rfl (by decide +kernel) (by decide) (by decide)
          have h6 : VS (Avo w v ob) 3 ⟨(Lib.itoa e.st).toArray⟩ .nil .nil y6 W := h6
          have hcall := with_any (Avo w v ob) 0 ⟨#[]⟩ .nil .nil ⟨#[115, 116, 97, 114, 116]⟩ 3 ⟨(Lib.itoa e.st).toArray⟩ .nil .nil y0 y6 W (HG.out.new hob) h0 h6 (num_fit e.st (by decide) HOk.out.1) (by show (0 : Nat) ≤ 1000; decide)
          have HC := Lib.hid hcall
          clear hd hold hcall h0 h6
          go_simp
          go_at_call 55
          (with_reducible refine HC.out.mono ?_)
          rintro e W1 ⟨y, rfl, hv, hB⟩
          exact hK.out _ _ hv hB
        · obtain rfl := Option.some.inj ho
          have o1 : a.tmps[1]? = _ := (hold 1 rfl).trans rfl
          clear hd hold
          go_simp
          exact hK.out _ _ (by rfl) (Below.refl _ _)
        · obtain rfl := Option.some.inj ho
          have o6 : a.tmps[6]? = _ := (hold 6 rfl).trans rfl
          clear hd hold
          go_simp
          exact hK.out _ _ (by rfl) (Below.refl _ _)
        · obtain rfl := Option.some.inj ho
          obtain ⟨y8, e8, h8⟩ := hd 8 23 rfl (by decide +kernel) (by decide) (by decide)
          have h8 : y8 = _ := h8
          subst h8
          obtain ⟨y9, e9, h9⟩ := hd 9 24 rfl (by decide +kernel) (by decide) (by decide)
          have h9 : y9 = _ := h9
          subst h9
          have hi1 := HL.out.1
          have hi2 : (0 : Int) ≤ (i : Int) := Int.natCast_nonneg i
          have hi3 : (i : Int) < (na : Int) := by omega
          clear hd hold
          go_simp
          exact hK.out _ _ (by rfl) (Below.refl _ _)
        · obtain rfl := Option.some.inj ho
          obtain ⟨y10, e10, h10⟩ := hd 10 25 rfl (by decide +kernel) (by decide) (by decide)
          have h10 : y10 = _ := h10
          subst h10
          clear hd hold
          go_simp
          exact hK.out _ _ (by rfl) (Below.refl _ _)
        · obtain rfl := Option.some.inj ho
          obtain ⟨y11, e11, h11⟩ := hd 11 26 rfl (by decide +kernel) (by decide) (by decide)
          have h11 : y11 = _ := h11
          subst h11
          have hc := (HEs.out W HG.out.lo.below).2.2.1
          clear hd hold
          go_simp
          exact hK.out _ _ (by rfl) (Below.refl _ _)
        · obtain rfl := Option.some.inj ho
          obtain ⟨y12, e12, h12⟩ := hd 12 27 rfl (by decide +kernel) (by decide) (by decide)
          have h12 : y12 = _ := h12
          subst h12
          clear hd hold
          go_simp
          go_at_call 45
          (with_reducible refine (HNu.out W e.de HOk.out.2).mono ?_)
          rintro en W1 ⟨rfl, hB⟩
          exact hK.out _ _ (VS.mk (HS.nil _ _ _) (HS.nil _ _ _)) hB
        · obtain rfl := Option.some.inj ho
          obtain ⟨y7, e7, h7⟩ := hd 7 22 rfl (by decide +kernel) (by decide) (by decide)
          have h7 : VS (Avo w v ob) 6 ⟨#[]⟩ .nil (appT .nil ⟨#[115, 116, 97, 114, 116]⟩ 3 ⟨(Lib.itoa e.st).toArray⟩ .nil .nil) y7 W := h7
          obtain ⟨y13, e13, h13⟩ := hd 13 28 rfl (by decide +kernel) (by decide) (by decide)
          have h13 : VS (Avo w v ob) 3 ⟨(Lib.itoa e.de).toArray⟩ .nil .nil y13 W := h13
          have hcall := with_any (Avo w v ob) 6 ⟨#[]⟩ .nil (appT .nil ⟨#[115, 116, 97, 114, 116]⟩ 3 ⟨(Lib.itoa e.st).toArray⟩ .nil .nil) ⟨#[100, 101, 108, 101, 116, 101, 67, 111, 117, 110, 116]⟩ 3 ⟨(Lib.itoa e.de).toArray⟩ .nil .nil y7 y13 W (HG.out.new hob) h7 h13 (num_fit e.de (by decide) HOk.out.2) (by show (1 : Nat) ≤ 1000; decide)
          have HC := Lib.hid hcall
          clear hd hold hcall h7 h13
          go_simp
          go_at_call 55
          (with_reducible refine HC.out.mono ?_)
          rintro e W1 ⟨y, rfl, hv, hB⟩
          exact hK.out _ _ hv hB
        · exact absurd rfl hx
        · exact absurd rfl hz
      clear HGd
      intro b4 rr W hg hMb hbk hrx hf
      obtain ⟨p1, n1, c1, q1, m1, d1, elast, hl1, hf1⟩ : VS (Avo w v (some b4)) 6 ⟨#[]⟩ .nil (appT (appT .nil ⟨#[115, 116, 97, 114, 116]⟩ 3 ⟨(Lib.itoa e.st).toArray⟩ .nil .nil) ⟨#[100, 101, 108, 101, 116, 101, 67, 111, 117, 110, 116]⟩ 3 ⟨(Lib.itoa e.de).toArray⟩ .nil .nil) (rr 14) W := hf 14 (by decide) (by decide) (by decide)
      have hbk : Blk4 W b4 25 (.int .u8 0) (.string ⟨#[]⟩) (.slice none 0 0) (.slice none 0 0) := hbk
      have hv : VS (Avo w v (some b4)) 6 ⟨#[]⟩ .nil (appT (appT .nil ⟨#[115, 116, 97, 114, 116]⟩ 3 ⟨(Lib.itoa e.st).toArray⟩ .nil .nil) ⟨#[100, 101, 108, 101, 116, 101, 67, 111, 117, 110, 116]⟩ 3 ⟨(Lib.itoa e.de).toArray⟩ .nil .nil) (.agg #[.int .u8 6, .string ⟨#[]⟩, .slice p1 n1 c1, .slice q1 m1 d1]) W := VS.mk hl1 hf1
      have HX := Lib.hid (hg.fill hMb hbk hv)
      obtain ⟨s0, s1, s2, s3⟩ := hbk.box
      have f0 := hbk.free 0
      have f1 := hbk.free 1
      have f2 := hbk.free 2
      have f3 := hbk.free 3
      clear hg hbk hl1 hf1 hf hv hMb HR
      simp only [putL, Act.put, List.setIfInBounds_toArray, List.set_cons_zero, List.set_cons_succ, elast, hrx]
      clear elast hrx
      refine wpAnyL_op 16 (by kernel_rfl) rfl (fun K hK => ?_)
      go_simp
      refine hK.out _ _ (fun _ => trivial) ?_
      clear hK K
      refine wpAnyL_end (by kernel_rfl) ?_
      clear s0 s1 s2 s3 f0 f1 f2 f3
      generalize (((W.setCell ⟨b4, 0, none⟩ (.int .u8 6)).setCell ⟨b4, 1, none⟩ (.string ⟨#[]⟩)).setCell ⟨b4, 2, none⟩ (.slice p1 n1 c1)).setCell ⟨b4, 3, none⟩ (.slice q1 m1 d1) = W4 at *
      go_upto_region 6 with fail
      have HGe := HX.out.on (Below.refl W4.heap.size W4).drew
      refine wp_region_stepsZ [11, 12, 13] [some 30, some 31, some 32, some 33, some 34, some 35, some 36, some 37, some 38, some 39, some 40, some 41, some 42, none] _ _ (G := LoX w v es b4 (appT (appT .nil ⟨#[115, 116, 97, 114, 116]⟩ 3 ⟨(Lib.itoa e.st).toArray⟩ .nil .nil) ⟨#[100, 101, 108, 101, 116, 101, 67, 111, 117, 110, 116]⟩ 3 ⟨(Lib.itoa e.de).toArray⟩ .nil .nil)) (F := FRd6 w na c v i b o b4 e) (by kernel_rfl) rfl (by decide +kernel) rfl (by decide +kernel) (by decide +kernel) ⟨11, by decide, by decide⟩ (by decide +kernel) (fun W W' h hB => h.on hB) (fun i y W W' h hB => h.on hB) ?_ ?_ HGe
      · intro i' o' ho hz a W hg hd hold K' hK
        have HG := Lib.hid hg
        have hlt' : i' < 14 := (Array.getElem?_eq_some_iff.1 ho).1
        clear hg HGe
        obtain rfl | rfl | rfl | rfl | rfl | rfl | rfl | rfl | rfl | rfl | rfl | rfl | rfl | rfl : i' = 0 ∨ i' = 1 ∨ i' = 2 ∨ i' = 3 ∨ i' = 4 ∨ i' = 5 ∨ i' = 6 ∨ i' = 7 ∨ i' = 8 ∨ i' = 9 ∨ i' = 10 ∨ i' = 11 ∨ i' = 12 ∨ i' = 13 := by omega
        · obtain rfl := Option.some.inj ho
          have o5 : a.tmps[5]? = _ := (hold 5 rfl).trans rfl
          clear hd hold
          go_simp
          exact hK.out _ _ (by rfl) (Below.refl _ _)
        · obtain rfl := Option.some.inj ho
          obtain ⟨y0, e0, h0⟩ := hd 0 30 rfl (by decide +kernel) (by decide)
          have h0 : y0 = _ := h0
          subst h0
          obtain ⟨s0, s1, s2, s3⟩ := HG.out.lo.b1.box
          clear hd hold
          go_simp
          exact hK.out _ _ (by rfl) (Below.refl _ _)
        · obtain rfl := Option.some.inj ho
          have o7 : a.tmps[7]? = _ := (hold 7 rfl).trans rfl
          clear hd hold
          obtain ⟨p, n, c, q, m, d, hby, hl, hf⟩ := HG.out.box
          obtain ⟨s0, s1, s2, s3⟩ := hby.box
          have HV := Lib.hid (And.intro hl hf)
          clear hby hl hf
          go_simp
          exact hK.out _ _ (VS.mk HV.out.1 HV.out.2) (Below.refl _ _)
        · obtain rfl := Option.some.inj ho
          have o1 : a.tmps[1]? = _ := (hold 1 rfl).trans rfl
          clear hd hold
          go_simp
          exact hK.out _ _ (by rfl) (Below.refl _ _)
        · obtain rfl := Option.some.inj ho
          have o6 : a.tmps[6]? = _ := (hold 6 rfl).trans rfl
          clear hd hold
          go_simp
          exact hK.out _ _ (by rfl) (Below.refl _ _)
        · obtain rfl := Option.some.inj ho
          obtain ⟨y3, e3, h3⟩ := hd 3 33 rfl (by decide +kernel) (by decide)
          have h3 : y3 = _ := h3
          subst h3
          obtain ⟨y4, e4, h4⟩ := hd 4 34 rfl (by decide +kernel) (by decide)
          have h4 : y4 = _ := h4
          subst h4
          have hi1 := HL.out.1
          have hi2 : (0 : Int) ≤ (i : Int) := Int.natCast_nonneg i
          have hi3 : (i : Int) < (na : Int) := by omega
          clear hd hold
          go_simp
          exact hK.out _ _ (by rfl) (Below.refl _ _)
        · obtain rfl := Option.some.inj ho
          obtain ⟨y5, e5, h5⟩ := hd 5 35 rfl (by decide +kernel) (by decide)
          have h5 : y5 = _ := h5
          subst h5
          clear hd hold
          go_simp
          exact hK.out _ _ (by rfl) (Below.refl _ _)
        · obtain rfl := Option.some.inj ho
          obtain ⟨y6, e6, h6⟩ := hd 6 36 rfl (by decide +kernel) (by decide)
          have h6 : y6 = _ := h6
          subst h6
          have hc := (HEs.out W HG.out.lo.below).2.2.2
          clear hd hold
          go_simp
          exact hK.out _ _ (by rfl) (Below.refl _ _)
        · obtain rfl := Option.some.inj ho
          obtain ⟨y7, e7, h7⟩ := hd 7 37 rfl (by decide +kernel) (by decide)
          have h7 : y7 = _ := h7
          subst h7
          have hcall := Calls.mono (numsR_any (.slice e.p e.n e.c) e.li W (HEs.out W HG.out.lo.below).1.2.2.1 (HEs.out W HG.out.lo.below).1.2.2.2) (fun e W1 h => RetV.s (S := (Avo w v (some b4))) h HG.out.new)
          have HC := Lib.hid hcall
          clear hd hold hcall 
          go_simp
          go_at_call 56
          (with_reducible refine HC.out.mono ?_)
          rintro e W1 ⟨y, rfl, hv, hB⟩
          exact hK.out _ _ hv hB
        · obtain rfl := Option.some.inj ho
          obtain ⟨y2, e2, h2⟩ := hd 2 32 rfl (by decide +kernel) (by decide)
          have h2 : VS (Avo w v (some b4)) 6 ⟨#[]⟩ .nil (appT (appT .nil ⟨#[115, 116, 97, 114, 116]⟩ 3 ⟨(Lib.itoa e.st).toArray⟩ .nil .nil) ⟨#[100, 101, 108, 101, 116, 101, 67, 111, 117, 110, 116]⟩ 3 ⟨(Lib.itoa e.de).toArray⟩ .nil .nil) y2 W := h2
          obtain ⟨y8, e8, h8⟩ := hd 8 38 rfl (by decide +kernel) (by decide)
          have h8 : VS (Avo w v (some b4)) 5 ⟨#[]⟩ (nmT e.li) .nil y8 W := h8
          have hcall := with_any (Avo w v (some b4)) 6 ⟨#[]⟩ .nil (appT (appT .nil ⟨#[115, 116, 97, 114, 116]⟩ 3 ⟨(Lib.itoa e.st).toArray⟩ .nil .nil) ⟨#[100, 101, 108, 101, 116, 101, 67, 111, 117, 110, 116]⟩ 3 ⟨(Lib.itoa e.de).toArray⟩ .nil .nil) ⟨#[100, 97, 116, 97]⟩ 5 ⟨#[]⟩ (nmT e.li) .nil y2 y8 W (HG.out.new) h2 h8 ⟨by decide, by decide, by decide⟩ (by show (2 : Nat) ≤ 1000; decide)
          have HC := Lib.hid hcall
          clear hd hold hcall h2 h8
          go_simp
          go_at_call 55
          (with_reducible refine HC.out.mono ?_)
          rintro e W1 ⟨y, rfl, hv, hB⟩
          exact hK.out _ _ hv hB
        · obtain rfl := Option.some.inj ho
          obtain ⟨y9, e9, h9⟩ := hd 9 39 rfl (by decide +kernel) (by decide)
          have h9 : VS (Avo w v (some b4)) 6 ⟨#[]⟩ .nil (spliceT e.st e.de e.li) y9 W := h9
          obtain ⟨p8, n8, c8, q8, m8, d8, rfl, l8, f8⟩ := h9
          have hB := (Below.refl W.heap.size W).alloc (Nat.le_refl _) (.cells #[.int .u8 6, .string ⟨#[]⟩, .slice p8 n8 c8, .slice q8 m8 d8] 25)
          have HQ := Lib.hid (And.intro (newV_of (k := 6) (x := ⟨#[]⟩) l8 f8) hB)
          clear hd hold hB l8 f8
          go_simp
          exact hK.out _ _ HQ.out.1 HQ.out.2
        · cases hz
        · cases hz
        · cases hz
      · clear HGe HX
        intro rr W hg hf
        have e1 : rr 1 = v := hf 1 (by decide) (by decide)
        obtain ⟨b', p9, n9, c9, q9, m9, d9, e7, hnews, hl9, hf9⟩ : NewV (Avo w v (some b4)) 6 ⟨#[]⟩ .nil (spliceT e.st e.de e.li) (rr 10) W := hf 10 (by decide) (by decide)
        have HG := Lib.hid hg
        clear hg hf
        simp only [putL, Act.put, List.setIfInBounds_toArray, List.set_cons_zero, List.set_cons_succ, e1, e7]
        refine wpAnyL_op 11 (by kernel_rfl) rfl (fun K hK => ?_)
        refine step_append_lies W rfl (.tmp 31) (.tmp 40) 22 rfl (w.heap.size + 2) 25 i0 _ 4 72 Tryd.underlying22 hi0 hz0 hz1 hz2 rfl (by decide) v es.length (vcells es) rfl HG.out.lo.own ⟨b', 0, none⟩ 1 1 (vcells [⟨⟨#[]⟩, 6, ⟨#[]⟩, .slice p9 n9 c9, .slice q9 m9 d9, .nil, (spliceT e.st e.de e.li)⟩]) rfl rfl hnews (fun u hu => by
          simp only [vcells, List.mem_cons, List.not_mem_nil, or_false] at hu
          rcases hu with rfl | rfl | rfl | rfl <;> rfl) (by decide) (by unfold maxLen; have := HL.out; omega) (by have := HL.out; omega) HG.out.lo.lt _ rfl (fun g9 cap w3 own3 hg3 hor9 _ => ?_)
        refine hK.out _ _ (fun _ => trivial) ?_
        simp only [Act.put, List.setIfInBounds_toArray, List.set_cons_zero, List.set_cons_succ]
        have H5 := Lib.hid (LoG.step (e := ⟨⟨#[]⟩, 6, ⟨#[]⟩, .slice p9 n9 c9, .slice q9 m9 d9, .nil, (spliceT e.st e.de e.li)⟩) HG.out.lo own3 hg3 hor9 ⟨hl9.mono (fun _ h _ => ⟨h.1.1, h.2⟩), hf9.mono (fun _ h _ => ⟨h.1.1, h.2⟩), ⟨(by show (6 : Nat) < 256; decide), (by show (0 : Nat) ≤ 140737488355328; decide), (by show (0 : Nat) ≤ 140737488355328; decide)⟩⟩ rfl)
        have hB3 : Below (w.heap.size + 2) W w3 := (Below.refl (w.heap.size + 2) W).grown hg3 HG.out.lo.lt (fun k hk => (HG.out.lo.own.lt k hk).1)
        have b1 := HG.out.lo.b1.same (hB3.block _ (by omega))
        obtain ⟨s0, s1, s2, s3⟩ := b1.box
        have f0 := b1.free 0
        have f1 := b1.free 1
        have f2 := b1.free 2
        have f3 := b1.free 3
        clear hK K own3 hg3 hB3 b1 hnews e1 e7 hl9 hf9 hor9
        refine wpAnyL_op 12 (by kernel_rfl) rfl (fun K hK => ?_)
        go_simp
        refine hK.out _ _ (fun _ => trivial) ?_
        try simp only [Act.put, List.setIfInBounds_toArray, List.set_cons_zero, List.set_cons_succ]
        clear hK K
        refine wpAnyL_op 13 (by kernel_rfl) rfl (fun K hK => ?_)
        go_simp
        refine hK.out _ _ (fun _ => trivial) ?_
        clear hK K
        refine wpAnyL_end (by kernel_rfl) ?_
        clear s0 s1 s2 s3 f0 f1 f2 f3
        generalize w3.setCell ⟨w.heap.size + 1, 2, none⟩ (.slice (some ⟨g9, 0, none⟩) (es.length + 1) cap) = w5 at *
        go_wp2_with fail
        go_roundw
        case rel => exact ⟨i + 1, _, _, by go_num, HL.out.1, Lib.hid ⟨H5.out, by rw [treeOf_app, HTr.out.1]; exact HT.out.symm, by rw [List.length_append, HTr.out.2]; rfl⟩⟩
        case measure => have := HL.out; simp [RowKit.intOf]; omega
    · obtain rfl : i = na := by omega
      have hh := HR.out.1.whole (by rw [HR.out.2.2]; exact hn)
      rw [HR.out.2.1, HTk.out] at hh
      have HW := Lib.hid (And.intro HR.out.1 hh)
      clear hh HR
      change Hid (LoG w v es wr ∧ HS wr (FrS (SN w 2) wr) 0 v (listSpT l)) at HW
      go_upto_region 7 with fail
      have HGe : LoG w v es wr.drew ∧ HS wr.drew (FrS (SN w 2) wr.drew) 0 v (listSpT l) := ⟨HW.out.1.on (Below.refl wr.heap.size wr).drew, HW.out.2.frS (Below.refl wr.heap.size wr).drew⟩
      refine wp_region_stepsF [some 43, some 44, some 45, some 46, some 47, some 48, none] _ _ (G := fun W => LoG w v es W ∧ HS W (FrS (SN w 2) W) 0 v (listSpT l)) (F := FRd7 w id (listSpT l)) (z := 6) (by kernel_rfl) rfl (by decide +kernel) rfl (by decide +kernel) (by decide +kernel) rfl (fun W W' h hB => ⟨h.1.on hB, h.2.frS hB⟩) (fun i y W W' h hB => h.on hB) ?_ ?_ HGe
      · intro i' o' ho hz a W hg hd hold K' hK
        have HG := Lib.hid hg
        have hlt' : i' < 7 := (Array.getElem?_eq_some_iff.1 ho).1
        clear hg HGe
        obtain rfl | rfl | rfl | rfl | rfl | rfl | rfl : i' = 0 ∨ i' = 1 ∨ i' = 2 ∨ i' = 3 ∨ i' = 4 ∨ i' = 5 ∨ i' = 6 := by omega
        · obtain rfl := Option.some.inj ho
          clear hd hold
          go_simp
          exact hK.out _ _ (VS.mk (HS.nil _ _ _) (HS.nil _ _ _)) (Below.refl _ _)
        · obtain rfl := Option.some.inj ho
          have o0 : a.tmps[0]? = _ := (hold 0 rfl).trans rfl
          clear hd hold
          go_simp
          exact hK.out _ _ (by rfl) (Below.refl _ _)
        · obtain rfl := Option.some.inj ho
          obtain ⟨y1, e1, h1⟩ := hd 1 44 rfl (by decide +kernel) (by decide)
          have h1 : y1 = _ := h1
          subst h1
          clear hd hold
          go_simp
          go_at_call 44
          (with_reducible refine (HTx.out W).mono ?_)
          rintro en W1 ⟨rfl, hB⟩
          exact hK.out _ _ (VS.mk (HS.nil _ _ _) (HS.nil _ _ _)) hB
        · obtain rfl := Option.some.inj ho
          obtain ⟨y0, e0, h0⟩ := hd 0 43 rfl (by decide +kernel) (by decide)
          have h0 : VS (SN w 2) 0 ⟨#[]⟩ .nil .nil y0 W := h0
          obtain ⟨y2, e2, h2⟩ := hd 2 45 rfl (by decide +kernel) (by decide)
          have h2 : VS (SN w 2) 4 (U.fixS id) .nil .nil y2 W := h2
          have hcall := with_any (SN w 2) 0 ⟨#[]⟩ .nil .nil ⟨#[114, 101, 115, 117, 108, 116, 73, 100]⟩ 4 (U.fixS id) .nil .nil y0 y2 W (fun j hj => Nat.le_trans HG.out.1.lt hj) h0 h2 ⟨by decide, by have := HZi.out; omega, by decide⟩ (by show (0 : Nat) ≤ 1000; decide)
          have HC := Lib.hid hcall
          clear hd hold hcall h0 h2
          go_simp
          go_at_call 55
          (with_reducible refine HC.out.mono ?_)
          rintro e W1 ⟨y, rfl, hv, hB⟩
          exact hK.out _ _ hv hB
        · obtain rfl := Option.some.inj ho
          have o5 : a.tmps[5]? = _ := (hold 5 rfl).trans rfl
          obtain ⟨s0, s1, s2, s3⟩ := HG.out.1.b1.box
          have HV := HG.out.2
          obtain ⟨pv, cv, rfl, -⟩ := HV.len
          clear hd hold
          go_simp
          exact hK.out _ _ (VS.mk HV (HS.nil _ _ _)) (Below.refl _ _)
        · obtain rfl := Option.some.inj ho
          obtain ⟨y3, e3, h3⟩ := hd 3 46 rfl (by decide +kernel) (by decide)
          have h3 : VS (SN w 2) 6 ⟨#[]⟩ .nil (appT .nil ⟨#[114, 101, 115, 117, 108, 116, 73, 100]⟩ 4 (U.fixS id) .nil .nil) y3 W := h3
          obtain ⟨y4, e4, h4⟩ := hd 4 47 rfl (by decide +kernel) (by decide)
          have h4 : VS (SN w 2) 5 ⟨#[]⟩ (listSpT l) .nil y4 W := h4
          have hcall := with_any (SN w 2) 6 ⟨#[]⟩ .nil (appT .nil ⟨#[114, 101, 115, 117, 108, 116, 73, 100]⟩ 4 (U.fixS id) .nil .nil) ⟨#[101, 100, 105, 116, 115]⟩ 5 ⟨#[]⟩ (listSpT l) .nil y3 y4 W (fun j hj => Nat.le_trans HG.out.1.lt hj) h3 h4 ⟨by decide, by decide, by decide⟩ (by show (1 : Nat) ≤ 1000; decide)
          have HC := Lib.hid hcall
          clear hd hold hcall h3 h4
          go_simp
          go_at_call 55
          (with_reducible refine HC.out.mono ?_)
          rintro e W1 ⟨y, rfl, hv, hB⟩
          exact hK.out _ _ hv hB
        · exact absurd rfl hz
      · intro a W hg hf hold hdf hasz K' hK
        obtain ⟨yz, oz, hvz⟩ := hf 5 48 rfl (by decide) (by decide)
        obtain ⟨p, n, d, q, m, d', rfl, hl, hf'⟩ : VS (SN w 2) 6 ⟨#[]⟩ .nil (delta_anyT2 id (listSpT l)) yz W := hvz
        have o4 : a.tmps[4]? = some (Value.pointer (some ⟨w.heap.size, 0, none⟩)) := (hold 4 rfl).trans rfl
        have od : a.defers = [] := hdf.trans rfl
        have HG := Lib.hid hg.1
        have HV := Lib.hid (And.intro hl hf')
        obtain ⟨s0, s1, s2, s3⟩ := hg.1.b0.box
        have f0 := hg.1.b0.free 0
        have f1 := hg.1.b0.free 1
        have f2 := hg.1.b0.free 2
        have f3 := hg.1.b0.free 3
        clear hg hl hf hf' hold hdf hasz HGe
        go_simp
        refine hK.out _ _ ?_
        clear hK K'
        go_wp2_with fail
        obtain ⟨g1, g2, g3⟩ := HG.out.b0.all (.int .u8 6) (.string ⟨#[]⟩) (.slice p n d) (.slice q m d')
        have hw3 := set4_else W w.heap.size (.int .u8 6) (.string ⟨#[]⟩) (.slice p n d) (.slice q m d')
        have g3' := g3 w.heap.size (Nat.le_refl _)
        clear s0 s1 s2 s3 f0 f1 f2 f3
        generalize (((W.setCell ⟨w.heap.size, 0, none⟩ (.int .u8 6)).setCell ⟨w.heap.size, 1, none⟩ (.string ⟨#[]⟩)).setCell ⟨w.heap.size, 2, none⟩ (.slice p n d)).setCell ⟨w.heap.size, 3, none⟩ (.slice q m d') = w3 at *
        obtain ⟨x0, x1, x2, x3⟩ := g1.box
        refine bodyPost_ret (v := .agg #[.int .u8 6, .string ⟨#[]⟩, .slice p n d, .slice q m d']) (by simp [results, Tryd.results27, go_sem, o4, x0, x1, x2, x3]) od ?_
        have hS : ∀ j, SN w 2 j → w.heap.size ≤ j ∧ j ≠ w.heap.size := fun j hj => by unfold SN at hj; omega
        exact ⟨_, rfl, VF.mk (hs_fre HV.out.1 hS hw3) (hs_fre HV.out.2 hS hw3), HG.out.below.trans g3'⟩
end Go.Proofs.YtdgmbmoaeoakpaaDoor
