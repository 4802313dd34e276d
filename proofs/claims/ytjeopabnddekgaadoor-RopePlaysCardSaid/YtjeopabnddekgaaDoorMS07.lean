/- Each rope has just the text that the document says: the law's walk. Conditions: strings of at most 2^48 bytes; the library's tables. -/
import Derived.Test.YtjeopabnddekgaaDoorMS06
import Derived.Test.YtjeopabnddekgaaDoorME38
import Derived.Deep.AppendLies
namespace Go.Proofs.YtjeopabnddekgaaDoor
open Go Go.RowKit Go.Lib

theorem infoRp : (Tryd.prog.info? 24).map (fun i => (i.zero, i.size, i.bytes)) = some (some (.pointer none), 1, 8) := by kernel_rfl
theorem infoSt : (Tryd.prog.info? 9).map (fun i => (i.zero, i.size, i.bytes)) = some (some (.string ⟨#[]⟩), 1, 16) := by kernel_rfl
theorem rope_valid {W : World} {v : Value} {t : R.T} (h : RopeAt W v t) : U.valid t.tx = true := by
  obtain ⟨b, rv, rfl, hb, hn, ht⟩ := h; exact ht.valid
def Few63 (l : List OpE) : Prop := l.length ≤ 60 ∧ (∀ e' ∈ l, e'.s.size ≤ 70000)
/-- under way -/
def PyI (w W : World) (u9 u10 : Value) (v : Value) (t : R.T) (i : Nat) (ts : List (Value × R.T)) : Prop := PlI w W u9 u10 (vl9 ts) (tx10 ts) ts ∧ (v, t) ∈ ts ∧ ts.length ≤ i + 1
set_option maxHeartbeats 8000000 in
set_option maxRecDepth 100000 in
theorem ropePlays_any (s : ByteArray) (v : Value) (l : List OpE) (w : World) (hs : s.size ≤ 281474976710656) (hl : ArgOp w v l) (hT : Tabs w) :
    Calls Tryd.prog 3 #[.string s, v] w (BoolIs true w) := by
  obtain ⟨iR, hiR, hzR0, hzR1, hzR2⟩ := info_partsE infoRp
  obtain ⟨iS, hiS, hzS0, hzS1, hzS2⟩ := info_partsE infoSt
  obtain ⟨z, cap, rfl, hc1, hc2, hr, hq⟩ := hl
  have HOp := Lib.hid (fun W (hB : Below w.heap.size w W) (j : Nat) (e : OpE) (hj : l[j]? = some e) => (show ∃ b o, z = some ⟨b, o, none⟩ ∧ W.cell? ⟨b, o + j * 3, none⟩ = some (.int .i64 e.f) ∧ W.cell? ⟨b, o + j * 3 + 1, none⟩ = some (.int .i64 e.k) ∧ W.cell? ⟨b, o + j * 3 + 2, none⟩ = some (.string e.s) from by
    obtain ⟨b, o, hz, hb, c0, c1, c2⟩ := hr j e hj
    exact ⟨b, o, hz, (hB.cell (p := ⟨b, _, none⟩) hb).trans c0, (hB.cell (p := ⟨b, _, none⟩) hb).trans c1, (hB.cell (p := ⟨b, _, none⟩) hb).trans c2⟩))
  have HQ := Lib.hid hq
  have HGr := Lib.hid (great9_any s z l.length cap (fun j => ((l[j]?).getD ⟨0, 0, ByteArray.empty⟩).s) w hs (by omega) (fun i hi => by
    obtain ⟨e, hj⟩ : ∃ e, l[i]? = some e := ⟨_, List.getElem?_eq_getElem hi⟩
    obtain ⟨b, o, hz, c0, c1, c2⟩ := HOp.out _ (Below.refl _ _) i e hj
    refine ⟨b, o, hz, ?_, ?_⟩
    · rw [hj]; exact c2
    · rw [hj]; exact (hq e (List.mem_of_getElem? hj)).2.2))
  have HTb := Lib.hid (fun W (hB : Below w.heap.size w W) => tabs_below hT hB)
  have HSp := Lib.hid (fun W (hB : Below w.heap.size w W) v t (f k : Int) (y : ByteArray) (hf : I64 f) (hk : I64 k) (h1 : t.tx.size ≤ 16384) (h2 : y.size ≤ 70000) (h : RopeAt W v t) => splice_any v t f k y W h (by omega) (by omega) hf hk (tabs_below hT hB))
  clear hr hq hs hT
  go_enter Tryd.func3, Tryd.ntmps3
  go_wp2_with fail
  refine HGr.out.mono ?_
  rintro en w1 ⟨ok, rfl, rfl, hfew⟩
  cases ok
  rotate_left
  · clear hfew
    go_wp2_with fail
    go_ret
    exact ⟨rfl, Below.refl _ _⟩
  obtain ⟨hs7, hl6, hj7⟩ := hfew rfl
  have HF := Lib.hid (show Few63 l from ⟨hl6, fun e hm => (by
    obtain ⟨j, hj, e1⟩ := List.getElem_of_mem hm
    have := hj7 j hj
    dsimp only at this
    rw [List.getElem?_eq_getElem hj, Option.getD_some, e1] at this
    exact this)⟩)
  have HN := Lib.hid (new_any s w1 (by omega) (HTb.out w1 (Below.refl _ _)))
  have HN2 := Lib.hid (fun W => refNew_any s W (by omega))
  have HE1 := Lib.hid (fun h => newE_ok (s := s) h)
  have j60 : (l.length : Int) ≤ 60 := by omega
  clear hfew hs7 hl6 hj7 HGr
  generalize newE s = E at *
  go_wp2_with fail
  refine HN.out.mono ?_
  clear HN
  rintro en w2 ⟨v1, rfl, hB, hr⟩
  have H2 := Lib.hid hB
  clear hB
  rcases hr with ⟨hE, t, hR, htx⟩ | ⟨hE, rfl⟩
  rotate_left
  · rw [if_neg hE] at HN2
    have hne : (E == 0) = false := by rw [beq_eq_false_iff_ne]; exact hE
    go_wp2_with fail
    refine (HN2.out _).mono ?_
    rintro en w3 ⟨rfl, hB⟩
    have H3 := Lib.hid (H2.out.trans (hB.mono H2.out.size))
    clear hB
    go_wp2_with fail
    go_ret
    exact ⟨rfl, H3.out⟩
  subst hE
  rw [if_pos rfl] at HN2
  have hsz : s.size ≤ 16384 := HE1.out rfl
  have hvp : ∃ vb, v1 = .pointer (some ⟨vb, 0, none⟩) := by obtain ⟨b, rv, rfl, _⟩ := hR; exact ⟨b, rfl⟩
  have HR0 := Lib.hid (And.intro hR (And.intro htx hsz))
  obtain ⟨vb, rfl⟩ := hvp
  clear hR htx HE1 hsz
  go_wp2_with fail
  refine (HN2.out _).mono ?_
  rintro en w3 ⟨rfl, hB⟩
  have hR3 := HR0.out.1.below hB
  have hb1 := H2.out.trans (hB.mono H2.out.size)
  have ha1 := (Below.refl w3.heap.size w3).alloc (Nat.le_refl _) (.cells #[.pointer (some ⟨vb, 0, none⟩)] 24)
  have ha2 := (Below.refl (w3.alloc (.cells #[.pointer (some ⟨vb, 0, none⟩)] 24)).heap.size (w3.alloc (.cells #[.pointer (some ⟨vb, 0, none⟩)] 24))).alloc (Nat.le_refl _) (.cells #[.string s] 9)
  have o9 := ownsRow_one w3 w1.heap.size 24 (.pointer (some ⟨vb, 0, none⟩)) hb1.size
  have o10 := ownsRow_one (w3.alloc (.cells #[.pointer (some ⟨vb, 0, none⟩)] 24)) w1.heap.size 9 (.string s) (Nat.le_trans hb1.size ha1.size)
  have hsz1 : (w3.alloc (.cells #[.pointer (some ⟨vb, 0, none⟩)] 24)).heap.size = w3.heap.size + 1 := World.size_alloc _ _
  rw [hsz1] at o10
  have hI : PyI w1 ((w3.alloc (.cells #[.pointer (some ⟨vb, 0, none⟩)] 24)).alloc (.cells #[.string s] 9)) (.slice (some ⟨w3.heap.size, 0, none⟩) 1 1) (.slice (some ⟨w3.heap.size + 1, 0, none⟩) 1 1) (.pointer (some ⟨vb, 0, none⟩)) t 0 [(.pointer (some ⟨vb, 0, none⟩), t)] :=
    ⟨⟨(hb1.trans (ha1.mono hb1.size)).trans (ha2.mono (Nat.le_trans hb1.size ha1.size)), owns_bel o9 ha2, by rw [show tx10 [(Value.pointer (some ⟨vb, 0, none⟩), t)] = [.string s] by simp [tx10, HR0.out.2.1]]; exact o10, fun p hp => by
      rw [List.mem_singleton.1 hp]
      exact ⟨(hR3.below ha1).below ha2, by rw [HR0.out.2.1]; exact HR0.out.2.2⟩⟩, by simp, by simp⟩
  have HI := Lib.hid hI
  have HTX := Lib.hid HR0.out.2.1
  clear hI o9 o10 ha1 ha2 hb1 hR3 hB hsz1 HR0
  go_wp2_with fail
  go_loopw [5, 7, 9, 10, 11] (fun p tt u9 u10 q wr => ∃ (i : Nat) (t' : R.T) (ts : List (Value × R.T)), q = .int .i64 (i : Int) ∧ tt = .string t'.tx ∧ i ≤ l.length ∧ Hid (PyI w1 wr u9 u10 p t' i ts)) (fun _ _ _ _ q _ => l.length - (RowKit.intOf q).toNat)
  case atStart => exact ⟨0, t, _, rfl, by rw [HTX.out], Nat.zero_le _, HI⟩
  case round =>
    obtain ⟨i, t', ts, rfl, rfl, hi, HR⟩ := hrel
    by_cases hlt : i < l.length
    · obtain ⟨e, hj⟩ : ∃ e, l[i]? = some e := ⟨_, List.getElem?_eq_getElem hlt⟩
      have hm := List.mem_of_getElem? hj
      have heo := HQ.out e hm
      have hes := HF.out.2 e hm
      have HRp := Lib.hid (HR.out.1.all _ HR.out.2.1)
      have HJ := Lib.hid (fun W (hB : Below wr.heap.size wr W) => HOp.out W (HR.out.1.bel.trans (hB.mono HR.out.1.bel.size)) i e hj)
      have HS := Lib.hid (fun W (hB : Below wr.heap.size wr W) => HSp.out W (HR.out.1.bel.trans (hB.mono HR.out.1.bel.size)) _ t' e.f e.k e.s heo.1 heo.2.1 HRp.out.2 hes (HRp.out.1.below hB))
      have HS2 := Lib.hid (fun W => refSplice_any t'.tx e.f e.k e.s W (rope_valid HRp.out.1) HRp.out.2 hes)
      unfold SpR at HS2
      have HX := Lib.hid (fun h => spT_le (f := e.f) (k := e.k) (s := e.s) (rope_valid HRp.out.1) HRp.out.2 h)
      obtain ⟨E, hE⟩ : ∃ E, spE t'.tx e.f e.k e.s = E := ⟨_, rfl⟩
      rw [hE] at HS HX HS2
      obtain ⟨b, o, rfl, c0, c1, c2⟩ := HJ.out wr (Below.refl _ _)
      have KEEP := Lib.hid (fun w' (hB : Below wr.heap.size wr w') => (show w'.cell? ⟨b, o + i * 3, none⟩ = some (.int .i64 e.f) ∧ w'.cell? ⟨b, o + i * 3 + 1, none⟩ = some (.int .i64 e.k) ∧ w'.cell? ⟨b, o + i * 3 + 2, none⟩ = some (.string e.s) from by
        obtain ⟨b', o', hz, g0, g1, g2⟩ := HJ.out w' hB
        cases hz
        exact ⟨g0, g1, g2⟩))
      have HL := Lib.hid hlt
      have i1 : (0 : Int) ≤ (i : Int) := Int.natCast_nonneg i
      have i2 : (i : Int) < (l.length : Int) := by omega
      have i4 : (i : Int) ≤ 60 := by omega
      clear hj hm heo hes hlt hi hE HJ
      go_upto_region 13 with fail
      go_region_held3 (fun w' => w'.cell? ⟨b, o + i * 3, none⟩ = some (.int .i64 e.f) ∧ w'.cell? ⟨b, o + i * 3 + 1, none⟩ = some (.int .i64 e.k) ∧ w'.cell? ⟨b, o + i * 3 + 2, none⟩ = some (.string e.s))
        (first | exact KEEP.out _ hC1 | exact KEEP.out _ (Below.refl _ _).drew | exact KEEP.out _ (Below.refl _ _))
        (first | (go_at_call 13; (with_reducible refine (HS.out _ ((Below.refl wr.heap.size wr).drew)).mono ?_); rintro en wk1 ⟨v2, rfl, hB, hr2⟩; have hC1 := (Below.refl wr.heap.size wr).drew.trans hB; clear hB))
      rename_i hHeld
      have HC := Lib.hid hC1
      clear hHeld c0 c1 c2 hC1 HS
      obtain ⟨c0, c1, c2⟩ := KEEP.out wk1 HC.out
      have KEEP2 := Lib.hid (fun w' (hB : Below wk1.heap.size wk1 w') => KEEP.out w' (HC.out.trans (hB.mono HC.out.size)))
      go_upto_region 14 with fail
      go_region_held3 (fun w' => w'.cell? ⟨b, o + i * 3, none⟩ = some (.int .i64 e.f) ∧ w'.cell? ⟨b, o + i * 3 + 1, none⟩ = some (.int .i64 e.k) ∧ w'.cell? ⟨b, o + i * 3 + 2, none⟩ = some (.string e.s))
        (first | exact KEEP2.out _ hC3 | exact KEEP2.out _ (Below.refl _ _).drew | exact KEEP2.out _ (Below.refl _ _))
        (first | (go_at_call 14; (with_reducible refine (HS2.out _).mono ?_); rintro en wk2 ⟨⟨y2, rfl, hy2⟩, hB⟩; have hC3 := (Below.refl wk1.heap.size wk1).drew.trans hB; clear hB))
      rename_i hHeld2
      have H4 := Lib.hid (And.intro hC3 (HC.out.trans (hC3.mono HC.out.size)))
      clear hHeld2 KEEP KEEP2 c0 c1 c2 hC3 HS2
      rcases hr2 with ⟨hE, t2, hR2, hx2⟩ | ⟨hE, rfl⟩
      · subst hE
        obtain rfl := hy2 rfl
        rw [← hx2] at hy2 ⊢
        have hvp : ∃ vb2, v2 = .pointer (some ⟨vb2, 0, none⟩) := by obtain ⟨b, rv, rfl, _⟩ := hR2; exact ⟨b, rfl⟩
        obtain ⟨vb2, rfl⟩ := hvp
        have hP := (HR.out.1.below H4.out.2).more (hR2.below H4.out.1) (by rw [hx2]; exact HX.out rfl)
        have HP := Lib.hid hP
        have hlen : (vl9 ts).length = ts.length ∧ (tx10 ts).length = ts.length := ⟨by simp [vl9], by simp [tx10]⟩
        have HLn := Lib.hid (And.intro hlen HR.out.2.2)
        have ha1 := (Below.refl wk2.heap.size wk2).alloc (Nat.le_refl _) (.cells #[.pointer (some ⟨vb2, 0, none⟩)] 24)
        have HA := Lib.hid (hP.below ha1)
        have HN1 := Lib.hid (heap_alloc_new wk2 (.cells #[.pointer (some ⟨vb2, 0, none⟩)] 24))
        obtain ⟨p9, c9, e9⟩ := owned_slice9 hP.r9
        obtain ⟨p10, c10, e10⟩ := owned_slice9 hP.r10
        clear hP hlen ha1 hy2 hR2 hx2
        subst e9
        subst e10
        have j61 : (ts.length : Int) ≤ 61 := by have := HLn.out.2; omega
        have j62 : (vl9 ts).length ≤ 61 := by have := HLn.out.1.1; omega
        have j63 : (tx10 ts).length ≤ 61 := by have := HLn.out.1.2; omega
        go_wp2_with (at_builtin; refine wpList_append_own _ rfl _ _ 30 rfl w1.heap.size 24 iR _ 1 8 Tryd.underlying30 hiR hzR0 hzR1 hzR2 rfl (by decide) _ (vl9 ts).length (vl9 ts) rfl HA.out.r9 ⟨wk2.heap.size, 0, none⟩ 1 1 [.pointer (some ⟨vb2, 0, none⟩)] rfl (by rfl) (fun j u hj => World.news_of_block (cs := #[.pointer (some ⟨vb2, 0, none⟩)]) (t := 24) (fr := (0, 0)) HN1.out j u hj) (fun u hu => by rw [List.mem_singleton.1 hu]; rfl) (by unfold maxLen; omega) (by omega) HA.out.bel.size ?_)
        intro v9 w5 own9 hg9 _
        have hI5 := HA.out.grow9 hg9 (.pointer (some ⟨vb2, 0, none⟩)) own9
        obtain ⟨p9', c9', rfl⟩ := owned_slice9 own9
        have ha2 := (Below.refl w5.heap.size w5).alloc (Nat.le_refl _) (.cells #[.string t2.tx] 9)
        have HA2 := Lib.hid (hI5.below ha2)
        have HN2' := Lib.hid (heap_alloc_new w5 (.cells #[.string t2.tx] 9))
        clear own9 hg9 hI5 ha2
        go_wp2_with (at_builtin; refine wpList_append_own _ rfl _ _ 31 rfl w1.heap.size 9 iS _ 1 16 Tryd.underlying31 hiS hzS0 hzS1 hzS2 rfl (by decide) _ (tx10 ts).length (tx10 ts) rfl HA2.out.r10 ⟨w5.heap.size, 0, none⟩ 1 1 [.string t2.tx] rfl (by rfl) (fun j u hj => World.news_of_block (cs := #[.string t2.tx]) (t := 9) (fr := (0, 0)) HN2'.out j u hj) (fun u hu => by rw [List.mem_singleton.1 hu]; rfl) (by unfold maxLen; omega) (by omega) HA2.out.bel.size ?_)
        intro v10 w6 own10 hg10 _
        have hI6 := HA2.out.grow10 hg10 (.string t2.tx) own10
        have HN := Lib.hid (show PyI w1 w6 _ v10 (.pointer (some ⟨vb2, 0, none⟩)) t2 (i + 1) (ts ++ [(.pointer (some ⟨vb2, 0, none⟩), t2)]) from by
          refine ⟨?_, List.mem_append.2 (.inr (List.mem_singleton_self _)), by rw [List.length_append, List.length_singleton]; have := HLn.out.2; omega⟩
          rw [show vl9 (ts ++ [(Value.pointer (some ⟨vb2, 0, none⟩), t2)]) = vl9 ts ++ [.pointer (some ⟨vb2, 0, none⟩)] by simp [vl9], show tx10 (ts ++ [(Value.pointer (some ⟨vb2, 0, none⟩), t2)]) = tx10 ts ++ [.string t2.tx] by simp [tx10]]
          exact hI6)
        clear own10 hg10 hI6
        go_wp2_with fail
        go_roundw
        case rel => exact ⟨i + 1, t2, _, by go_num, rfl, by have := HL.out; omega, HN⟩
        case measure => have := HL.out; simp [RowKit.intOf]; omega
      · have hne : (E == 0) = false := by rw [beq_eq_false_iff_ne]; exact hE
        have HN := Lib.hid (show PyI w1 wk2 _ _ _ t' (i + 1) ts from ⟨HR.out.1.below H4.out.2, HR.out.2.1, by have := HR.out.2.2; omega⟩)
        clear hy2
        go_wp2_with fail
        go_roundw
        case rel => exact ⟨i + 1, t', ts, by go_num, rfl, by have := HL.out; omega, HN⟩
        case measure => have := HL.out; simp [RowKit.intOf]; omega
    · have ha : ¬ (i : Int) < (l.length : Int) := by omega
      obtain ⟨p9, c9, p10, c10, rfl, rfl, hcc⟩ := HR.out.1.cells
      have HCC := Lib.hid (fun W (hB : Below wr.heap.size wr W) => (HR.out.1.below hB).cells)
      have hn61 : (ts.length : Int) ≤ 61 := by have := HR.out.2.2; omega
      have HB0 := Lib.hid HR.out.1.bel
      clear hi hlt hcc
      obtain ⟨wL, rfl⟩ : ∃ wL, wL = wr := ⟨_, rfl⟩
      go_wp2_with fail
      go_loopw [16] (fun q wr2 => ∃ j : Nat, q = .int .i64 (j : Int) ∧ j ≤ ts.length ∧ Hid (Below wL.heap.size wL wr2)) (fun q _ => ts.length - (RowKit.intOf q).toNat)
      case atStart => exact ⟨0, rfl, Nat.zero_le _, Lib.hid (Below.refl _ _)⟩
      case round =>
        obtain ⟨j, rfl, hj, HB⟩ := hrel
        by_cases hlt : j < ts.length
        · obtain ⟨q, hq⟩ : ∃ q, ts[j]? = some q := ⟨_, List.getElem?_eq_getElem hlt⟩
          obtain ⟨g9, g10, rfl, rfl, hvq⟩ : ∃ g9 g10, p9 = some ⟨g9, 0, none⟩ ∧ p10 = some ⟨g10, 0, none⟩ ∧ ∃ vq, q.1 = .pointer (some ⟨vq, 0, none⟩) := by
            obtain ⟨p9', c9', p10', c10', e, e', h⟩ := HCC.out wL (Below.refl _ _)
            cases e
            cases e'
            obtain ⟨g9, g10, h9, h10, x9, x10, hRp, hsz⟩ := h j q hq
            exact ⟨g9, g10, h9, h10, by obtain ⟨b, rv, h, _⟩ := hRp; exact ⟨b, h⟩⟩
          obtain ⟨vq, hvq⟩ := hvq
          have KEEP := Lib.hid (fun W (hW : Below wr.heap.size wr W) => (show (W.cell? ⟨g9, j, none⟩ = some (.pointer (some ⟨vq, 0, none⟩)) ∧ W.cell? ⟨g10, j, none⟩ = some (.string q.2.tx)) ∧ Calls Tryd.prog 15 #[.pointer (some ⟨vq, 0, none⟩), .string q.2.tx] W (BoolIs true W) from by
            obtain ⟨p9', c9', p10', c10', e, e', h⟩ := HCC.out W (HB.out.trans (hW.mono HB.out.size))
            cases e
            cases e'
            obtain ⟨g9', g10', h9, h10, x9, x10, hRp, hsz⟩ := h j q hq
            cases h9
            cases h10
            rw [hvq] at x9 hRp
            exact ⟨⟨x9, x10⟩, alike_any _ q.2 W hRp hsz⟩))
          obtain ⟨x9, x10⟩ := (KEEP.out wr (Below.refl _ _)).1
          have HL := Lib.hid hlt
          have i1 : (0 : Int) ≤ (j : Int) := Int.natCast_nonneg j
          have i2 : (j : Int) < (ts.length : Int) := by omega
          have i4 : (j : Int) ≤ 61 := by omega
          generalize q.2.tx = X at *
          clear hq hvq hlt hj
          go_upto_region 25 with fail
          go_region_held3 (fun w' => w'.cell? ⟨g9, j, none⟩ = some (.pointer (some ⟨vq, 0, none⟩)) ∧ w'.cell? ⟨g10, j, none⟩ = some (.string X))
            (first | exact (KEEP.out _ hC1).1 | exact (KEEP.out _ (Below.refl _ _).drew).1 | exact (KEEP.out _ (Below.refl _ _)).1)
            (first | (go_at_call 15; (with_reducible refine ((KEEP.out _ ((Below.refl wr.heap.size wr).drew)).2).mono ?_); rintro en wk1 ⟨rfl, hB⟩; have hC1 := (Below.refl wr.heap.size wr).drew.trans hB; clear hB))
          rename_i hHeld
          have HC := Lib.hid (HB.out.trans (hC1.mono HB.out.size))
          clear hHeld KEEP x9 x10 hC1
          go_wp2_with fail
          go_roundw
          case rel => exact ⟨j + 1, by go_num, by have := HL.out; omega, HC⟩
          case measure => have := HL.out; simp [RowKit.intOf]; omega
        · have ha2 : ¬ (j : Int) < (ts.length : Int) := by omega
          have HE := Lib.hid (HB0.out.trans (HB.out.mono HB0.out.size))
          clear hj hlt
          go_wp2_with fail
          go_ret
          exact ⟨rfl, HE.out⟩
end Go.Proofs.YtjeopabnddekgaaDoor

namespace Go.Proofs.YtjeopabnddekgaaDoor
open Go Go.ChangeShapes Go.WideShapes Go.ChangeAt Go.RowKit Go.Joins

/-- a text's bound, of its weights -/
theorem str9_le {H : Type} {x : ByteArray} (h : OReach ((DataW.lit (H := H) (.string x.data.toList)).weights Tryd.prog 9)) : x.size ≤ 281474976710656 := by
  have := h x.data.toList.length (by unfold DataW.weights; exact List.mem_singleton_self _)
  rw [Array.length_toList] at this
  exact Nat.le_trans this (by decide)
end Go.Proofs.YtjeopabnddekgaaDoor
