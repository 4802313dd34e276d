/- How many bytes a value's texts have: the statements' own size and long. Conditions: strings of at most 2^47 bytes, at most 4000 elements. -/
import Derived.Test.YtoolkaahjmnjeaaGreatDoorMW05
import Derived.Test.YtoolkaahjmnjeaaGreatDoorMW04
namespace Go.Proofs.YtoolkaahjmnjeaaGreatDoor
open Go Go.RowKit Go.Lib

/-- all that is said of elements that lie in memory -/
def Fi : V.T → Nat → Prop
  | .nil, _ => True
  | .cons nm k x l f tl, d => (d = 0 → nm = ⟨#[]⟩) ∧ Fit nm k x ∧ Fi l 0 ∧ Fi f 1 ∧ Fi tl d
theorem HR.fi {w : World} {A : Nat → Prop} : ∀ (t : V.T) (d b o : Nat), HR w A d b o t → Fi t d
  | .nil, _, _, _, _ => trivial
  | .cons nm k x l f tl, d, b, o, h => by
    obtain ⟨h1, h2, h3, h4, h5, ⟨v, h6, h7⟩, ⟨u, h8, h9⟩, h10, h11⟩ := h
    refine ⟨h2, h10, ?_, ?_, HR.fi tl d b _ h11⟩
    · rcases h7 with ⟨_, h⟩ | ⟨h, _⟩ | ⟨b', o', c, _, _, _, h⟩
      · rw [V.T.len_nil h]; trivial
      · rw [V.T.len_nil h]; trivial
      · exact HR.fi l 0 b' o' h
    · rcases h9 with ⟨_, h⟩ | ⟨h, _⟩ | ⟨b', o', c, _, _, _, h⟩
      · rw [V.T.len_nil h]; trivial
      · rw [V.T.len_nil h]; trivial
      · exact HR.fi f 1 b' o' h
theorem HS.fi {w : World} {A : Nat → Prop} {d : Nat} {v : Value} {t : V.T} (h : HS w A d v t) : Fi t d := by
  rcases h with ⟨_, h⟩ | ⟨h, _⟩ | ⟨b', o', c, _, _, _, h⟩
  · rw [V.T.len_nil h]; trivial
  · rw [V.T.len_nil h]; trivial
  · exact HR.fi t d b' o' h
/-- bytes of texts and names -/
def szT : V.T → Nat
  | .nil => 0
  | .cons nm _ x l f tl => nm.size + x.size + szT l + szT f + szT tl
theorem szT_le : ∀ (t : V.T) (d : Nat), Fi t d → szT t ≤ t.size * 281474976710656
  | .nil, _, _ => Nat.zero_le _
  | .cons nm k x l f tl, d, h => by
    have h1 := szT_le l 0 h.2.2.1
    have h2 := szT_le f 1 h.2.2.2.1
    have h3 := szT_le tl d h.2.2.2.2
    have h4 := h.2.1.text
    have h5 := h.2.1.name
    show nm.size + x.size + szT l + szT f + szT tl ≤ (l.size + f.size + tl.size + 1) * 281474976710656
    omega
theorem szT_drop {t : V.T} {i d : Nat} {nm : ByteArray} {k : Nat} {x : ByteArray} {l f tl : V.T} (h : t.drop i = .cons nm k x l f tl) : szT (t.drop i) = nm.size + x.size + szT l + szT f + szT (t.drop (i + 1)) := by
  rw [V.T.drop_step h, h]; rfl
theorem Fi.drop {t : V.T} {i d : Nat} {nm : ByteArray} {k : Nat} {x : ByteArray} {l f tl : V.T} (h : Fi t d) (hd : t.drop i = .cons nm k x l f tl) : (d = 0 → nm = ⟨#[]⟩) ∧ Fit nm k x ∧ Fi l 0 ∧ Fi f 1 := by
  induction i generalizing t with
  | zero => rw [V.T.drop_zero] at hd; subst hd; exact ⟨h.1, h.2.1, h.2.2.1, h.2.2.2.1⟩
  | succ i ih =>
    cases t with
    | nil => cases hd
    | cons a b c d e tl2 => exact ih (t := tl2) h.2.2.2.2 hd
def IntIs (n : Nat) (w : World) (e : Ending) (w' : World) : Prop := e = .returned (.int .i64 (n : Nat)) ∧ Below w.heap.size w w'
/-- size serves values of fewer than N elements -/
def SzOk (N : Nat) : Prop := ∀ (k : Nat) (x : ByteArray) (va ua : Value) (la fa : V.T) (A : Nat → Prop) (w : World), la.size + fa.size < N → la.size + fa.size ≤ 4000 → x.size ≤ 140737488355328 → HS w A 0 va la → HS w A 1 ua fa →
    Calls Tryz.prog 96 #[.agg #[.int .u8 k, .string x, va, ua]] w (IntIs (x.size + szT la + szT fa) w)

set_option maxRecDepth 100000 in
set_option maxHeartbeats 2000000 in
theorem size_with (N : Nat) (ih : SzOk N) (k : Nat) (x : ByteArray) (va ua : Value) (la fa : V.T) (A : Nat → Prop) (w : World) (hn : la.size + fa.size < N + 1) (h4 : la.size + fa.size ≤ 4000) (hx : x.size ≤ 140737488355328) (hva : HS w A 0 va la) (hua : HS w A 1 ua fa) :
    Calls Tryz.prog 96 #[.agg #[.int .u8 k, .string x, va, ua]] w (IntIs (x.size + szT la + szT fa) w) := by
  have ha := szT_le la 0 hva.fi
  have hb := szT_le fa 1 hua.fi
  have HFI := Lib.hid (And.intro hva.fi hua.fi)
  obtain ⟨pa, ca, rfl, _, ba1, ba2⟩ := hva.len
  obtain ⟨qa, da, rfl, _, ba3, ba4⟩ := hua.len
  generalize ea : la.len = na at *
  generalize fa1 : fa.len = ma at *
  have HE := Lib.hid (And.intro ea fa1)
  have HN := Lib.hid (And.intro hn h4)
  have HA := Lib.hid (And.intro hva hua)
  have hbig : x.size + szT la + szT fa ≤ 2000000000000000000 := by omega
  have HBG := Lib.hid hbig
  generalize htot : x.size + szT la + szT fa = tot at *
  have HT := Lib.hid htot
  clear ea fa1 hn h4 hva hua ha hb hbig htot
  go_enter Tryz.func96, Tryz.ntmps96
  go_wp2_with fail
  have HX := Lib.hid (Box4.mk' (heap_alloc_new w (.cells #[.int .u8 k, .string x, .slice pa na ca, .slice qa ma da] 25)))
  have HW := Lib.hid ((Below.refl w.heap.size w).alloc (Nat.le_refl _) (.cells #[.int .u8 k, .string x, .slice pa na ca, .slice qa ma da] 25))
  have HZ := Lib.hid (World.size_alloc w (.cells #[.int .u8 k, .string x, .slice pa na ca, .slice qa ma da] 25))
  generalize w.alloc (.cells #[.int .u8 k, .string x, .slice pa na ca, .slice qa ma da] 25) = W0 at *
  go_loopw [3, 4] (fun s p wr => ∃ (r i : Nat), s = .int .i64 r ∧ p = .int .i64 i ∧ i ≤ na ∧ r ≤ 2000000000000000000 ∧ Hid (Below W0.heap.size W0 wr ∧ r + szT (la.drop i) = x.size + szT la)) (fun _ p _ => na - (RowKit.intOf p).toNat)
  case atStart => exact ⟨x.size, 0, rfl, rfl, Nat.zero_le _, by have := HBG.out; have := HT.out; omega, Lib.hid ⟨Below.refl _ _, by rw [V.T.drop_zero]⟩⟩
  case round =>
    obtain ⟨r, i, rfl, rfl, hi, hr0, HR⟩ := hrel
    obtain ⟨c1, c2, c3, c4⟩ := HX.out.below HR.out.1 (by rw [HZ.out]; exact Nat.lt_succ_self _)
    clear c1 c2
    by_cases hlt : i < na
    · obtain ⟨nm1, k1, x1, l1, f1, tl1, hd1⟩ := V.T.drop_some (t := la) (i := i) (by rw [HE.out.1]; exact hlt)
      obtain ⟨b1, o1, v1, u1, rfl, E1⟩ := ((HA.out.1.below HW.out).below HR.out.1).elem (by rw [HE.out.1]; exact hlt) hd1
      have e1 := E1.kind
      have e2 := E1.text
      have e3 := E1.list
      have e4 := E1.fields
      simp only [Nat.add_zero] at e1 e2 e3 e4
      have hsz := V.T.drop_size hd1
      have hfi := HFI.out.1.drop hd1
      have hst := szT_drop (d := 0) hd1
      have IH := ih k1 x1 v1 u1 l1 f1 A wr (by have := HN.out; omega) (by have := HN.out; omega) hfi.2.1.text E1.hl E1.hf
      have h0 : nm1.size = 0 := by rw [hfi.1 rfl]; rfl
      have HST := Lib.hid (show szT (la.drop i) = (x1.size + szT l1 + szT f1) + szT (la.drop (i + 1)) by rw [hst]; omega)
      generalize x1.size + szT l1 + szT f1 = m at *
      have hm : r + m ≤ 2000000000000000000 := by have := HR.out.2; have := HST.out; have := HBG.out; have := HT.out; omega
      have HL := Lib.hid hlt
      clear hd1 hsz hfi hst h0 E1 c4
      go_wp2_with fail
      refine IH.mono ?_
      rintro e w1 ⟨rfl, hB1⟩
      have H1 := Lib.hid (HR.out.1.trans (hB1.mono HR.out.1.size))
      clear hB1 IH c3 e1 e2 e3 e4
      go_wp2_with fail
      go_roundw
      case rel => exact ⟨r + m, i + 1, by push_cast; rfl, by go_num, HL.out, hm, Lib.hid ⟨H1.out, by have := HR.out.2; have := HST.out; omega⟩⟩
      case measure => have := HL.out; simp [RowKit.intOf]; omega
    · obtain rfl : i = na := by omega
      have HR0 := Lib.hid (show r = x.size + szT la by
        have h := HR.out.2
        have e1 := V.T.drop_len la
        rw [HE.out.1] at e1
        rw [e1] at h
        exact h)
      have HQ := Lib.hid HR.out.1
      clear HR hlt
      go_wp2_with fail
      obtain ⟨wo, rfl⟩ : ∃ wo : World, wo = wr := ⟨_, rfl⟩
      clear c3 c4
      go_loopw [3, 5] (fun s p wr2 => ∃ (r2 j : Nat), s = .int .i64 r2 ∧ p = .int .i64 j ∧ j ≤ ma ∧ r2 ≤ 2000000000000000000 ∧ Hid (Below W0.heap.size W0 wr2 ∧ r2 + szT (fa.drop j) = r + szT fa)) (fun _ p _ => ma - (RowKit.intOf p).toNat)
      case atStart => exact ⟨r, 0, rfl, rfl, Nat.zero_le _, hr0, Lib.hid ⟨HQ.out, by rw [V.T.drop_zero]⟩⟩
      case round =>
        obtain ⟨r2, j, rfl, rfl, hj, hr2, HR⟩ := hrel
        obtain ⟨c1, c2, c3, c4⟩ := HX.out.below HR.out.1 (by rw [HZ.out]; exact Nat.lt_succ_self _)
        clear c1 c2 c3
        by_cases hlt : j < ma
        · obtain ⟨nm1, k1, x1, l1, f1, tl1, hd1⟩ := V.T.drop_some (t := fa) (i := j) (by rw [HE.out.2]; exact hlt)
          obtain ⟨b1, o1, v1, u1, rfl, E1⟩ := ((HA.out.2.below HW.out).below HR.out.1).elem (by rw [HE.out.2]; exact hlt) hd1
          have e0 := E1.name rfl
          have e1 := E1.kind
          have e2 := E1.text
          have e3 := E1.list
          have e4 := E1.fields
          simp only [Nat.reduceAdd] at e0 e1 e2 e3 e4
          have hsz := V.T.drop_size hd1
          have hfi := HFI.out.2.drop hd1
          have hst := szT_drop (d := 1) hd1
          have IH := fun W (hB : Below wr.heap.size wr W) => ih k1 x1 v1 u1 l1 f1 A W (by have := HN.out; omega) (by have := HN.out; omega) hfi.2.1.text (E1.hl.below hB) (E1.hf.below hB)
          have HST := Lib.hid (show szT (fa.drop j) = nm1.size + (x1.size + szT l1 + szT f1) + szT (fa.drop (j + 1)) by rw [hst]; omega)
          generalize x1.size + szT l1 + szT f1 = m at *
          have hm : r2 + nm1.size + m ≤ 2000000000000000000 := by have := HR.out.2; have := HST.out; have := HBG.out; have := HT.out; have := HR0.out; omega
          have hm1 : r2 + nm1.size ≤ 2000000000000000000 := by omega
          have HL := Lib.hid hlt
          have keep : ∀ w', Below wr.heap.size wr w' → w'.cell? ⟨w.heap.size, 3, none⟩ = some (.slice (some ⟨b1, o1, none⟩) ma da) ∧ w'.cell? ⟨b1, o1 + j * 5, none⟩ = some (.string nm1) ∧ w'.cell? ⟨b1, o1 + j * 5 + 1, none⟩ = some (.int .u8 k1) ∧ w'.cell? ⟨b1, o1 + j * 5 + 1 + 1, none⟩ = some (.string x1) ∧ w'.cell? ⟨b1, o1 + j * 5 + 1 + 2, none⟩ = some v1 ∧ w'.cell? ⟨b1, o1 + j * 5 + 1 + 3, none⟩ = some u1 := fun w' hB =>
            ⟨bcellv hB c4, bcellv hB e0, bcellv hB e1, bcellv hB e2, bcellv hB e3, bcellv hB e4⟩
          have KEEP := Lib.hid keep
          have hns : nm1.size ≤ 140737488355328 := hfi.2.1.name
          have w1' : IntKind.i64.wrap ((r2 : Int) + (nm1.size : Int)) = (r2 : Int) + (nm1.size : Int) := IntWalk.i64_in _ (by omega)
          have w2' : IntKind.i64.wrap ((r2 : Int) + (nm1.size : Int) + (m : Int)) = (r2 : Int) + (nm1.size : Int) + (m : Int) := IntWalk.i64_in _ (by omega)
          clear keep hd1 hsz hfi hst E1
          go_wp2_with fail
          go_region_held3 (fun w' => w'.cell? ⟨w.heap.size, 3, none⟩ = some (.slice (some ⟨b1, o1, none⟩) ma da) ∧ w'.cell? ⟨b1, o1 + j * 5, none⟩ = some (.string nm1) ∧ w'.cell? ⟨b1, o1 + j * 5 + 1, none⟩ = some (.int .u8 k1) ∧ w'.cell? ⟨b1, o1 + j * 5 + 1 + 1, none⟩ = some (.string x1) ∧ w'.cell? ⟨b1, o1 + j * 5 + 1 + 2, none⟩ = some v1 ∧ w'.cell? ⟨b1, o1 + j * 5 + 1 + 3, none⟩ = some u1)
            (first | exact KEEP.out _ hB2 | exact KEEP.out _ (Below.refl _ _).drew | exact KEEP.out _ (Below.refl _ _))
            (first | (go_at_call 96; (with_reducible refine (IH _ (Below.refl _ _).drew).mono ?_); rintro e w1 ⟨rfl, hB1⟩; have hB2 := (Below.refl wr.heap.size wr).drew.trans hB1; clear hB1))
          all_goals
            have H1 := Lib.hid (HR.out.1.trans (hB2.mono HR.out.1.size))
            clear hB2 IH c4 e0 e1 e2 e3 e4
            go_wp2_with fail
            go_roundw
            case rel => exact ⟨r2 + nm1.size + m, j + 1, by push_cast; first | rfl | (rw [w2']), by go_num, HL.out, hm, Lib.hid ⟨H1.out, by have := HR.out.2; have := HST.out; omega⟩⟩
            case measure => have := HL.out; simp [RowKit.intOf]; omega
        · obtain rfl : j = ma := by omega
          have HR1 := Lib.hid (show r2 = tot by
            have h := HR.out.2
            have e1 := V.T.drop_len fa
            rw [HE.out.2] at e1
            rw [e1] at h
            have h0 : szT .nil = 0 := rfl
            have := HR0.out
            have := HT.out
            omega)
          have HB := Lib.hid (HW.out.trans (HR.out.1.mono (by rw [HZ.out]; exact Nat.le_succ _)))
          clear HR
          go_wp2_with fail
          go_ret
          exact ⟨by rw [HR1.out]; rfl, HB.out⟩
theorem sz_ok : ∀ N, SzOk N
  | 0 => fun _ _ _ _ _ _ _ _ h => absurd h (Nat.not_lt_zero _)
  | N + 1 => fun k x va ua la fa A w hn h4 hx hva hua => size_with N (sz_ok N) k x va ua la fa A w hn h4 hx hva hua

set_option maxRecDepth 100000 in
set_option maxHeartbeats 2000000 in
theorem long_with (N : Nat) (ih : SzOk N) (k : Nat) (x : ByteArray) (va ua : Value) (la fa : V.T) (A : Nat → Prop) (w : World) (hn : la.size + fa.size < N + 1) (h4 : la.size + fa.size ≤ 4000) (hx : x.size ≤ 140737488355328) (hva : HS w A 0 va la) (hua : HS w A 1 ua fa) :
    Calls Tryz.prog 45 #[.agg #[.int .u8 k, .string x, va, ua]] w (Bools (decide (20000 < x.size + szT la + szT fa)) w) := by
  have ha := szT_le la 0 hva.fi
  have hb := szT_le fa 1 hua.fi
  have HFI := Lib.hid (And.intro hva.fi hua.fi)
  obtain ⟨pa, ca, rfl, _, ba1, ba2⟩ := hva.len
  obtain ⟨qa, da, rfl, _, ba3, ba4⟩ := hua.len
  generalize ea : la.len = na at *
  generalize fa1 : fa.len = ma at *
  have HE := Lib.hid (And.intro ea fa1)
  have HN := Lib.hid (And.intro hn h4)
  have HA := Lib.hid (And.intro hva hua)
  have hbig : x.size + szT la + szT fa ≤ 2000000000000000000 := by omega
  have HBG := Lib.hid hbig
  generalize htot : x.size + szT la + szT fa = tot at *
  have HT := Lib.hid htot
  clear ea fa1 hn h4 hva hua ha hb hbig htot
  go_enter Tryz.func45, Tryz.ntmps45
  go_wp2_with fail
  have HX := Lib.hid (Box4.mk' (heap_alloc_new w (.cells #[.int .u8 k, .string x, .slice pa na ca, .slice qa ma da] 25)))
  have HW := Lib.hid ((Below.refl w.heap.size w).alloc (Nat.le_refl _) (.cells #[.int .u8 k, .string x, .slice pa na ca, .slice qa ma da] 25))
  have HZ := Lib.hid (World.size_alloc w (.cells #[.int .u8 k, .string x, .slice pa na ca, .slice qa ma da] 25))
  generalize w.alloc (.cells #[.int .u8 k, .string x, .slice pa na ca, .slice qa ma da] 25) = W0 at *
  go_loopw [3, 4] (fun s p wr => ∃ (r i : Nat), s = .int .i64 r ∧ p = .int .i64 i ∧ i ≤ na ∧ r ≤ 2000000000000000000 ∧ Hid (Below W0.heap.size W0 wr ∧ r + szT (la.drop i) = x.size + szT la)) (fun _ p _ => na - (RowKit.intOf p).toNat)
  case atStart => exact ⟨x.size, 0, rfl, rfl, Nat.zero_le _, by have := HBG.out; have := HT.out; omega, Lib.hid ⟨Below.refl _ _, by rw [V.T.drop_zero]⟩⟩
  case round =>
    obtain ⟨r, i, rfl, rfl, hi, hr0, HR⟩ := hrel
    obtain ⟨c1, c2, c3, c4⟩ := HX.out.below HR.out.1 (by rw [HZ.out]; exact Nat.lt_succ_self _)
    clear c1 c2
    by_cases hlt : i < na
    · obtain ⟨nm1, k1, x1, l1, f1, tl1, hd1⟩ := V.T.drop_some (t := la) (i := i) (by rw [HE.out.1]; exact hlt)
      obtain ⟨b1, o1, v1, u1, rfl, E1⟩ := ((HA.out.1.below HW.out).below HR.out.1).elem (by rw [HE.out.1]; exact hlt) hd1
      have e1 := E1.kind
      have e2 := E1.text
      have e3 := E1.list
      have e4 := E1.fields
      simp only [Nat.add_zero] at e1 e2 e3 e4
      have hsz := V.T.drop_size hd1
      have hfi := HFI.out.1.drop hd1
      have hst := szT_drop (d := 0) hd1
      have IH := ih k1 x1 v1 u1 l1 f1 A wr (by have := HN.out; omega) (by have := HN.out; omega) hfi.2.1.text E1.hl E1.hf
      have h0 : nm1.size = 0 := by rw [hfi.1 rfl]; rfl
      have HST := Lib.hid (show szT (la.drop i) = (x1.size + szT l1 + szT f1) + szT (la.drop (i + 1)) by rw [hst]; omega)
      generalize x1.size + szT l1 + szT f1 = m at *
      have hm : r + m ≤ 2000000000000000000 := by have := HR.out.2; have := HST.out; have := HBG.out; have := HT.out; omega
      have HL := Lib.hid hlt
      clear hd1 hsz hfi hst h0 E1 c4
      go_wp2_with fail
      refine IH.mono ?_
      rintro e w1 ⟨rfl, hB1⟩
      have H1 := Lib.hid (HR.out.1.trans (hB1.mono HR.out.1.size))
      clear hB1 IH c3 e1 e2 e3 e4
      go_wp2_with fail
      go_roundw
      case rel => exact ⟨r + m, i + 1, by push_cast; rfl, by go_num, HL.out, hm, Lib.hid ⟨H1.out, by have := HR.out.2; have := HST.out; omega⟩⟩
      case measure => have := HL.out; simp [RowKit.intOf]; omega
    · obtain rfl : i = na := by omega
      have HR0 := Lib.hid (show r = x.size + szT la by
        have h := HR.out.2
        have e1 := V.T.drop_len la
        rw [HE.out.1] at e1
        rw [e1] at h
        exact h)
      have HQ := Lib.hid HR.out.1
      clear HR hlt
      go_wp2_with fail
      obtain ⟨wo, rfl⟩ : ∃ wo : World, wo = wr := ⟨_, rfl⟩
      clear c3 c4
      go_loopw [3, 5] (fun s p wr2 => ∃ (r2 j : Nat), s = .int .i64 r2 ∧ p = .int .i64 j ∧ j ≤ ma ∧ r2 ≤ 2000000000000000000 ∧ Hid (Below W0.heap.size W0 wr2 ∧ r2 + szT (fa.drop j) = r + szT fa)) (fun _ p _ => ma - (RowKit.intOf p).toNat)
      case atStart => exact ⟨r, 0, rfl, rfl, Nat.zero_le _, hr0, Lib.hid ⟨HQ.out, by rw [V.T.drop_zero]⟩⟩
      case round =>
        obtain ⟨r2, j, rfl, rfl, hj, hr2, HR⟩ := hrel
        obtain ⟨c1, c2, c3, c4⟩ := HX.out.below HR.out.1 (by rw [HZ.out]; exact Nat.lt_succ_self _)
        clear c1 c2 c3
        by_cases hlt : j < ma
        · obtain ⟨nm1, k1, x1, l1, f1, tl1, hd1⟩ := V.T.drop_some (t := fa) (i := j) (by rw [HE.out.2]; exact hlt)
          obtain ⟨b1, o1, v1, u1, rfl, E1⟩ := ((HA.out.2.below HW.out).below HR.out.1).elem (by rw [HE.out.2]; exact hlt) hd1
          have e0 := E1.name rfl
          have e1 := E1.kind
          have e2 := E1.text
          have e3 := E1.list
          have e4 := E1.fields
          simp only [Nat.reduceAdd] at e0 e1 e2 e3 e4
          have hsz := V.T.drop_size hd1
          have hfi := HFI.out.2.drop hd1
          have hst := szT_drop (d := 1) hd1
          have IH := fun W (hB : Below wr.heap.size wr W) => ih k1 x1 v1 u1 l1 f1 A W (by have := HN.out; omega) (by have := HN.out; omega) hfi.2.1.text (E1.hl.below hB) (E1.hf.below hB)
          have HST := Lib.hid (show szT (fa.drop j) = nm1.size + (x1.size + szT l1 + szT f1) + szT (fa.drop (j + 1)) by rw [hst]; omega)
          generalize x1.size + szT l1 + szT f1 = m at *
          have hm : r2 + nm1.size + m ≤ 2000000000000000000 := by have := HR.out.2; have := HST.out; have := HBG.out; have := HT.out; have := HR0.out; omega
          have hm1 : r2 + nm1.size ≤ 2000000000000000000 := by omega
          have HL := Lib.hid hlt
          have keep : ∀ w', Below wr.heap.size wr w' → w'.cell? ⟨w.heap.size, 3, none⟩ = some (.slice (some ⟨b1, o1, none⟩) ma da) ∧ w'.cell? ⟨b1, o1 + j * 5, none⟩ = some (.string nm1) ∧ w'.cell? ⟨b1, o1 + j * 5 + 1, none⟩ = some (.int .u8 k1) ∧ w'.cell? ⟨b1, o1 + j * 5 + 1 + 1, none⟩ = some (.string x1) ∧ w'.cell? ⟨b1, o1 + j * 5 + 1 + 2, none⟩ = some v1 ∧ w'.cell? ⟨b1, o1 + j * 5 + 1 + 3, none⟩ = some u1 := fun w' hB =>
            ⟨bcellv hB c4, bcellv hB e0, bcellv hB e1, bcellv hB e2, bcellv hB e3, bcellv hB e4⟩
          have KEEP := Lib.hid keep
          have hns : nm1.size ≤ 140737488355328 := hfi.2.1.name
          have w1' : IntKind.i64.wrap ((r2 : Int) + (nm1.size : Int)) = (r2 : Int) + (nm1.size : Int) := IntWalk.i64_in _ (by omega)
          have w2' : IntKind.i64.wrap ((r2 : Int) + (nm1.size : Int) + (m : Int)) = (r2 : Int) + (nm1.size : Int) + (m : Int) := IntWalk.i64_in _ (by omega)
          clear keep hd1 hsz hfi hst E1
          go_wp2_with fail
          go_region_held3 (fun w' => w'.cell? ⟨w.heap.size, 3, none⟩ = some (.slice (some ⟨b1, o1, none⟩) ma da) ∧ w'.cell? ⟨b1, o1 + j * 5, none⟩ = some (.string nm1) ∧ w'.cell? ⟨b1, o1 + j * 5 + 1, none⟩ = some (.int .u8 k1) ∧ w'.cell? ⟨b1, o1 + j * 5 + 1 + 1, none⟩ = some (.string x1) ∧ w'.cell? ⟨b1, o1 + j * 5 + 1 + 2, none⟩ = some v1 ∧ w'.cell? ⟨b1, o1 + j * 5 + 1 + 3, none⟩ = some u1)
            (first | exact KEEP.out _ hB2 | exact KEEP.out _ (Below.refl _ _).drew | exact KEEP.out _ (Below.refl _ _))
            (first | (go_at_call 96; (with_reducible refine (IH _ (Below.refl _ _).drew).mono ?_); rintro e w1 ⟨rfl, hB1⟩; have hB2 := (Below.refl wr.heap.size wr).drew.trans hB1; clear hB1))
          all_goals
            have H1 := Lib.hid (HR.out.1.trans (hB2.mono HR.out.1.size))
            clear hB2 IH c4 e0 e1 e2 e3 e4
            go_wp2_with fail
            go_roundw
            case rel => exact ⟨r2 + nm1.size + m, j + 1, by push_cast; first | rfl | (rw [w2']), by go_num, HL.out, hm, Lib.hid ⟨H1.out, by have := HR.out.2; have := HST.out; omega⟩⟩
            case measure => have := HL.out; simp [RowKit.intOf]; omega
        · obtain rfl : j = ma := by omega
          have HR1 := Lib.hid (show r2 = tot by
            have h := HR.out.2
            have e1 := V.T.drop_len fa
            rw [HE.out.2] at e1
            rw [e1] at h
            have h0 : szT .nil = 0 := rfl
            have := HR0.out
            have := HT.out
            omega)
          have HB := Lib.hid (HW.out.trans (HR.out.1.mono (by rw [HZ.out]; exact Nat.le_succ _)))
          clear HR
          go_wp2_with fail
          go_ret
          have e : decide ((20000 : Int) < (r2 : Int)) = decide (20000 < tot) := decide_eq_decide.2 (by have := HR1.out; omega)
          refine ⟨?_, HB.out⟩
          show Ending.returned (.bool (decide ((20000 : Int) < (r2 : Int)))) = _
          rw [e]
end Go.Proofs.YtoolkaahjmnjeaaGreatDoor
