/- The document's own Same: are two values the same, field by field? Conditions: such as Go can hold. -/
import Derived.Test.YtbdpghmpdghnbaaDoorProg
import Derived.Test.YtbdpghmpdghnbaaDoorMJ04
import Derived.WalkKit
import Derived.WalkSpells
import Derived.WalkLawsBesides
import Derived.WalkSmall
import Derived.ProofKit
import Derived.Deep.RegionHeld3
import Derived.IntWalk
import Derived.Deep.QuietTactic
import Derived.BigQuiet
import Derived.Outline
namespace Go.Proofs.YtbdpghmpdghnbaaDoor
open Go Go.RowKit Go.Lib

theorem infoValue : (Tryd.prog.info? 25).map (fun i => (i.zero, i.size, i.bytes)) = some (some (.agg #[.int .u8 0, .string ⟨#[]⟩, .slice none 0 0, .slice none 0 0]), 4, 72) := by kernel_rfl
theorem infoField : (Tryd.prog.info? 38).map (fun i => (i.zero, i.size, i.bytes)) = some (some (.agg #[.string ⟨#[]⟩, .int .u8 0, .string ⟨#[]⟩, .slice none 0 0, .slice none 0 0]), 5, 88) := by kernel_rfl

def Bools (b : Bool) (w : World) (en : Ending) (w' : World) : Prop := en = .returned (.bool b) ∧ Below w.heap.size w w'
theorem bytes_beq (a b : ByteArray) : (a.toList == b.toList) = decide (a = b) := by
  rw [Lib.toList_data, Lib.toList_data]
  by_cases h : a = b
  · subst h; simp
  · have h2 : ¬ a.data = b.data := fun e => h (ByteArray.ext e)
    simp [h, h2]
theorem below_drewN' (B : Nat) (w : World) (q : Nat) : Below B w (w.drewN q) := ⟨rfl, rfl, rfl, Nat.le_refl _, fun _ _ => rfl⟩
theorem bcellv {w w' : World} {a : Addr} {v : Value} (hB : Below w.heap.size w w') (h : w.cell? a = some v) : w'.cell? a = some v := (hB.cell (World.block_lt_of_cell? w a h)).trans h
/-- the cells of one element -/
structure EL (w : World) (A : Nat → Prop) (d b o : Nat) (nm : ByteArray) (k : Nat) (x : ByteArray) (v u : Value) (l f : V.T) : Prop where
  nil : d = 0 → nm = ⟨#[]⟩
  name : d = 1 → w.cell? ⟨b, o, none⟩ = some (.string nm)
  kind : w.cell? ⟨b, o + d, none⟩ = some (.int .u8 k)
  text : w.cell? ⟨b, o + d + 1, none⟩ = some (.string x)
  list : w.cell? ⟨b, o + d + 2, none⟩ = some v
  fields : w.cell? ⟨b, o + d + 3, none⟩ = some u
  hl : HS w A 0 v l
  hf : HS w A 1 u f
  small : Fit nm k x
  mem : A b
theorem HS.elem {w : World} {A : Nat → Prop} {d : Nat} {p : Option Addr} {n c i : Nat} {t : V.T} {nm : ByteArray} {k : Nat} {x : ByteArray} {l f tl : V.T} (h : HS w A d (.slice p n c) t) (hi : i < t.len) (hd : t.drop i = .cons nm k x l f tl) :
    ∃ b o v u, p = some ⟨b, o, none⟩ ∧ EL w A d b (o + i * (4 + d)) nm k x v u l f := by
  obtain ⟨b, o, c', e, _, _, hr⟩ := h.at hi
  cases e
  have h2 := HR.drop i t d b o hr
  rw [hd] at h2
  obtain ⟨h1, h3, h4, h5, h6, ⟨v, h7, h8⟩, ⟨u, h9, h10⟩, h11, _⟩ := h2
  exact ⟨b, o, v, u, rfl, h3, h4, h5, h6, h7, h9, h8, h10, h11, h1⟩

set_option maxRecDepth 100000 in
set_option maxHeartbeats 1000000 in
theorem same_any (n : Nat) : ∀ (ka : Nat) (xa : ByteArray) (va ua : Value) (la fa : V.T) (kb : Nat) (xb : ByteArray) (vb ub : Value) (lb fb : V.T) (A A' : Nat → Prop) (w : World),
    la.size + fa.size < n → HS w A 0 va la → HS w A 1 ua fa → HS w A' 0 vb lb → HS w A' 1 ub fb →
    Calls Tryd.prog 6 #[.agg #[.int .u8 ka, .string xa, va, ua], .agg #[.int .u8 kb, .string xb, vb, ub]] w (Bools (V.veq ka xa la fa kb xb lb fb) w) := by
  induction n with
  | zero => intro _ _ _ _ _ _ _ _ _ _ _ _ _ _ _ h; omega
  | succ n ih =>
    intro ka xa va ua la fa kb xb vb ub lb fb A A' w hn hva hua hvb hub
    obtain ⟨pa, ca, rfl, _, ba1, ba2⟩ := hva.len
    obtain ⟨qa, da, rfl, _, ba3, ba4⟩ := hua.len
    obtain ⟨pb, cb, rfl, _⟩ := hvb.len
    obtain ⟨qb, db, rfl, _⟩ := hub.len
    generalize ea : la.len = na at *
    generalize eb : lb.len = nb at *
    generalize fa1 : fa.len = ma at *
    generalize fb1 : fb.len = mb at *
    by_cases h1 : ka = kb
    · by_cases h2 : xa = xb
      · by_cases h3 : na = nb
        · subst h1 h2 h3
          have e1 : V.veq ka xa la fa ka xa lb fb = (la.eq lb && fa.eq fb) := by simp [V.veq]
          rw [e1]
          clear e1
          have t1 : ((ka : Int) != ka) = false := by simp
          have t2 : (xa.toList == xa.toList) = true := by simp
          have t3 : ((na : Int) != na) = false := by simp
          by_cases h4 : ma = mb
          · subst h4
            have t4 : ((ma : Int) != ma) = false := by simp
            have HE := Lib.hid (And.intro ea eb)
            have HF := Lib.hid (And.intro fa1 fb1)
            have HN := Lib.hid hn
            have HA := Lib.hid (And.intro hva hua)
            have HB := Lib.hid (And.intro hvb hub)
            clear ea eb fa1 fb1 hn hva hua hvb hub
            go_enter Tryd.func6, Tryd.ntmps6
            go_wp2_with fail
            obtain ⟨hx1, hx2⟩ := two_new w (.cells #[.int .u8 ka, .string xa, .slice pa na ca, .slice qa ma da] 25) (.cells #[.int .u8 ka, .string xa, .slice pb na cb, .slice qb ma db] 25)
            have hw := two_below w (.cells #[.int .u8 ka, .string xa, .slice pa na ca, .slice qa ma da] 25) (.cells #[.int .u8 ka, .string xa, .slice pb na cb, .slice qb ma db] 25)
            have hz := two_size w (.cells #[.int .u8 ka, .string xa, .slice pa na ca, .slice qa ma da] 25) (.cells #[.int .u8 ka, .string xa, .slice pb na cb, .slice qb ma db] 25)
            generalize (w.alloc (.cells #[.int .u8 ka, .string xa, .slice pa na ca, .slice qa ma da] 25)).alloc (.cells #[.int .u8 ka, .string xa, .slice pb na cb, .slice qb ma db] 25) = W0 at *
            have X1 := Lib.hid (Box4.mk' hx1)
            have X2 := Lib.hid (Box4.mk' hx2)
            have HW := Lib.hid hw
            have HZ := Lib.hid hz
            clear hx1 hx2 hw hz
            go_loopw [5] (fun p wr => ∃ i : Nat, p = .int .i64 i ∧ i ≤ na ∧ Hid (Below W0.heap.size W0 wr ∧ (la.drop i).eq (lb.drop i) = la.eq lb)) (fun p _ => na - (RowKit.intOf p).toNat)
            case atStart => exact ⟨0, rfl, Nat.zero_le _, Lib.hid ⟨Below.refl _ _, by rw [V.T.drop_zero, V.T.drop_zero]⟩⟩
            case round =>
              obtain ⟨i, rfl, hi, HR⟩ := hrel
              by_cases hlt : i < na
              · obtain ⟨nm1, k1, x1, l1, f1, tl1, hd1⟩ := V.T.drop_some (t := la) (i := i) (by rw [HE.out.1]; exact hlt)
                obtain ⟨nm2, k2, x2, l2, f2, tl2, hd2⟩ := V.T.drop_some (t := lb) (i := i) (by rw [HE.out.2]; exact hlt)
                obtain ⟨b1, o1, v1, u1, rfl, E1⟩ := ((HA.out.1.below HW.out).below HR.out.1).elem (by rw [HE.out.1]; exact hlt) hd1
                obtain ⟨b2, o2, v2, u2, rfl, E2⟩ := ((HB.out.1.below HW.out).below HR.out.1).elem (by rw [HE.out.2]; exact hlt) hd2
                obtain ⟨c1, c2, c3, c4⟩ := X1.out.below HR.out.1 (by rw [HZ.out]; omega)
                obtain ⟨d1, d2, d3, d4⟩ := X2.out.below HR.out.1 (by rw [HZ.out]; omega)
                have e1 := E1.kind
                have e2 := E1.text
                have e3 := E1.list
                have e4 := E1.fields
                have g1 := E2.kind
                have g2 := E2.text
                have g3 := E2.list
                have g4 := E2.fields
                simp only [Nat.add_zero] at e1 e2 e3 e4 g1 g2 g3 g4
                have HL := Lib.hid hlt
                have D1 := Lib.hid hd1
                have D2 := Lib.hid hd2
                clear hd1 hd2 c1 c2 c4 d1 d2 d4
                have keep : ∀ w', Below wr.heap.size wr w' → w'.cell? ⟨w.heap.size, 2, none⟩ = some (.slice (some ⟨b1, o1, none⟩) na ca) ∧ w'.cell? ⟨w.heap.size + 1, 2, none⟩ = some (.slice (some ⟨b2, o2, none⟩) na cb) ∧ w'.cell? ⟨b1, o1 + i * 4, none⟩ = some (.int .u8 k1) ∧ w'.cell? ⟨b1, o1 + i * 4 + 1, none⟩ = some (.string x1) ∧ w'.cell? ⟨b1, o1 + i * 4 + 2, none⟩ = some v1 ∧ w'.cell? ⟨b1, o1 + i * 4 + 3, none⟩ = some u1 ∧ w'.cell? ⟨b2, o2 + i * 4, none⟩ = some (.int .u8 k2) ∧ w'.cell? ⟨b2, o2 + i * 4 + 1, none⟩ = some (.string x2) ∧ w'.cell? ⟨b2, o2 + i * 4 + 2, none⟩ = some v2 ∧ w'.cell? ⟨b2, o2 + i * 4 + 3, none⟩ = some u2 := fun w' hB =>
                  ⟨bcellv hB c3, bcellv hB d3, bcellv hB e1, bcellv hB e2, bcellv hB e3, bcellv hB e4, bcellv hB g1, bcellv hB g2, bcellv hB g3, bcellv hB g4⟩
                have KEEP := Lib.hid keep
                have HQ := Lib.hid HR
                clear keep HR
                cases hv : V.veq k1 x1 l1 f1 k2 x2 l2 f2
                · have IH := fun W (hB : Below wr.heap.size wr W) => ih k1 x1 v1 u1 l1 f1 k2 x2 v2 u2 l2 f2 A A' W (by have := V.T.drop_size D1.out; have := HN.out; omega) (E1.hl.below hB) (E1.hf.below hB) (E2.hl.below hB) (E2.hf.below hB)
                  rw [hv] at IH
                  have e0 : la.eq lb = false := HQ.out.out.2.symm.trans (V.eq_no D1.out D2.out hv)
                  rw [e0, Bool.false_and]
                  clear hv e0
                  go_wp2_with fail
                  go_region_held3 (fun w' => w'.cell? ⟨w.heap.size, 2, none⟩ = some (.slice (some ⟨b1, o1, none⟩) na ca) ∧ w'.cell? ⟨w.heap.size + 1, 2, none⟩ = some (.slice (some ⟨b2, o2, none⟩) na cb) ∧ w'.cell? ⟨b1, o1 + i * 4, none⟩ = some (.int .u8 k1) ∧ w'.cell? ⟨b1, o1 + i * 4 + 1, none⟩ = some (.string x1) ∧ w'.cell? ⟨b1, o1 + i * 4 + 2, none⟩ = some v1 ∧ w'.cell? ⟨b1, o1 + i * 4 + 3, none⟩ = some u1 ∧ w'.cell? ⟨b2, o2 + i * 4, none⟩ = some (.int .u8 k2) ∧ w'.cell? ⟨b2, o2 + i * 4 + 1, none⟩ = some (.string x2) ∧ w'.cell? ⟨b2, o2 + i * 4 + 2, none⟩ = some v2 ∧ w'.cell? ⟨b2, o2 + i * 4 + 3, none⟩ = some u2)
                    (first | exact KEEP.out _ hB2 | exact KEEP.out _ (Below.refl _ _).drew | exact KEEP.out _ (Below.refl _ _))
                    (first | (go_at_call 6; (with_reducible refine (IH _ (Below.refl _ _).drew).mono ?_); rintro e w1 ⟨rfl, hB1⟩; have hB2 := (Below.refl wr.heap.size wr).drew.trans hB1; clear hB1))
                  go_wp2_with fail
                  go_ret
                  exact ⟨rfl, HW.out.trans ((HQ.out.out.1.trans (hB2.mono (HQ.out.out.1.size))).mono (by rw [HZ.out]; omega))⟩
                · have IH := fun W (hB : Below wr.heap.size wr W) => ih k1 x1 v1 u1 l1 f1 k2 x2 v2 u2 l2 f2 A A' W (by have := V.T.drop_size D1.out; have := HN.out; omega) (E1.hl.below hB) (E1.hf.below hB) (E2.hl.below hB) (E2.hf.below hB)
                  rw [hv] at IH
                  have HV := Lib.hid hv
                  clear hv
                  go_wp2_with fail
                  go_region_held3 (fun w' => w'.cell? ⟨w.heap.size, 2, none⟩ = some (.slice (some ⟨b1, o1, none⟩) na ca) ∧ w'.cell? ⟨w.heap.size + 1, 2, none⟩ = some (.slice (some ⟨b2, o2, none⟩) na cb) ∧ w'.cell? ⟨b1, o1 + i * 4, none⟩ = some (.int .u8 k1) ∧ w'.cell? ⟨b1, o1 + i * 4 + 1, none⟩ = some (.string x1) ∧ w'.cell? ⟨b1, o1 + i * 4 + 2, none⟩ = some v1 ∧ w'.cell? ⟨b1, o1 + i * 4 + 3, none⟩ = some u1 ∧ w'.cell? ⟨b2, o2 + i * 4, none⟩ = some (.int .u8 k2) ∧ w'.cell? ⟨b2, o2 + i * 4 + 1, none⟩ = some (.string x2) ∧ w'.cell? ⟨b2, o2 + i * 4 + 2, none⟩ = some v2 ∧ w'.cell? ⟨b2, o2 + i * 4 + 3, none⟩ = some u2)
                    (first | exact KEEP.out _ hB2 | exact KEEP.out _ (Below.refl _ _).drew | exact KEEP.out _ (Below.refl _ _))
                    (first | (go_at_call 6; (with_reducible refine (IH _ (Below.refl _ _).drew).mono ?_); rintro e w1 ⟨rfl, hB1⟩; have hB2 := (Below.refl wr.heap.size wr).drew.trans hB1; clear hB1))
                  go_wp2_with fail
                  go_roundw
                  case rel =>
                    exact ⟨i + 1, by go_num, HL.out, Lib.hid ⟨HQ.out.out.1.trans (hB2.mono (HQ.out.out.1.size)), (V.eq_next D1.out D2.out HV.out ((E1.nil rfl).trans (E2.nil rfl).symm)).trans HQ.out.out.2⟩⟩
                  case measure => have := HL.out; simp [RowKit.intOf]; omega
              · obtain rfl : i = na := by omega
                have e0 : la.eq lb = true := by
                  have h := HR.out.2
                  rw [← HE.out.1, V.T.drop_len, HE.out.1, ← HE.out.2, V.T.drop_len] at h
                  exact h.symm
                have H0 := Lib.hid e0
                clear e0
                obtain ⟨c1, c2, c3, c4⟩ := X1.out.below HR.out.1 (by rw [HZ.out]; omega)
                obtain ⟨d1, d2, d3, d4⟩ := X2.out.below HR.out.1 (by rw [HZ.out]; omega)
                have HQ := Lib.hid HR.out.1
                clear HR c1 c2 d1 d2 hi
                go_wp2_with fail
                go_loopw [6] (fun p wr => ∃ j : Nat, p = .int .i64 j ∧ j ≤ ma ∧ Hid (Below W0.heap.size W0 wr ∧ (fa.drop j).eq (fb.drop j) = fa.eq fb)) (fun p _ => ma - (RowKit.intOf p).toNat)
                case atStart => exact ⟨0, rfl, Nat.zero_le _, Lib.hid ⟨HQ.out, by rw [V.T.drop_zero, V.T.drop_zero]⟩⟩
                case round =>
                  clear c3 c4 d3 d4
                  obtain ⟨j, rfl, hj, HR⟩ := hrel
                  by_cases hlt : j < ma
                  · obtain ⟨nm1, k1, x1, l1, f1, tl1, hd1⟩ := V.T.drop_some (t := fa) (i := j) (by rw [HF.out.1]; exact hlt)
                    obtain ⟨nm2, k2, x2, l2, f2, tl2, hd2⟩ := V.T.drop_some (t := fb) (i := j) (by rw [HF.out.2]; exact hlt)
                    obtain ⟨b1, o1, v1, u1, rfl, E1⟩ := ((HA.out.2.below HW.out).below HR.out.1).elem (by rw [HF.out.1]; exact hlt) hd1
                    obtain ⟨b2, o2, v2, u2, rfl, E2⟩ := ((HB.out.2.below HW.out).below HR.out.1).elem (by rw [HF.out.2]; exact hlt) hd2
                    obtain ⟨_, _, _, c4⟩ := X1.out.below HR.out.1 (by rw [HZ.out]; omega)
                    obtain ⟨_, _, _, d4⟩ := X2.out.below HR.out.1 (by rw [HZ.out]; omega)
                    have e0 := E1.name rfl
                    have e1 := E1.kind
                    have e2 := E1.text
                    have e3 := E1.list
                    have e4 := E1.fields
                    have g0 := E2.name rfl
                    have g1 := E2.kind
                    have g2 := E2.text
                    have g3 := E2.list
                    have g4 := E2.fields
                    simp only [Nat.reduceAdd] at e0 e1 e2 e3 e4 g0 g1 g2 g3 g4
                    have HL := Lib.hid hlt
                    have D1 := Lib.hid hd1
                    have D2 := Lib.hid hd2
                    clear hd1 hd2
                    have keep : ∀ w', Below wr.heap.size wr w' → w'.cell? ⟨w.heap.size, 3, none⟩ = some (.slice (some ⟨b1, o1, none⟩) ma da) ∧ w'.cell? ⟨w.heap.size + 1, 3, none⟩ = some (.slice (some ⟨b2, o2, none⟩) ma db) ∧ w'.cell? ⟨b1, o1 + j * 5, none⟩ = some (.string nm1) ∧ w'.cell? ⟨b2, o2 + j * 5, none⟩ = some (.string nm2) ∧ w'.cell? ⟨b1, o1 + j * 5 + 1, none⟩ = some (.int .u8 k1) ∧ w'.cell? ⟨b1, o1 + j * 5 + 1 + 1, none⟩ = some (.string x1) ∧ w'.cell? ⟨b1, o1 + j * 5 + 1 + 2, none⟩ = some v1 ∧ w'.cell? ⟨b1, o1 + j * 5 + 1 + 3, none⟩ = some u1 ∧ w'.cell? ⟨b2, o2 + j * 5 + 1, none⟩ = some (.int .u8 k2) ∧ w'.cell? ⟨b2, o2 + j * 5 + 1 + 1, none⟩ = some (.string x2) ∧ w'.cell? ⟨b2, o2 + j * 5 + 1 + 2, none⟩ = some v2 ∧ w'.cell? ⟨b2, o2 + j * 5 + 1 + 3, none⟩ = some u2 := fun w' hB =>
                      ⟨bcellv hB c4, bcellv hB d4, bcellv hB e0, bcellv hB g0, bcellv hB e1, bcellv hB e2, bcellv hB e3, bcellv hB e4, bcellv hB g1, bcellv hB g2, bcellv hB g3, bcellv hB g4⟩
                    have KEEP := Lib.hid keep
                    have HQ := Lib.hid HR
                    clear keep HR
                    by_cases hnm : nm1 = nm2
                    · have t5 : (nm1.toList == nm2.toList) = true := by rw [hnm]; simp
                      have HM := Lib.hid hnm
                      clear hnm
                      have IH := fun W (hB : Below wr.heap.size wr W) => ih k1 x1 v1 u1 l1 f1 k2 x2 v2 u2 l2 f2 A A' W (by have := V.T.drop_size D1.out; have := HN.out; omega) (E1.hl.below hB) (E1.hf.below hB) (E2.hl.below hB) (E2.hf.below hB)
                      cases hv : V.veq k1 x1 l1 f1 k2 x2 l2 f2
                      · rw [hv] at IH
                        have EE := Lib.hid (show (la.eq lb && fa.eq fb) = false by rw [← HQ.out.out.2, V.eq_no D1.out D2.out hv, Bool.and_false])
                        clear hv
                        go_wp2_with fail
                        go_region_held3 (fun w' => w'.cell? ⟨w.heap.size, 3, none⟩ = some (.slice (some ⟨b1, o1, none⟩) ma da) ∧ w'.cell? ⟨w.heap.size + 1, 3, none⟩ = some (.slice (some ⟨b2, o2, none⟩) ma db) ∧ w'.cell? ⟨b1, o1 + j * 5, none⟩ = some (.string nm1) ∧ w'.cell? ⟨b2, o2 + j * 5, none⟩ = some (.string nm2) ∧ w'.cell? ⟨b1, o1 + j * 5 + 1, none⟩ = some (.int .u8 k1) ∧ w'.cell? ⟨b1, o1 + j * 5 + 1 + 1, none⟩ = some (.string x1) ∧ w'.cell? ⟨b1, o1 + j * 5 + 1 + 2, none⟩ = some v1 ∧ w'.cell? ⟨b1, o1 + j * 5 + 1 + 3, none⟩ = some u1 ∧ w'.cell? ⟨b2, o2 + j * 5 + 1, none⟩ = some (.int .u8 k2) ∧ w'.cell? ⟨b2, o2 + j * 5 + 1 + 1, none⟩ = some (.string x2) ∧ w'.cell? ⟨b2, o2 + j * 5 + 1 + 2, none⟩ = some v2 ∧ w'.cell? ⟨b2, o2 + j * 5 + 1 + 3, none⟩ = some u2)
                          (first | exact KEEP.out _ hB2 | exact KEEP.out _ (Below.refl _ _).drew | exact KEEP.out _ (Below.refl _ _))
                          (first | (go_at_call 6; (with_reducible refine (IH _ (Below.refl _ _).drew).mono ?_); rintro e w1 ⟨rfl, hB1⟩; have hB2 := (Below.refl wr.heap.size wr).drew.trans hB1; clear hB1))
                        go_wp2_with fail
                        go_ret
                        rw [EE.out]
                        exact ⟨rfl, HW.out.trans ((HQ.out.out.1.trans (hB2.mono (HQ.out.out.1.size))).mono (by rw [HZ.out]; omega))⟩
                      · rw [hv] at IH
                        have HV := Lib.hid hv
                        clear hv
                        go_wp2_with fail
                        go_region_held3 (fun w' => w'.cell? ⟨w.heap.size, 3, none⟩ = some (.slice (some ⟨b1, o1, none⟩) ma da) ∧ w'.cell? ⟨w.heap.size + 1, 3, none⟩ = some (.slice (some ⟨b2, o2, none⟩) ma db) ∧ w'.cell? ⟨b1, o1 + j * 5, none⟩ = some (.string nm1) ∧ w'.cell? ⟨b2, o2 + j * 5, none⟩ = some (.string nm2) ∧ w'.cell? ⟨b1, o1 + j * 5 + 1, none⟩ = some (.int .u8 k1) ∧ w'.cell? ⟨b1, o1 + j * 5 + 1 + 1, none⟩ = some (.string x1) ∧ w'.cell? ⟨b1, o1 + j * 5 + 1 + 2, none⟩ = some v1 ∧ w'.cell? ⟨b1, o1 + j * 5 + 1 + 3, none⟩ = some u1 ∧ w'.cell? ⟨b2, o2 + j * 5 + 1, none⟩ = some (.int .u8 k2) ∧ w'.cell? ⟨b2, o2 + j * 5 + 1 + 1, none⟩ = some (.string x2) ∧ w'.cell? ⟨b2, o2 + j * 5 + 1 + 2, none⟩ = some v2 ∧ w'.cell? ⟨b2, o2 + j * 5 + 1 + 3, none⟩ = some u2)
                          (first | exact KEEP.out _ hB2 | exact KEEP.out _ (Below.refl _ _).drew | exact KEEP.out _ (Below.refl _ _))
                          (first | (go_at_call 6; (with_reducible refine (IH _ (Below.refl _ _).drew).mono ?_); rintro e w1 ⟨rfl, hB1⟩; have hB2 := (Below.refl wr.heap.size wr).drew.trans hB1; clear hB1))
                        go_wp2_with fail
                        go_roundw
                        case rel =>
                          exact ⟨j + 1, by go_num, HL.out, Lib.hid ⟨HQ.out.out.1.trans (hB2.mono (HQ.out.out.1.size)), (V.eq_next D1.out D2.out HV.out HM.out).trans HQ.out.out.2⟩⟩
                        case measure => have := HL.out; simp [RowKit.intOf]; omega
                    · have t5 : (nm1.toList == nm2.toList) = false := by rw [bytes_beq]; simp [hnm]
                      have t6 : (nm1.toList != nm2.toList) = true := by rw [bne, t5]; rfl
                      have t7 : (!(nm1.toList == nm2.toList)) = true := by rw [t5]; rfl
                      have EE := Lib.hid (show (la.eq lb && fa.eq fb) = false by rw [← HQ.out.out.2, V.eq_name D1.out D2.out hnm, Bool.and_false])
                      clear hnm
                      go_wp2_with fail
                      go_quiet (fail)
                      go_wp2_with fail
                      go_ret
                      rw [EE.out]
                      exact ⟨rfl, HW.out.trans ((HQ.out.out.1.trans (below_drewN' _ wr nq)).mono (by rw [HZ.out]; omega))⟩
                  · obtain rfl : j = ma := by omega
                    have e0 : fa.eq fb = true := by
                      have h := HR.out.2
                      rw [← HF.out.1, V.T.drop_len, HF.out.1, ← HF.out.2, V.T.drop_len] at h
                      exact h.symm
                    have EE := Lib.hid (show (la.eq lb && fa.eq fb) = true by rw [H0.out, e0]; rfl)
                    clear e0
                    obtain ⟨_, _, _, c4⟩ := X1.out.below HR.out.1 (by rw [HZ.out]; omega)
                    obtain ⟨_, _, _, d4⟩ := X2.out.below HR.out.1 (by rw [HZ.out]; omega)
                    go_wp2_with fail
                    go_ret
                    rw [EE.out]
                    exact ⟨rfl, HW.out.trans (HR.out.1.mono (by rw [HZ.out]; omega))⟩
          · have t4 : ((ma : Int) != mb) = true := by simp; omega
            have e2 : fa.eq fb = false := by
              cases h : fa.eq fb
              · rfl
              · exact absurd (by rw [← fa1, ← fb1]; exact V.T.eq_len h) h4
            rw [e2, Bool.and_false]
            clear hva hua hvb hub ea eb fa1 fb1
            go_enter Tryd.func6, Tryd.ntmps6
            go_wp2_with fail
            go_ret
            exact ⟨rfl, ((Below.refl _ _).alloc (Nat.le_refl _) _).alloc (by simp) _⟩
        · have t1 : ((ka : Int) != kb) = false := by simp; omega
          have t2 : (xa.toList == xb.toList) = true := by subst h2; simp
          have t3 : ((na : Int) != nb) = true := by simp; omega
          have e2 : la.eq lb = false := by
            cases h : la.eq lb
            · rfl
            · exact absurd (by rw [← ea, ← eb]; exact V.T.eq_len h) h3
          have e1 : V.veq ka xa la fa kb xb lb fb = false := by simp [V.veq, e2]
          rw [e1]
          clear hva hua hvb hub ea eb fa1 fb1 e1 e2
          go_enter Tryd.func6, Tryd.ntmps6
          go_wp2_with fail
          go_ret
          exact ⟨rfl, ((Below.refl _ _).alloc (Nat.le_refl _) _).alloc (by simp) _⟩
      · have t1 : ((ka : Int) != kb) = false := by simp; omega
        have t2 : (xa.toList == xb.toList) = false := by rw [bytes_beq]; simp [h2]
        have e1 : V.veq ka xa la fa kb xb lb fb = false := by simp [V.veq, h2]
        rw [e1]
        clear hva hua hvb hub ea eb fa1 fb1 e1
        go_enter Tryd.func6, Tryd.ntmps6
        go_wp2_with fail
        go_ret
        exact ⟨rfl, ((Below.refl _ _).alloc (Nat.le_refl _) _).alloc (by simp) _⟩
    · have t1 : ((ka : Int) != kb) = true := by simp; omega
      have e1 : V.veq ka xa la fa kb xb lb fb = false := by simp [V.veq, h1]
      rw [e1]
      clear hva hua hvb hub ea eb fa1 fb1 e1
      go_enter Tryd.func6, Tryd.ntmps6
      go_wp2_with fail
      go_ret
      exact ⟨rfl, ((Below.refl _ _).alloc (Nat.le_refl _) _).alloc (by simp) _⟩
end Go.Proofs.YtbdpghmpdghnbaaDoor
