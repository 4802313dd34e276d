/- Any value is written as the document says, or may not be: the given law, walked. Conditions: such as Go can hold; the library's tables as its text lays them; strconv.ErrRange holds an error. -/
import Derived.Test.YtoolkaahjmnjeaaGreatDoorMW47
import Derived.Test.YtoolkaahjmnjeaaGreatDoorMW48
import Derived.Test.YtoolkaahjmnjeaaGreatDoorMW50
import Derived.Test.YtoolkaahjmnjeaaGreatDoorMW51
import Derived.Deep.RegionHeld3
import Derived.Test.YtoolkaahjmnjeaaGreatDoorProg
import Derived.WideShapes
import Derived.Carry
import Derived.SevenTiedAt
namespace Go.Proofs.YtoolkaahjmnjeaaGreatDoor
open Go Go.RowKit Go.Shelf Go.Lib

/-- where the law stands: its two boxes -/
structure WriSt (w : World) (ka : Nat) (xa : ByteArray) (va ua : Value) (kb : Nat) (xb : ByteArray) (vb ub : Value) (W : World) : Prop where
  below : Below w.heap.size w W
  b1 : Blk4 W w.heap.size 25 (.int .u8 ka) (.string xa) va ua
  b2 : Blk4 W (w.heap.size + 1) 25 (.int .u8 kb) (.string xb) vb ub
theorem WriSt.on {w : World} {ka : Nat} {xa : ByteArray} {va ua : Value} {kb : Nat} {xb : ByteArray} {vb ub : Value} {W W' : World} (h : WriSt w ka xa va ua kb xb vb ub W) (hB : Below W.heap.size W W') : WriSt w ka xa va ua kb xb vb ub W' :=
  ⟨h.below.trans (hB.mono h.below.size), h.b1.same (hB.block _ h.b1.lt), h.b2.same (hB.block _ h.b2.lt)⟩
theorem WriSt.cells {w : World} {ka : Nat} {xa : ByteArray} {va ua : Value} {kb : Nat} {xb : ByteArray} {vb ub : Value} {W : World} (h : WriSt w ka xa va ua kb xb vb ub W) :
    W.cell? ⟨w.heap.size, 0, none⟩ = some (.int .u8 ka) ∧ W.cell? ⟨w.heap.size, 1, none⟩ = some (.string xa) ∧ W.cell? ⟨w.heap.size, 2, none⟩ = some va ∧ W.cell? ⟨w.heap.size, 3, none⟩ = some ua ∧
    W.cell? ⟨w.heap.size + 1, 0, none⟩ = some (.int .u8 kb) ∧ W.cell? ⟨w.heap.size + 1, 1, none⟩ = some (.string xb) ∧ W.cell? ⟨w.heap.size + 1, 2, none⟩ = some vb ∧ W.cell? ⟨w.heap.size + 1, 3, none⟩ = some ub :=
  ⟨h.b1.cells.1, h.b1.cells.2.1, h.b1.cells.2.2.1, h.b1.cells.2.2.2, h.b2.cells.1, h.b2.cells.2.1, h.b2.cells.2.2.1, h.b2.cells.2.2.2⟩
/-- with the copy in a box of its own -/
structure WriSm (w : World) (ka : Nat) (xa : ByteArray) (va ua : Value) (la fa : V.T) (kb : Nat) (xb : ByteArray) (vb ub : Value) (m : Nat) (v2 u2 : Value) (A2 : Nat → Prop) (W : World) : Prop where
  st : WriSt w ka xa va ua kb xb vb ub W
  b3 : Blk4 W m 25 (.int .u8 ka) (.string xa) v2 u2
  l : HS W A2 0 v2 la
  f : HS W A2 1 u2 fa
theorem WriSm.on {w : World} {ka : Nat} {xa : ByteArray} {va ua : Value} {la fa : V.T} {kb : Nat} {xb : ByteArray} {vb ub : Value} {m : Nat} {v2 u2 : Value} {A2 : Nat → Prop} {W W' : World} (h : WriSm w ka xa va ua la fa kb xb vb ub m v2 u2 A2 W) (hB : Below W.heap.size W W') : WriSm w ka xa va ua la fa kb xb vb ub m v2 u2 A2 W' :=
  ⟨h.st.on hB, h.b3.same (hB.block _ h.b3.lt), h.l.below hB, h.f.below hB⟩
theorem WriSm.cells {w : World} {ka : Nat} {xa : ByteArray} {va ua : Value} {la fa : V.T} {kb : Nat} {xb : ByteArray} {vb ub : Value} {m : Nat} {v2 u2 : Value} {A2 : Nat → Prop} {W : World} (h : WriSm w ka xa va ua la fa kb xb vb ub m v2 u2 A2 W) :
    W.cell? ⟨w.heap.size, 0, none⟩ = some (.int .u8 ka) ∧ W.cell? ⟨w.heap.size, 1, none⟩ = some (.string xa) ∧ W.cell? ⟨w.heap.size, 2, none⟩ = some va ∧ W.cell? ⟨w.heap.size, 3, none⟩ = some ua ∧
    W.cell? ⟨w.heap.size + 1, 0, none⟩ = some (.int .u8 kb) ∧ W.cell? ⟨w.heap.size + 1, 1, none⟩ = some (.string xb) ∧ W.cell? ⟨w.heap.size + 1, 2, none⟩ = some vb ∧ W.cell? ⟨w.heap.size + 1, 3, none⟩ = some ub ∧
    W.cell? ⟨m, 0, none⟩ = some (.int .u8 ka) ∧ W.cell? ⟨m, 1, none⟩ = some (.string xa) ∧ W.cell? ⟨m, 2, none⟩ = some v2 ∧ W.cell? ⟨m, 3, none⟩ = some u2 :=
  ⟨h.st.b1.cells.1, h.st.b1.cells.2.1, h.st.b1.cells.2.2.1, h.st.b1.cells.2.2.2, h.st.b2.cells.1, h.st.b2.cells.2.1, h.st.b2.cells.2.2.1, h.st.b2.cells.2.2.2, h.b3.cells.1, h.b3.cells.2.1, h.b3.cells.2.2.1, h.b3.cells.2.2.2⟩

set_option maxHeartbeats 4000000 in
set_option maxRecDepth 100000 in
theorem writesLaw_any (ka : Nat) (xa : ByteArray) (va ua : Value) (la fa : V.T) (kb : Nat) (xb : ByteArray) (vb ub : Value) (lb fb : V.T) (A A' : Nat → Prop) (w : World) (hka : ka < 256) (hxa : xa.size ≤ 140737488355328) (hkb : kb < 256) (hxb : xb.size ≤ 140737488355328)
    (hva : HS w A 0 va la) (hua : HS w A 1 ua fa) (hvb : HS w A' 0 vb lb) (hub : HS w A' 1 ub fb) (hT : Tabs w) (hE : ErrC w) :
    Calls Tryz.prog 3 #[.agg #[.int .u8 ka, .string xa, va, ua], .agg #[.int .u8 kb, .string xb, vb, ub]] w (Bools true w) := by
  have S0 : WriSt w ka xa va ua kb xb vb ub ((w.alloc (.cells #[.int .u8 ka, .string xa, va, ua] 25)).alloc (.cells #[.int .u8 kb, .string xb, vb, ub] 25)) := ⟨two_below _ _ _, (two_new _ _ _).1, (two_new _ _ _).2⟩
  have HGA := Lib.hid (fun W (h : WriSt w ka xa va ua kb xb vb ub W) => great4_any ka xa va ua la fa A W hxa (hva.below h.below) (hua.below h.below))
  have HGB := Lib.hid (fun W (h : WriSt w ka xa va ua kb xb vb ub W) => great4_any kb xb vb ub lb fb A' W hxb (hvb.below h.below) (hub.below h.below))
  have HTW := Lib.hid (fun W (h : WriSt w ka xa va ua kb xb vb ub W) (hf : Fine4 xa la fa) => twin_any (la.size + fa.size + 1) ka xa va ua la fa A W (Nat.lt_succ_self _) (by
    rcases hf with ⟨h0, _⟩ | ⟨h0, _⟩
    · rw [V.T.len_nil (show la.len = 0 by omega), V.T.len_nil (show fa.len = 0 by omega)]; decide
    · omega) (hva.below h.below) (hua.below h.below))
  have PA := fun W (v2 u2 : Value) (A2 : Nat → Prop) (hB : Below w.heap.size w W) (h2 : HS W A2 0 v2 la) (h3 : HS W A2 1 u2 fa) (hf : Fine4 xa la fa) => print_any ka xa v2 u2 la fa A2 W (gv_of h2 h3 hka hf) (tabs_below hT hB)
  have PR := fun W (hB : Below w.heap.size w W) (hf : Fine4 xa la fa) => print04_any ka xa va ua la fa A W (gv_of (hva.below hB) (hua.below hB) hka hf)
  have IA := fun W (hB : Below w.heap.size w W) => int_any ka xa va ua W hxa (hE.on hB)
  have IR := fun W (hx : xa.size ≤ 1000000000000) => int04_any ka xa va ua W hx
  have MA := fun W (hB : Below w.heap.size w W) (hf : Fine4 xa la fa) => may_any ka xa va ua la fa A W (gv_of (hva.below hB) (hua.below hB) hka hf) (tabs_below hT hB)
  have MR := fun W (hB : Below w.heap.size w W) (hf : Fine4 xa la fa) => May04_any ka xa va ua la fa A W (gv_of (hva.below hB) (hua.below hB) hka hf)
  have SAB := fun W (hB : Below w.heap.size w W) => sa_ok (la.size + fa.size + 1) ka xa va ua la fa kb xb vb ub lb fb A A' W (Nat.lt_succ_self _) (hva.below hB) (hua.below hB) (hvb.below hB) (hub.below hB)
  have SRB := fun W (hB : Below w.heap.size w W) => Same04_any (la.size + fa.size + 1) ka xa va ua la fa kb xb vb ub lb fb A A' W (Nat.lt_succ_self _) (hva.below hB) (hua.below hB) (hvb.below hB) (hub.below hB)
  have SAM := fun W (v2 u2 : Value) (A2 : Nat → Prop) (hB : Below w.heap.size w W) (h2 : HS W A2 0 v2 la) (h3 : HS W A2 1 u2 fa) => sa_ok (la.size + fa.size + 1) ka xa va ua la fa ka xa v2 u2 la fa A A2 W (Nat.lt_succ_self _) (hva.below hB) (hua.below hB) h2 h3
  have SMA := fun W (v2 u2 : Value) (A2 : Nat → Prop) (hB : Below w.heap.size w W) (h2 : HS W A2 0 v2 la) (h3 : HS W A2 1 u2 fa) => same_any (la.size + fa.size + 1) ka xa v2 u2 la fa ka xa va ua la fa A2 A W (Nat.lt_succ_self _) h2 h3 (hva.below hB) (hua.below hB)
  simp only [V.veq_self] at SAM SMA
  obtain ⟨pa, ca, rfl, -⟩ := hva.len
  obtain ⟨qa, da, rfl, -⟩ := hua.len
  obtain ⟨pb, cb, rfl, -⟩ := hvb.len
  obtain ⟨qb, db, rfl, -⟩ := hub.len
  generalize prn ka xa la fa = ra at *
  generalize intV ka xa = ia at *
  generalize mayV ka xa la fa 0 = mb at *
  generalize V.veq ka xa la fa kb xb lb fb = r at *
  obtain ⟨sa, na⟩ := ra
  obtain ⟨ni, bi⟩ := ia
  have H0 := Lib.hid S0
  have HPA := Lib.hid PA
  have HPR := Lib.hid PR
  have HIA := Lib.hid IA
  have HIR := Lib.hid IR
  have HMA := Lib.hid MA
  have HMR := Lib.hid MR
  have HSAB := Lib.hid SAB
  have HSRB := Lib.hid SRB
  have HSAM := Lib.hid SAM
  have HSMA := Lib.hid SMA
  clear S0 PA PR IA IR MA MR SAB SRB SAM SMA hva hua hvb hub hT hE
  go_enter Tryz.func3, Tryz.ntmps3
  go_upto_region 1 with fail
  generalize (w.alloc (.cells #[.int .u8 ka, .string xa, .slice pa la.len ca, .slice qa fa.len da] 25)).alloc (.cells #[.int .u8 kb, .string xb, .slice pb lb.len cb, .slice qb fb.len db] 25) = W0 at *
  obtain ⟨c0, c1, c2, c3, d0, d1, d2, d3⟩ := H0.out.cells
  go_wp2_with fail
  refine (HGA.out _ H0.out).mono ?_
  rintro e w2 ⟨b1, rfl, hg1, hB2⟩
  have H2 := Lib.hid (H0.out.on hB2)
  clear hB2 c0 c1 c2 c3 d0 d1 d2 d3
  cases b1
  case true =>
    clear hg1
    go_wp2_with fail
    go_ret
    exact ⟨rfl, H2.out.below⟩
  case false =>
    have F1 := Lib.hid (hg1 rfl)
    obtain ⟨c0, c1, c2, c3, d0, d1, d2, d3⟩ := H2.out.cells
    clear hg1
    go_wp2_with fail
    refine (HGB.out _ H2.out).mono ?_
    rintro e w3 ⟨b2, rfl, hg2, hB3⟩
    have H3 := Lib.hid (H2.out.on hB3)
    clear hB3 c0 c1 c2 c3 d0 d1 d2 d3 hg2
    cases b2
    case true =>
      go_wp2_with fail
      go_ret
      exact ⟨rfl, H3.out.below⟩
    case false =>
      have hx12 := Lib.hid (show xa.size ≤ 1000000000000 by rcases F1.out with h | h <;> omega)
      obtain ⟨c0, c1, c2, c3, d0, d1, d2, d3⟩ := H3.out.cells
      go_wp2_with fail
      refine (HTW.out _ H3.out F1.out).mono ?_
      rintro e w4 ⟨v2, u2, rfl, hl2, hf2, hB4⟩
      have H4 := Lib.hid (H3.out.on hB4)
      have HM := Lib.hid (show WriSm w ka xa (.slice pa la.len ca) (.slice qa fa.len da) la fa kb xb (.slice pb lb.len cb) (.slice qb fb.len db) w4.heap.size v2 u2 _ (w4.alloc (.cells #[.int .u8 ka, .string xa, v2, u2] 25)) from
        ⟨H4.out.on ((Below.refl _ _).alloc (Nat.le_refl _) _), heap_alloc_new _ _, hl2.alloc _, hf2.alloc _⟩)
      obtain ⟨p2, e2, rfl, -⟩ := hl2.len
      obtain ⟨q2, g2, rfl, -⟩ := hf2.len
      clear hB4 c0 c1 c2 c3 d0 d1 d2 d3 hl2 hf2
      go_upto_region 4 with fail
      generalize hm : w4.heap.size = m at *
      generalize w4.alloc (.cells #[.int .u8 ka, .string xa, .slice p2 la.len e2, .slice q2 fa.len g2] 25) = W4 at *
      obtain ⟨v2, hv2⟩ : ∃ v, v = Value.slice p2 la.len e2 := ⟨_, rfl⟩
      obtain ⟨u2, hu2⟩ : ∃ v, v = Value.slice q2 fa.len g2 := ⟨_, rfl⟩
      rw [← hv2, ← hu2] at HM
      clear hv2 hu2 hm
      obtain ⟨c0, c1, c2, c3, d0, d1, d2, d3, g0, g1, g3, g4⟩ := HM.out.cells
      go_wp2_with fail
      refine (HPA.out _ _ _ _ HM.out.st.below HM.out.l HM.out.f F1.out).mono ?_
      rintro e w5 ⟨rfl, hB5⟩
      have H5 := Lib.hid (HM.out.on hB5)
      clear hB5 c0 c1 c2 c3 d0 d1 d2 d3 g0 g1 g3 g4
      obtain ⟨c0, c1, c2, c3, d0, d1, d2, d3, g0, g1, g3, g4⟩ := H5.out.cells
      go_wp2_with fail
      refine (HPR.out _ H5.out.st.below F1.out).mono ?_
      rintro e w6 ⟨rfl, hB6⟩
      have H6 := Lib.hid (H5.out.on hB6)
      clear hB6 c0 c1 c2 c3 d0 d1 d2 d3 g0 g1 g3 g4
      obtain ⟨c0, c1, c2, c3, d0, d1, d2, d3, g0, g1, g3, g4⟩ := H6.out.cells
      go_wp2_with fail
      refine (HIA.out _ H6.out.st.below).mono ?_
      rintro e w7 ⟨rfl, hB7⟩
      have H7 := Lib.hid (H6.out.on hB7)
      clear hB7 c0 c1 c2 c3 d0 d1 d2 d3 g0 g1 g3 g4
      obtain ⟨c0, c1, c2, c3, d0, d1, d2, d3, g0, g1, g3, g4⟩ := H7.out.cells
      go_wp2_with fail
      refine (HIR.out _ hx12.out).mono ?_
      rintro e w8 ⟨rfl, hB8⟩
      have H8 := Lib.hid (H7.out.on hB8)
      clear hB8 c0 c1 c2 c3 d0 d1 d2 d3 g0 g1 g3 g4
      have ts : (sa.toList == sa.toList) = true := by simp
      have tn : ((na : Int) == (na : Int)) = true := by simp
      have tm : (mb == mb) = true := by simp
      have tr : (r == r) = true := by simp
      have ti : (ni == ni) = true := by simp
      have tb : (bi == bi) = true := by simp
      have HD := Lib.hid (H8.out.on (Below.refl _ _).drew)
      go_wp2_with fail
      go_region_held3 (fun w' => w'.cell? ⟨w.heap.size, 0, none⟩ = some (.int .u8 ka) ∧ w'.cell? ⟨w.heap.size, 1, none⟩ = some (.string xa) ∧ w'.cell? ⟨w.heap.size, 2, none⟩ = some (.slice pa la.len ca) ∧ w'.cell? ⟨w.heap.size, 3, none⟩ = some (.slice qa fa.len da) ∧ w'.cell? ⟨w.heap.size + 1, 0, none⟩ = some (.int .u8 kb) ∧ w'.cell? ⟨w.heap.size + 1, 1, none⟩ = some (.string xb) ∧ w'.cell? ⟨w.heap.size + 1, 2, none⟩ = some (.slice pb lb.len cb) ∧ w'.cell? ⟨w.heap.size + 1, 3, none⟩ = some (.slice qb fb.len db) ∧ w'.cell? ⟨m, 0, none⟩ = some (.int .u8 ka) ∧ w'.cell? ⟨m, 1, none⟩ = some (.string xa) ∧ w'.cell? ⟨m, 2, none⟩ = some v2 ∧ w'.cell? ⟨m, 3, none⟩ = some u2)
        (first | with_reducible exact K1.out.cells | with_reducible exact HD.out.cells)
        (first
          | (go_at_call 14; (with_reducible refine (HMA.out _ (by first | exact K1.out.st.below | exact HD.out.st.below) F1.out).mono ?_); rintro e w9 ⟨rfl, hB9⟩; first | (have K1 := Lib.hid (K1.out.on hB9)) | (have K1 := Lib.hid (HD.out.on hB9)))
          | (go_at_call 15; (with_reducible refine (HMR.out _ (by first | exact K1.out.st.below | exact HD.out.st.below) F1.out).mono ?_); rintro e w9 ⟨rfl, hB9⟩; first | (have K1 := Lib.hid (K1.out.on hB9)) | (have K1 := Lib.hid (HD.out.on hB9)))
          | (go_at_call 16; (with_reducible refine (HSAB.out _ (by first | exact K1.out.st.below | exact HD.out.st.below)).mono ?_); rintro e w9 ⟨rfl, hB9⟩; first | (have K1 := Lib.hid (K1.out.on hB9)) | (have K1 := Lib.hid (HD.out.on hB9)))
          | (go_at_call 17; (with_reducible refine (HSRB.out _ (by first | exact K1.out.st.below | exact HD.out.st.below)).mono ?_); rintro e w9 ⟨rfl, hB9⟩; first | (have K1 := Lib.hid (K1.out.on hB9)) | (have K1 := Lib.hid (HD.out.on hB9)))
          | (go_at_call 16; (with_reducible refine (HSAM.out _ _ _ _ (by first | exact K1.out.st.below | exact HD.out.st.below) (by first | exact K1.out.l | exact HD.out.l) (by first | exact K1.out.f | exact HD.out.f)).mono ?_); rintro e w9 ⟨rfl, hB9⟩; first | (have K1 := Lib.hid (K1.out.on hB9)) | (have K1 := Lib.hid (HD.out.on hB9)))
          | (go_at_call 18; (with_reducible refine (HSMA.out _ _ _ _ (by first | exact K1.out.st.below | exact HD.out.st.below) (by first | exact K1.out.l | exact HD.out.l) (by first | exact K1.out.f | exact HD.out.f)).mono ?_); rintro e w9 ⟨rfl, hB9⟩; first | (have K1 := Lib.hid (K1.out.on hB9)) | (have K1 := Lib.hid (HD.out.on hB9))))
      all_goals
        go_wp2_with fail
        go_ret
        exact ⟨rfl, K1.out.st.below⟩
theorem writesLaw (ka : Nat) (xa : ByteArray) (va ua : Value) (la fa : V.T) (kb : Nat) (xb : ByteArray) (vb ub : Value) (lb fb : V.T) (w : World) (hka : ka < 256) (hxa : xa.size ≤ 140737488355328) (hva : HS w (fun _ => True) 0 va la) (hua : HS w (fun _ => True) 1 ua fa) (hkb : kb < 256) (hxb : xb.size ≤ 140737488355328)
    (hvb : HS w (fun _ => True) 0 vb lb) (hub : HS w (fun _ => True) 1 ub fb) (hT : Tabs w) (hE : ErrC w) :
    Calls Tryz.prog 3 #[.agg #[.int .u8 ka, .string xa, va, ua], .agg #[.int .u8 kb, .string xb, vb, ub]] w (Bools true w) := writesLaw_any ka xa va ua la fa kb xb vb ub lb fb _ _ w hka hxa hkb hxb hva hua hvb hub hT hE
end Go.Proofs.YtoolkaahjmnjeaaGreatDoor

namespace Go.Proofs.YtoolkaahjmnjeaaGreatDoor
open Go Go.RowKit
theorem trod_err {H : Type} {enc : TypeId × Value → H} {P : Program} {W : World} {base : Nat} {spare : Nat → Bool} {held : Bool} {fuel : Nat} {t : TypeId} {cs : List Value} {x : DataW H × List MemPlace} {k : _} (ht : P.underlying t = some (.interface k))
    (h : DataW.trod enc P W base spare held fuel t cs = some x) : cs = [.nilIface] ∨ ∃ u v, cs = [.iface u v] := by
  cases fuel with
  | zero => unfold DataW.trod at h; cases h
  | succ n =>
    unfold DataW.trod at h
    rw [ht] at h
    rcases cs with _ | ⟨c, _ | ⟨d, r⟩⟩
    · simp at h
    · cases c <;> first | exact .inl rfl | exact .inr ⟨_, _, rfl⟩ | (simp at h)
    · simp at h
end Go.Proofs.YtoolkaahjmnjeaaGreatDoor
