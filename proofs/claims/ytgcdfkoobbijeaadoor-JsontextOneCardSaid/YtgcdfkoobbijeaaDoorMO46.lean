/- Two values that may be are the same just if they are written alike: the given law, walked. Conditions: such as Go can hold; the library's two tables as its text lays them. -/
import Derived.Test.YtgcdfkoobbijeaaDoorMO43
import Derived.Test.YtgcdfkoobbijeaaDoorMO44
import Derived.Test.YtgcdfkoobbijeaaDoorMO45
namespace Go.Proofs.YtgcdfkoobbijeaaDoor
open Go Go.RowKit Go.Shelf Go.Lib

theorem prn_ok {k : Nat} {x : ByteArray} {l f : V.T} (h : (prn k x l f).2 = 0) : mayV k x l f 0 = true ∧ (wrV k x l f).length ≤ 262144 ∧ (prn k x l f).1 = ⟨(wrV k x l f).toArray⟩ := by
  unfold prn at h ⊢
  split at h
  · rename_i h1
    rw [if_pos h1]
    split at h
    · cases h
    · rename_i h2
      rw [if_neg h2]
      exact ⟨h1, by omega, rfl⟩
  · cases h
/-- written alike, or not -/
theorem one_pure {k : Nat} {x : ByteArray} {l f : V.T} {k' : Nat} {x' : ByteArray} {l' f' : V.T} (n1 : Nn l 0) (n2 : Nn f 1) (n3 : Nn l' 0) (n4 : Nn f' 1) (h : (prn k x l f).2 = 0) (h' : (prn k' x' l' f').2 = 0) :
    decide ((prn k x l f).1 = (prn k' x' l' f').1) = V.veq k x l f k' x' l' f' := by
  obtain ⟨m1, m2, m3⟩ := prn_ok h
  obtain ⟨p1, p2, p3⟩ := prn_ok h'
  by_cases he : (prn k x l f).1 = (prn k' x' l' f').1
  · rw [decide_eq_true he]
    rw [m3, p3] at he
    have b1 := back_whole m1 n1 n2 m2
    have b2 := back_whole p1 n3 n4 p2
    rw [he, b2] at b1
    have e := congrArg Prod.fst b1
    obtain ⟨e1, e2⟩ := Prod.mk.inj e
    obtain ⟨e3, e4⟩ := Prod.mk.inj e2
    obtain ⟨e5, e6⟩ := Prod.mk.inj e4
    rw [e1, e3, e5, e6, V.veq_self]
  · rw [decide_eq_false he]
    cases hv : V.veq k x l f k' x' l' f'
    · rfl
    · obtain ⟨rfl, rfl, rfl, rfl⟩ := V.of_veq hv
      exact absurd rfl he
theorem veq_comm (k : Nat) (x : ByteArray) (l f : V.T) (k' : Nat) (x' : ByteArray) (l' f' : V.T) : V.veq k' x' l' f' k x l f = V.veq k x l f k' x' l' f' := by
  cases hv : V.veq k x l f k' x' l' f'
  · cases hw : V.veq k' x' l' f' k x l f
    · rfl
    · obtain ⟨rfl, rfl, rfl, rfl⟩ := V.of_veq hw
      rw [V.veq_self] at hv
      cases hv
  · obtain ⟨rfl, rfl, rfl, rfl⟩ := V.of_veq hv
    exact V.veq_self _ _ _ _
/-- where the law stands: its two boxes -/
structure OneSt (w : World) (ka : Nat) (xa : ByteArray) (va ua : Value) (kb : Nat) (xb : ByteArray) (vb ub : Value) (W : World) : Prop where
  below : Below w.heap.size w W
  b1 : Blk4 W w.heap.size 25 (.int .u8 ka) (.string xa) va ua
  b2 : Blk4 W (w.heap.size + 1) 25 (.int .u8 kb) (.string xb) vb ub
theorem OneSt.on {w : World} {ka : Nat} {xa : ByteArray} {va ua : Value} {kb : Nat} {xb : ByteArray} {vb ub : Value} {W W' : World} (h : OneSt w ka xa va ua kb xb vb ub W) (hB : Below W.heap.size W W') : OneSt w ka xa va ua kb xb vb ub W' :=
  ⟨h.below.trans (hB.mono h.below.size), h.b1.same (hB.block _ h.b1.lt), h.b2.same (hB.block _ h.b2.lt)⟩
theorem OneSt.cells {w : World} {ka : Nat} {xa : ByteArray} {va ua : Value} {kb : Nat} {xb : ByteArray} {vb ub : Value} {W : World} (h : OneSt w ka xa va ua kb xb vb ub W) :
    W.cell? ⟨w.heap.size, 0, none⟩ = some (.int .u8 ka) ∧ W.cell? ⟨w.heap.size, 1, none⟩ = some (.string xa) ∧ W.cell? ⟨w.heap.size, 2, none⟩ = some va ∧ W.cell? ⟨w.heap.size, 3, none⟩ = some ua ∧
    W.cell? ⟨w.heap.size + 1, 0, none⟩ = some (.int .u8 kb) ∧ W.cell? ⟨w.heap.size + 1, 1, none⟩ = some (.string xb) ∧ W.cell? ⟨w.heap.size + 1, 2, none⟩ = some vb ∧ W.cell? ⟨w.heap.size + 1, 3, none⟩ = some ub :=
  ⟨h.b1.cells.1, h.b1.cells.2.1, h.b1.cells.2.2.1, h.b1.cells.2.2.2, h.b2.cells.1, h.b2.cells.2.1, h.b2.cells.2.2.1, h.b2.cells.2.2.2⟩

set_option maxHeartbeats 4000000 in
set_option maxRecDepth 100000 in
theorem oneLaw_any (ka : Nat) (xa : ByteArray) (va ua : Value) (la fa : V.T) (kb : Nat) (xb : ByteArray) (vb ub : Value) (lb fb : V.T) (A A' : Nat → Prop) (w : World) (hka : ka < 256) (hxa : xa.size ≤ 140737488355328) (hkb : kb < 256) (hxb : xb.size ≤ 140737488355328)
    (hva : HS w A 0 va la) (hua : HS w A 1 ua fa) (hvb : HS w A' 0 vb lb) (hub : HS w A' 1 ub fb) (hT : Tabs w) :
    Calls Tryd.prog 4 #[.agg #[.int .u8 ka, .string xa, va, ua], .agg #[.int .u8 kb, .string xb, vb, ub]] w (TrueIs w) := by
  have hn1 := nn_of la 0 hva.fi
  have hn2 := nn_of fa 1 hua.fi
  have hn3 := nn_of lb 0 hvb.fi
  have hn4 := nn_of fb 1 hub.fi
  have S0 : OneSt w ka xa va ua kb xb vb ub ((w.alloc (.cells #[.int .u8 ka, .string xa, va, ua] 25)).alloc (.cells #[.int .u8 kb, .string xb, vb, ub] 25)) := ⟨two_below _ _ _, (two_new _ _ _).1, (two_new _ _ _).2⟩
  have AW := fun W (h : OneSt w ka xa va ua kb xb vb ub W) => awake4_any W (tabs_below hT h.below)
  have GA := fun W (h : OneSt w ka xa va ua kb xb vb ub W) => great4_any ka xa va ua la fa A W hxa (hva.below h.below) (hua.below h.below)
  have GB := fun W (h : OneSt w ka xa va ua kb xb vb ub W) => great4_any kb xb vb ub lb fb A' W hxb (hvb.below h.below) (hub.below h.below)
  have PA := fun W (h : OneSt w ka xa va ua kb xb vb ub W) (hf : Fine4 xa la fa) => print_any ka xa va ua la fa A W (gv_of (hva.below h.below) (hua.below h.below) hka hf) (tabs_below hT h.below)
  have PB := fun W (h : OneSt w ka xa va ua kb xb vb ub W) (hf : Fine4 xb lb fb) => print_any kb xb vb ub lb fb A' W (gv_of (hvb.below h.below) (hub.below h.below) hkb hf) (tabs_below hT h.below)
  have TW := fun W (h : OneSt w ka xa va ua kb xb vb ub W) (hf : Fine4 xa la fa) => twin_any (la.size + fa.size + 1) ka xa va ua la fa A W (Nat.lt_succ_self _) (by
    rcases hf with ⟨h0, _⟩ | ⟨h0, _⟩
    · rw [V.T.len_nil (show la.len = 0 by omega), V.T.len_nil (show fa.len = 0 by omega)]; decide
    · omega) (hva.below h.below) (hua.below h.below)
  have SAT := fun W (h : OneSt w ka xa va ua kb xb vb ub W) (v2 u2 : Value) (A2 : Nat → Prop) (h2 : HS W A2 0 v2 la) (h3 : HS W A2 1 u2 fa) => sa_ok (la.size + fa.size + 1) ka xa va ua la fa ka xa v2 u2 la fa A A2 W (Nat.lt_succ_self _) (hva.below h.below) (hua.below h.below) h2 h3
  have SAB := fun W (h : OneSt w ka xa va ua kb xb vb ub W) => sa_ok (la.size + fa.size + 1) ka xa va ua la fa kb xb vb ub lb fb A A' W (Nat.lt_succ_self _) (hva.below h.below) (hua.below h.below) (hvb.below h.below) (hub.below h.below)
  have SBA := fun W (h : OneSt w ka xa va ua kb xb vb ub W) => sa_ok (lb.size + fb.size + 1) kb xb vb ub lb fb ka xa va ua la fa A' A W (Nat.lt_succ_self _) (hvb.below h.below) (hub.below h.below) (hva.below h.below) (hua.below h.below)
  simp only [V.veq_self] at SAT
  simp only [veq_comm ka xa la fa kb xb lb fb] at SBA
  have EQ := fun h1 h2 => one_pure (k := ka) (x := xa) (l := la) (f := fa) (k' := kb) (x' := xb) (l' := lb) (f' := fb) hn1 hn2 hn3 hn4 h1 h2
  obtain ⟨pa, ca, rfl, -⟩ := hva.len
  obtain ⟨qa, da, rfl, -⟩ := hua.len
  obtain ⟨pb, cb, rfl, -⟩ := hvb.len
  obtain ⟨qb, db, rfl, -⟩ := hub.len
  generalize prn ka xa la fa = ra at *
  generalize prn kb xb lb fb = rb at *
  generalize V.veq ka xa la fa kb xb lb fb = r at *
  have H0 := Lib.hid S0
  have HAW := Lib.hid AW
  have HGA := Lib.hid GA
  have HGB := Lib.hid GB
  have HPA := Lib.hid PA
  have HPB := Lib.hid PB
  have HTW := Lib.hid TW
  have HSAT := Lib.hid SAT
  have HSAB := Lib.hid SAB
  have HSBA := Lib.hid SBA
  have HEQ := Lib.hid EQ
  clear S0 AW GA GB PA PB TW SAT SAB SBA EQ hva hua hvb hub hT hn1 hn2 hn3 hn4
  go_enter Tryd.func4, Tryd.ntmps4
  go_wp2_with fail
  generalize (w.alloc (.cells #[.int .u8 ka, .string xa, .slice pa la.len ca, .slice qa fa.len da] 25)).alloc (.cells #[.int .u8 kb, .string xb, .slice pb lb.len cb, .slice qb fb.len db] 25) = W0 at *
  refine (HAW.out _ H0.out).mono ?_
  rintro e w1 ⟨rfl, hB1⟩
  have H1 := Lib.hid (H0.out.on hB1)
  obtain ⟨c0, c1, c2, c3, d0, d1, d2, d3⟩ := H1.out.cells
  clear hB1
  go_wp2_with fail
  refine (HGA.out _ H1.out).mono ?_
  rintro e w2 ⟨b1, rfl, hg1, hB2⟩
  have H2 := Lib.hid (H1.out.on hB2)
  clear hB2 c0 c1 c2 c3 d0 d1 d2 d3
  cases b1
  case true =>
    clear hg1
    go_wp2_with fail
    go_ret
    exact ⟨rfl, H2.out.below⟩
  case false =>
    have F1 := Lib.hid (hg1 rfl)
    obtain ⟨c0, c1, c2, c3, d0, d1, d2, d3⟩ := H2.out.cells
    clear hg1
    go_wp2_with fail
    refine (HGB.out _ H2.out).mono ?_
    rintro e w3 ⟨b2, rfl, hg2, hB3⟩
    have H3 := Lib.hid (H2.out.on hB3)
    clear hB3 c0 c1 c2 c3 d0 d1 d2 d3
    cases b2
    case true =>
      clear hg2
      go_wp2_with fail
      go_ret
      exact ⟨rfl, H3.out.below⟩
    case false =>
      have F2 := Lib.hid (hg2 rfl)
      obtain ⟨c0, c1, c2, c3, d0, d1, d2, d3⟩ := H3.out.cells
      clear hg2
      go_wp2_with fail
      refine (HPA.out _ H3.out F1.out).mono ?_
      rintro e w4 ⟨rfl, hB4⟩
      have H4 := Lib.hid (H3.out.on hB4)
      clear hB4 c0 c1 c2 c3 d0 d1 d2 d3
      obtain ⟨c0, c1, c2, c3, d0, d1, d2, d3⟩ := H4.out.cells
      go_wp2_with fail
      refine (HPB.out _ H4.out F2.out).mono ?_
      rintro e w5 ⟨rfl, hB5⟩
      have H5 := Lib.hid (H4.out.on hB5)
      clear hB5 c0 c1 c2 c3 d0 d1 d2 d3
      obtain ⟨c0, c1, c2, c3, d0, d1, d2, d3⟩ := H5.out.cells
      obtain ⟨sa, na⟩ := ra
      obtain ⟨sb, nb⟩ := rb
      have keep : ∀ w', Below w5.heap.size w5 w' → OneSt w ka xa (.slice pa la.len ca) (.slice qa fa.len da) kb xb (.slice pb lb.len cb) (.slice qb fb.len db) w' := fun w' hB => H5.out.on hB
      have KEEP := Lib.hid keep
      clear keep
      have HD := Lib.hid (KEEP.out w5.drew (Below.refl _ _).drew)
      by_cases hz : na = 0 ∧ nb = 0
      · obtain ⟨rfl, rfl⟩ := hz
        have hst : (sa.toList == sb.toList) = r := by rw [bytes_beq]; exact HEQ.out rfl rfl
        cases r
        case false =>
          go_wp2_with fail
          go_region_held3 (fun w' => w'.cell? ⟨w.heap.size, 0, none⟩ = some (.int .u8 ka) ∧ w'.cell? ⟨w.heap.size, 1, none⟩ = some (.string xa) ∧ w'.cell? ⟨w.heap.size, 2, none⟩ = some (.slice pa la.len ca) ∧ w'.cell? ⟨w.heap.size, 3, none⟩ = some (.slice qa fa.len da) ∧ w'.cell? ⟨w.heap.size + 1, 0, none⟩ = some (.int .u8 kb) ∧ w'.cell? ⟨w.heap.size + 1, 1, none⟩ = some (.string xb) ∧ w'.cell? ⟨w.heap.size + 1, 2, none⟩ = some (.slice pb lb.len cb) ∧ w'.cell? ⟨w.heap.size + 1, 3, none⟩ = some (.slice qb fb.len db))
            (first | with_reducible exact K1.out.cells | with_reducible exact HD.out.cells)
            (first
              | (go_at_call 13; (with_reducible refine (HSAB.out _ (by first | with_reducible exact K1.out | with_reducible exact HD.out)).mono ?_); rintro e w6 ⟨rfl, hB6⟩; first | (have K1 := Lib.hid (K1.out.on hB6)) | (have K1 := Lib.hid (HD.out.on hB6)))
              | (go_at_call 13; (with_reducible refine (HSBA.out _ (by first | with_reducible exact K1.out | with_reducible exact HD.out)).mono ?_); rintro e w6 ⟨rfl, hB6⟩; first | (have K1 := Lib.hid (K1.out.on hB6)) | (have K1 := Lib.hid (HD.out.on hB6))))
          all_goals
            go_wp2_with fail
            go_ret
            exact ⟨rfl, K1.out.below⟩
        case true =>
          go_wp2_with fail
          go_region_held3 (fun w' => w'.cell? ⟨w.heap.size, 0, none⟩ = some (.int .u8 ka) ∧ w'.cell? ⟨w.heap.size, 1, none⟩ = some (.string xa) ∧ w'.cell? ⟨w.heap.size, 2, none⟩ = some (.slice pa la.len ca) ∧ w'.cell? ⟨w.heap.size, 3, none⟩ = some (.slice qa fa.len da) ∧ w'.cell? ⟨w.heap.size + 1, 0, none⟩ = some (.int .u8 kb) ∧ w'.cell? ⟨w.heap.size + 1, 1, none⟩ = some (.string xb) ∧ w'.cell? ⟨w.heap.size + 1, 2, none⟩ = some (.slice pb lb.len cb) ∧ w'.cell? ⟨w.heap.size + 1, 3, none⟩ = some (.slice qb fb.len db))
            (first | with_reducible exact K1.out.cells | with_reducible exact HD.out.cells)
            (first
              | (go_at_call 13; (with_reducible refine (HSAB.out _ (by first | with_reducible exact K1.out | with_reducible exact HD.out)).mono ?_); rintro e w6 ⟨rfl, hB6⟩; first | (have K1 := Lib.hid (K1.out.on hB6)) | (have K1 := Lib.hid (HD.out.on hB6)))
              | (go_at_call 13; (with_reducible refine (HSBA.out _ (by first | with_reducible exact K1.out | with_reducible exact HD.out)).mono ?_); rintro e w6 ⟨rfl, hB6⟩; first | (have K1 := Lib.hid (K1.out.on hB6)) | (have K1 := Lib.hid (HD.out.on hB6))))
          all_goals
            go_wp2_with fail
            go_ret
            exact ⟨rfl, K1.out.below⟩
      · by_cases ha : na = 0
        · have t1 : ((na : Int) != 0) = false := by rw [ha]; decide
          have t2 : ((nb : Int) != 0) = true := by rw [bne_iff_ne]; omega
          clear hz ha
          go_wp2_with fail
          go_region_held3 (fun w' => w'.cell? ⟨w.heap.size, 0, none⟩ = some (.int .u8 ka) ∧ w'.cell? ⟨w.heap.size, 1, none⟩ = some (.string xa) ∧ w'.cell? ⟨w.heap.size, 2, none⟩ = some (.slice pa la.len ca) ∧ w'.cell? ⟨w.heap.size, 3, none⟩ = some (.slice qa fa.len da) ∧ w'.cell? ⟨w.heap.size + 1, 0, none⟩ = some (.int .u8 kb) ∧ w'.cell? ⟨w.heap.size + 1, 1, none⟩ = some (.string xb) ∧ w'.cell? ⟨w.heap.size + 1, 2, none⟩ = some (.slice pb lb.len cb) ∧ w'.cell? ⟨w.heap.size + 1, 3, none⟩ = some (.slice qb fb.len db))
            (first | with_reducible exact K1.out.cells | with_reducible exact HD.out.cells)
            (first
              | (go_at_call 14; (with_reducible refine (HTW.out _ (by first | with_reducible exact K1.out | with_reducible exact HD.out) F1.out).mono ?_); rintro e w6 ⟨v2, u2, rfl, hl2, hf2, hB6⟩; first | (have K1 := Lib.hid (K1.out.on hB6)) | (have K1 := Lib.hid (HD.out.on hB6)))
              | (go_at_call 13; (with_reducible refine (HSAT.out _ (by first | with_reducible exact K1.out | with_reducible exact HD.out) _ _ _ hl2 hf2).mono ?_); rintro e w6 ⟨rfl, hB6⟩; first | (have K1 := Lib.hid (K1.out.on hB6)) | (have K1 := Lib.hid (HD.out.on hB6))))
          all_goals
            go_wp2_with fail
            go_ret
            exact ⟨rfl, K1.out.below⟩
        · have t1 : ((na : Int) != 0) = true := by rw [bne_iff_ne]; omega
          clear hz ha
          go_wp2_with fail
          go_region_held3 (fun w' => w'.cell? ⟨w.heap.size, 0, none⟩ = some (.int .u8 ka) ∧ w'.cell? ⟨w.heap.size, 1, none⟩ = some (.string xa) ∧ w'.cell? ⟨w.heap.size, 2, none⟩ = some (.slice pa la.len ca) ∧ w'.cell? ⟨w.heap.size, 3, none⟩ = some (.slice qa fa.len da) ∧ w'.cell? ⟨w.heap.size + 1, 0, none⟩ = some (.int .u8 kb) ∧ w'.cell? ⟨w.heap.size + 1, 1, none⟩ = some (.string xb) ∧ w'.cell? ⟨w.heap.size + 1, 2, none⟩ = some (.slice pb lb.len cb) ∧ w'.cell? ⟨w.heap.size + 1, 3, none⟩ = some (.slice qb fb.len db))
            (first | with_reducible exact K1.out.cells | with_reducible exact HD.out.cells)
            (first
              | (go_at_call 14; (with_reducible refine (HTW.out _ (by first | with_reducible exact K1.out | with_reducible exact HD.out) F1.out).mono ?_); rintro e w6 ⟨v2, u2, rfl, hl2, hf2, hB6⟩; first | (have K1 := Lib.hid (K1.out.on hB6)) | (have K1 := Lib.hid (HD.out.on hB6)))
              | (go_at_call 13; (with_reducible refine (HSAT.out _ (by first | with_reducible exact K1.out | with_reducible exact HD.out) _ _ _ hl2 hf2).mono ?_); rintro e w6 ⟨rfl, hB6⟩; first | (have K1 := Lib.hid (K1.out.on hB6)) | (have K1 := Lib.hid (HD.out.on hB6))))
          all_goals
            go_wp2_with fail
            go_ret
            exact ⟨rfl, K1.out.below⟩
theorem oneLaw (ka : Nat) (xa : ByteArray) (va ua : Value) (la fa : V.T) (kb : Nat) (xb : ByteArray) (vb ub : Value) (lb fb : V.T) (w : World) (hka : ka < 256) (hxa : xa.size ≤ 140737488355328) (hva : HS w (fun _ => True) 0 va la) (hua : HS w (fun _ => True) 1 ua fa)
    (hkb : kb < 256) (hxb : xb.size ≤ 140737488355328) (hvb : HS w (fun _ => True) 0 vb lb) (hub : HS w (fun _ => True) 1 ub fb) (hT : Tabs w) :
    Calls Tryd.prog 4 #[.agg #[.int .u8 ka, .string xa, va, ua], .agg #[.int .u8 kb, .string xb, vb, ub]] w (TrueIs w) :=
  oneLaw_any ka xa va ua la fa kb xb vb ub lb fb _ _ w hka hxa hkb hxb hva hua hvb hub hT
end Go.Proofs.YtgcdfkoobbijeaaDoor
