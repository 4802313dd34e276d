/- The program's May, its parts: fields. Conditions: strings of at most 10^12 bytes; utf.Valid's contract. -/
import Derived.Test.YtoolkaahjmnjeaaGreatDoorMW07
import Derived.Test.YtoolkaahjmnjeaaGreatDoorMW16
import Derived.Test.YtoolkaahjmnjeaaGreatDoorMW10
namespace Go.Proofs.YtoolkaahjmnjeaaGreatDoor
open Go Go.RowKit Go.Shelf Go.Lib
theorem hint_make (t k e : TypeId) (n : Int) (w : World) (ht : Tryz.prog.underlying t = some (.map k e)) : (Instr.makeMap t (some (.int .i64 n))).run Tryz.prog w = .ok (.map (some w.heap.size)) (w.alloc (.map #[] 0)) := by
  simp [Instr.makeMap, run_underlying ht, asInt, asIntOf, Result.andThen]
theorem zero_unit (w : World) : (zeroValue 204).run Tryz.prog w = .ok (.agg #[]) w := by kernel_rfl
theorem ba_beq (a b : ByteArray) : (a == b) = decide (a = b) := by
  cases a with
  | mk x =>
    cases b with
    | mk y =>
      show (x == y) = _
      by_cases h : x = y
      · subst h; simp
      · rw [beq_false_of_ne h, decide_eq_false (fun e => h (ByteArray.mk.inj e))]
/-- the map's keys are these names -/
def SetIs (D : DataW Nat) (l : List ByteArray) : Prop := Maps.IsMap D ∧ ∀ n : ByteArray, Maps.has D (kl n) = l.contains n
theorem SetIs.nil : SetIs (.map []) [] := ⟨⟨_, rfl⟩, fun _ => rfl⟩
theorem SetIs.cons {D : DataW Nat} {l : List ByteArray} (h : SetIs D l) (n : ByteArray) (z : DataW Nat) (hD : Maps.IsMap (D.put (kl n) z)) : SetIs (D.put (kl n) z) (n :: l) := by
  refine ⟨hD, fun m => ?_⟩
  rw [List.contains_cons]
  by_cases e : m = n
  · subst e
    rw [Maps.has_put_same h.1 (show WideAt.IsKeyLit (kl m) from trivial), ba_beq, decide_eq_true rfl, Bool.true_or]
  · rw [Maps.has_put_other (fun e2 => e (kl_inj e2)), h.2 m]
    rw [ba_beq, decide_eq_false e, Bool.false_or]
theorem mayT_fld {nm : ByteArray} {k : Nat} {x : ByteArray} {l f tl : V.T} {seen : List ByteArray} {dep : Nat} : mayT (.cons nm k x l f tl) 1 seen dep = (!(seen.contains nm) && U.valid nm && mayV k x l f dep && mayT tl 1 (nm :: seen) dep) := by
  unfold mayV
  conv => lhs; unfold mayT
  rw [if_pos rfl]

set_option maxHeartbeats 1000000 in
set_option maxRecDepth 100000 in
theorem validFields_any (P : World → Prop) (hP : ∀ W W', P W → Below W.heap.size W W' → P W') (hU : ∀ (s : ByteArray) (W : World), s.size ≤ 1000000000000 → P W → Calls Tryz.prog 85 #[.string s] W (Bools (U.valid s) W))
    (N : Nat) (ih : MayOk P N) (v : Value) (t : V.T) (A : Nat → Prop) (d : Nat) (w : World) (ht : t.size ≤ N) (hs : Sm t) (hv : HS w A 1 v t) (hd : d ≤ 64) (hPw : P w) :
    Calls Tryz.prog 145 #[v, .int .i64 d] w (Bools (!(decide (d = 64)) && mayT t 1 [] (d + 1)) w) := by
  obtain ⟨p, c, rfl, b0, b1, b2⟩ := hv.len
  by_cases h64 : d = 64
  · have td : ((d : Int) == 64) = true := by simp; omega
    rw [decide_eq_true h64]
    clear h64 hd
    go_enter Tryz.func145, Tryz.ntmps145
    go_wp2_with fail
    go_ret
    exact ⟨rfl, Below.refl _ _⟩
  · have td : ((d : Int) == 64) = false := by simp; omega
    rw [decide_eq_false h64]
    generalize hn : t.len = n at *
    have HN := Lib.hid hn
    have HA := Lib.hid hv
    have hd2 : d + 1 ≤ 64 := by omega
    have HH := Lib.hid (And.intro ht (And.intro hs hd2))
    have HP := Lib.hid (And.intro hP (And.intro hPw hU))
    have hmm := fun W => hint_make 203 9 204 n W (by kernel_rfl)
    have HM0 := Lib.hid (World.ownsMap_made (H := Nat) w Tryz.prog 9 (unitElem (H := Nat)))
    have HB0 := Lib.hid ((Below.refl w.heap.size w).alloc (Nat.le_refl _) (.map #[] 0))
    clear hn hv ht hs h64 hd hP hPw hU
    go_enter Tryz.func145, Tryz.ntmps145
    go_wp2_with fail
    go_loopw [17] (fun q wr => ∃ (i : Nat) (seen : List ByteArray) (D : DataW Nat), q = .int .i64 i ∧ i ≤ n ∧ Hid (mayT (t.drop i) 1 seen (d + 1) = mayT t 1 [] (d + 1)) ∧ Hid (SetIs D seen) ∧ Hid (wr.ownsMap Tryz.prog 9 (unitElem (H := Nat)) w.heap.size i D) ∧ Hid (Below w.heap.size w wr) ∧ w.heap.size < wr.heap.size) (fun q _ => n - (RowKit.intOf q).toNat)
    case atStart => exact ⟨0, [], .map [], rfl, Nat.zero_le _, Lib.hid (by rw [V.T.drop_zero]), Lib.hid SetIs.nil, HM0, HB0, by simp⟩
    case round =>
      obtain ⟨i, seen, D, rfl, hi, HR, HD, HM, HB, hsz0⟩ := hrel
      by_cases hlt : i < n
      · obtain ⟨nm1, k1, x1, l1, f1, tl1, hd1⟩ := V.T.drop_some (t := t) (i := i) (by rw [HN.out]; exact hlt)
        obtain ⟨b1, o1, v1, u1, rfl, E1⟩ := (HA.out.below HB.out).elem (by rw [HN.out]; exact hlt) hd1
        obtain ⟨p1, c5, rfl, -⟩ := E1.hl.len
        obtain ⟨p2, c6, rfl, -⟩ := E1.hf.len
        have e0 := E1.name rfl
        have e1 := E1.kind
        have e2 := E1.text
        have e3 := E1.list
        have e4 := E1.fields
        simp only [Nat.reduceAdd] at e0 e1 e2 e3 e4
        have hsz := V.T.drop_size hd1
        have hsm := HH.out.2.1.drop hd1
        have IH := fun W (hB : Below wr.heap.size wr W) => ih k1 x1 _ _ l1 f1 A (d + 1) W (by have := HH.out.1; omega) E1.small.1 hsm.2.1 hsm.2.2.1 hsm.2.2.2.1 (E1.hl.below hB) (E1.hf.below hB) HH.out.2.2 (HP.out.1 _ _ (HP.out.1 _ _ HP.out.2.1 HB.out) hB)
        have IU := fun W (hB : Below wr.heap.size wr W) => HP.out.2.2 nm1 W hsm.1 (HP.out.1 _ _ (HP.out.1 _ _ HP.out.2.1 HB.out) hB)
        have hcast : ((d + 1 : Nat) : Int) = (d : Int) + 1 := by omega
        simp only [hcast] at IH
        clear hcast
        have hstep : mayT (t.drop i) 1 seen (d + 1) = (!(seen.contains nm1) && U.valid nm1 && mayV k1 x1 l1 f1 (d + 1) && mayT (t.drop (i + 1)) 1 (nm1 :: seen) (d + 1)) := by
          rw [hd1, V.T.drop_step hd1, mayT_fld]
        have hkey : keyOf Tryz.prog 9 (.string nm1) = some (kl nm1) := WideMaps.keyOf_string_mk (by kernel_rfl) (by have := hsm.1; unfold maxLen; omega)
        have HS := Lib.hid hstep
        have HL := Lib.hid hlt
        have hhas := HD.out.2 nm1
        clear hstep hsz hsm E1 hd1
        have hBa := Lib.hid (((Below.refl wr.heap.size wr).alloc (Nat.le_refl _) (.cells #[.string nm1, .int .u8 k1, .string x1, .slice p1 l1.len c5, .slice p2 f1.len c6] 80)).alloc (by simp) (.cells #[] 204))
        have HBx := Lib.hid (HB.out.trans (hBa.out.mono HB.out.size))
        have HMx := Lib.hid ((HM.out.alloc (.cells #[.string nm1, .int .u8 k1, .string x1, .slice p1 l1.len c5, .slice p2 f1.len c6] 80)).alloc (.cells #[] 204))
        cases hc : seen.contains nm1
        · rw [hc] at hhas HS
          cases hvn : U.valid nm1
          · have hno : mayT t 1 [] (d + 1) = false := by rw [← HR.out, HS.out, hvn]; rfl
            rw [hvn] at IU
            have HNo := Lib.hid hno
            clear hno hvn
            go_wp2_with (at_lookup; refine wpList_lookup_own_unit _ rfl _ _ 203 rfl 9 204 law_string (by kernel_rfl) (zero_unit _) w.heap.size i D rfl (HM.out.alloc _) _ _ rfl hkey ?_; rw [hhas])
            (with_reducible refine (IU _ hBa.out).mono ?_)
            rintro e w1 ⟨rfl, hB1⟩
            have HB2 := Lib.hid (HBx.out.trans (hB1.mono HBx.out.size))
            clear hB1 IH IU e0 e1 e2 e3 e4
            go_wp2_with fail
            go_ret
            refine ⟨?_, HB2.out⟩
            rw [HNo.out]
            rfl
          · rw [hvn] at IU HS
            go_wp2_with (at_lookup; refine wpList_lookup_own_unit _ rfl _ _ 203 rfl 9 204 law_string (by kernel_rfl) (zero_unit _) w.heap.size i D rfl (HM.out.alloc _) _ _ rfl hkey ?_; rw [hhas])
            (with_reducible refine (IU _ hBa.out).mono ?_)
            rintro e w1 ⟨rfl, hB1⟩
            have HB2 := Lib.hid (HBx.out.trans (hB1.mono HBx.out.size))
            have hBb := Lib.hid (hBa.out.trans (hB1.mono hBa.out.size))
            have HM2 := Lib.hid (HMx.out.kept (grow_below hB1 none) (by simp))
            have hq : w1.heap[wr.heap.size]? = some (.cells #[.string nm1, .int .u8 k1, .string x1, .slice p1 l1.len c5, .slice p2 f1.len c6] 80) := (hB1.block _ (by simp; try omega)).trans ((Below.heap_alloc (wr.alloc (.cells #[.string nm1, .int .u8 k1, .string x1, .slice p1 l1.len c5, .slice p2 f1.len c6] 80)) (.cells #[] 204) _ (by simp)).trans (heap_alloc_new _ _))
            have q0 : w1.cell? ⟨wr.heap.size, 0, none⟩ = some (.string nm1) := by simp [World.cell?, hq]
            have q1 : w1.cell? ⟨wr.heap.size, 1, none⟩ = some (.int .u8 k1) := by simp [World.cell?, hq]
            have q2 : w1.cell? ⟨wr.heap.size, 2, none⟩ = some (.string x1) := by simp [World.cell?, hq]
            have q3 : w1.cell? ⟨wr.heap.size, 3, none⟩ = some (.slice p1 l1.len c5) := by simp [World.cell?, hq]
            have q4 : w1.cell? ⟨wr.heap.size, 4, none⟩ = some (.slice p2 f1.len c6) := by simp [World.cell?, hq]
            have hgt := Lib.hid (Nat.le_trans (show wr.heap.size + 1 ≤ _ by simp) hB1.size)
            clear hB1 IU hq
            cases hv : mayV k1 x1 l1 f1 (d + 1)
            · have hno : mayT t 1 [] (d + 1) = false := by rw [← HR.out, HS.out, hv]; rfl
              rw [hv] at IH
              have HNo := Lib.hid hno
              clear hno hv
              go_wp2_with fail
              (with_reducible refine (IH _ hBb.out).mono ?_)
              rintro e w2 ⟨rfl, hB3⟩
              have HB3 := Lib.hid (HB2.out.trans (hB3.mono HB2.out.size))
              clear hB3 IH e0 e1 e2 e3 e4
              go_wp2_with fail
              go_ret
              refine ⟨?_, HB3.out⟩
              rw [HNo.out]
              rfl
            · have hyes : mayT (t.drop (i + 1)) 1 (nm1 :: seen) (d + 1) = mayT t 1 [] (d + 1) := by rw [← HR.out, HS.out, hv]; rfl
              rw [hv] at IH
              have HY := Lib.hid hyes
              clear hyes hv
              go_wp2_with fail
              (with_reducible refine (IH _ hBb.out).mono ?_)
              rintro e w2 ⟨rfl, hB3⟩
              have HB3 := Lib.hid (HB2.out.trans (hB3.mono HB2.out.size))
              have HM3 := Lib.hid (HM2.out.kept (grow_below hB3 none) (by simp))
              have q5 : w2.cell? ⟨wr.heap.size, 0, none⟩ = some (.string nm1) := (hB3.cell (by exact hgt.out)).trans q0
              have hs2 := Lib.hid (Nat.le_trans hsz0 (Nat.le_trans (Nat.le_of_succ_le hgt.out) hB3.size))
              clear hB3 IH e0 e1 e2 e3 e4 q0 q1 q2 q3 q4
              go_wp2_with (at_mapUpdate; refine wpList_mapUpdate_own _ rfl _ _ _ 203 rfl 9 204 law_string (by kernel_rfl) (unitElem (H := Nat)) w.heap.size i D rfl HM3.out (by unfold maxLen; omega) _ _ _ rfl rfl hkey _ [] unitElem_mk ?_; intro w5 hown5 hgrow5)
              go_roundw
              case rel => exact ⟨i + 1, nm1 :: seen, _, by go_num, HL.out, HY, Lib.hid (HD.out.cons nm1 _ (by obtain ⟨es, e⟩ := HD.out.1; rw [e]; exact ⟨_, rfl⟩)), Lib.hid hown5, Lib.hid (HB3.out.grown hgrow5 (Nat.le_of_lt hs2.out) (fun j hj => by cases hj; exact Nat.le_refl _)), Nat.lt_of_lt_of_le hs2.out hgrow5.size⟩
              case measure => have := HL.out; simp [RowKit.intOf]; omega
        · have hno : mayT t 1 [] (d + 1) = false := by rw [← HR.out, HS.out, hc]; rfl
          rw [hc] at hhas
          have HNo := Lib.hid hno
          clear hno IH IU
          go_wp2_with (at_lookup; refine wpList_lookup_own_unit _ rfl _ _ 203 rfl 9 204 law_string (by kernel_rfl) (zero_unit _) w.heap.size i D rfl (HM.out.alloc _) _ _ rfl hkey ?_; rw [hhas])
          go_ret
          refine ⟨?_, HBx.out⟩
          rw [HNo.out]
          rfl
      · obtain rfl : i = n := by omega
        have hyes : mayT t 1 [] (d + 1) = true := by rw [← HR.out, ← HN.out, V.T.drop_len]; rfl
        have HY := Lib.hid hyes
        clear hyes
        go_wp2_with fail
        go_ret
        refine ⟨?_, HB.out⟩
        rw [HY.out]
        rfl
end Go.Proofs.YtoolkaahjmnjeaaGreatDoor

namespace Go.Proofs.YtoolkaahjmnjeaaGreatDoor
open Go Go.RowKit Go.Lib

set_option maxHeartbeats 400000 in
set_option maxRecDepth 100000 in
theorem refNext_short2 (s : ByteArray) (i : Nat) (w : World) (hi : i < s.size) (hs : s.size ≤ 1000000000000) (hb1 : 192 ≤ (s[i].toNat : Int)) (hb2 : (s[i].toNat : Int) < 224) (hsh : (s.size : Int) < (i : Int) + 2) :
    Calls Tryz.prog 155 #[.string s, .int .i64 i] w (NextIs (U.nr s i) (U.nk s i) (U.nb s i) w) := by
  have H := Lib.hid (U.next_short s i 2 (s[i].toNat - 192) (by rw [← U.at_byte hi]; unfold U.Lead; omega) hi (by omega))
  have h1 : ¬ ((i : Int) < 0) := by omega
  have h2 : (i : Int) < (s.size : Int) := by omega
  go_enter Tryz.func155, Tryz.ntmps155
  go_wp2_with fail
  go_ret3
  exact .of (U.nr_bad H.out) (U.nk_bad H.out) (U.nb_bad H.out) (Below.refl _ _)

set_option maxHeartbeats 1000000 in
set_option maxRecDepth 100000 in
theorem refNext_long2 (s : ByteArray) (i : Nat) (w : World) (hi : i < s.size) (hs : s.size ≤ 1000000000000) (hb1 : 192 ≤ (s[i].toNat : Int)) (hb2 : (s[i].toNat : Int) < 224) (hsh : (i : Int) + 2 ≤ (s.size : Int)) :
    Calls Tryz.prog 155 #[.string s, .int .i64 i] w (NextIs (U.nr s i) (U.nk s i) (U.nb s i) w) := by
  obtain ⟨n0, hn0⟩ : ∃ n0, s[i].toNat - 192 = n0 := ⟨_, rfl⟩
  have HL := Lib.hid (show U.Lead (s.get! i).toNat 2 n0 by rw [← U.at_byte hi]; unfold U.Lead; omega)
  have hn0' : n0 < 32 := by omega
  have HN := Lib.hid hn0
  clear hn0
  have h1 : ¬ ((i : Int) < 0) := by omega
  have h2 : (i : Int) < (s.size : Int) := by omega
  go_enter Tryz.func155, Tryz.ntmps155
  go_wp2_with fail
  go_loop [9, 10] (fun n j => ∃ k P : Nat, 1 ≤ k ∧ k ≤ 2 ∧ j = .int .i64 k ∧ n = .int .i64 P ∧ Hid (U.part s i n0 (k - 1) = P ∧ ∀ m, 1 ≤ m → m < k → 128 ≤ (s.get! (i + m)).toNat ∧ (s.get! (i + m)).toNat < 192)) (fun _ j => 2 - (RowKit.intOf j).toNat)
  case atStart => exact ⟨1, n0, by omega, by omega, rfl, by rw [← HN.out]; go_num, Lib.hid ⟨rfl, fun m a b => by omega⟩⟩
  case round =>
    obtain ⟨k, P, hk1, hk2, rfl, rfl, HP⟩ := hrel
    have hP : P < 8388608 := by rw [← HP.out.1]; exact U.part_lt s i n0 hn0' (k - 1) (by omega)
    by_cases hlt : k < 2
    · have hx : i + k < s.size := by omega
      have h256 : (s[i + k].toNat : Int) < 256 := by have := s[i + k].toNat_lt; omega
      by_cases hc : (s[i + k].toNat : Int) < 128
      · go_wp2_with fail
        go_ret3
        have H := U.next_broken s i 2 n0 k HL.out ⟨hk1, hlt⟩ (by rw [← U.at_byte hx]; omega)
        exact .of (U.nr_bad H) (U.nk_bad H) (U.nb_bad H) (Below.refl _ _)
      · by_cases hd : 192 ≤ (s[i + k].toNat : Int)
        · go_wp2_with fail
          go_ret3
          have H := U.next_broken s i 2 n0 k HL.out ⟨hk1, hlt⟩ (by rw [← U.at_byte hx]; omega)
          exact .of (U.nr_bad H) (U.nk_bad H) (U.nb_bad H) (Below.refl _ _)
        · go_wp2_with fail
          go_round
          case rel =>
            refine ⟨k + 1, P * 64 + (s.get! (i + k)).toNat % 64, by omega, by omega, by go_num, ?_, Lib.hid ⟨?_, ?_⟩⟩
            · rw [← U.at_byte hx]
              congr 1
              omega
            · obtain ⟨m, rfl⟩ : ∃ m, k = m + 1 := ⟨k - 1, by omega⟩
              rw [← HP.out.1]
              rfl
            · intro m a b
              by_cases hm : m = k
              · subst hm
                rw [← U.at_byte hx]
                omega
              · exact HP.out.2 m a (by omega)
          case measure => simp [RowKit.intOf]; omega
    · obtain rfl : k = 2 := by omega
      have HW := Lib.hid (U.next_whole s i 2 n0 HL.out (by omega) HP.out.2)
      have hpart := Lib.hid HP.out.1
      rw [show 2 - 1 = 1 from rfl] at HW
      have hl : U.least 2 = 128 := rfl
      rcases HW.out with ⟨hbad, h⟩ | ⟨hgood, hch, hwd, ha, hb, hc⟩
      · rw [hl, show U.part s i n0 1 = P from hpart.out] at h
        clear hl
        have HB := Lib.hid hbad
        clear hbad
        rcases h with h | h | ⟨h, h'⟩
        · have e1 : decide ((P : Int) < 128) = true := decide_eq_true (by omega)
          clear h
          go_wp2_with fail
          go_ret3
          exact .of (U.nr_bad HB.out) (U.nk_bad HB.out) (U.nb_bad HB.out) ((Below.refl _ _).alloc (Nat.le_refl _) _)
        · have e0 : decide ((P : Int) < 128) = false := decide_eq_false (by omega)
          have e2 : decide ((1114111 : Int) < (P : Int)) = true := decide_eq_true (by omega)
          clear h
          go_wp2_with fail
          go_ret3
          exact .of (U.nr_bad HB.out) (U.nk_bad HB.out) (U.nb_bad HB.out) ((Below.refl _ _).alloc (Nat.le_refl _) _)
        · by_cases hq : P < 128
          · have e1 : decide ((P : Int) < 128) = true := decide_eq_true (by omega)
            clear h h' hq
            go_wp2_with fail
            go_ret3
            exact .of (U.nr_bad HB.out) (U.nk_bad HB.out) (U.nb_bad HB.out) ((Below.refl _ _).alloc (Nat.le_refl _) _)
          · have e1 : decide ((P : Int) < 128) = false := decide_eq_false (by omega)
            have e2 : decide ((1114111 : Int) < (P : Int)) = false := decide_eq_false (by omega)
            have e3 : decide ((55296 : Int) ≤ (P : Int)) = true := decide_eq_true (by omega)
            have e4 : decide ((P : Int) < 57344) = true := decide_eq_true (by omega)
            clear h h' hq
            go_wp2_with fail
            go_ret3
            exact .of (U.nr_bad HB.out) (U.nk_bad HB.out) (U.nb_bad HB.out) ((Below.refl _ _).alloc (Nat.le_refl _) _)
      · rw [show U.part s i n0 1 = P from hpart.out] at hch ha hb hc
        rw [hl] at ha
        clear hl
        have HB := Lib.hid (And.intro hgood (And.intro hch hwd))
        clear hgood hch hwd
        rcases hc with h | h
        · have e1 : decide ((P : Int) < 128) = false := decide_eq_false (by omega)
          have e2 : decide ((1114111 : Int) < (P : Int)) = false := decide_eq_false (by omega)
          have e3 : decide ((55296 : Int) ≤ (P : Int)) = false := decide_eq_false (by omega)
          clear ha hb h
          go_wp2_with fail
          go_ret3
          exact .of (by rw [U.nr_good HB.out.1, HB.out.2.1]) (by rw [U.nk_good HB.out.1, HB.out.2.2]; rfl) (U.nb_good HB.out.1) ((Below.refl _ _).alloc (Nat.le_refl _) _)
        · have e1 : decide ((P : Int) < 128) = false := decide_eq_false (by omega)
          have e2 : decide ((1114111 : Int) < (P : Int)) = false := decide_eq_false (by omega)
          have e3 : decide ((55296 : Int) ≤ (P : Int)) = true := decide_eq_true (by omega)
          have e4 : decide ((P : Int) < 57344) = false := decide_eq_false (by omega)
          clear ha hb h
          go_wp2_with fail
          go_ret3
          exact .of (by rw [U.nr_good HB.out.1, HB.out.2.1]) (by rw [U.nk_good HB.out.1, HB.out.2.2]; rfl) (U.nb_good HB.out.1) ((Below.refl _ _).alloc (Nat.le_refl _) _)
end Go.Proofs.YtoolkaahjmnjeaaGreatDoor

namespace Go.Proofs.YtoolkaahjmnjeaaGreatDoor
open Go Go.RowKit Go.Lib

set_option maxHeartbeats 400000 in
set_option maxRecDepth 100000 in
theorem refNext_short3 (s : ByteArray) (i : Nat) (w : World) (hi : i < s.size) (hs : s.size ≤ 1000000000000) (hb1 : 224 ≤ (s[i].toNat : Int)) (hb2 : (s[i].toNat : Int) < 240) (hsh : (s.size : Int) < (i : Int) + 3) :
    Calls Tryz.prog 155 #[.string s, .int .i64 i] w (NextIs (U.nr s i) (U.nk s i) (U.nb s i) w) := by
  have H := Lib.hid (U.next_short s i 3 (s[i].toNat - 224) (by rw [← U.at_byte hi]; unfold U.Lead; omega) hi (by omega))
  have h1 : ¬ ((i : Int) < 0) := by omega
  have h2 : (i : Int) < (s.size : Int) := by omega
  go_enter Tryz.func155, Tryz.ntmps155
  go_wp2_with fail
  go_ret3
  exact .of (U.nr_bad H.out) (U.nk_bad H.out) (U.nb_bad H.out) (Below.refl _ _)

set_option maxHeartbeats 1000000 in
set_option maxRecDepth 100000 in
theorem refNext_long3 (s : ByteArray) (i : Nat) (w : World) (hi : i < s.size) (hs : s.size ≤ 1000000000000) (hb1 : 224 ≤ (s[i].toNat : Int)) (hb2 : (s[i].toNat : Int) < 240) (hsh : (i : Int) + 3 ≤ (s.size : Int)) :
    Calls Tryz.prog 155 #[.string s, .int .i64 i] w (NextIs (U.nr s i) (U.nk s i) (U.nb s i) w) := by
  obtain ⟨n0, hn0⟩ : ∃ n0, s[i].toNat - 224 = n0 := ⟨_, rfl⟩
  have HL := Lib.hid (show U.Lead (s.get! i).toNat 3 n0 by rw [← U.at_byte hi]; unfold U.Lead; omega)
  have hn0' : n0 < 32 := by omega
  have HN := Lib.hid hn0
  clear hn0
  have h1 : ¬ ((i : Int) < 0) := by omega
  have h2 : (i : Int) < (s.size : Int) := by omega
  go_enter Tryz.func155, Tryz.ntmps155
  go_wp2_with fail
  go_loop [9, 10] (fun n j => ∃ k P : Nat, 1 ≤ k ∧ k ≤ 3 ∧ j = .int .i64 k ∧ n = .int .i64 P ∧ Hid (U.part s i n0 (k - 1) = P ∧ ∀ m, 1 ≤ m → m < k → 128 ≤ (s.get! (i + m)).toNat ∧ (s.get! (i + m)).toNat < 192)) (fun _ j => 3 - (RowKit.intOf j).toNat)
  case atStart => exact ⟨1, n0, by omega, by omega, rfl, by rw [← HN.out]; go_num, Lib.hid ⟨rfl, fun m a b => by omega⟩⟩
  case round =>
    obtain ⟨k, P, hk1, hk2, rfl, rfl, HP⟩ := hrel
    have hP : P < 8388608 := by rw [← HP.out.1]; exact U.part_lt s i n0 hn0' (k - 1) (by omega)
    by_cases hlt : k < 3
    · have hx : i + k < s.size := by omega
      have h256 : (s[i + k].toNat : Int) < 256 := by have := s[i + k].toNat_lt; omega
      by_cases hc : (s[i + k].toNat : Int) < 128
      · go_wp2_with fail
        go_ret3
        have H := U.next_broken s i 3 n0 k HL.out ⟨hk1, hlt⟩ (by rw [← U.at_byte hx]; omega)
        exact .of (U.nr_bad H) (U.nk_bad H) (U.nb_bad H) (Below.refl _ _)
      · by_cases hd : 192 ≤ (s[i + k].toNat : Int)
        · go_wp2_with fail
          go_ret3
          have H := U.next_broken s i 3 n0 k HL.out ⟨hk1, hlt⟩ (by rw [← U.at_byte hx]; omega)
          exact .of (U.nr_bad H) (U.nk_bad H) (U.nb_bad H) (Below.refl _ _)
        · go_wp2_with fail
          go_round
          case rel =>
            refine ⟨k + 1, P * 64 + (s.get! (i + k)).toNat % 64, by omega, by omega, by go_num, ?_, Lib.hid ⟨?_, ?_⟩⟩
            · rw [← U.at_byte hx]
              congr 1
              omega
            · obtain ⟨m, rfl⟩ : ∃ m, k = m + 1 := ⟨k - 1, by omega⟩
              rw [← HP.out.1]
              rfl
            · intro m a b
              by_cases hm : m = k
              · subst hm
                rw [← U.at_byte hx]
                omega
              · exact HP.out.2 m a (by omega)
          case measure => simp [RowKit.intOf]; omega
    · obtain rfl : k = 3 := by omega
      have HW := Lib.hid (U.next_whole s i 3 n0 HL.out (by omega) HP.out.2)
      have hpart := Lib.hid HP.out.1
      rw [show 3 - 1 = 2 from rfl] at HW
      have hl : U.least 3 = 2048 := rfl
      rcases HW.out with ⟨hbad, h⟩ | ⟨hgood, hch, hwd, ha, hb, hc⟩
      · rw [hl, show U.part s i n0 2 = P from hpart.out] at h
        clear hl
        have HB := Lib.hid hbad
        clear hbad
        rcases h with h | h | ⟨h, h'⟩
        · have e1 : decide ((P : Int) < 2048) = true := decide_eq_true (by omega)
          clear h
          go_wp2_with fail
          go_ret3
          exact .of (U.nr_bad HB.out) (U.nk_bad HB.out) (U.nb_bad HB.out) ((Below.refl _ _).alloc (Nat.le_refl _) _)
        · have e0 : decide ((P : Int) < 2048) = false := decide_eq_false (by omega)
          have e2 : decide ((1114111 : Int) < (P : Int)) = true := decide_eq_true (by omega)
          clear h
          go_wp2_with fail
          go_ret3
          exact .of (U.nr_bad HB.out) (U.nk_bad HB.out) (U.nb_bad HB.out) ((Below.refl _ _).alloc (Nat.le_refl _) _)
        · by_cases hq : P < 2048
          · have e1 : decide ((P : Int) < 2048) = true := decide_eq_true (by omega)
            clear h h' hq
            go_wp2_with fail
            go_ret3
            exact .of (U.nr_bad HB.out) (U.nk_bad HB.out) (U.nb_bad HB.out) ((Below.refl _ _).alloc (Nat.le_refl _) _)
          · have e1 : decide ((P : Int) < 2048) = false := decide_eq_false (by omega)
            have e2 : decide ((1114111 : Int) < (P : Int)) = false := decide_eq_false (by omega)
            have e3 : decide ((55296 : Int) ≤ (P : Int)) = true := decide_eq_true (by omega)
            have e4 : decide ((P : Int) < 57344) = true := decide_eq_true (by omega)
            clear h h' hq
            go_wp2_with fail
            go_ret3
            exact .of (U.nr_bad HB.out) (U.nk_bad HB.out) (U.nb_bad HB.out) ((Below.refl _ _).alloc (Nat.le_refl _) _)
      · rw [show U.part s i n0 2 = P from hpart.out] at hch ha hb hc
        rw [hl] at ha
        clear hl
        have HB := Lib.hid (And.intro hgood (And.intro hch hwd))
        clear hgood hch hwd
        rcases hc with h | h
        · have e1 : decide ((P : Int) < 2048) = false := decide_eq_false (by omega)
          have e2 : decide ((1114111 : Int) < (P : Int)) = false := decide_eq_false (by omega)
          have e3 : decide ((55296 : Int) ≤ (P : Int)) = false := decide_eq_false (by omega)
          clear ha hb h
          go_wp2_with fail
          go_ret3
          exact .of (by rw [U.nr_good HB.out.1, HB.out.2.1]) (by rw [U.nk_good HB.out.1, HB.out.2.2]; rfl) (U.nb_good HB.out.1) ((Below.refl _ _).alloc (Nat.le_refl _) _)
        · have e1 : decide ((P : Int) < 2048) = false := decide_eq_false (by omega)
          have e2 : decide ((1114111 : Int) < (P : Int)) = false := decide_eq_false (by omega)
          have e3 : decide ((55296 : Int) ≤ (P : Int)) = true := decide_eq_true (by omega)
          have e4 : decide ((P : Int) < 57344) = false := decide_eq_false (by omega)
          clear ha hb h
          go_wp2_with fail
          go_ret3
          exact .of (by rw [U.nr_good HB.out.1, HB.out.2.1]) (by rw [U.nk_good HB.out.1, HB.out.2.2]; rfl) (U.nb_good HB.out.1) ((Below.refl _ _).alloc (Nat.le_refl _) _)
end Go.Proofs.YtoolkaahjmnjeaaGreatDoor
