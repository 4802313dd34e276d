/- The program's May, its parts: fields. Conditions: strings of at most 10^12 bytes; utf.Valid's contract. -/
import Derived.Test.YtbkciiogkgndiaaGreatDoorMB31
import Derived.Test.YtbkciiogkgndiaaGreatDoorMB22
import Derived.Test.YtbkciiogkgndiaaGreatDoorMB28
namespace Go.Proofs.YtbkciiogkgndiaaGreatDoor
open Go Go.RowKit Go.Shelf Go.Lib
theorem hint_make (t k e : TypeId) (n : Int) (w : World) (ht : Tryz.prog.underlying t = some (.map k e)) : (Instr.makeMap t (some (.int .i64 n))).run Tryz.prog w = .ok (.map (some w.heap.size)) (w.alloc (.map #[] 0)) := by
  simp [Instr.makeMap, run_underlying ht, asInt, asIntOf, Result.andThen]
theorem zero_unit (w : World) : (zeroValue 242).run Tryz.prog w = .ok (.agg #[]) w := by kernel_rfl
theorem ba_beq (a b : ByteArray) : (a == b) = decide (a = b) := by
  cases a with
  | mk x =>
    cases b with
    | mk y =>
      show (x == y) = _
      by_cases h : x = y
      · subst h; simp
      · rw [beq_false_of_ne h, decide_eq_false (fun e => h (ByteArray.mk.inj e))]
/-- the map's keys are these names -/
def SetIs (D : DataW Nat) (l : List ByteArray) : Prop := Maps.IsMap D ∧ ∀ n : ByteArray, Maps.has D (kl n) = l.contains n
theorem SetIs.nil : SetIs (.map []) [] := ⟨⟨_, rfl⟩, fun _ => rfl⟩
theorem SetIs.cons {D : DataW Nat} {l : List ByteArray} (h : SetIs D l) (n : ByteArray) (z : DataW Nat) (hD : Maps.IsMap (D.put (kl n) z)) : SetIs (D.put (kl n) z) (n :: l) := by
  refine ⟨hD, fun m => ?_⟩
  rw [List.contains_cons]
  by_cases e : m = n
  · subst e
    rw [Maps.has_put_same h.1 (show WideAt.IsKeyLit (kl m) from trivial), ba_beq, decide_eq_true rfl, Bool.true_or]
  · rw [Maps.has_put_other (fun e2 => e (kl_inj e2)), h.2 m]
    rw [ba_beq, decide_eq_false e, Bool.false_or]
theorem mayT_fld {nm : ByteArray} {k : Nat} {x : ByteArray} {l f tl : V.T} {seen : List ByteArray} {dep : Nat} : mayT (.cons nm k x l f tl) 1 seen dep = (!(seen.contains nm) && U.valid nm && mayV k x l f dep && mayT tl 1 (nm :: seen) dep) := by
  unfold mayV
  conv => lhs; unfold mayT
  rw [if_pos rfl]

set_option maxHeartbeats 1000000 in
set_option maxRecDepth 100000 in
theorem validFields_any (P : World → Prop) (hP : ∀ W W', P W → Below W.heap.size W W' → P W') (hU : ∀ (s : ByteArray) (W : World), s.size ≤ 1000000000000 → P W → Calls Tryz.prog 97 #[.string s] W (Bools (U.valid s) W))
    (N : Nat) (ih : MayOk P N) (v : Value) (t : V.T) (A : Nat → Prop) (d : Nat) (w : World) (ht : t.size ≤ N) (hs : Sm t) (hv : HS w A 1 v t) (hd : d ≤ 64) (hPw : P w) :
    Calls Tryz.prog 172 #[v, .int .i64 d] w (Bools (!(decide (d = 64)) && mayT t 1 [] (d + 1)) w) := by
  obtain ⟨p, c, rfl, b0, b1, b2⟩ := hv.len
  by_cases h64 : d = 64
  · have td : ((d : Int) == 64) = true := by simp; omega
    rw [decide_eq_true h64]
    clear h64 hd
    go_enter Tryz.func172, Tryz.ntmps172
    go_wp2_with fail
    go_ret
    exact ⟨rfl, Below.refl _ _⟩
  · have td : ((d : Int) == 64) = false := by simp; omega
    rw [decide_eq_false h64]
    generalize hn : t.len = n at *
    have HN := Lib.hid hn
    have HA := Lib.hid hv
    have hd2 : d + 1 ≤ 64 := by omega
    have HH := Lib.hid (And.intro ht (And.intro hs hd2))
    have HP := Lib.hid (And.intro hP (And.intro hPw hU))
    have hmm := fun W => hint_make 241 9 242 n W (by kernel_rfl)
    have HM0 := Lib.hid (World.ownsMap_made (H := Nat) w Tryz.prog 9 (unitElem (H := Nat)))
    have HB0 := Lib.hid ((Below.refl w.heap.size w).alloc (Nat.le_refl _) (.map #[] 0))
    clear hn hv ht hs h64 hd hP hPw hU
    go_enter Tryz.func172, Tryz.ntmps172
    go_wp2_with fail
    go_loopw [17] (fun q wr => ∃ (i : Nat) (seen : List ByteArray) (D : DataW Nat), q = .int .i64 i ∧ i ≤ n ∧ Hid (mayT (t.drop i) 1 seen (d + 1) = mayT t 1 [] (d + 1)) ∧ Hid (SetIs D seen) ∧ Hid (wr.ownsMap Tryz.prog 9 (unitElem (H := Nat)) w.heap.size i D) ∧ Hid (Below w.heap.size w wr) ∧ w.heap.size < wr.heap.size) (fun q _ => n - (RowKit.intOf q).toNat)
    case atStart => exact ⟨0, [], .map [], rfl, Nat.zero_le _, Lib.hid (by rw [V.T.drop_zero]), Lib.hid SetIs.nil, HM0, HB0, by simp⟩
    case round =>
      obtain ⟨i, seen, D, rfl, hi, HR, HD, HM, HB, hsz0⟩ := hrel
      by_cases hlt : i < n
      · obtain ⟨nm1, k1, x1, l1, f1, tl1, hd1⟩ := V.T.drop_some (t := t) (i := i) (by rw [HN.out]; exact hlt)
        obtain ⟨b1, o1, v1, u1, rfl, E1⟩ := (HA.out.below HB.out).elem (by rw [HN.out]; exact hlt) hd1
        obtain ⟨p1, c5, rfl, -⟩ := E1.hl.len
        obtain ⟨p2, c6, rfl, -⟩ := E1.hf.len
        have e0 := E1.name rfl
        have e1 := E1.kind
        have e2 := E1.text
        have e3 := E1.list
        have e4 := E1.fields
        simp only [Nat.reduceAdd] at e0 e1 e2 e3 e4
        have hsz := V.T.drop_size hd1
        have hsm := HH.out.2.1.drop hd1
        have IH := fun W (hB : Below wr.heap.size wr W) => ih k1 x1 _ _ l1 f1 A (d + 1) W (by have := HH.out.1; omega) E1.small.1 hsm.2.1 hsm.2.2.1 hsm.2.2.2.1 (E1.hl.below hB) (E1.hf.below hB) HH.out.2.2 (HP.out.1 _ _ (HP.out.1 _ _ HP.out.2.1 HB.out) hB)
        have IU := fun W (hB : Below wr.heap.size wr W) => HP.out.2.2 nm1 W hsm.1 (HP.out.1 _ _ (HP.out.1 _ _ HP.out.2.1 HB.out) hB)
        have hcast : ((d + 1 : Nat) : Int) = (d : Int) + 1 := by omega
        simp only [hcast] at IH
        clear hcast
        have hstep : mayT (t.drop i) 1 seen (d + 1) = (!(seen.contains nm1) && U.valid nm1 && mayV k1 x1 l1 f1 (d + 1) && mayT (t.drop (i + 1)) 1 (nm1 :: seen) (d + 1)) := by
          rw [hd1, V.T.drop_step hd1, mayT_fld]
        have hkey : keyOf Tryz.prog 9 (.string nm1) = some (kl nm1) := WideMaps.keyOf_string_mk (by kernel_rfl) (by have := hsm.1; unfold maxLen; omega)
        have HS := Lib.hid hstep
        have HL := Lib.hid hlt
        have hhas := HD.out.2 nm1
        clear hstep hsz hsm E1 hd1
        have hBa := Lib.hid (((Below.refl wr.heap.size wr).alloc (Nat.le_refl _) (.cells #[.string nm1, .int .u8 k1, .string x1, .slice p1 l1.len c5, .slice p2 f1.len c6] 100)).alloc (by simp) (.cells #[] 242))
        have HBx := Lib.hid (HB.out.trans (hBa.out.mono HB.out.size))
        have HMx := Lib.hid ((HM.out.alloc (.cells #[.string nm1, .int .u8 k1, .string x1, .slice p1 l1.len c5, .slice p2 f1.len c6] 100)).alloc (.cells #[] 242))
        cases hc : seen.contains nm1
        · rw [hc] at hhas HS
          cases hvn : U.valid nm1
          · have hno : mayT t 1 [] (d + 1) = false := by rw [← HR.out, HS.out, hvn]; rfl
            rw [hvn] at IU
            have HNo := Lib.hid hno
            clear hno hvn
            go_wp2_with (at_lookup; refine wpList_lookup_own_unit _ rfl _ _ 241 rfl 9 242 law_string (by kernel_rfl) (zero_unit _) w.heap.size i D rfl (HM.out.alloc _) _ _ rfl hkey ?_; rw [hhas])
            (with_reducible refine (IU _ hBa.out).mono ?_)
            rintro e w1 ⟨rfl, hB1⟩
            have HB2 := Lib.hid (HBx.out.trans (hB1.mono HBx.out.size))
            clear hB1 IH IU e0 e1 e2 e3 e4
            go_wp2_with fail
            go_ret
            refine ⟨?_, HB2.out⟩
            rw [HNo.out]
            rfl
          · rw [hvn] at IU HS
            go_wp2_with (at_lookup; refine wpList_lookup_own_unit _ rfl _ _ 241 rfl 9 242 law_string (by kernel_rfl) (zero_unit _) w.heap.size i D rfl (HM.out.alloc _) _ _ rfl hkey ?_; rw [hhas])
            (with_reducible refine (IU _ hBa.out).mono ?_)
            rintro e w1 ⟨rfl, hB1⟩
            have HB2 := Lib.hid (HBx.out.trans (hB1.mono HBx.out.size))
            have hBb := Lib.hid (hBa.out.trans (hB1.mono hBa.out.size))
            have HM2 := Lib.hid (HMx.out.kept (grow_below hB1 none) (by simp))
            have hq : w1.heap[wr.heap.size]? = some (.cells #[.string nm1, .int .u8 k1, .string x1, .slice p1 l1.len c5, .slice p2 f1.len c6] 100) := (hB1.block _ (by simp; try omega)).trans ((Below.heap_alloc (wr.alloc (.cells #[.string nm1, .int .u8 k1, .string x1, .slice p1 l1.len c5, .slice p2 f1.len c6] 100)) (.cells #[] 242) _ (by simp)).trans (heap_alloc_new _ _))
            have q0 : w1.cell? ⟨wr.heap.size, 0, none⟩ = some (.string nm1) := by simp [World.cell?, hq]
            have q1 : w1.cell? ⟨wr.heap.size, 1, none⟩ = some (.int .u8 k1) := by simp [World.cell?, hq]
            have q2 : w1.cell? ⟨wr.heap.size, 2, none⟩ = some (.string x1) := by simp [World.cell?, hq]
            have q3 : w1.cell? ⟨wr.heap.size, 3, none⟩ = some (.slice p1 l1.len c5) := by simp [World.cell?, hq]
            have q4 : w1.cell? ⟨wr.heap.size, 4, none⟩ = some (.slice p2 f1.len c6) := by simp [World.cell?, hq]
            have hgt := Lib.hid (Nat.le_trans (show wr.heap.size + 1 ≤ _ by simp) hB1.size)
            clear hB1 IU hq
            cases hv : mayV k1 x1 l1 f1 (d + 1)
            · have hno : mayT t 1 [] (d + 1) = false := by rw [← HR.out, HS.out, hv]; rfl
              rw [hv] at IH
              have HNo := Lib.hid hno
              clear hno hv
              go_wp2_with fail
              (with_reducible refine (IH _ hBb.out).mono ?_)
              rintro e w2 ⟨rfl, hB3⟩
              have HB3 := Lib.hid (HB2.out.trans (hB3.mono HB2.out.size))
              clear hB3 IH e0 e1 e2 e3 e4
              go_wp2_with fail
              go_ret
              refine ⟨?_, HB3.out⟩
              rw [HNo.out]
              rfl
            · have hyes : mayT (t.drop (i + 1)) 1 (nm1 :: seen) (d + 1) = mayT t 1 [] (d + 1) := by rw [← HR.out, HS.out, hv]; rfl
              rw [hv] at IH
              have HY := Lib.hid hyes
              clear hyes hv
              go_wp2_with fail
              (with_reducible refine (IH _ hBb.out).mono ?_)
              rintro e w2 ⟨rfl, hB3⟩
              have HB3 := Lib.hid (HB2.out.trans (hB3.mono HB2.out.size))
              have HM3 := Lib.hid (HM2.out.kept (grow_below hB3 none) (by simp))
              have q5 : w2.cell? ⟨wr.heap.size, 0, none⟩ = some (.string nm1) := (hB3.cell (by exact hgt.out)).trans q0
              have hs2 := Lib.hid (Nat.le_trans hsz0 (Nat.le_trans (Nat.le_of_succ_le hgt.out) hB3.size))
              clear hB3 IH e0 e1 e2 e3 e4 q0 q1 q2 q3 q4
              go_wp2_with (at_mapUpdate; refine wpList_mapUpdate_own _ rfl _ _ _ 241 rfl 9 242 law_string (by kernel_rfl) (unitElem (H := Nat)) w.heap.size i D rfl HM3.out (by unfold maxLen; omega) _ _ _ rfl rfl hkey _ [] unitElem_mk ?_; intro w5 hown5 hgrow5)
              go_roundw
              case rel => exact ⟨i + 1, nm1 :: seen, _, by go_num, HL.out, HY, Lib.hid (HD.out.cons nm1 _ (by obtain ⟨es, e⟩ := HD.out.1; rw [e]; exact ⟨_, rfl⟩)), Lib.hid hown5, Lib.hid (HB3.out.grown hgrow5 (Nat.le_of_lt hs2.out) (fun j hj => by cases hj; exact Nat.le_refl _)), Nat.lt_of_lt_of_le hs2.out hgrow5.size⟩
              case measure => have := HL.out; simp [RowKit.intOf]; omega
        · have hno : mayT t 1 [] (d + 1) = false := by rw [← HR.out, HS.out, hc]; rfl
          rw [hc] at hhas
          have HNo := Lib.hid hno
          clear hno IH IU
          go_wp2_with (at_lookup; refine wpList_lookup_own_unit _ rfl _ _ 241 rfl 9 242 law_string (by kernel_rfl) (zero_unit _) w.heap.size i D rfl (HM.out.alloc _) _ _ rfl hkey ?_; rw [hhas])
          go_ret
          refine ⟨?_, HBx.out⟩
          rw [HNo.out]
          rfl
      · obtain rfl : i = n := by omega
        have hyes : mayT t 1 [] (d + 1) = true := by rw [← HR.out, ← HN.out, V.T.drop_len]; rfl
        have HY := Lib.hid hyes
        clear hyes
        go_wp2_with fail
        go_ret
        refine ⟨?_, HB.out⟩
        rw [HY.out]
        rfl
end Go.Proofs.YtbkciiogkgndiaaGreatDoor

namespace Go.Proofs.YtbkciiogkgndiaaGreatDoor
open Go

def LastD (s : ByteArray) (q : Nat) : Prop := ∃ r, q = r + 1 ∧ J.dgt (J.pk s r) = true
def LastN (s : ByteArray) (q : Nat) : Prop := ∃ r, q = r + 1 ∧ J.ws (J.pk s r) = false
theorem dg_last {s : ByteArray} : ∀ (n p : Nat), J.dg s p = p + n → 0 < n → LastD s (J.dg s p)
  | 0, _, _, h => by omega
  | n + 1, p, h, _ => by
    cases hw : J.dgt (J.pk s p)
    · rw [dg_no hw] at h; omega
    · by_cases hn : n = 0
      · exact ⟨p, by omega, hw⟩
      · rw [dg_go hw] at h ⊢
        exact dg_last n (p + 1) (by omega) (by omega)
theorem ds_last {s : ByteArray} {p : Nat} (hp : p ≤ s.size) (h : (J.ds s p 0).2 = 0) : LastD s (J.ds s p 0).1 := by
  unfold J.ds at h ⊢
  rw [if_pos rfl] at h ⊢
  simp only at h ⊢
  split at h
  · cases h
  · have := (J.dg_le (s := s) hp).1
    exact dg_last (J.dg s p - p) p (by omega) (by omega)
theorem n2_last {s : ByteArray} {p : Nat} (hp : p ≤ s.size) (h : (J.n2 s p 0).2 = 0) : LastD s (J.n2 s p 0).1 := by
  unfold J.n2 at h ⊢
  split
  · rename_i hb
    rw [is_pk (by decide)] at hb
    exact ⟨p, rfl, by rw [of_decide_eq_true hb]; decide⟩
  · rename_i hb
    rw [if_neg hb] at h
    exact ds_last hp h
theorem n3_last {s : ByteArray} {x : Nat × Nat} (hx : x.1 ≤ s.size) (h0 : x.2 = 0) (hl : LastD s x.1) (h : (J.n3 s x).2 = 0) : LastD s (J.n3 s x).1 := by
  unfold J.n3 at h ⊢
  rw [h0] at h ⊢
  split
  · rename_i hb
    rw [if_pos hb] at h
    exact ds_last (is_lt hb) h
  · exact hl
theorem n4_last {s : ByteArray} {x : Nat × Nat} (hx : x.1 ≤ s.size) (h0 : x.2 = 0) (hl : LastD s x.1) (h : (J.n4 s x).2 = 0) : LastD s (J.n4 s x).1 := by
  unfold J.n4 at h ⊢
  rw [h0] at h ⊢
  split
  · rename_i hb
    rw [if_pos hb] at h
    exact ds_last (J.sg_le 0 (J.is2_lt hb)).2 h
  · exact hl
theorem n3_err {s : ByteArray} {x : Nat × Nat} (h : (J.n3 s x).2 = 0) : x.2 = 0 := by
  by_cases h0 : x.2 = 0
  · exact h0
  · unfold J.n3 at h
    rw [if_neg (by rw [J.is_wrong x.1 46 h0]; decide)] at h
    exact h
theorem n4_err {s : ByteArray} {x : Nat × Nat} (h : (J.n4 s x).2 = 0) : x.2 = 0 := by
  by_cases h0 : x.2 = 0
  · exact h0
  · unfold J.n4 at h
    rw [if_neg (by rw [J.is_wrong x.1 101 h0, J.is_wrong x.1 69 h0]; decide)] at h
    exact h
theorem nm_last {s : ByteArray} {p : Nat} (hp : p ≤ s.size) (h : (J.nm s p 0).2 = 0) : LastD s (J.nm s p 0).1 := by
  unfold J.nm at h ⊢
  have b1 := J.bp_le (s := s) 0 45 hp
  have b2 := J.n2_le (s := s) 0 b1.2
  have b3 := J.n3_le (s := s) b2.2
  have e3 := n4_err h
  have e2 := n3_err e3
  exact n4_last b3.2 e3 (n3_last b2.2 e2 (n2_last b1.2 e2) e3) h
theorem LastD.n {s : ByteArray} {q : Nat} (h : LastD s q) : LastN s q := by
  obtain ⟨r, e, h⟩ := h
  refine ⟨r, e, ?_⟩
  have h1 := of_decide_eq_true h
  exact decide_eq_false (by omega)
theorem al_last {s w : ByteArray} {p k : Nat} (hw : J.ws (w.get! k).toNat = false) (hc : 0 < (w.get! k).toNat) (h : (J.al s w (k + 1) (p, 0)).2 = 0) : LastN s (J.al s w (k + 1) (p, 0)).1 := by
  unfold J.al at h ⊢
  unfold J.tk at h ⊢
  split
  · rename_i h0
    rw [if_pos h0] at h
    split
    · rename_i hb
      rw [is_pk hc] at hb
      exact ⟨_, rfl, by rw [of_decide_eq_true hb]; exact hw⟩
    · rename_i hb
      rw [if_neg hb] at h
      cases h
  · rename_i h0
    rw [if_neg h0] at h
    exact absurd h h0
theorem is_last {s : ByteArray} {q c : Nat} (hc : 0 < c) (hw : J.ws c = false) (h : J.is s q 0 c = true) : LastN s (q + 1) := by
  rw [is_pk hc] at h
  exact ⟨q, rfl, by rw [of_decide_eq_true h]; exact hw⟩
theorem ptx_last {s : ByteArray} : ∀ (f q : Nat) (L : List Nat), (ptx s f q L).2.2 = 0 → LastN s (ptx s f q L).2.1
  | 0, _, _, h => by cases h
  | f + 1, q, L, h => by
    unfold ptx at h ⊢
    split
    · rename_i hb; exact is_last (by decide) (by decide) hb
    · rename_i hb
      rw [if_neg hb] at h
      split
      · rename_i h0
        rw [if_pos h0] at h
        exact ptx_last f _ _ h
      · rename_i h0
        rw [if_neg h0] at h
        exact absurd h h0
theorem ptw_last {s : ByteArray} {p : Nat} (h : (ptw s p).2.2 = 0) : LastN s (ptw s p).2.1 := by
  unfold ptw at h ⊢
  split
  · rename_i hb
    rw [if_pos hb] at h
    exact ptx_last _ _ _ h
  · rename_i hb
    rw [if_neg hb] at h
    cases h
theorem itG_last {A : Type} {s : ByteArray} {c : Nat} {one : Nat → A → A × Nat × Nat} (hc : 0 < c) (hw : J.ws c = false) : ∀ (f q : Nat) (a : A), (itG s c one f q a).2.2 = 0 → LastN s (itG s c one f q a).2.1
  | 0, _, _, h => by cases h
  | f + 1, q, a, h => by
    unfold itG at h ⊢
    split
    · rename_i hb
      rw [if_pos hb] at h
      split
      · rename_i h0
        rw [if_pos h0] at h
        exact itG_last hc hw f _ _ h
      · rename_i h0
        rw [if_neg h0] at h
        exact absurd h h0
    · rename_i hb
      rw [if_neg hb] at h
      split
      · rename_i hd; exact is_last hc hw hd
      · rename_i hd
        rw [if_neg hd] at h
        cases h
theorem its_last {A : Type} {s : ByteArray} {c d p : Nat} {one : Nat → A → A × Nat × Nat} {a : A} (hc : 0 < c) (hw : J.ws c = false) (h : (its s c one d p a).2.2 = 0) : LastN s (its s c one d p a).2.1 := by
  unfold its at h ⊢
  split
  · rename_i hd
    rw [if_pos hd] at h
    cases h
  · rename_i hd
    rw [if_neg hd] at h
    unfold itB at h ⊢
    split
    · rename_i hb; exact is_last hc hw hb
    · rename_i hb
      rw [if_neg hb] at h
      split
      · rename_i h0
        rw [if_pos h0] at h
        exact itG_last hc hw _ _ _ h
      · rename_i h0
        rw [if_neg h0] at h
        exact absurd h h0
theorem br_last {s : ByteArray} {d p : Nat} {v : Nat → VR} (hp : p ≤ s.size) (h : (br s d v p).2.2 = 0) : LastN s (br s d v p).2.1 := by
  unfold br at h ⊢
  split
  · rename_i g; rw [if_pos g] at h; exact al_last (w := wn) (k := 3) (by decide) (by decide) h
  · rename_i g1
    rw [if_neg g1] at h
    split
    · rename_i g; rw [if_pos g] at h; exact al_last (w := wf) (k := 4) (by decide) (by decide) h
    · rename_i g2
      rw [if_neg g2] at h
      split
      · rename_i g; rw [if_pos g] at h; exact al_last (w := wt) (k := 3) (by decide) (by decide) h
      · rename_i g3
        rw [if_neg g3] at h
        split
        · rename_i g; rw [if_pos g] at h; exact ptw_last h
        · rename_i g4
          rw [if_neg g4] at h
          split
          · rename_i g; rw [if_pos g] at h; exact its_last (by decide) (by decide) h
          · rename_i g5
            rw [if_neg g5] at h
            split
            · rename_i g; rw [if_pos g] at h; exact its_last (by decide) (by decide) h
            · rename_i g6
              rw [if_neg g6] at h
              exact (nm_last hp h).n
/-! ### fewer brackets may be opened -/
def Dl {A : Type} (x y : A × Nat × Nat) : Prop := x.2.2 = 0 → y = x ∨ y.2.2 = 31
theorem itG_dl {A : Type} {s : ByteArray} {c : Nat} {one one' : Nat → A → A × Nat × Nat} (ho : ∀ q a, Dl (one q a) (one' q a)) : ∀ (f q : Nat) (a : A), Dl (itG s c one f q a) (itG s c one' f q a)
  | 0, _, _ => fun _ => .inl rfl
  | f + 1, q, a => by
    intro h
    unfold itG at h ⊢
    by_cases hb : J.is s q 0 44 = true
    · rw [if_pos hb] at h
      rw [if_pos hb, if_pos hb]
      by_cases h0 : (one (q + 1) a).2.2 = 0
      · rw [if_pos h0] at h
        rw [if_pos h0]
        rcases ho (q + 1) a h0 with e | e
        · rw [e, if_pos h0]
          exact itG_dl ho f _ _ h
        · rw [if_neg (by omega)]; exact .inr e
      · rw [if_neg h0] at h; exact absurd h h0
    · rw [if_neg hb, if_neg hb]; exact .inl rfl
theorem its_dl {A : Type} {s : ByteArray} {c d d' p : Nat} {one one' : Nat → A → A × Nat × Nat} {a : A} (ho : d' = 64 ∨ ∀ q a, Dl (one q a) (one' q a)) : Dl (its s c one d p a) (its s c one' d' p a) := by
  intro h
  unfold its at h ⊢
  by_cases hd' : d' = 64
  · rw [if_pos hd']; exact .inr rfl
  · rw [if_neg hd']
    by_cases hd : d = 64
    · rw [if_pos hd] at h; cases h
    · rw [if_neg hd] at h ⊢
      have ho := ho.resolve_left hd'
      unfold itB at h ⊢
      by_cases hb : J.is s (J.bl s (p + 1) 0) 0 c = true
      · rw [if_pos hb, if_pos hb]; exact .inl rfl
      · rw [if_neg hb] at h
        rw [if_neg hb, if_neg hb]
        by_cases h0 : (one (J.bl s (p + 1) 0) a).2.2 = 0
        · rw [if_pos h0] at h
          rw [if_pos h0]
          rcases ho _ a h0 with e | e
          · rw [e, if_pos h0]
            exact itG_dl ho _ _ _ h
          · rw [if_neg (by omega)]; exact .inr e
        · rw [if_neg h0] at h; exact absurd h h0
theorem lo_dl {v v' : Nat → VR} (hv : ∀ q, Dl (v q) (v' q)) (q : Nat) (a : V.T) : Dl (lo v q a) (lo v' q a) := by
  intro h
  unfold lo at h ⊢
  by_cases h0 : (v q).2.2 = 0
  · rcases hv q h0 with e | e
    · rw [e]; exact .inl rfl
    · rw [if_pos h0, if_neg (by omega)]; exact .inr e
  · rw [if_neg h0] at h; exact absurd h h0
theorem fo_dl {s : ByteArray} {v v' : Nat → VR} (hv : ∀ q, Dl (v q) (v' q)) (q : Nat) (a : V.T) : Dl (fo s v q a) (fo s v' q a) := by
  intro h
  unfold fo at h ⊢
  by_cases h1 : (nmc s q).2.2 = 0
  · rw [if_pos h1] at h
    rw [if_pos h1, if_pos h1]
    by_cases h0 : (v (nmc s q).2.1).2.2 = 0
    · rcases hv _ h0 with e | e
      · rw [e]; exact .inl rfl
      · rw [if_pos h0, if_neg (by omega)]; exact .inr e
    · rw [if_neg h0] at h; exact absurd h h0
  · rw [if_neg h1, if_neg h1]; exact .inl rfl
theorem br_dl {s : ByteArray} {d d' p : Nat} {v v' : Nat → VR} (hv : d' = 64 ∨ ∀ q, Dl (v q) (v' q)) : Dl (br s d v p) (br s d' v' p) := by
  intro h
  unfold br at h ⊢
  by_cases g1 : J.pk s p = 110
  · rw [if_pos g1, if_pos g1]; exact .inl rfl
  · rw [if_neg g1] at h
    rw [if_neg g1, if_neg g1]
    by_cases g2 : J.pk s p = 102
    · rw [if_pos g2, if_pos g2]; exact .inl rfl
    · rw [if_neg g2] at h
      rw [if_neg g2, if_neg g2]
      by_cases g3 : J.pk s p = 116
      · rw [if_pos g3, if_pos g3]; exact .inl rfl
      · rw [if_neg g3] at h
        rw [if_neg g3, if_neg g3]
        by_cases g4 : J.pk s p = 34
        · rw [if_pos g4, if_pos g4]; exact .inl rfl
        · rw [if_neg g4] at h
          rw [if_neg g4, if_neg g4]
          by_cases g5 : J.pk s p = 91
          · rw [if_pos g5] at h
            rw [if_pos g5, if_pos g5]
            rcases its_dl (one' := lo v') (d' := d') (hv.imp_right fun hv => lo_dl hv) h with e | e
            · rw [e]; exact .inl rfl
            · exact .inr e
          · rw [if_neg g5] at h
            rw [if_neg g5, if_neg g5]
            by_cases g6 : J.pk s p = 123
            · rw [if_pos g6] at h
              rw [if_pos g6, if_pos g6]
              rcases its_dl (one' := fo s v') (d' := d') (hv.imp_right fun hv => fo_dl hv) h with e | e
              · rw [e]; exact .inl rfl
              · exact .inr e
            · rw [if_neg g6, if_neg g6]; exact .inl rfl
theorem ar_dl {s : ByteArray} {x y : VR} (h : Dl x y) : Dl (ar s x) (ar s y) := by
  intro h2
  by_cases h0 : x.2.2 = 0
  · rcases h h0 with e | e
    · rw [e]; exact .inl rfl
    · right; unfold ar; rw [if_neg (by omega)]; exact e
  · unfold ar at h2; rw [if_neg h0] at h2; exact absurd h2 h0
theorem vl_dl (s : ByteArray) : ∀ (n : Nat), n + 1 ≤ 64 → ∀ p, Dl (vl s (n + 1) p) (vl s n p)
  | 0, hn, p => by
    rw [vl_is s (0 + 1) p hn, vl_is s 0 p (by omega)]
    exact ar_dl (br_dl (.inl rfl))
  | n + 1, hn, p => by
    rw [vl_is s (n + 1 + 1) p hn, vl_is s (n + 1) p (by omega)]
    exact ar_dl (br_dl (.inr fun q => vl_dl s n (by omega) q))
end Go.Proofs.YtbkciiogkgndiaaGreatDoor
