/- The program's reader of JSON: runs, digits, a number. Conditions: a string of at most 10^12 bytes. -/
import Derived.Test.YtoolkaahjmnjeaaGreatDoorMW07
import Derived.Deep.DeepCutAuto
namespace Go.Proofs.YtoolkaahjmnjeaaGreatDoor
open Go Go.RowKit Go.Lib

/-- where the reader stands, off the world -/
def stand (B : Nat) (W : World) : Nat := (RowKit.intOf ((W.cell? ⟨B, 1, none⟩).getD undef)).toNat
theorem stand_eq {s : ByteArray} {p d B : Nat} {W : World} (h : Rd s p d B W) : stand B W = p := by unfold stand; rw [h.c1]; simp [RowKit.intOf]
theorem skip_any (s x : ByteArray) (p d B : Nat) (w : World) (hs : s.size ≤ 1000000000000) (hp : p ≤ s.size) (h : Rd s p d B w) :
    Calls Tryz.prog 195 #[.pointer (some ⟨B, 0, none⟩), .string x] w (Back (.bool (J.sk s x p)) s (if J.sk s x p = true then p + 1 else p) d B w) := by
  cases hb : J.sk s x p
  · exact skip_no s x p d B w hs hp h hb
  · exact skip_yes s x p d B w hs hp h hb

set_option maxRecDepth 100000 in
set_option maxHeartbeats 400000 in
theorem skipAll_any (s x : ByteArray) (p d B : Nat) (w : World) (hs : s.size ≤ 1000000000000) (hp : p ≤ s.size) (h0 : J.am x 0 = false) (h : Rd s p d B w) :
    Calls Tryz.prog 184 #[.pointer (some ⟨B, 0, none⟩), .string x] w (Back (.tuple #[]) s (J.sa s x p) d B w) := by
  go_enter Tryz.func184, Tryz.ntmps184
  go_wp2_with fail
  go_loopw [] (fun wr => ∃ q : Nat, q ≤ s.size ∧ Hid (Rd s q d B wr ∧ w.grownBy wr (some B) ∧ J.sa s x q = J.sa s x p)) (fun wr => s.size - stand B wr)
  case atStart => exact ⟨p, hp, Lib.hid ⟨h, grow_drewN w 0 _, rfl⟩⟩
  case round =>
    obtain ⟨q, hq, HW⟩ := hrel
    cases hb : J.sk s x q
    · have hk := skip_no s x q d B wr hs hq HW.out.1 hb
      have HE := Lib.hid (HW.out.2.2.symm.trans (J.sa_stop hb))
      clear hb
      go_wp2_with fail
      refine hk.mono ?_
      rintro en w1 ⟨rfl, h1, g1⟩
      have HF := Lib.hid (And.intro h1 (grow_trans HW.out.2.1 g1))
      clear h1 g1
      go_wp2_with fail
      go_end0
      rw [HE.out]
      exact ⟨rfl, HF.out.1, HF.out.2⟩
    · have hk := skip_yes s x q d B wr hs hq HW.out.1 hb
      have HE := Lib.hid ((J.sa_step h0 hb).symm.trans HW.out.2.2)
      have hlt := J.sk_lt h0 hb
      clear hb
      go_wp2_with fail
      refine hk.mono ?_
      rintro en w1 ⟨rfl, h1, g1⟩
      have HF := Lib.hid (And.intro h1 (grow_trans HW.out.2.1 g1))
      clear h1 g1
      go_wp2_with fail
      refine ⟨⟨q + 1, hlt, Lib.hid ⟨HF.out.1, HF.out.2, HE.out⟩⟩, ?_⟩
      rw [stand_eq HF.out.1, stand_eq HW.out.1]; omega

theorem digits0 : J.am J.dgs 0 = false := by rw [J.am_dgs]; rfl
theorem blanks0 : J.am J.blk 0 = false := by rw [J.am_blk]; rfl
theorem dg_take {s : ByteArray} {p : Nat} (h : J.sk s J.dgs p = true) : J.sa s J.dgs (p + 1) = J.dg s p ∧ ¬ J.dg s p = p := by
  have h1 := J.sa_step digits0 h
  have h2 := J.sa_dg s p
  have h3 := (J.sa_le digits0 (J.sk_lt digits0 h) : p + 1 ≤ J.sa s J.dgs (p + 1) ∧ _)
  exact ⟨by rw [← h1, h2], by rw [← h2, h1]; omega⟩

set_option maxRecDepth 100000 in
set_option maxHeartbeats 400000 in
theorem some_yes (s : ByteArray) (p d B : Nat) (w : World) (hs : s.size ≤ 1000000000000) (hp : p ≤ s.size) (h : Rd s p d B w) (hb : J.sk s J.dgs p = true) :
    Calls Tryz.prog 217 #[.pointer (some ⟨B, 0, none⟩)] w (Back (.tuple #[]) s (J.dg s p) d B w) := by
  have ht := take_yes s J.dgs p d B w hs hp h hb
  have hk := fun W hW => skipAll_any s J.dgs (p + 1) d B W hs (J.sk_lt digits0 hb) digits0 hW
  rw [(dg_take hb).1] at hk
  clear hb
  generalize J.pk s p = c at *
  go_enter Tryz.func217, Tryz.ntmps217
  go_wp2_with fail
  refine ht.mono ?_
  rintro en w1 ⟨rfl, h1, g1⟩
  go_wp2_with fail
  refine (hk _ h1).mono ?_
  rintro en w2 ⟨rfl, h2, g2⟩
  go_wp2_with fail
  go_end0
  exact ⟨rfl, h2, grow_trans g1 g2⟩

set_option maxRecDepth 100000 in
set_option maxHeartbeats 400000 in
theorem some_no (s : ByteArray) (p d B : Nat) (w : World) (hs : s.size ≤ 1000000000000) (hp : p ≤ s.size) (h : Rd s p d B w) (hb : J.sk s J.dgs p = false) :
    Calls Tryz.prog 217 #[.pointer (some ⟨B, 0, none⟩)] w (Died 30 s p B w) := by
  have ht := take_no s J.dgs p d B w hs hp h hb
  go_enter Tryz.func217, Tryz.ntmps217
  go_wp2_with fail
  refine ht.mono ?_
  rintro en w1 ⟨rfl, h1, g1⟩
  exact ⟨rfl, rfl, h1, g1⟩
end Go.Proofs.YtoolkaahjmnjeaaGreatDoor

namespace Go.Proofs.YtoolkaahjmnjeaaGreatDoor
open Go Go.RowKit Go.Lib

/-- what comes of reading: (where the reader stands, 0) or (the wrong byte, the error) -/
def Out (v : Value) (s : ByteArray) (x : Nat × Nat) (d B : Nat) (w : World) (en : Ending) (w' : World) : Prop := if x.2 = 0 then Back v s x.1 d B w en w' else Died x.2 s x.1 B w en w'
theorem out_ok {v : Value} {s : ByteArray} {p d B : Nat} {w : World} {en : Ending} {w' : World} (h : Back v s p d B w en w') : Out v s (p, 0) d B w en w' := by unfold Out; rw [if_pos rfl]; exact h
theorem out_no {v : Value} {s : ByteArray} {p d B : Nat} {w : World} {en : Ending} {w' : World} (h : Died 30 s p B w en w') : Out v s (p, 30) d B w en w' := by unfold Out; rw [if_neg (show ¬ 30 = 0 by decide)]; exact h

theorem am45 (c : Nat) : J.am ⟨#[45]⟩ c = decide (c = 45) := J.am_one 45 c (by decide)
theorem am46 (c : Nat) : J.am ⟨#[46]⟩ c = decide (c = 46) := J.am_one 46 c (by decide)
theorem am_two (a b c : Nat) (ha : a < 256) (hb : b < 256) : J.am ⟨#[a.toUInt8, b.toUInt8]⟩ c = (decide (c = a) || decide (c = b)) := by
  unfold J.am
  simp only [List.any_cons, List.any_nil, Bool.or_false]
  have ea : a.toUInt8.toNat = a := Nat.mod_eq_of_lt (by omega)
  have eb : b.toUInt8.toNat = b := Nat.mod_eq_of_lt (by omega)
  rw [ea, eb]
  exact congr (congrArg _ (decide_eq_decide.2 eq_comm)) (decide_eq_decide.2 eq_comm)
theorem sk_two {s : ByteArray} {a b : Nat} (p : Nat) (ha : 0 < a) (ha2 : a < 256) (hb : 0 < b) (hb2 : b < 256) : J.sk s ⟨#[a.toUInt8, b.toUInt8]⟩ p = (J.is s p 0 a || J.is s p 0 b) := by
  unfold J.sk J.pk J.is
  rw [am_two a b _ ha2 hb2]
  by_cases h : p < s.size
  · simp [h]
  · simp [h]; omega
/-- the number's last part, from where it may begin -/
theorem nm_at (s : ByteArray) (p : Nat) : J.nm s p 0 = J.n4 s (J.n3 s (J.n2 s (if J.sk s ⟨#[45]⟩ p = true then p + 1 else p) 0)) := by
  unfold J.nm J.bp
  rw [J.sk_is p (by decide) am45]
theorem n_wrong (s : ByteArray) (p : Nat) : J.n4 s (J.n3 s (p, 30)) = (p, 30) := by
  unfold J.n3
  rw [if_neg (by rw [J.is_wrong p 46 (show ¬ 30 = 0 by decide)]; decide)]
  unfold J.n4
  rw [if_neg (by rw [J.is_wrong p 101 (show ¬ 30 = 0 by decide), J.is_wrong p 69 (show ¬ 30 = 0 by decide)]; decide)]
theorem n4_wrong (s : ByteArray) (p : Nat) : J.n4 s (p, 30) = (p, 30) := by
  unfold J.n4
  rw [if_neg (by rw [J.is_wrong p 101 (show ¬ 30 = 0 by decide), J.is_wrong p 69 (show ¬ 30 = 0 by decide)]; decide)]
theorem ds_at (s : ByteArray) (p : Nat) : J.ds s p 0 = if J.sk s J.dgs p = true then (J.dg s p, 0) else (p, 30) := by
  cases h : J.sk s J.dgs p
  · rw [if_neg (by decide)]
    refine J.ds_none ?_
    rw [← J.sa_dg, J.sa_stop h]
  · rw [if_pos rfl]
    exact J.ds_some (dg_take h).2

set_option maxRecDepth 100000 in
set_option maxHeartbeats 1000000 in
theorem number_any (s : ByteArray) (p d B : Nat) (w : World) (hs : s.size ≤ 1000000000000) (hp : p ≤ s.size) (h : Rd s p d B w) :
    Calls Tryz.prog 201 #[.pointer (some ⟨B, 0, none⟩)] w (Out (.string (s.extract p (J.nm s p 0).1)) s (J.nm s p 0) d B w) := by
  have hk0 := skip_any s ⟨#[45]⟩ p d B w hs hp h
  have hp1 : p ≤ (if J.sk s ⟨#[45]⟩ p = true then p + 1 else p) ∧ (if J.sk s ⟨#[45]⟩ p = true then p + 1 else p) ≤ s.size := by
    split
    · rename_i hh; exact ⟨Nat.le_succ _, J.sk_lt (by rw [am45]; rfl) hh⟩
    · exact ⟨Nat.le_refl _, hp⟩
  rw [nm_at]
  generalize J.sk s ⟨#[45]⟩ p = b0 at *
  generalize (if b0 = true then p + 1 else p) = p1 at *
  obtain ⟨hp1, hp2⟩ := hp1
  have HX : Hid (∃ x, J.n4 s (J.n3 s (J.n2 s p1 0)) = x) := Lib.hid ⟨_, rfl⟩
  obtain ⟨x, hx⟩ := HX.out
  rw [hx]
  have HX := Lib.hid hx
  have c1 := h.c1
  clear hx
  go_enter Tryz.func201, Tryz.ntmps201
  go_wp2_with fail
  refine hk0.mono ?_
  rintro en w1 ⟨rfl, h1, g1⟩
  have H1 := Lib.hid (And.intro h1 g1)
  clear h1 g1 c1 hk0
  cases hd : J.sk s J.dgs p1
  · have ht := take_no s J.dgs p1 d B w1 hs hp2 H1.out.1 hd
    have HE : Hid (x = (p1, 30)) := Lib.hid (by
      rw [← HX.out]
      unfold J.n2
      have h48 : J.is s p1 0 48 = false := by
        cases h : J.is s p1 0 48
        · rfl
        · have h2 := J.of_is h
          have : J.sk s J.dgs p1 = true := by rw [J.sk_dgt]; exact decide_eq_true ⟨h2.2.1, decide_eq_true (by omega)⟩
          rw [hd] at this; cases this
      rw [if_neg (by rw [h48]; decide), ds_at, hd, if_neg (by decide)]
      exact n_wrong s p1)
    clear hd
    go_wp2_with fail
    refine ht.mono ?_
    rintro en w2 ⟨rfl, h2, g2⟩
    rw [HE.out]
    exact ⟨rfl, out_no ⟨rfl, h2, grow_trans H1.out.2 g2⟩⟩
  · have ht := take_yes s J.dgs p1 d B w1 hs hp2 H1.out.1 hd
    have hlt := J.sk_lt digits0 hd
    have HD := Lib.hid hd
    have HC : Hid ((J.pk s p1 = 48) = (J.is s p1 0 48 = true)) := Lib.hid (by
      unfold J.pk
      rw [if_pos hlt]
      exact propext ⟨fun e => J.is_yes hlt e, fun e => (J.of_is e).2.2⟩)
    clear hd
    generalize J.pk s p1 = c at *
    go_wp2_with fail
    refine ht.mono ?_
    rintro en w2 ⟨rfl, h2, g2⟩
    have H2 := Lib.hid (And.intro h2 (grow_trans H1.out.2 g2))
    clear h2 g2 ht
    go_upto_if 12 with fail
    go_cut [3] (fun f wx => f = .int .i64 p ∧ ∃ p2 : Nat, p2 ≤ s.size ∧ p ≤ p2 ∧ Hid (Rd s p2 d B wx ∧ w.grownBy wx (some B) ∧ J.n4 s (J.n3 s (p2, 0)) = x))
    case first =>
      by_cases hc : c = 48
      · subst hc
        have HN : Hid (J.n2 s p1 0 = (p1 + 1, 0)) := Lib.hid (by unfold J.n2; rw [if_pos (by rw [← HC.out])])
        go_wp2_with fail
        go_meet
        exact ⟨rfl, p1 + 1, hlt, by omega, Lib.hid ⟨H2.out.1, H2.out.2, by rw [← HN.out]; exact HX.out⟩⟩
      · have t1 : ((c : Int) != 48) = true := by simp; omega
        have HN : Hid (J.n2 s p1 0 = (J.dg s p1, 0)) := Lib.hid (by
          unfold J.n2
          rw [if_neg (by rw [← HC.out]; exact hc), ds_at, HD.out, if_pos rfl])
        have hk := skipAll_any s J.dgs (p1 + 1) d B w2 hs hlt digits0 H2.out.1
        rw [(dg_take HD.out).1] at hk
        clear hc
        go_wp2_with fail
        refine hk.mono ?_
        rintro en w3 ⟨rfl, h3, g3⟩
        have hle := J.dg_le (s := s) (p := p1) hp2
        go_wp2_with fail
        go_meet
        exact ⟨rfl, J.dg s p1, hle.2, by omega, Lib.hid ⟨h3, grow_trans H2.out.2 g3, by rw [← HN.out]; exact HX.out⟩⟩
    case rest =>
    obtain ⟨rfl, p2, hp3, hp4, HY⟩ := hcut
    clear HX H1 H2 HD HC hlt hp1 hp2
    go_wp2_with fail
    have hk := skip_any s ⟨#[46]⟩ p2 d B wc hs hp3 HY.out.1
    have HB : Hid (∃ b, J.sk s ⟨#[46]⟩ p2 = b) := Lib.hid ⟨_, rfl⟩
    obtain ⟨b, hb⟩ := HB.out
    rw [hb] at hk
    have HB := Lib.hid hb
    clear hb
    refine hk.mono ?_
    rintro en w3 ⟨rfl, h3, g3⟩
    have H3 := Lib.hid (And.intro h3 (grow_trans HY.out.2.1 g3))
    clear h3 g3 hk
    go_upto_if 16 with fail
    go_cut [3] (fun f wx => f = .int .i64 p ∧ ∃ p3 : Nat, p3 ≤ s.size ∧ p ≤ p3 ∧ Hid (Rd s p3 d B wx ∧ w.grownBy wx (some B) ∧ J.n4 s (p3, 0) = x))
    case first =>
      cases b
      · have HZ : Hid (J.n4 s (p2, 0) = x) := Lib.hid (by
          rw [← HY.out.2.2]
          unfold J.n3
          rw [if_neg (by rw [← J.sk_is p2 (by decide) am46, HB.out]; decide)])
        go_wp2_with fail
        go_meet
        exact ⟨rfl, p2, hp3, hp4, Lib.hid ⟨H3.out.1, H3.out.2, HZ.out⟩⟩
      · have hlt := J.sk_lt (by rw [am46]; rfl) HB.out
        have HZ : Hid (J.n3 s (p2, 0) = J.ds s (p2 + 1) 0) := Lib.hid (by
          unfold J.n3
          rw [if_pos (by rw [← J.sk_is p2 (by decide) am46, HB.out])])
        cases hd : J.sk s J.dgs (p2 + 1)
        · have ht := some_no s (p2 + 1) d B w3 hs hlt H3.out.1 hd
          have HE : Hid (x = (p2 + 1, 30)) := Lib.hid (by
            rw [← HY.out.2.2, HZ.out, ds_at, hd, if_neg (by decide)]
            exact n4_wrong s (p2 + 1))
          clear hd
          go_wp2_with fail
          refine ht.mono ?_
          rintro en w4 ⟨rfl, h4, g4⟩
          rw [HE.out]
          exact ⟨rfl, out_no ⟨rfl, h4, grow_trans H3.out.2 g4⟩⟩
        · have ht := some_yes s (p2 + 1) d B w3 hs hlt H3.out.1 hd
          have HE : Hid (J.n4 s (J.dg s (p2 + 1), 0) = x) := Lib.hid (by rw [← HY.out.2.2, HZ.out, ds_at, hd, if_pos rfl])
          have hle := J.dg_le (s := s) (p := p2 + 1) hlt
          clear hd
          go_wp2_with fail
          refine ht.mono ?_
          rintro en w4 ⟨rfl, h4, g4⟩
          go_wp2_with fail
          go_meet
          exact ⟨rfl, J.dg s (p2 + 1), hle.2, by omega, Lib.hid ⟨h4, grow_trans H3.out.2 g4, HE.out⟩⟩
    case rest =>
    obtain ⟨rfl, p3, hp5, hp6, HZ⟩ := hcut
    clear HY H3 HB hp3 hp4
    go_wp2_with fail
    have hk := skip_any s ⟨#[101, 69]⟩ p3 d B wc hs hp5 HZ.out.1
    have HB : Hid (∃ b, J.sk s ⟨#[101, 69]⟩ p3 = b) := Lib.hid ⟨_, rfl⟩
    obtain ⟨b, hb⟩ := HB.out
    rw [hb] at hk
    have HB := Lib.hid hb
    clear hb
    refine hk.mono ?_
    rintro en w5 ⟨rfl, h5, g5⟩
    have H5 := Lib.hid (And.intro h5 (grow_trans HZ.out.2.1 g5))
    clear h5 g5 hk
    go_upto_if 20 with fail
    go_cut [3] (fun f wx => f = .int .i64 p ∧ ∃ p4 : Nat, p4 ≤ s.size ∧ p ≤ p4 ∧ Hid (Rd s p4 d B wx ∧ w.grownBy wx (some B) ∧ x = (p4, 0)))
    case first =>
      cases b
      · have HE : Hid (x = (p3, 0)) := Lib.hid (by
          rw [← HZ.out.2.2]
          unfold J.n4
          rw [if_neg (by rw [← sk_two p3 (by decide) (by decide) (by decide) (by decide)]; exact fun e => by cases HB.out.symm.trans e)])
        go_wp2_with fail
        go_meet
        exact ⟨rfl, p3, hp5, hp6, Lib.hid ⟨H5.out.1, H5.out.2, HE.out⟩⟩
      · have hlt := J.sk_lt (x := ⟨#[101, 69]⟩) (by rfl) HB.out
        have hk2 := fun W hW => skip_any s ⟨#[43, 45]⟩ (p3 + 1) d B W hs hlt hW
        have hp7 : p3 ≤ (if J.sk s ⟨#[43, 45]⟩ (p3 + 1) = true then p3 + 1 + 1 else p3 + 1) ∧ (if J.sk s ⟨#[43, 45]⟩ (p3 + 1) = true then p3 + 1 + 1 else p3 + 1) ≤ s.size := by
          split
          · rename_i hh; exact ⟨by omega, J.sk_lt (x := ⟨#[43, 45]⟩) (by rfl) hh⟩
          · exact ⟨Nat.le_succ _, hlt⟩
        have HE0 : Hid (x = J.ds s (if J.sk s ⟨#[43, 45]⟩ (p3 + 1) = true then p3 + 1 + 1 else p3 + 1) 0) := Lib.hid (by
          rw [← HZ.out.2.2]
          unfold J.n4
          rw [if_pos (by rw [← sk_two p3 (by decide) (by decide) (by decide) (by decide)]; exact HB.out)]
          unfold J.sg
          rw [← sk_two (p3 + 1) (by decide) (by decide) (by decide) (by decide)]
          rfl)
        generalize J.sk s ⟨#[43, 45]⟩ (p3 + 1) = b1 at *
        generalize (if b1 = true then p3 + 1 + 1 else p3 + 1) = p5 at *
        obtain ⟨hp7, hp8⟩ := hp7
        go_wp2_with fail
        refine (hk2 _ H5.out.1).mono ?_
        rintro en w6 ⟨rfl, h6, g6⟩
        have H6 := Lib.hid (And.intro h6 (grow_trans H5.out.2 g6))
        clear h6 g6 hk2
        cases hd : J.sk s J.dgs p5
        · have ht := some_no s p5 d B w6 hs hp8 H6.out.1 hd
          have HE : Hid (x = (p5, 30)) := Lib.hid (by rw [HE0.out, ds_at, hd, if_neg (by decide)])
          clear hd
          go_wp2_with fail
          refine ht.mono ?_
          rintro en w7 ⟨rfl, h7, g7⟩
          rw [HE.out]
          exact ⟨rfl, out_no ⟨rfl, h7, grow_trans H6.out.2 g7⟩⟩
        · have ht := some_yes s p5 d B w6 hs hp8 H6.out.1 hd
          have HE : Hid (x = (J.dg s p5, 0)) := Lib.hid (by rw [HE0.out, ds_at, hd, if_pos rfl])
          have hle := J.dg_le (s := s) (p := p5) hp8
          clear hd
          go_wp2_with fail
          refine ht.mono ?_
          rintro en w7 ⟨rfl, h7, g7⟩
          go_wp2_with fail
          go_meet
          exact ⟨rfl, J.dg s p5, hle.2, by omega, Lib.hid ⟨h7, grow_trans H6.out.2 g7, HE.out⟩⟩
    case rest =>
    obtain ⟨rfl, p4, hp9, hp10, HX⟩ := hcut
    clear HZ H5 HB hp5 hp6
    have c0 := HX.out.1.c0
    have c1 := HX.out.1.c1
    have hc := fun W => strClone_any (s.extract p p4) W (by rw [ByteArray.size_extract]; omega)
    have KEEP := Lib.hid (show ∀ w', Below wc.heap.size wc w' → w'.cell? ⟨B, 0, none⟩ = some (.string s) ∧ w'.cell? ⟨B, 1, none⟩ = some (.int .i64 p4) from fun w' hB => ⟨bcellv hB c0, bcellv hB c1⟩)
    go_wp2_with fail
    go_region_held3 (fun w' => w'.cell? ⟨B, 0, none⟩ = some (.string s) ∧ w'.cell? ⟨B, 1, none⟩ = some (.int .i64 p4))
      (first | exact KEEP.out _ hB2.out | exact KEEP.out _ (Below.refl _ _).drew | exact KEEP.out _ (Below.refl _ _))
      (first | (go_at_call 130; (with_reducible refine (hc _).mono ?_); rintro e w8 ⟨rfl, hB1⟩; have hB2 := Lib.hid ((Below.refl wc.heap.size wc).drew.trans hB1); clear hB1))
    go_wp2_with fail
    go_ret
    rw [HX.out.2.2]
    exact out_ok ⟨rfl, HX.out.1.below hB2.out, grow_trans HX.out.2.1 (grow_below hB2.out _)⟩
end Go.Proofs.YtoolkaahjmnjeaaGreatDoor

namespace Go.Proofs.YtoolkaahjmnjeaaGreatDoor
open Go Go.RowKit Go.Lib

theorem one_byte (x : ByteArray) (i : Nat) (hi : i < x.size) (c : Nat) : J.am (x.extract i (i + 1)) c = decide (c = (x.get! i).toNat) := by
  have e : (x.extract i (i + 1)).data.toList = [x.get! i] := by
    rw [J.at_get hi]
    apply List.ext_getElem?
    intro j
    have h : (x.extract i (i + 1)).data.toList = (x.data.toList.take (i + 1)).drop i := by
      rw [ByteArray.data_extract, Array.toList_extract, List.extract_eq_take_drop, List.drop_take]
    rw [h, List.getElem?_drop]
    have hl : x.data.toList.length = x.size := by simp
    cases j with
    | zero =>
      show (List.take (i + 1) x.data.toList)[i]? = some x[i]
      rw [List.getElem?_take_of_lt (show i < i + 1 by omega), List.getElem?_eq_getElem (by omega)]; rfl
    | succ j => rw [List.getElem?_take_eq_none (by omega)]; rfl
  unfold J.am
  rw [e]
  simp only [List.any_cons, List.any_nil, Bool.or_false]
  exact decide_eq_decide.2 eq_comm
theorem al_stay (s x : ByteArray) (p k j : Nat) (h : ¬ (J.al s x k (p, 0)).2 = 0) : J.al s x (k + j) (p, 0) = J.al s x k (p, 0) := by
  induction j with
  | zero => rfl
  | succ j ih =>
    show J.tk s (J.al s x (k + j) (p, 0)).1 (J.al s x (k + j) (p, 0)).2 _ = _
    rw [ih, J.tk_wrong _ h]

/-- what was not there at first may be written -/
theorem grow_new {w wr W : World} {B N : Nat} (g : w.grownBy wr (some B)) (hb : Below N wr W) (hN : w.heap.size ≤ N) : w.grownBy W (some B) :=
  ⟨hb.os.trans g.os, hb.tape.trans g.tape, hb.output.trans g.output, Nat.le_trans g.size hb.size, fun k hk hne => (hb.block k (by omega)).trans (g.block k hk hne)⟩
def valW (k : Nat) : Value := .agg #[.int .u8 k, .string ⟨#[]⟩, .slice none 0 0, .slice none 0 0]

set_option maxRecDepth 100000 in
set_option maxHeartbeats 1000000 in
theorem word_any (s x : ByteArray) (p d k B : Nat) (w : World) (hs : s.size ≤ 1000000000000) (hx : x.size ≤ 1000) (hx0 : ∀ i, i < x.size → 0 < (x.get! i).toNat) (hp : p ≤ s.size) (h : Rd s p d B w) :
    Calls Tryz.prog 197 #[.pointer (some ⟨B, 0, none⟩), .string x, .int .u8 k] w (Out (valW k) s (J.al s x x.size (p, 0)) d B w) := by
  have hal := (Below.refl w.heap.size w).alloc (Nat.le_refl _) (.cells #[.int .u8 0, .string ⟨#[]⟩, .slice none 0 0, .slice none 0 0] 25)
  have hn := heap_alloc_new w (.cells #[.int .u8 0, .string ⟨#[]⟩, .slice none 0 0, .slice none 0 0] 25)
  have hB := h.lt
  go_enter Tryz.func197, Tryz.ntmps197
  go_wp2_with fail
  generalize w.alloc (.cells #[.int .u8 0, .string ⟨#[]⟩, .slice none 0 0, .slice none 0 0] 25) = W0 at *
  have H0 := Lib.hid (And.intro (h.below hal) (And.intro (grow_below hal (some B)) (show Blk4 W0 w.heap.size 25 _ _ _ _ from hn)))
  clear hal hn h
  go_loopw [10] (fun i wr => ∃ j : Nat, i = .int .i64 j ∧ j ≤ x.size ∧ Hid (∃ q, q ≤ s.size ∧ Rd s q d B wr ∧ w.grownBy wr (some B) ∧ Blk4 wr w.heap.size 25 (.int .u8 0) (.string ⟨#[]⟩) (.slice none 0 0) (.slice none 0 0) ∧ J.al s x j (p, 0) = (q, 0))) (fun i _ => x.size - (RowKit.intOf i).toNat)
  case atStart => exact ⟨0, rfl, Nat.zero_le _, Lib.hid ⟨p, hp, H0.out.1, H0.out.2.1, H0.out.2.2, rfl⟩⟩
  case round =>
    obtain ⟨j, rfl, hj, HJ⟩ := hrel
    obtain ⟨q, hq, h1, g1, b1, a1⟩ := HJ.out
    have HA := Lib.hid a1
    have HB := Lib.hid b1
    clear HJ a1 b1
    by_cases hlt : j < x.size
    · have hx1 := fun c => one_byte x j hlt c
      have hstep : J.al s x (j + 1) (p, 0) = J.tk s q 0 (x.get! j).toNat := by
        show J.tk s (J.al s x j (p, 0)).1 (J.al s x j (p, 0)).2 _ = _
        rw [HA.out]
      have hsk := J.sk_is (s := s) q (hx0 j hlt) hx1
      have HL := Lib.hid hlt
      have e1 : j + 1 ≤ x.size := hlt
      cases hb : J.is s q 0 (x.get! j).toNat
      · have ht := take_no s (x.extract j (j + 1)) q d B wr hs hq h1 (by rw [hsk, hb])
        have HE := Lib.hid (hstep.trans (J.tk_no hb))
        clear hsk hb hstep hx1
        go_wp2_with fail
        refine ht.mono ?_
        rintro en w2 ⟨rfl, h2, g2⟩
        have HF := Lib.hid (And.intro h2 (grow_trans g1 g2))
        clear h2 g2
        go_wp2_with fail
        have hfin := al_stay s x p (j + 1) (x.size - (j + 1)) (by rw [HE.out]; exact (show ¬ 30 = 0 by decide))
        rw [show j + 1 + (x.size - (j + 1)) = x.size by omega, HE.out] at hfin
        rw [hfin]
        exact ⟨rfl, out_no ⟨rfl, HF.out⟩⟩
      · have ht := take_yes s (x.extract j (j + 1)) q d B wr hs hq h1 (by rw [hsk, hb])
        have HE := Lib.hid (hstep.trans (J.tk_yes hb))
        have hq2 := (J.of_is hb).2.1
        clear hsk hb hstep hx1
        generalize J.pk s q = c at *
        go_wp2_with fail
        refine ht.mono ?_
        rintro en w2 ⟨rfl, h2, g2⟩
        have HN := Lib.hid (show ∃ q, q ≤ s.size ∧ Rd s q d B w2 ∧ w.grownBy w2 (some B) ∧ Blk4 w2 w.heap.size 25 (.int .u8 0) (.string ⟨#[]⟩) (.slice none 0 0) (.slice none 0 0) ∧ J.al s x (j + 1) (p, 0) = (q, 0) from
          ⟨q + 1, hq2, h2, grow_trans g1 g2, HB.out.same (g2.block _ HB.out.lt (fun e => by cases e; omega)), HE.out⟩)
        clear h2 g2 ht g1 h1
        go_wp2_with fail
        go_roundw
        case rel => exact ⟨j + 1, by go_num, HL.out, HN⟩
        case measure => have := HL.out; simp [RowKit.intOf]; omega
    · obtain rfl : j = x.size := by omega
      obtain ⟨d0, d1, d2, d3⟩ := HB.out.box
      have f0 := HB.out.free 0
      have f1 := HB.out.free 1
      have f2 := HB.out.free 2
      have f3 := HB.out.free 3
      go_wp2_with fail
      obtain ⟨e1, e2, e3⟩ := HB.out.all (.int .u8 k) (.string ⟨#[]⟩) (.slice none 0 0) (.slice none 0 0)
      have e4 := set4_else wr w.heap.size (.int .u8 k) (.string ⟨#[]⟩) (.slice none 0 0) (.slice none 0 0)
      generalize (((wr.setCell ⟨w.heap.size, 0, none⟩ (.int .u8 k)).setCell ⟨w.heap.size, 1, none⟩ (.string ⟨#[]⟩)).setCell ⟨w.heap.size, 2, none⟩ (.slice none 0 0)).setCell ⟨w.heap.size, 3, none⟩ (.slice none 0 0) = W' at *
      obtain ⟨x0, x1, x2, x3⟩ := e1.box
      refine bodyPost_ret (v := valW k) (by simp [results, Tryz.results197, go_sem, x0, x1, x2, x3, valW]) rfl ?_
      rw [HA.out]
      exact out_ok ⟨rfl, h1.same (e4 B (by omega)), grow_new g1 (e3 _ (Nat.le_refl _)) (Nat.le_refl _)⟩

set_option maxRecDepth 100000 in
set_option maxHeartbeats 400000 in
theorem end_any (s : ByteArray) (p d B : Nat) (w : World) (hs : s.size ≤ 1000000000000) (hp : p ≤ s.size) (h : Rd s p d B w) :
    Calls Tryz.prog 167 #[.pointer (some ⟨B, 0, none⟩)] w (Out (.tuple #[]) s (if p < s.size then (p, 30) else (p, 0)) d B w) := by
  have c0 := h.c0
  have c1 := h.c1
  by_cases hlt : p < s.size
  · rw [if_pos hlt]
    go_enter Tryz.func167, Tryz.ntmps167
    go_wp2_with fail
    go_quiet (fail)
    go_wp2_with fail
    exact ⟨rfl, out_no ⟨rfl, ⟨_, h⟩, grow_drewN _ _ _⟩⟩
  · rw [if_neg hlt]
    go_enter Tryz.func167, Tryz.ntmps167
    go_wp2_with fail
    go_quiet (fail)
    go_wp2_with fail
    go_end0
    exact out_ok ⟨rfl, h, grow_drewN _ _ _⟩
end Go.Proofs.YtoolkaahjmnjeaaGreatDoor
