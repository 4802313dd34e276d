/- The document's own reader of JSON: a run of digits. Conditions: a string of at most 10^12 bytes. -/
import Derived.Test.YtbdpghmpdghnbaaDoorMJ26
import Derived.Deep.DeepCutAuto
namespace Go.Proofs.YtbdpghmpdghnbaaDoor
open Go Go.RowKit Go.Lib

set_option maxRecDepth 100000 in
set_option maxHeartbeats 1000000 in
theorem digits_any (s : ByteArray) (p e B : Nat) (w : World) (hs : s.size ≤ 1000000000000) (hp : p ≤ s.size) (h : St s p e B w) :
    Calls Tryd.prog 25 #[.pointer (some ⟨B, 0, none⟩)] w (Moved s (J.ds s p e).1 (J.ds s p e).2 B w) := by
  by_cases he : e = 0
  · subst he
    go_enter Tryd.func25, Tryd.ntmps25
    go_wp2_with fail
    go_loopw [2] (fun i wr => ∃ k q : Nat, i = .int .i64 k ∧ q ≤ s.size ∧ k ≤ q ∧ Hid (St s q 0 B wr ∧ w.grownBy wr (some B) ∧ J.dg s q = J.dg s p ∧ q = p + k)) (fun i wr => s.size - place B wr)
    case atStart => exact ⟨0, p, rfl, hp, Nat.zero_le _, Lib.hid ⟨h, grownBy_drewN w 0 _, rfl, rfl⟩⟩
    case round =>
      obtain ⟨k, q, rfl, hq, hk, HW⟩ := hrel
      have c0 := HW.out.1.c0
      have c1 := HW.out.1.c1
      have c2 := HW.out.1.c2
      have f1 := HW.out.1.f1
      have f2 := HW.out.1.f2
      by_cases hd : q < s.size ∧ J.dgt (s.get! q).toNat = true
      · have hlt := hd.1
        have hb := of_decide_eq_true hd.2
        rw [← J.at_byte hlt] at hb
        have HG := Lib.hid (J.dg_step hlt hd.2)
        have e1 : decide ((s[q].toNat : Int) ≥ 48) = true := by simp; omega
        have e2 : decide ((s[q].toNat : Int) ≤ 57) = true := by simp; omega
        clear hd hb
        go_wp2_with fail
        go_quiet (fail)
        go_wp2_with fail
        go_roundw
        case rel => exact ⟨k + 1, q + 1, by go_num, hlt, by omega, Lib.hid ⟨(HW.out.1.drewN nq).set1 (q + 1), grown_trans HW.out.2.1 (grown_trans (grownBy_drewN _ nq _) (grownBy_set _ _ _ _)), HG.out ▸ HW.out.2.2.1, by rw [HW.out.2.2.2]; omega⟩⟩
        case measure => rw [place_eq HW.out.1]; exact Nat.lt_of_le_of_lt (Nat.le_of_eq (congrArg (s.size - ·) (place_eq ((HW.out.1.drewN nq).set1 (q + 1))))) (by omega)
      · have HS : J.dg s p = q := HW.out.2.2.1.symm.trans (J.dg_stop hd)
        have fin0 : k = 0 → ∀ n v, Moved s (J.ds s p 0).1 (J.ds s p 0).2 B w (.returned v) ((wr.drewN n).setCell ⟨B, 2, none⟩ (.int .i64 ((30 : Nat) : Int))) := fun hk0 n v => by
          have hqp : q = p := by rw [HW.out.2.2.2, hk0]; rfl
          rw [J.ds_none (HS.trans hqp)]
          exact ⟨⟨_, rfl⟩, (hqp ▸ HW.out.1.drewN n).set2 30, grown_trans HW.out.2.1 (grown_trans (grownBy_drewN _ n _) (grownBy_set _ _ _ _))⟩
        have fin1 : ¬ k = 0 → ∀ n v, Moved s (J.ds s p 0).1 (J.ds s p 0).2 B w (.returned v) (wr.drewN n) := fun hk0 n v => by
          have hqp : ¬ q = p := by rw [HW.out.2.2.2]; omega
          rw [J.ds_some (by rw [HS]; exact hqp), HS]
          exact ⟨⟨_, rfl⟩, HW.out.1.drewN n, grown_trans HW.out.2.1 (grownBy_drewN _ n _)⟩
        have F0 := Lib.hid fin0
        have F1 := Lib.hid fin1
        clear fin0 fin1 HS
        by_cases hlt : q < s.size
        · by_cases hg : 48 ≤ s[q].toNat
          · have e1 : decide ((s[q].toNat : Int) ≥ 48) = true := by simp; omega
            have e2 : decide ((s[q].toNat : Int) ≤ 57) = false := by
              rw [J.at_byte hlt] at *
              simp only [J.dgt, decide_eq_true_eq] at hd
              simp; omega
            clear hd hg
            by_cases hk0 : k = 0
            · have e3 : ((k : Int) == 0) = true := by simp; omega
              go_wp2_with fail
              go_quiet (fail)
              go_wp2_with fail
              go_end0
              exact F0.out hk0 _ _
            · have e3 : ((k : Int) == 0) = false := by simp; omega
              go_wp2_with fail
              go_quiet (fail)
              go_wp2_with fail
              go_end0
              exact F1.out hk0 _ _
          · have e1 : decide ((s[q].toNat : Int) ≥ 48) = false := by simp; omega
            clear hd hg
            by_cases hk0 : k = 0
            · have e3 : ((k : Int) == 0) = true := by simp; omega
              go_wp2_with fail
              go_quiet (fail)
              go_wp2_with fail
              go_end0
              exact F0.out hk0 _ _
            · have e3 : ((k : Int) == 0) = false := by simp; omega
              go_wp2_with fail
              go_quiet (fail)
              go_wp2_with fail
              go_end0
              exact F1.out hk0 _ _
        · clear hd
          by_cases hk0 : k = 0
          · have e3 : ((k : Int) == 0) = true := by simp; omega
            go_wp2_with fail
            go_quiet (fail)
            go_wp2_with fail
            go_end0
            exact F0.out hk0 _ _
          · have e3 : ((k : Int) == 0) = false := by simp; omega
            go_wp2_with fail
            go_quiet (fail)
            go_wp2_with fail
            go_end0
            exact F1.out hk0 _ _
  · rw [J.ds_wrong s p he]
    have c0 := h.c0
    have c1 := h.c1
    have c2 := h.c2
    have f2 := h.f2
    have e0 : ((e : Int) == 0) = false := by simp; omega
    clear he
    go_enter Tryd.func25, Tryd.ntmps25
    go_wp2_with fail
    go_loopw [2] (fun i wr => i = .int .i64 0 ∧ ∃ n, wr = w.drewN n) (fun _ _ => 0)
    case atStart => exact ⟨rfl, 0, rfl⟩
    case round =>
      obtain ⟨rfl, n, rfl⟩ := hrel
      go_wp2_with fail
      go_quiet (fail)
      go_wp2_with fail
      go_end0
      exact ⟨⟨_, rfl⟩, h, grownBy_drewN w _ _⟩
end Go.Proofs.YtbdpghmpdghnbaaDoor

namespace Go.Proofs.YtbdpghmpdghnbaaDoor
open Go Go.RowKit Go.Lib

theorem St.bump {s : ByteArray} {p e B : Nat} {w W : World} (h : St s p e B W) (g : w.grownBy W (some B)) (n : Nat) :
    St s (p + 1) e B ((W.drewN n).setCell ⟨B, 1, none⟩ (.int .i64 ((p : Int) + 1))) ∧ w.grownBy ((W.drewN n).setCell ⟨B, 1, none⟩ (.int .i64 ((p : Int) + 1))) (some B) :=
  ⟨(h.drewN n).set1 (p + 1), grown_trans g (grown_trans (grownBy_drewN _ n _) (grownBy_set _ _ _ _))⟩
/-- the reader stands there, and nothing else that lay has turned -/
def Stood (s : ByteArray) (x : Nat × Nat) (B : Nat) (w W : World) : Prop := St s x.1 x.2 B W ∧ w.grownBy W (some B)

set_option maxRecDepth 100000 in
set_option maxHeartbeats 1000000 in
theorem number_walk (s : ByteArray) (p e B p1 p2 e2 p3 e3 : Nat) (xn : Nat × Nat) (w : World) (hs : s.size ≤ 1000000000000) (h : St s p e B w) (h1 : p1 ≤ s.size) (h2 : p2 ≤ s.size) (h3 : p3 ≤ s.size)
    (E1 : Hid (J.bp s p e 45 = p1)) (E2 : Hid (J.n2 s p1 e = (p2, e2))) (E3 : Hid (J.n3 s (p2, e2) = (p3, e3))) (EN : Hid (J.n4 s (p3, e3) = xn)) :
    Calls Tryd.prog 18 #[.pointer (some ⟨B, 0, none⟩)] w (Moved s xn.1 xn.2 B w) := by
  go_enter Tryd.func18, Tryd.ntmps18
  -- the sign
  have i0 : Calls Tryd.prog 13 #[.pointer (some ⟨B, 0, none⟩), .int .u8 45] w (QuietR (J.is s p e 45) w) := is_any s p e 45 B w hs h
  have c1 := h.c1
  have f1 := h.f1
  go_upto_if 3 with fail
  refine i0.mono ?_
  rintro en w0 ⟨rfl, q0, rfl⟩
  clear i0
  go_upto_if 3 with fail
  go_cut [] (fun wx => Hid (Stood s (p1, e) B w wx))
  case first =>
    cases hb : J.is s p e 45
    · have HB := Lib.hid (E1.out.symm.trans (J.bp_no hb))
      clear hb
      go_wp2_with fail
      go_meet
      case rel => rw [HB.out]; exact Lib.hid ⟨h.drewN q0, grownBy_drewN w q0 _⟩
    · have hlt := (J.of_is hb).2.1
      have HB := Lib.hid (E1.out.symm.trans (J.bp_yes hb))
      clear hb
      go_wp2_with fail
      go_meet
      case rel => rw [HB.out]; exact Lib.hid (h.bump (grownBy_drewN w 0 _) q0)
  case rest =>
  -- the digits ahead of the point
  clear c1 f1 E1 h
  have h := hcut.out.1
  have G := Lib.hid hcut.out.2
  clear hcut
  have i0 : Calls Tryd.prog 13 #[.pointer (some ⟨B, 0, none⟩), .int .u8 48] wc (QuietR (J.is s p1 e 48) wc) := is_any s p1 e 48 B wc hs h
  have c1 := h.c1
  have f1 := h.f1
  go_upto_if 12 with fail
  refine i0.mono ?_
  rintro en w0 ⟨rfl, q1, rfl⟩
  clear i0
  go_upto_if 12 with fail
  go_cut [] (fun wx => Hid (Stood s (p2, e2) B w wx))
  case first =>
    cases hb : J.is s p1 e 48
    · have HB : (p2, e2) = J.ds s p1 e := E2.out.symm.trans (if_neg (by rw [hb]; decide))
      have hd := digits_any s p1 e B (wc.drewN q1) hs h1 (h.drewN q1)
      rw [← HB] at hd
      clear hb
      go_wp2_with fail
      refine hd.mono ?_
      rintro en wd ⟨⟨v, rfl⟩, hd1, hd2⟩
      go_wp2_with fail
      go_meet
      case rel => exact Lib.hid ⟨hd1, grown_trans G.out (grown_trans (grownBy_drewN _ q1 _) hd2)⟩
    · have hlt := (J.of_is hb).2.1
      have HB : (p2, e2) = (p1 + 1, e) := E2.out.symm.trans (if_pos hb)
      clear hb
      go_wp2_with fail
      go_meet
      case rel => rw [HB]; exact Lib.hid (h.bump G.out q1)
  case rest =>
  -- the point
  clear c1 f1 E2 h G
  have h := hcut.out.1
  have G := Lib.hid hcut.out.2
  clear hcut
  have i0 : Calls Tryd.prog 13 #[.pointer (some ⟨B, 0, none⟩), .int .u8 46] wc (QuietR (J.is s p2 e2 46) wc) := is_any s p2 e2 46 B wc hs h
  have c1 := h.c1
  have f1 := h.f1
  go_upto_if 23 with fail
  refine i0.mono ?_
  rintro en w0 ⟨rfl, q2, rfl⟩
  clear i0
  go_upto_if 23 with fail
  go_cut [] (fun wx => Hid (Stood s (p3, e3) B w wx))
  case first =>
    cases hb : J.is s p2 e2 46
    · have HB : (p3, e3) = (p2, e2) := E3.out.symm.trans (if_neg (by rw [hb]; decide))
      have HB := Lib.hid HB
      clear hb
      go_wp2_with fail
      go_meet
      case rel => rw [HB.out]; exact Lib.hid ⟨h.drewN q2, grown_trans G.out (grownBy_drewN _ q2 _)⟩
    · have hlt := (J.of_is hb).2.1
      have HB : (p3, e3) = J.ds s (p2 + 1) e2 := E3.out.symm.trans (if_pos hb)
      have hu := h.bump G.out q2
      have hd := digits_any s (p2 + 1) e2 B _ hs hlt hu.1
      rw [← HB] at hd
      clear hb
      go_wp2_with fail
      refine hd.mono ?_
      rintro en wd ⟨⟨v, rfl⟩, hd1, hd2⟩
      go_wp2_with fail
      go_meet
      case rel => exact Lib.hid ⟨hd1, grown_trans hu.2 hd2⟩
  case rest =>
  -- the power of ten
  clear c1 f1 E3 h G
  have h := hcut.out.1
  have G := Lib.hid hcut.out.2
  clear hcut
  have i1 : Calls Tryd.prog 13 #[.pointer (some ⟨B, 0, none⟩), .int .u8 101] wc (QuietR (J.is s p3 e3 101) wc) := is_any s p3 e3 101 B wc hs h
  have i2 : ∀ n, Calls Tryd.prog 13 #[.pointer (some ⟨B, 0, none⟩), .int .u8 69] (wc.drewN n) (QuietR (J.is s p3 e3 69) (wc.drewN n)) := fun n => is_any s p3 e3 69 B _ hs (h.drewN n)
  go_upto_region 8 with fail
  go_cut [38] (fun s38 wx => s38 = .bool (J.is s p3 e3 101 || J.is s p3 e3 69) ∧ ∃ n, wx = wc.drewN n)
  case first =>
    cases hb : J.is s p3 e3 101
    · rw [hb] at i1
      have HB := Lib.hid hb
      clear hb
      go_wp2_with fail
      refine i1.mono ?_
      rintro en w0 ⟨rfl, q3, rfl⟩
      go_wp2_with fail
      refine (i2 _).mono ?_
      rintro en w0 ⟨rfl, q4, rfl⟩
      go_wp2_with fail
      go_meet
      case rel => exact ⟨by rw [HB.out]; rfl, _, rfl⟩
    · rw [hb] at i1
      have HB := Lib.hid hb
      clear hb
      go_wp2_with fail
      refine i1.mono ?_
      rintro en w0 ⟨rfl, q3, rfl⟩
      go_wp2_with fail
      go_meet
      case rel => exact ⟨by rw [HB.out]; rfl, _, rfl⟩
  case rest =>
  obtain ⟨rfl, n, rfl⟩ := hcut
  clear i1 i2
  cases hb : (J.is s p3 e3 101 || J.is s p3 e3 69)
  · have HB : xn = (p3, e3) := EN.out.symm.trans (if_neg (by rw [hb]; decide))
    have HB := Lib.hid HB
    clear hb
    go_wp2_with fail
    go_end0
    exact ⟨⟨_, rfl⟩, h.drewN n, grown_trans G.out (grownBy_drewN _ n _)⟩
  · have hlt := J.is2_lt hb
    have HB : xn = J.ds s (J.sg s (p3 + 1) e3) e3 := EN.out.symm.trans (if_pos hb)
    have HB := Lib.hid HB
    clear hb EN
    have c1 := (h.drewN n).c1
    have f1 := (h.drewN n).f1
    have hu := h.bump G.out n
    have hl := (J.sg_le (s := s) (p := p3 + 1) e3 hlt).2
    have HS := Lib.hid (show J.sg s (p3 + 1) e3 = if (J.is s (p3 + 1) e3 43 || J.is s (p3 + 1) e3 45) = true then p3 + 1 + 1 else p3 + 1 from rfl)
    generalize J.sg s (p3 + 1) e3 = p4 at *
    go_upto_region 10 with fail
    generalize ((wc.drewN n).setCell ⟨B, 1, none⟩ (.int .i64 ((p3 : Int) + 1))) = wd at *
    clear c1 f1 h G
    have h := hu.1
    have G := Lib.hid hu.2
    clear hu
    have c1 := h.c1
    have f1 := h.f1
    have i1 : Calls Tryd.prog 13 #[.pointer (some ⟨B, 0, none⟩), .int .u8 43] wd (QuietR (J.is s (p3 + 1) e3 43) wd) := is_any s (p3 + 1) e3 43 B wd hs h
    have i2 : ∀ n, Calls Tryd.prog 13 #[.pointer (some ⟨B, 0, none⟩), .int .u8 45] (wd.drewN n) (QuietR (J.is s (p3 + 1) e3 45) (wd.drewN n)) := fun n => is_any s (p3 + 1) e3 45 B _ hs (h.drewN n)
    generalize p3 + 1 = p5 at *
    go_cut [51] (fun s51 wx => s51 = .bool (J.is s p5 e3 43 || J.is s p5 e3 45) ∧ ∃ n, wx = wd.drewN n)
    case first =>
      cases hb : J.is s p5 e3 43
      · rw [hb] at i1
        have HB := Lib.hid hb
        clear hb
        go_wp2_with fail
        refine i1.mono ?_
        rintro en w0 ⟨rfl, q3, rfl⟩
        go_wp2_with fail
        refine (i2 _).mono ?_
        rintro en w0 ⟨rfl, q4, rfl⟩
        go_wp2_with fail
        go_meet
        case rel => exact ⟨by rw [HB.out]; rfl, _, rfl⟩
      · rw [hb] at i1
        have HB := Lib.hid hb
        clear hb
        go_wp2_with fail
        refine i1.mono ?_
        rintro en w0 ⟨rfl, q3, rfl⟩
        go_wp2_with fail
        go_meet
        case rel => exact ⟨by rw [HB.out]; rfl, _, rfl⟩
    case rest =>
    obtain ⟨rfl, m, rfl⟩ := hcut
    clear i1 i2
    cases hb : (J.is s p5 e3 43 || J.is s p5 e3 45)
    · rw [hb] at HS
      have HP := Lib.hid (show p4 = p5 from HS.out)
      have hd := digits_any s p4 e3 B (wd.drewN m) hs hl (HP.out ▸ h.drewN m)
      rw [← HB.out] at hd
      clear hb HS
      go_wp2_with fail
      refine hd.mono ?_
      rintro en wf ⟨⟨v, rfl⟩, hd1, hd2⟩
      go_wp2_with fail
      go_end0
      exact ⟨⟨_, rfl⟩, hd1, grown_trans G.out (grown_trans (grownBy_drewN _ m _) hd2)⟩
    · have hl5 := J.is2_lt hb
      rw [hb] at HS
      have hu := h.bump G.out m
      have HP := Lib.hid (show p4 = p5 + 1 from HS.out)
      have hd := digits_any s p4 e3 B _ hs hl (HP.out ▸ hu.1)
      rw [← HB.out] at hd
      have G2 := Lib.hid hu.2
      clear hb HS hu
      go_wp2_with fail
      refine hd.mono ?_
      rintro en wf ⟨⟨v, rfl⟩, hd1, hd2⟩
      go_wp2_with fail
      go_end0
      exact ⟨⟨_, rfl⟩, hd1, grown_trans G2.out hd2⟩
theorem numberR_any (s : ByteArray) (p e B : Nat) (w : World) (hs : s.size ≤ 1000000000000) (hp : p ≤ s.size) (h : St s p e B w) :
    Calls Tryd.prog 18 #[.pointer (some ⟨B, 0, none⟩)] w (Moved s (J.nm s p e).1 (J.nm s p e).2 B w) :=
  have h1 := (J.bp_le e 45 hp).2
  have h2 := (J.n2_le e h1).2
  number_walk s p e B _ _ _ _ _ _ w hs h h1 h2 (J.n3_le h2).2 (Lib.hid rfl) (Lib.hid rfl) (Lib.hid rfl) (Lib.hid rfl)
end Go.Proofs.YtbdpghmpdghnbaaDoor
