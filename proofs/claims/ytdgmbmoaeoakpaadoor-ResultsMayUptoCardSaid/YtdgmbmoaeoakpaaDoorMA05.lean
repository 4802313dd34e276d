/- The program's reader of JSON: a number, whole. Conditions: a string of at most 10^12 bytes. -/
import Derived.Test.YtdgmbmoaeoakpaaDoorMA04
import Derived.Test.YtdgmbmoaeoakpaaDoorMA02
import Derived.Lib.AtoiErrMem
import Derived.Deep.RegionHeld3
namespace Go.Proofs.YtdgmbmoaeoakpaaDoor
open Go Go.RowKit Go.Lib

/-- what comes of reading: (where the reader stands, 0) or (the wrong byte, the error) -/
def Out (v : Value) (s : ByteArray) (x : Nat × Nat) (d B : Nat) (w : World) (en : Ending) (w' : World) : Prop := if x.2 = 0 then Back v s x.1 d B w en w' else Died x.2 s x.1 B w en w'
theorem out_ok {v : Value} {s : ByteArray} {p d B : Nat} {w : World} {en : Ending} {w' : World} (h : Back v s p d B w en w') : Out v s (p, 0) d B w en w' := by unfold Out; rw [if_pos rfl]; exact h
theorem out_no {v : Value} {s : ByteArray} {p d B : Nat} {w : World} {en : Ending} {w' : World} (h : Died 30 s p B w en w') : Out v s (p, 30) d B w en w' := by unfold Out; rw [if_neg (show ¬ 30 = 0 by decide)]; exact h

theorem am45 (c : Nat) : J.am ⟨#[45]⟩ c = decide (c = 45) := J.am_one 45 c (by decide)
theorem am46 (c : Nat) : J.am ⟨#[46]⟩ c = decide (c = 46) := J.am_one 46 c (by decide)
theorem am_two (a b c : Nat) (ha : a < 256) (hb : b < 256) : J.am ⟨#[a.toUInt8, b.toUInt8]⟩ c = (decide (c = a) || decide (c = b)) := by
  unfold J.am
  simp only [List.any_cons, List.any_nil, Bool.or_false]
  have ea : a.toUInt8.toNat = a := Nat.mod_eq_of_lt (by omega)
  have eb : b.toUInt8.toNat = b := Nat.mod_eq_of_lt (by omega)
  rw [ea, eb]
  exact congr (congrArg _ (decide_eq_decide.2 eq_comm)) (decide_eq_decide.2 eq_comm)
theorem sk_two {s : ByteArray} {a b : Nat} (p : Nat) (ha : 0 < a) (ha2 : a < 256) (hb : 0 < b) (hb2 : b < 256) : J.sk s ⟨#[a.toUInt8, b.toUInt8]⟩ p = (J.is s p 0 a || J.is s p 0 b) := by
  unfold J.sk J.pk J.is
  rw [am_two a b _ ha2 hb2]
  by_cases h : p < s.size
  · simp [h]
  · simp [h]; omega
/-- the number's last part, from where it may begin -/
theorem nm_at (s : ByteArray) (p : Nat) : J.nm s p 0 = J.n4 s (J.n3 s (J.n2 s (if J.sk s ⟨#[45]⟩ p = true then p + 1 else p) 0)) := by
  unfold J.nm J.bp
  rw [J.sk_is p (by decide) am45]
theorem n_wrong (s : ByteArray) (p : Nat) : J.n4 s (J.n3 s (p, 30)) = (p, 30) := by
  unfold J.n3
  rw [if_neg (by rw [J.is_wrong p 46 (show ¬ 30 = 0 by decide)]; decide)]
  unfold J.n4
  rw [if_neg (by rw [J.is_wrong p 101 (show ¬ 30 = 0 by decide), J.is_wrong p 69 (show ¬ 30 = 0 by decide)]; decide)]
theorem n4_wrong (s : ByteArray) (p : Nat) : J.n4 s (p, 30) = (p, 30) := by
  unfold J.n4
  rw [if_neg (by rw [J.is_wrong p 101 (show ¬ 30 = 0 by decide), J.is_wrong p 69 (show ¬ 30 = 0 by decide)]; decide)]
theorem ds_at (s : ByteArray) (p : Nat) : J.ds s p 0 = if J.sk s J.dgs p = true then (J.dg s p, 0) else (p, 30) := by
  cases h : J.sk s J.dgs p
  · rw [if_neg (by decide)]
    refine J.ds_none ?_
    rw [← J.sa_dg, J.sa_stop h]
  · rw [if_pos rfl]
    exact J.ds_some (dg_take h).2

set_option maxRecDepth 100000 in
set_option maxHeartbeats 1000000 in
theorem number_any (s : ByteArray) (p d B : Nat) (w : World) (hs : s.size ≤ 1000000000000) (hp : p ≤ s.size) (h : Rd s p d B w) :
    Calls Tryd.prog 123 #[.pointer (some ⟨B, 0, none⟩)] w (Out (.string (s.extract p (J.nm s p 0).1)) s (J.nm s p 0) d B w) := by
  have hk0 := skip_any s ⟨#[45]⟩ p d B w hs hp h
  have hp1 : p ≤ (if J.sk s ⟨#[45]⟩ p = true then p + 1 else p) ∧ (if J.sk s ⟨#[45]⟩ p = true then p + 1 else p) ≤ s.size := by
    split
    · rename_i hh; exact ⟨Nat.le_succ _, J.sk_lt (by rw [am45]; rfl) hh⟩
    · exact ⟨Nat.le_refl _, hp⟩
  rw [nm_at]
  generalize J.sk s ⟨#[45]⟩ p = b0 at *
  generalize (if b0 = true then p + 1 else p) = p1 at *
  obtain ⟨hp1, hp2⟩ := hp1
  have HX : Hid (∃ x, J.n4 s (J.n3 s (J.n2 s p1 0)) = x) := Lib.hid ⟨_, rfl⟩
  obtain ⟨x, hx⟩ := HX.out
  rw [hx]
  have HX := Lib.hid hx
  have c1 := h.c1
  clear hx
  go_enter Tryd.func123, Tryd.ntmps123
  go_wp2_with fail
  refine hk0.mono ?_
  rintro en w1 ⟨rfl, h1, g1⟩
  have H1 := Lib.hid (And.intro h1 g1)
  clear h1 g1 c1 hk0
  cases hd : J.sk s J.dgs p1
  · have ht := take_no s J.dgs p1 d B w1 hs hp2 H1.out.1 hd
    have HE : Hid (x = (p1, 30)) := Lib.hid (by
      rw [← HX.out]
      unfold J.n2
      have h48 : J.is s p1 0 48 = false := by
        cases h : J.is s p1 0 48
        · rfl
        · have h2 := J.of_is h
          have : J.sk s J.dgs p1 = true := by rw [J.sk_dgt]; exact decide_eq_true ⟨h2.2.1, decide_eq_true (by omega)⟩
          rw [hd] at this; cases this
      rw [if_neg (by rw [h48]; decide), ds_at, hd, if_neg (by decide)]
      exact n_wrong s p1)
    clear hd
    go_wp2_with fail
    refine ht.mono ?_
    rintro en w2 ⟨rfl, h2, g2⟩
    rw [HE.out]
    exact ⟨rfl, out_no ⟨rfl, h2, grow_trans H1.out.2 g2⟩⟩
  · have ht := take_yes s J.dgs p1 d B w1 hs hp2 H1.out.1 hd
    have hlt := J.sk_lt digits0 hd
    have HD := Lib.hid hd
    have HC : Hid ((J.pk s p1 = 48) = (J.is s p1 0 48 = true)) := Lib.hid (by
      unfold J.pk
      rw [if_pos hlt]
      exact propext ⟨fun e => J.is_yes hlt e, fun e => (J.of_is e).2.2⟩)
    clear hd
    generalize J.pk s p1 = c at *
    go_wp2_with fail
    refine ht.mono ?_
    rintro en w2 ⟨rfl, h2, g2⟩
    have H2 := Lib.hid (And.intro h2 (grow_trans H1.out.2 g2))
    clear h2 g2 ht
    go_upto_if 12 with fail
    go_cut [3] (fun f wx => f = .int .i64 p ∧ ∃ p2 : Nat, p2 ≤ s.size ∧ p ≤ p2 ∧ Hid (Rd s p2 d B wx ∧ w.grownBy wx (some B) ∧ J.n4 s (J.n3 s (p2, 0)) = x))
    case first =>
      by_cases hc : c = 48
      · subst hc
        have HN : Hid (J.n2 s p1 0 = (p1 + 1, 0)) := Lib.hid (by unfold J.n2; rw [if_pos (by rw [← HC.out])])
        go_wp2_with fail
        go_meet
        exact ⟨rfl, p1 + 1, hlt, by omega, Lib.hid ⟨H2.out.1, H2.out.2, by rw [← HN.out]; exact HX.out⟩⟩
      · have t1 : ((c : Int) != 48) = true := by simp; omega
        have HN : Hid (J.n2 s p1 0 = (J.dg s p1, 0)) := Lib.hid (by
          unfold J.n2
          rw [if_neg (by rw [← HC.out]; exact hc), ds_at, HD.out, if_pos rfl])
        have hk := skipAll_any s J.dgs (p1 + 1) d B w2 hs hlt digits0 H2.out.1
        rw [(dg_take HD.out).1] at hk
        clear hc
        go_wp2_with fail
        refine hk.mono ?_
        rintro en w3 ⟨rfl, h3, g3⟩
        have hle := J.dg_le (s := s) (p := p1) hp2
        go_wp2_with fail
        go_meet
        exact ⟨rfl, J.dg s p1, hle.2, by omega, Lib.hid ⟨h3, grow_trans H2.out.2 g3, by rw [← HN.out]; exact HX.out⟩⟩
    case rest =>
    obtain ⟨rfl, p2, hp3, hp4, HY⟩ := hcut
    clear HX H1 H2 HD HC hlt hp1 hp2
    go_wp2_with fail
    have hk := skip_any s ⟨#[46]⟩ p2 d B wc hs hp3 HY.out.1
    have HB : Hid (∃ b, J.sk s ⟨#[46]⟩ p2 = b) := Lib.hid ⟨_, rfl⟩
    obtain ⟨b, hb⟩ := HB.out
    rw [hb] at hk
    have HB := Lib.hid hb
    clear hb
    refine hk.mono ?_
    rintro en w3 ⟨rfl, h3, g3⟩
    have H3 := Lib.hid (And.intro h3 (grow_trans HY.out.2.1 g3))
    clear h3 g3 hk
    go_upto_if 16 with fail
    go_cut [3] (fun f wx => f = .int .i64 p ∧ ∃ p3 : Nat, p3 ≤ s.size ∧ p ≤ p3 ∧ Hid (Rd s p3 d B wx ∧ w.grownBy wx (some B) ∧ J.n4 s (p3, 0) = x))
    case first =>
      cases b
      · have HZ : Hid (J.n4 s (p2, 0) = x) := Lib.hid (by
          rw [← HY.out.2.2]
          unfold J.n3
          rw [if_neg (by rw [← J.sk_is p2 (by decide) am46, HB.out]; decide)])
        go_wp2_with fail
        go_meet
        exact ⟨rfl, p2, hp3, hp4, Lib.hid ⟨H3.out.1, H3.out.2, HZ.out⟩⟩
      · have hlt := J.sk_lt (by rw [am46]; rfl) HB.out
        have HZ : Hid (J.n3 s (p2, 0) = J.ds s (p2 + 1) 0) := Lib.hid (by
          unfold J.n3
          rw [if_pos (by rw [← J.sk_is p2 (by decide) am46, HB.out])])
        cases hd : J.sk s J.dgs (p2 + 1)
        · have ht := some_no s (p2 + 1) d B w3 hs hlt H3.out.1 hd
          have HE : Hid (x = (p2 + 1, 30)) := Lib.hid (by
            rw [← HY.out.2.2, HZ.out, ds_at, hd, if_neg (by decide)]
            exact n4_wrong s (p2 + 1))
          clear hd
          go_wp2_with fail
          refine ht.mono ?_
          rintro en w4 ⟨rfl, h4, g4⟩
          rw [HE.out]
          exact ⟨rfl, out_no ⟨rfl, h4, grow_trans H3.out.2 g4⟩⟩
        · have ht := some_yes s (p2 + 1) d B w3 hs hlt H3.out.1 hd
          have HE : Hid (J.n4 s (J.dg s (p2 + 1), 0) = x) := Lib.hid (by rw [← HY.out.2.2, HZ.out, ds_at, hd, if_pos rfl])
          have hle := J.dg_le (s := s) (p := p2 + 1) hlt
          clear hd
          go_wp2_with fail
          refine ht.mono ?_
          rintro en w4 ⟨rfl, h4, g4⟩
          go_wp2_with fail
          go_meet
          exact ⟨rfl, J.dg s (p2 + 1), hle.2, by omega, Lib.hid ⟨h4, grow_trans H3.out.2 g4, HE.out⟩⟩
    case rest =>
    obtain ⟨rfl, p3, hp5, hp6, HZ⟩ := hcut
    clear HY H3 HB hp3 hp4
    go_wp2_with fail
    have hk := skip_any s ⟨#[101, 69]⟩ p3 d B wc hs hp5 HZ.out.1
    have HB : Hid (∃ b, J.sk s ⟨#[101, 69]⟩ p3 = b) := Lib.hid ⟨_, rfl⟩
    obtain ⟨b, hb⟩ := HB.out
    rw [hb] at hk
    have HB := Lib.hid hb
    clear hb
    refine hk.mono ?_
    rintro en w5 ⟨rfl, h5, g5⟩
    have H5 := Lib.hid (And.intro h5 (grow_trans HZ.out.2.1 g5))
    clear h5 g5 hk
    go_upto_if 20 with fail
    go_cut [3] (fun f wx => f = .int .i64 p ∧ ∃ p4 : Nat, p4 ≤ s.size ∧ p ≤ p4 ∧ Hid (Rd s p4 d B wx ∧ w.grownBy wx (some B) ∧ x = (p4, 0)))
    case first =>
      cases b
      · have HE : Hid (x = (p3, 0)) := Lib.hid (by
          rw [← HZ.out.2.2]
          unfold J.n4
          rw [if_neg (by rw [← sk_two p3 (by decide) (by decide) (by decide) (by decide)]; exact fun e => by cases HB.out.symm.trans e)])
        go_wp2_with fail
        go_meet
        exact ⟨rfl, p3, hp5, hp6, Lib.hid ⟨H5.out.1, H5.out.2, HE.out⟩⟩
      · have hlt := J.sk_lt (x := ⟨#[101, 69]⟩) (by rfl) HB.out
        have hk2 := fun W hW => skip_any s ⟨#[43, 45]⟩ (p3 + 1) d B W hs hlt hW
        have hp7 : p3 ≤ (if J.sk s ⟨#[43, 45]⟩ (p3 + 1) = true then p3 + 1 + 1 else p3 + 1) ∧ (if J.sk s ⟨#[43, 45]⟩ (p3 + 1) = true then p3 + 1 + 1 else p3 + 1) ≤ s.size := by
          split
          · rename_i hh; exact ⟨by omega, J.sk_lt (x := ⟨#[43, 45]⟩) (by rfl) hh⟩
          · exact ⟨Nat.le_succ _, hlt⟩
        have HE0 : Hid (x = J.ds s (if J.sk s ⟨#[43, 45]⟩ (p3 + 1) = true then p3 + 1 + 1 else p3 + 1) 0) := Lib.hid (by
          rw [← HZ.out.2.2]
          unfold J.n4
          rw [if_pos (by rw [← sk_two p3 (by decide) (by decide) (by decide) (by decide)]; exact HB.out)]
          unfold J.sg
          rw [← sk_two (p3 + 1) (by decide) (by decide) (by decide) (by decide)]
          rfl)
        generalize J.sk s ⟨#[43, 45]⟩ (p3 + 1) = b1 at *
        generalize (if b1 = true then p3 + 1 + 1 else p3 + 1) = p5 at *
        obtain ⟨hp7, hp8⟩ := hp7
        go_wp2_with fail
        refine (hk2 _ H5.out.1).mono ?_
        rintro en w6 ⟨rfl, h6, g6⟩
        have H6 := Lib.hid (And.intro h6 (grow_trans H5.out.2 g6))
        clear h6 g6 hk2
        cases hd : J.sk s J.dgs p5
        · have ht := some_no s p5 d B w6 hs hp8 H6.out.1 hd
          have HE : Hid (x = (p5, 30)) := Lib.hid (by rw [HE0.out, ds_at, hd, if_neg (by decide)])
          clear hd
          go_wp2_with fail
          refine ht.mono ?_
          rintro en w7 ⟨rfl, h7, g7⟩
          rw [HE.out]
          exact ⟨rfl, out_no ⟨rfl, h7, grow_trans H6.out.2 g7⟩⟩
        · have ht := some_yes s p5 d B w6 hs hp8 H6.out.1 hd
          have HE : Hid (x = (J.dg s p5, 0)) := Lib.hid (by rw [HE0.out, ds_at, hd, if_pos rfl])
          have hle := J.dg_le (s := s) (p := p5) hp8
          clear hd
          go_wp2_with fail
          refine ht.mono ?_
          rintro en w7 ⟨rfl, h7, g7⟩
          go_wp2_with fail
          go_meet
          exact ⟨rfl, J.dg s p5, hle.2, by omega, Lib.hid ⟨h7, grow_trans H6.out.2 g7, HE.out⟩⟩
    case rest =>
    obtain ⟨rfl, p4, hp9, hp10, HX⟩ := hcut
    clear HZ H5 HB hp5 hp6
    have c0 := HX.out.1.c0
    have c1 := HX.out.1.c1
    have hc := fun W => strClone_any (s.extract p p4) W (by rw [ByteArray.size_extract]; omega)
    have KEEP := Lib.hid (show ∀ w', Below wc.heap.size wc w' → w'.cell? ⟨B, 0, none⟩ = some (.string s) ∧ w'.cell? ⟨B, 1, none⟩ = some (.int .i64 p4) from fun w' hB => ⟨bcellv hB c0, bcellv hB c1⟩)
    go_wp2_with fail
    go_region_held3 (fun w' => w'.cell? ⟨B, 0, none⟩ = some (.string s) ∧ w'.cell? ⟨B, 1, none⟩ = some (.int .i64 p4))
      (first | exact KEEP.out _ hB2.out | exact KEEP.out _ (Below.refl _ _).drew | exact KEEP.out _ (Below.refl _ _))
      (first | (go_at_call 79; (with_reducible refine (hc _).mono ?_); rintro e w8 ⟨rfl, hB1⟩; have hB2 := Lib.hid ((Below.refl wc.heap.size wc).drew.trans hB1); clear hB1))
    go_wp2_with fail
    go_ret
    rw [HX.out.2.2]
    exact out_ok ⟨rfl, HX.out.1.below hB2.out, grow_trans HX.out.2.1 (grow_below hB2.out _)⟩
end Go.Proofs.YtdgmbmoaeoakpaaDoor

namespace Go.Proofs.YtdgmbmoaeoakpaaDoor
open Go Go.RowKit Go.Lib

theorem one_byte (x : ByteArray) (i : Nat) (hi : i < x.size) (c : Nat) : J.am (x.extract i (i + 1)) c = decide (c = (x.get! i).toNat) := by
  have e : (x.extract i (i + 1)).data.toList = [x.get! i] := by
    rw [J.at_get hi]
    apply List.ext_getElem?
    intro j
    have h : (x.extract i (i + 1)).data.toList = (x.data.toList.take (i + 1)).drop i := by
      rw [ByteArray.data_extract, Array.toList_extract, List.extract_eq_take_drop, List.drop_take]
    rw [h, List.getElem?_drop]
    have hl : x.data.toList.length = x.size := by simp
    cases j with
    | zero =>
      show (List.take (i + 1) x.data.toList)[i]? = some x[i]
      rw [List.getElem?_take_of_lt (show i < i + 1 by omega), List.getElem?_eq_getElem (by omega)]; rfl
    | succ j => rw [List.getElem?_take_eq_none (by omega)]; rfl
  unfold J.am
  rw [e]
  simp only [List.any_cons, List.any_nil, Bool.or_false]
  exact decide_eq_decide.2 eq_comm
theorem al_stay (s x : ByteArray) (p k j : Nat) (h : ¬ (J.al s x k (p, 0)).2 = 0) : J.al s x (k + j) (p, 0) = J.al s x k (p, 0) := by
  induction j with
  | zero => rfl
  | succ j ih =>
    show J.tk s (J.al s x (k + j) (p, 0)).1 (J.al s x (k + j) (p, 0)).2 _ = _
    rw [ih, J.tk_wrong _ h]

/-- what was not there at first may be written -/
theorem grow_new {w wr W : World} {B N : Nat} (g : w.grownBy wr (some B)) (hb : Below N wr W) (hN : w.heap.size ≤ N) : w.grownBy W (some B) :=
  ⟨hb.os.trans g.os, hb.tape.trans g.tape, hb.output.trans g.output, Nat.le_trans g.size hb.size, fun k hk hne => (hb.block k (by omega)).trans (g.block k hk hne)⟩
def valW (k : Nat) : Value := .agg #[.int .u8 k, .string ⟨#[]⟩, .slice none 0 0, .slice none 0 0]

set_option maxRecDepth 100000 in
set_option maxHeartbeats 1000000 in
theorem word_any (s x : ByteArray) (p d k B : Nat) (w : World) (hs : s.size ≤ 1000000000000) (hx : x.size ≤ 1000) (hx0 : ∀ i, i < x.size → 0 < (x.get! i).toNat) (hp : p ≤ s.size) (h : Rd s p d B w) :
    Calls Tryd.prog 119 #[.pointer (some ⟨B, 0, none⟩), .string x, .int .u8 k] w (Out (valW k) s (J.al s x x.size (p, 0)) d B w) := by
  have hal := (Below.refl w.heap.size w).alloc (Nat.le_refl _) (.cells #[.int .u8 0, .string ⟨#[]⟩, .slice none 0 0, .slice none 0 0] 25)
  have hn := heap_alloc_new w (.cells #[.int .u8 0, .string ⟨#[]⟩, .slice none 0 0, .slice none 0 0] 25)
  have hB := h.lt
  go_enter Tryd.func119, Tryd.ntmps119
  go_wp2_with fail
  generalize w.alloc (.cells #[.int .u8 0, .string ⟨#[]⟩, .slice none 0 0, .slice none 0 0] 25) = W0 at *
  have H0 := Lib.hid (And.intro (h.below hal) (And.intro (grow_below hal (some B)) (show Blk4 W0 w.heap.size 25 _ _ _ _ from hn)))
  clear hal hn h
  go_loopw [10] (fun i wr => ∃ j : Nat, i = .int .i64 j ∧ j ≤ x.size ∧ Hid (∃ q, q ≤ s.size ∧ Rd s q d B wr ∧ w.grownBy wr (some B) ∧ Blk4 wr w.heap.size 25 (.int .u8 0) (.string ⟨#[]⟩) (.slice none 0 0) (.slice none 0 0) ∧ J.al s x j (p, 0) = (q, 0))) (fun i _ => x.size - (RowKit.intOf i).toNat)
  case atStart => exact ⟨0, rfl, Nat.zero_le _, Lib.hid ⟨p, hp, H0.out.1, H0.out.2.1, H0.out.2.2, rfl⟩⟩
  case round =>
    obtain ⟨j, rfl, hj, HJ⟩ := hrel
    obtain ⟨q, hq, h1, g1, b1, a1⟩ := HJ.out
    have HA := Lib.hid a1
    have HB := Lib.hid b1
    clear HJ a1 b1
    by_cases hlt : j < x.size
    · have hx1 := fun c => one_byte x j hlt c
      have hstep : J.al s x (j + 1) (p, 0) = J.tk s q 0 (x.get! j).toNat := by
        show J.tk s (J.al s x j (p, 0)).1 (J.al s x j (p, 0)).2 _ = _
        rw [HA.out]
      have hsk := J.sk_is (s := s) q (hx0 j hlt) hx1
      have HL := Lib.hid hlt
      have e1 : j + 1 ≤ x.size := hlt
      cases hb : J.is s q 0 (x.get! j).toNat
      · have ht := take_no s (x.extract j (j + 1)) q d B wr hs hq h1 (by rw [hsk, hb])
        have HE := Lib.hid (hstep.trans (J.tk_no hb))
        clear hsk hb hstep hx1
        go_wp2_with fail
        refine ht.mono ?_
        rintro en w2 ⟨rfl, h2, g2⟩
        have HF := Lib.hid (And.intro h2 (grow_trans g1 g2))
        clear h2 g2
        go_wp2_with fail
        have hfin := al_stay s x p (j + 1) (x.size - (j + 1)) (by rw [HE.out]; exact (show ¬ 30 = 0 by decide))
        rw [show j + 1 + (x.size - (j + 1)) = x.size by omega, HE.out] at hfin
        rw [hfin]
        exact ⟨rfl, out_no ⟨rfl, HF.out⟩⟩
      · have ht := take_yes s (x.extract j (j + 1)) q d B wr hs hq h1 (by rw [hsk, hb])
        have HE := Lib.hid (hstep.trans (J.tk_yes hb))
        have hq2 := (J.of_is hb).2.1
        clear hsk hb hstep hx1
        generalize J.pk s q = c at *
        go_wp2_with fail
        refine ht.mono ?_
        rintro en w2 ⟨rfl, h2, g2⟩
        have HN := Lib.hid (show ∃ q, q ≤ s.size ∧ Rd s q d B w2 ∧ w.grownBy w2 (some B) ∧ Blk4 w2 w.heap.size 25 (.int .u8 0) (.string ⟨#[]⟩) (.slice none 0 0) (.slice none 0 0) ∧ J.al s x (j + 1) (p, 0) = (q, 0) from
          ⟨q + 1, hq2, h2, grow_trans g1 g2, HB.out.same (g2.block _ HB.out.lt (fun e => by cases e; omega)), HE.out⟩)
        clear h2 g2 ht g1 h1
        go_wp2_with fail
        go_roundw
        case rel => exact ⟨j + 1, by go_num, HL.out, HN⟩
        case measure => have := HL.out; simp [RowKit.intOf]; omega
    · obtain rfl : j = x.size := by omega
      obtain ⟨d0, d1, d2, d3⟩ := HB.out.box
      have f0 := HB.out.free 0
      have f1 := HB.out.free 1
      have f2 := HB.out.free 2
      have f3 := HB.out.free 3
      go_wp2_with fail
      obtain ⟨e1, e2, e3⟩ := HB.out.all (.int .u8 k) (.string ⟨#[]⟩) (.slice none 0 0) (.slice none 0 0)
      have e4 := set4_else wr w.heap.size (.int .u8 k) (.string ⟨#[]⟩) (.slice none 0 0) (.slice none 0 0)
      generalize (((wr.setCell ⟨w.heap.size, 0, none⟩ (.int .u8 k)).setCell ⟨w.heap.size, 1, none⟩ (.string ⟨#[]⟩)).setCell ⟨w.heap.size, 2, none⟩ (.slice none 0 0)).setCell ⟨w.heap.size, 3, none⟩ (.slice none 0 0) = W' at *
      obtain ⟨x0, x1, x2, x3⟩ := e1.box
      refine bodyPost_ret (v := valW k) (by simp [results, Tryd.results119, go_sem, x0, x1, x2, x3, valW]) rfl ?_
      rw [HA.out]
      exact out_ok ⟨rfl, h1.same (e4 B (by omega)), grow_new g1 (e3 _ (Nat.le_refl _)) (Nat.le_refl _)⟩

set_option maxRecDepth 100000 in
set_option maxHeartbeats 400000 in
theorem end_any (s : ByteArray) (p d B : Nat) (w : World) (hs : s.size ≤ 1000000000000) (hp : p ≤ s.size) (h : Rd s p d B w) :
    Calls Tryd.prog 71 #[.pointer (some ⟨B, 0, none⟩)] w (Out (.tuple #[]) s (if p < s.size then (p, 30) else (p, 0)) d B w) := by
  have c0 := h.c0
  have c1 := h.c1
  by_cases hlt : p < s.size
  · rw [if_pos hlt]
    go_enter Tryd.func71, Tryd.ntmps71
    go_wp2_with fail
    go_quiet (fail)
    go_wp2_with fail
    exact ⟨rfl, out_no ⟨rfl, ⟨_, h⟩, grow_drewN _ _ _⟩⟩
  · rw [if_neg hlt]
    go_enter Tryd.func71, Tryd.ntmps71
    go_wp2_with fail
    go_quiet (fail)
    go_wp2_with fail
    go_end0
    exact out_ok ⟨rfl, h, grow_drewN _ _ _⟩
end Go.Proofs.YtdgmbmoaeoakpaaDoor

namespace Go.Proofs.YtdgmbmoaeoakpaaDoor
open Go Go.RowKit Go.Lib

def hxs : ByteArray := ⟨#[48, 49, 50, 51, 52, 53, 54, 55, 56, 57, 97, 98, 99, 100, 101, 102, 65, 66, 67, 68, 69, 70]⟩
theorem am_hxs (c : Nat) : J.am hxs c = decide (0 ≤ J.hv c) := by
  have e : ∀ n, n < 256 → (Nat.toUInt8 n).toNat = n := fun n h => Nat.mod_eq_of_lt h
  have e2 : J.am hxs c = decide (48 = c ∨ 49 = c ∨ 50 = c ∨ 51 = c ∨ 52 = c ∨ 53 = c ∨ 54 = c ∨ 55 = c ∨ 56 = c ∨ 57 = c ∨ 97 = c ∨ 98 = c ∨ 99 = c ∨ 100 = c ∨ 101 = c ∨ 102 = c ∨ 65 = c ∨ 66 = c ∨ 67 = c ∨ 68 = c ∨ 69 = c ∨ 70 = c) := by
    unfold J.am hxs
    simp only [List.any_cons, List.any_nil, Bool.or_false, Bool.decide_or]
    rfl
  rw [e2]
  refine decide_eq_decide.2 ?_
  unfold J.hv
  constructor
  · intro h
    split <;> (try split) <;> (try split) <;> omega
  · intro h
    split at h <;> (try split at h) <;> (try split at h) <;> omega
theorem sk_hxs (s : ByteArray) (p : Nat) : J.sk s hxs p = decide (p < s.size ∧ 0 ≤ J.hv (s.get! p).toNat) := by
  unfold J.sk J.pk
  rw [am_hxs]
  by_cases h : p < s.size
  · rw [if_pos h]; exact decide_eq_decide.2 ⟨fun e => ⟨h, e⟩, fun e => e.2⟩
  · rw [if_neg h]; exact decide_eq_decide.2 ⟨fun e => absurd e (by decide), fun e => absurd e.1 h⟩
/-- the number of k digits that stand there -/
def hm (s : ByteArray) (p : Nat) : Nat → Nat
  | 0 => 0
  | k + 1 => hm s p k * 16 + (J.hv (s.get! (p + k)).toNat).toNat
theorem get_part {s : ByteArray} {p e i : Nat} (h : p + i < e) (he : e ≤ s.size) : (s.extract p e).get! i = s.get! (p + i) := by
  rw [J.at_get (show i < (s.extract p e).size by rw [ByteArray.size_extract]; omega), J.at_get (show p + i < s.size by omega)]
  exact ByteArray.getElem_extract ..
theorem hm_hn (s : ByteArray) (p : Nat) (he : p + 4 ≤ s.size) : ∀ k, k ≤ 4 → hn (s.extract p (p + 4)) k = hm s p k
  | 0, _ => rfl
  | k + 1, h => by
    show hn _ k * 16 + _ = hm s p k * 16 + _
    rw [hm_hn s p he k (by omega), get_part (by omega) he]
/-- k digits stand there -/
def Hx (s : ByteArray) (p k : Nat) : Prop := p + k ≤ s.size ∧ (∀ i, i < k → 0 ≤ J.hv (s.get! (p + i)).toNat) ∧ J.hxF s 4 p 0 = J.hxF s (4 - k) (p + k) (hm s p k)
theorem Hx.step {s : ByteArray} {p k : Nat} (h : Hx s p k) (hk : k < 4) (hb : J.sk s hxs (p + k) = true) : Hx s p (k + 1) := by
  rw [sk_hxs] at hb
  obtain ⟨h1, h2⟩ := of_decide_eq_true hb
  refine ⟨by omega, ?_, ?_⟩
  · intro i hi
    by_cases e : i = k
    · subst e; exact h2
    · exact h.2.1 i (by omega)
  · rw [h.2.2, show 4 - k = (4 - (k + 1)) + 1 by omega, J.hxF_step h1 h2]
    rfl
theorem Hx.wrong {s : ByteArray} {p k : Nat} (h : Hx s p k) (hk : k < 4) (hb : J.sk s hxs (p + k) = false) : J.hxF s 4 p 0 = (0, p + k, 30) := by
  rw [sk_hxs] at hb
  have h1 := of_decide_eq_false hb
  rw [h.2.2, show 4 - k = (4 - (k + 1)) + 1 by omega, J.hxF_wrong h1]

set_option maxRecDepth 100000 in
set_option maxHeartbeats 400000 in
theorem parsePub_any (t : ByteArray) (h4 : t.size = 4) (hd : ∀ i, i < 4 → 0 ≤ J.hv (t.get! i).toNat) (w : World) :
    Calls Tryd.prog 174 #[.string t, .int .i64 16, .int .i64 16] w fun e w' => e = .returned (.tuple #[.int .u64 ((hn t 4 : Nat) : Int), .nilIface]) ∧ Below w.heap.size w w' := by
  have hk := parse16_any t h4 hd w
  go_enter Tryd.func174, Tryd.ntmps174
  go_wp2_with fail
  refine hk.mono ?_
  rintro en w1 ⟨rfl, rfl⟩
  go_wp2_with fail
  go_ret2
  exact ⟨rfl, bytesWorld_below _ _ _⟩

set_option maxRecDepth 100000 in
set_option maxHeartbeats 1000000 in
theorem unit_any (s : ByteArray) (p d B : Nat) (w : World) (hs : s.size ≤ 1000000000000) (hp : p ≤ s.size) (h : Rd s p d B w) :
    Calls Tryd.prog 168 #[.pointer (some ⟨B, 0, none⟩)] w (Out (.int .i32 ((J.hxF s 4 p 0).1 : Nat)) s (J.hxF s 4 p 0).2 d B w) := by
  have c1 := h.c1
  go_enter Tryd.func168, Tryd.ntmps168
  go_wp2_with fail
  go_loopw [10] (fun i wr => ∃ j : Nat, i = .int .i64 j ∧ j ≤ 4 ∧ Hid (Rd s (p + j) d B wr ∧ w.grownBy wr (some B) ∧ Hx s p j)) (fun i _ => 4 - (RowKit.intOf i).toNat)
  case atStart => exact ⟨0, rfl, Nat.zero_le _, Lib.hid ⟨h, grow_drewN w 0 _, hp, fun i hi => absurd hi (Nat.not_lt_zero i), rfl⟩⟩
  case round =>
    obtain ⟨j, rfl, hj, HJ⟩ := hrel
    obtain ⟨h1, g1, x1⟩ := HJ.out
    by_cases hlt : j < 4
    · have HL := Lib.hid hlt
      cases hb : J.sk s hxs (p + j)
      · have ht := take_no s hxs (p + j) d B wr hs x1.1 h1 hb
        have HE := Lib.hid (x1.wrong hlt hb)
        clear hb x1 h1
        go_wp2_with fail
        refine ht.mono ?_
        rintro en w2 ⟨rfl, h2, g2⟩
        have HF := Lib.hid (And.intro h2 (grow_trans g1 g2))
        clear h2 g2
        go_wp2_with fail
        rw [HE.out]
        exact ⟨rfl, out_no ⟨rfl, HF.out⟩⟩
      · have ht := take_yes s hxs (p + j) d B wr hs x1.1 h1 hb
        have HX := Lib.hid (x1.step hlt hb)
        clear hb x1 h1
        generalize J.pk s (p + j) = c at *
        go_wp2_with fail
        refine ht.mono ?_
        rintro en w2 ⟨rfl, h2, g2⟩
        have HN := Lib.hid (show Rd s (p + (j + 1)) d B w2 ∧ w.grownBy w2 (some B) ∧ Hx s p (j + 1) from ⟨h2, grow_trans g1 g2, HX.out⟩)
        clear h2 g2 ht g1
        go_wp2_with fail
        go_roundw
        case rel => exact ⟨j + 1, by go_num, HL.out, HN⟩
        case measure => have := HL.out; simp [RowKit.intOf]; omega
    · obtain rfl : j = 4 := by omega
      have c0 := h1.c0
      have c4 := h1.c1
      have hp4 := x1.1
      have hsz : (s.extract p (p + 4)).size = 4 := by rw [ByteArray.size_extract]; omega
      have hc := fun W => parsePub_any (s.extract p (p + 4)) hsz (fun i hi => by rw [get_part (by omega) hp4]; exact x1.2.1 i hi) W
      rw [hm_hn s p hp4 4 (Nat.le_refl _)] at hc
      have HX := Lib.hid (show J.hxF s 4 p 0 = (hm s p 4, p + 4, 0) from x1.2.2)
      have hn4 : hm s p 4 < 65536 := by have := hn_lt (s.extract p (p + 4)) 4; rw [hm_hn s p hp4 4 (Nat.le_refl _)] at this; exact this
      have hpp : p ≤ p + 4 := Nat.le_add_right _ _
      generalize hm s p 4 = n at *
      generalize p + 4 = p4 at *
      clear hsz
      have h1' := h1
      have KEEP := Lib.hid (show ∀ w', Below wr.heap.size wr w' → w'.cell? ⟨B, 0, none⟩ = some (.string s) ∧ w'.cell? ⟨B, 1, none⟩ = some (.int .i64 p4) from fun w' hB => ⟨bcellv hB c0, bcellv hB c4⟩)
      clear x1
      go_wp2_with fail
      go_region_held3 (fun w' => w'.cell? ⟨B, 0, none⟩ = some (.string s) ∧ w'.cell? ⟨B, 1, none⟩ = some (.int .i64 p4))
        (first | exact KEEP.out _ hB2.out | exact KEEP.out _ (Below.refl _ _).drew | exact KEEP.out _ (Below.refl _ _))
        (first | (go_at_call 174; (with_reducible refine (hc _).mono ?_); rintro e w8 ⟨rfl, hB1⟩; have hB2 := Lib.hid ((Below.refl wr.heap.size wr).drew.trans hB1); clear hB1))
      go_wp2_with fail
      go_ret
      rw [HX.out]
      exact out_ok ⟨rfl, h1.below hB2.out, grow_trans g1 (grow_below hB2.out _)⟩
end Go.Proofs.YtdgmbmoaeoakpaaDoor

namespace Go.Proofs.YtdgmbmoaeoakpaaDoor
open Go Go.RowKit Go.Lib

def escs : ByteArray := ⟨#[34, 92, 47, 98, 102, 110, 114, 116, 117]⟩
theorem am_escs (c : Nat) : J.am escs c = decide (34 = c ∨ 92 = c ∨ 47 = c ∨ 98 = c ∨ 102 = c ∨ 110 = c ∨ 114 = c ∨ 116 = c ∨ 117 = c) := by
  unfold J.am escs
  simp only [List.any_cons, List.any_nil, Bool.or_false, Bool.decide_or]
  rfl
theorem es_of {s : ByteArray} {p k c : Nat} (hp : p < s.size) (hc : (s.get! p).toNat = c) (hk : k < 8) (hs : J.sgn k = c) : J.es s p = (J.unt k, p + 1, 0) := by
  refine J.es_sign hk (J.is_yes hp (by rw [hs, hc])) (fun j hj => J.is_other 0 ?_)
  rw [hc, ← hs]
  have h1 : ∀ a, a < 8 → ∀ b, b < a → ¬ J.sgn a = J.sgn b := by decide
  exact h1 k hk j hj
theorem es_u {s : ByteArray} {p : Nat} (hp : p < s.size) (hc : (s.get! p).toNat = 117) : J.es s p = J.hxF s 4 (p + 1) 0 := by
  rw [J.es_none (fun j hj => J.is_other 0 ?_), if_pos (J.is_yes hp hc)]
  rw [hc]
  have h1 : ∀ a, a < 8 → ¬ 117 = J.sgn a := by decide
  exact h1 j hj
theorem es_no {s : ByteArray} {p : Nat} (h : J.sk s escs p = false) : J.es s p = (0, p, 30) := by
  have hn : ∀ c, J.am escs c = true → 0 < c → J.is s p 0 c = false := by
    intro c hc h0
    unfold J.sk J.pk at h
    unfold J.is
    refine decide_eq_false (fun e => ?_)
    rw [if_pos e.2.1, e.2.2, hc] at h
    exact absurd h (by decide)
  rw [J.es_none (fun j hj => ?_), if_neg (by rw [hn 117 (by decide) (by decide)]; decide)]
  have h1 : ∀ a, a < 8 → J.am escs (J.sgn a) = true ∧ 0 < J.sgn a := by decide
  exact hn _ (h1 j hj).1 (h1 j hj).2

set_option maxRecDepth 100000 in
set_option maxHeartbeats 1000000 in
theorem escape_any (s : ByteArray) (p d B : Nat) (w : World) (hs : s.size ≤ 1000000000000) (hp : p ≤ s.size) (h : Rd s p d B w) :
    Calls Tryd.prog 156 #[.pointer (some ⟨B, 0, none⟩)] w (Out (.int .i32 ((J.es s p).1 : Nat)) s (J.es s p).2 d B w) := by
  cases hb : J.sk s escs p
  · have ht := take_no s escs p d B w hs hp h hb
    rw [es_no hb]
    clear hb
    go_enter Tryd.func156, Tryd.ntmps156
    go_wp2_with fail
    refine ht.mono ?_
    rintro en w1 ⟨rfl, h1, g1⟩
    exact ⟨rfl, out_no ⟨rfl, h1, g1⟩⟩
  · have ht := take_yes s escs p d B w hs hp h hb
    have hlt := J.sk_lt (show J.am escs 0 = false by decide) hb
    have hpk : J.pk s p = (s.get! p).toNat := if_pos hlt
    have hu := fun W hW => unit_any s (p + 1) d B W hs hlt hW
    unfold J.sk at hb
    rw [am_escs] at hb
    have hb := of_decide_eq_true hb
    obtain ⟨c, hc⟩ : ∃ c, c = J.pk s p := ⟨_, rfl⟩
    rw [← hc] at ht hb hpk
    clear hc
    rcases hb with rfl | rfl | rfl | rfl | rfl | rfl | rfl | rfl | rfl
    case inr.inr.inr.inr.inr.inr.inr.inr =>
      rw [es_u hlt hpk.symm]
      go_enter Tryd.func156, Tryd.ntmps156
      go_wp2_with fail
      refine ht.mono ?_
      rintro en w1 ⟨rfl, h1, g1⟩
      have hu := hu w1 h1
      have HG := Lib.hid g1
      clear h1 g1 hpk
      generalize J.hxF s 4 (p + 1) 0 = x at *
      obtain ⟨n, q, e⟩ := x
      go_wp2_with fail
      refine hu.mono ?_
      rintro en w2 ho
      unfold Out at ho
      split at ho
      · rename_i h0
        obtain ⟨rfl, h2, g2⟩ := ho
        obtain rfl : e = 0 := h0
        have HF := Lib.hid (And.intro h2 (grow_trans HG.out g2))
        clear h2 g2
        go_wp2_with fail
        go_ret
        exact out_ok ⟨rfl, HF.out⟩
      · rename_i h0
        obtain ⟨rfl, h2, g2⟩ := ho
        refine ⟨rfl, ?_⟩
        unfold Out
        rw [if_neg h0]
        exact ⟨rfl, h2, grow_trans HG.out g2⟩
    all_goals
      first
        | rw [es_of (k := 0) hlt hpk.symm (by decide) rfl]
        | rw [es_of (k := 1) hlt hpk.symm (by decide) rfl]
        | rw [es_of (k := 2) hlt hpk.symm (by decide) rfl]
        | rw [es_of (k := 3) hlt hpk.symm (by decide) rfl]
        | rw [es_of (k := 4) hlt hpk.symm (by decide) rfl]
        | rw [es_of (k := 5) hlt hpk.symm (by decide) rfl]
        | rw [es_of (k := 6) hlt hpk.symm (by decide) rfl]
        | rw [es_of (k := 7) hlt hpk.symm (by decide) rfl]
      clear hpk hu
      go_enter Tryd.func156, Tryd.ntmps156
      go_wp2_with fail
      refine ht.mono ?_
      rintro en w1 ⟨rfl, h1, g1⟩
      go_wp2_with fail
      go_ret
      exact out_ok ⟨rfl, h1, g1⟩

set_option maxRecDepth 100000 in
set_option maxHeartbeats 400000 in
theorem within_any (c a b : Int) (w : World) :
    Calls Tryd.prog 155 #[.int .i32 c, .int .i32 a, .int .i32 b] w fun en w' => en = .returned (.bool (decide (a ≤ c) && decide (c ≤ b))) ∧ w = w' := by
  by_cases h1 : a ≤ c
  · have HE := Lib.hid (show (decide (a ≤ c) && decide (c ≤ b)) = decide (c ≤ b) by rw [decide_eq_true h1]; rfl)
    go_enter Tryd.func155, Tryd.ntmps155
    go_wp2_with fail
    go_ret
    rw [HE.out]
    exact ⟨rfl, rfl⟩
  · have HE := Lib.hid (show (decide (a ≤ c) && decide (c ≤ b)) = false by rw [decide_eq_false h1]; rfl)
    go_enter Tryd.func155, Tryd.ntmps155
    go_wp2_with fail
    go_ret
    rw [HE.out]
    exact ⟨rfl, rfl⟩
end Go.Proofs.YtdgmbmoaeoakpaaDoor
