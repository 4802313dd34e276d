/- Bytes are handed over in pieces, a slice whatever its room. Conditions: such lengths as memory bears. -/
import Derived.Test.YtmaclplhphfkiaaDoorFrOpen
namespace Go.Proofs.YtmaclplhphfkiaaDoor
open Go Go.RowKit Go.Lib F

set_option maxRecDepth 100000 in
set_option maxHeartbeats 2000000 in
theorem cut_wide (R g off cap : Nat) (st : St) (l : Bs) (out : List Bs) (v : Value) (ps : List Int) (A : Nat → Prop) (w : World) (hR : RdAt w A R st out) (hst : st.ok) (hl : l.length ≤ cap) (hcap : cap ≤ 9223372036854775807) (hlb : l.length ≤ 1000000000) (ho : out.length ≤ 1000000000)
    (hA8 : At8 w g off l) (hg : ¬ A g) (hE : Env A w) (hP : PcI A w v ps) (hpl : ps.length ≤ 1000000) (hpb : ∀ p ∈ ps, p ≤ 9223372036854775807) :
    Calls Tryd.prog 27 #[.pointer (some ⟨R, 0, none⟩), .slice (some ⟨g, off, none⟩) l.length cap, v] w (CutOut A R (run (st, out) l) w) := by
  obtain ⟨z, cp, rfl, hcp, hP⟩ := hP
  have H0 := Lib.hid (show FdAt A R l (st, out) 0 w w from ⟨Alt.refl _ _, RdAt.imp (A := A) hR fun b _ h => .inl h⟩)
  have HE := Lib.hid hE
  have HP := Lib.hid hP
  clear hR hE hP
  go_enter Tryd.func27, Tryd.ntmps27
  go_wp2_with fail
  go_loopw [1, 6] (fun p i wr => ∃ j k : Nat, j ≤ l.length ∧ i = .int .i64 k ∧ k ≤ ps.length + 1 ∧ (j < l.length → k ≤ ps.length) ∧ Hid (FdAt A R l (st, out) j w wr) ∧ Hid (RestIs g off cap l j p)) (fun p i _ => slLen p + (ps.length - (RowKit.intOf i).toNat))
  case atStart => exact ⟨0, 0, Nat.zero_le _, rfl, Nat.zero_le _, fun _ => Nat.zero_le _, H0, Lib.hid ⟨off, .inr ⟨rfl, fun _ => rfl⟩⟩⟩
  case round =>
    obtain ⟨j, k, hj, rfl, hk1, hk2, HF, HRe⟩ := hrel
    by_cases hlt : j < l.length
    · have HS := Lib.hid (slLen_rest HRe.out)
      obtain ⟨o2, ⟨-, hbad⟩ | ⟨rfl, ho2⟩⟩ := HRe.out
      · omega
      have ho2 := ho2 hlt
      subst ho2
      have hk3 := hk2 hlt
      have hA8r := (hA8.keep HF.out.1 (fun _ => hg)).drop j
      have hlne : l ≠ [] := fun e => by subst e; simp at hlt
      have hgl := hA8.lt hlne
      have hgr : ¬ Grow A w g := fun h => by rcases h with h | h; exact hg h; omega
      have hok := run_ok (st, out) (l.take j) hst
      have hlo := run_len2 st out (l.take j)
      have hlt2 : (l.take j).length ≤ 1000000000 := by rw [List.length_take]; omega
      have HEr := Lib.hid (HE.out.alt HF.out.1)
      have HN := Lib.hid (fun m e w1 (h : FedOut (Grow A w) R (run (run (st, out) (l.take j)) ((l.drop j).take m)) wr e w1) => cut_next HF.out h)
      have hRr := HF.out.2
      have hfeed := fun m (hm : m ≤ l.length - j) => feed_gen R g (off + j) m (run (st, out) (l.take j)).1 ((l.drop j).take m) (run (st, out) (l.take j)).2 (Grow A w) wr hRr hok (by rw [List.length_take]; omega) (by omega) (by rw [List.length_take]; omega) (by omega) (hA8r.take m) (fun _ => hgr) HEr.out
      have hlen := fun m (hm : m ≤ l.length - j) => show ((l.drop j).take m).length = m by rw [List.length_take, List.length_drop]; omega
      have HFD := Lib.hid (fun m (hm : m ≤ l.length - j) => show Calls Tryd.prog 21 #[.pointer (some ⟨R, 0, none⟩), .slice (some ⟨g, off + j, none⟩) m m] wr (FedOut (Grow A w) R (run (run (st, out) (l.take j)) ((l.drop j).take m)) wr) by
        have h := hfeed m hm
        rw [hlen m hm] at h
        exact h)
      have hnz : ((l.length - j : Nat) : Int) > 0 := by omega
      clear hfeed hlen hRr hlo hlt2 hok hA8r H0 HRe
      by_cases hkp : k < ps.length
      · obtain ⟨g2, q2, rfl, hAg2, hc2⟩ := HP.out k _ (List.getElem?_eq_getElem hkp)
        have hc2r : wr.cell? ⟨g2, q2 + k, none⟩ = _ := cell_block hc2 (HF.out.1.block _ (World.block_lt_of_cell? w _ hc2) hAg2)
        have hpk := hpb _ (List.getElem_mem hkp)
        generalize ps[k]'hkp = p at *
        obtain ⟨m, hm⟩ : ∃ m : Nat, min ((l.length - j : Nat) : Int) (max p 0) = (m : Int) := ⟨(min ((l.length - j : Nat) : Int) (max p 0)).toNat, by omega⟩
        have hmle : m ≤ l.length - j := by omega
        have hf := HFD.out m hmle
        have hkl : (k : Int) < (ps.length : Int) := by omega
        have hm2 : (m : Int) ≤ ((l.length - j : Nat) : Int) := by omega
        have hm3 : (m : Int) ≤ ((cap - j : Nat) : Int) := by omega
        clear hpk hc2
        by_cases hcm : cap - j = m
        · have hRC0 := rest_cut (g := g) (off := off) hmle hcm hl
          rw [show cap - j - m = 0 by omega] at hRC0
          have hRC := Lib.hid hRC0
          clear hRC0
          go_wp2_with fail
          refine hf.mono ?_
          rintro e w1 hr
          obtain ⟨⟨v', rfl⟩, hfd⟩ := HN.out m _ _ hr
          have HF2 := Lib.hid hfd
          clear hr hfd hf
          go_wp2_with fail
          go_roundw
          case rel => exact ⟨j + m, k + 1, by omega, by go_num, by omega, fun _ => by omega, HF2, hRC⟩
          case measure => simp [RowKit.intOf, slLen]; omega
        · have hRC := Lib.hid (rest_cut2 (g := g) (off := off) (cap := cap) (j := j) (m := m) (l := l))
          go_wp2_with fail
          refine hf.mono ?_
          rintro e w1 hr
          obtain ⟨⟨v', rfl⟩, hfd⟩ := HN.out m _ _ hr
          have HF2 := Lib.hid hfd
          clear hr hfd hf
          go_wp2_with fail
          go_roundw
          case rel => exact ⟨j + m, k + 1, by omega, by go_num, by omega, fun _ => by omega, HF2, hRC⟩
          case measure => simp [RowKit.intOf, slLen]; omega
      · have hf := HFD.out (l.length - j) (Nat.le_refl _)
        have hkl : ¬ (k : Int) < (ps.length : Int) := by omega
        have hm3 : l.length - j ≤ cap - j := by omega
        by_cases hcm : cap - j = l.length - j
        · have hRC0 := rest_cut (g := g) (off := off) (Nat.le_refl _) hcm hl
          rw [show cap - j - (l.length - j) = 0 by omega, Nat.sub_self] at hRC0
          have hRC := Lib.hid hRC0
          clear hRC0
          go_wp2_with fail
          refine hf.mono ?_
          rintro e w1 hr
          obtain ⟨⟨v', rfl⟩, hfd⟩ := HN.out _ _ _ hr
          have HF2 := Lib.hid hfd
          clear hr hfd hf
          go_wp2_with fail
          go_roundw
          case rel => exact ⟨j + (l.length - j), k + 1, by omega, by go_num, by omega, fun _ => by omega, HF2, hRC⟩
          case measure => simp [RowKit.intOf, slLen]; omega
        · have hRC0 := rest_cut2 (g := g) (off := off) (cap := cap) (j := j) (m := l.length - j) (l := l)
          rw [Nat.sub_self] at hRC0
          have hRC := Lib.hid hRC0
          clear hRC0
          go_wp2_with fail
          refine hf.mono ?_
          rintro e w1 hr
          obtain ⟨⟨v', rfl⟩, hfd⟩ := HN.out _ _ _ hr
          have HF2 := Lib.hid hfd
          clear hr hfd hf
          go_wp2_with fail
          go_roundw
          case rel => exact ⟨j + (l.length - j), k + 1, by omega, by go_num, by omega, fun _ => by omega, HF2, hRC⟩
          case measure => simp [RowKit.intOf, slLen]; omega
    · obtain rfl : j = l.length := by omega
      obtain ⟨hA, hRr⟩ := HF.out
      rw [List.take_length] at hRr
      have HX := Lib.hid (And.intro hA hRr)
      have hz0 : l.length - l.length = 0 := Nat.sub_self _
      obtain ⟨o2, ⟨rfl, -⟩ | ⟨rfl, -⟩⟩ := HRe.out
      all_goals
        clear hA hA8 HRe hRr
        try rw [hz0]
        go_wp2_with fail
        go_end0
        exact ⟨rfl, HX.out⟩
set_option maxRecDepth 100000 in
set_option maxHeartbeats 400000 in
theorem cut_nil (R : Nat) (v : Value) (w : World) : Calls Tryd.prog 27 #[.pointer (some ⟨R, 0, none⟩), .slice none 0 0, v] w (Stay (.tuple #[]) w) := by
  go_enter Tryd.func27, Tryd.ntmps27
  go_wp2_with fail
  go_loopw [1] (fun v wr => v = .slice none 0 0 ∧ wr = w) (fun _ _ => 0)
  case atStart => exact ⟨rfl, rfl⟩
  case round =>
    obtain ⟨rfl, rfl⟩ := hrel
    go_wp2_with fail
    go_end0
    exact ⟨rfl, rfl⟩
theorem cut_tail (R : Nat) (u : Value) (st : St) (l : Bs) (out : List Bs) (v : Value) (ps : List Int) (A : Nat → Prop) (w : World) (hR : RdAt w A R st out) (hst : st.ok) (hT : Tail w 5 u (c8 l)) (hg : ∀ b, u.ownBlock = some b → ¬ A b) (hlb : l.length ≤ 1000000000) (ho : out.length ≤ 1000000000)
    (hE : Env A w) (hP : PcI A w v ps) (hpl : ps.length ≤ 1000000) (hpb : ∀ p ∈ ps, p ≤ 9223372036854775807) :
    Calls Tryd.prog 27 #[.pointer (some ⟨R, 0, none⟩), u, v] w (CutOut A R (run (st, out) l) w) := by
  rcases hT with ⟨rfl, hx⟩ | ⟨g, off, cap, cur, rfl, hh, h1, h2, h3, h4⟩
  · have : l = [] := by cases l with | nil => rfl | cons _ _ => cases hx
    subst this
    refine (cut_nil R v w).mono fun e w' h => ?_
    obtain ⟨he, rfl⟩ := h
    exact ⟨he, Alt.refl _ _, hR.imp fun b _ h => .inl h⟩
  · rw [c8_len] at h1 ⊢
    exact cut_wide R g off cap st l out v ps A w hR hst h1 (by unfold maxLen at h2; omega) hlb ho (fun j x hj => by
      rw [cell_of_row w g (off + j) cur 5 (0, 0) hh]
      exact h4 j _ (c8_at hj)) (hg g rfl) hE hP hpl hpb
end Go.Proofs.YtmaclplhphfkiaaDoor
