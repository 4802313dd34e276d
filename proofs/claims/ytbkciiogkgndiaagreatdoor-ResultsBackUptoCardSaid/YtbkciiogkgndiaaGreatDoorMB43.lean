/- Is there more than is gone through? The statements' own great. Conditions: slices of at most 2^20 elements each. -/
import Derived.Test.YtbkciiogkgndiaaGreatDoorMB02
import Derived.Test.YtbkciiogkgndiaaGreatDoorMB42
import Derived.Test.YtbkciiogkgndiaaGreatDoorMB37
namespace Go.Proofs.YtbkciiogkgndiaaGreatDoor
open Go Go.RowKit Go.Lib

/-- what is known where there is not too much -/
def Few (n0 n1 n2 n3 : Nat) (L1 L2 : Nat → Nat) : Prop := n0 + n1 + n2 + n3 ≤ 5000 ∧ n1 + n3 ≤ 900 ∧ (∀ j, j < n1 → L1 j ≤ 5000) ∧ ∀ j, j < n3 → L2 j ≤ 300
def GrIs (n0 n1 n2 n3 : Nat) (L1 L2 : Nat → Nat) (w : World) (e : Ending) (w' : World) : Prop := ∃ ok : Bool, e = .returned (.bool ok) ∧ w' = w ∧ (ok = false → Few n0 n1 n2 n3 L1 L2)
/-- so far -/
structure GrA (S : Int) (L : Nat → Nat) (i : Nat) (s : Int) : Prop where
  lo : S ≤ s
  hi : s ≤ S + 1048576 * (i : Int)
  all : ∀ j, j < i → ((L j : Nat) : Int) ≤ s
theorem GrA.step {S : Int} {L : Nat → Nat} {i : Nat} {s : Int} (h : GrA S L i s) (hS : 0 ≤ S) (hL : L i ≤ 1048576) : GrA S L (i + 1) (s + (L i : Int)) := by
  have h1 := h.lo
  have h2 := h.hi
  refine ⟨by omega, by have : ((i + 1 : Nat) : Int) = (i : Int) + 1 := by omega
                       rw [this]; omega, fun j hj => ?_⟩
  by_cases e : j = i
  · subst e; omega
  · have := h.all j (by omega); omega
structure GrB (S : Int) (L : Nat → Nat) (i : Nat) (s : Int) : Prop where
  lo : S ≤ s
  hi : s ≤ S + 300 * (i : Int)
  all : ∀ j, j < i → L j ≤ 300
theorem GrB.step {S : Int} {L : Nat → Nat} {i : Nat} {s : Int} (h : GrB S L i s) (hL : L i ≤ 300) : GrB S L (i + 1) (s + (L i : Int)) := by
  have h1 := h.lo
  have h2 := h.hi
  refine ⟨by omega, by have : ((i + 1 : Nat) : Int) = (i : Int) + 1 := by omega
                       rw [this]; omega, fun j hj => ?_⟩
  by_cases e : j = i
  · subst e; exact hL
  · exact h.all j (by omega)
def SameB (w w' : World) : Prop := w = w'
set_option maxRecDepth 100000 in
set_option maxHeartbeats 4000000 in
theorem great8_any (p0 p1 p2 p3 : Option Addr) (n0 n1 n2 n3 c0 c1 c2 c3 : Nat) (L1 L2 : Nat → Nat) (w : World) (h0 : n0 ≤ 1048576) (h1 : n1 ≤ 1048576) (h2 : n2 ≤ 1048576) (h3 : n3 ≤ 1048576)
    (hE1 : ∀ i, i < n1 → ∃ b o q c, p1 = some ⟨b, o, none⟩ ∧ w.cell? ⟨b, o + i * 3 + 2, none⟩ = some (.slice q (L1 i) c) ∧ L1 i ≤ 1048576)
    (hE2 : ∀ i, i < n3 → ∃ b o q c, p3 = some ⟨b, o, none⟩ ∧ w.cell? ⟨b, o + i, none⟩ = some (.slice q (L2 i) c) ∧ L2 i ≤ 1048576) :
    Calls Tryz.prog 46 #[.slice p0 n0 c0, .slice p1 n1 c1, .slice p2 n2 c2, .slice p3 n3 c3] w (GrIs n0 n1 n2 n3 L1 L2 w) := by
  have HE1 := Lib.hid hE1
  have HE2 := Lib.hid hE2
  have HZ := Lib.hid (And.intro h0 (And.intro h1 (And.intro h2 h3)))
  clear hE1 hE2
  go_enter Tryz.func46, Tryz.ntmps46
  go_wp2_with fail
  go_loopw [9, 10] (fun p q wr => ∃ (i : Nat) (s : Int), p = .int .i64 s ∧ q = .int .i64 (i : Int) ∧ i ≤ n1 ∧ i ≤ 1000 ∧ SameB w wr ∧ Hid (GrA ((n0 : Int) + (n2 : Int) + (n1 : Int) + (n3 : Int)) L1 i s)) (fun _ q _ => n1 - (RowKit.intOf q).toNat)
  case atStart => exact ⟨0, _, rfl, rfl, Nat.zero_le _, Nat.zero_le _, rfl, Lib.hid ⟨Int.le_refl _, by omega, fun j hj => (by cases hj)⟩⟩
  case round =>
    obtain ⟨i, s, rfl, rfl, hi, hi2, hw, HR⟩ := hrel
    obtain rfl : w = wr := hw
    have q1 := HR.out.lo
    have q2 := HR.out.hi
    by_cases hlt : i < n1 ∧ i < 1000
    · obtain ⟨hlt, hlk⟩ := hlt
      obtain ⟨b, o, q, c, rfl, hc, hL⟩ := HE1.out i hlt
      have HN := Lib.hid (HR.out.step (by omega) hL)
      have HL := Lib.hid (And.intro hlt hlk)
      have i1 : (0 : Int) ≤ (i : Int) := Int.natCast_nonneg i
      have i2 : (i : Int) < (n1 : Int) := by omega
      have i3 : (i : Int) < 1000 := by omega
      have s1 : s + (L1 i : Int) ≤ 1100000000 := by omega
      have s2 : 0 ≤ s := by omega
      generalize L1 i = m at *
      clear hlt hlk q1 q2 hi hi2
      go_wp2_with fail
      go_roundw
      case rel => exact ⟨i + 1, _, rfl, by go_num, by have := HL.out; omega, by have := HL.out; omega, rfl, HN⟩
      case measure => have := HL.out; simp [RowKit.intOf]; omega
    · have HX := Lib.hid (show ((n0 : Int) + (n2 : Int) + (n1 : Int) + (n3 : Int) ≤ s ∧ s ≤ 1100000000) ∧ (n1 ≤ 900 → ∀ j, j < n1 → ((L1 j : Nat) : Int) ≤ s) from ⟨⟨q1, by omega⟩, fun h j hj => HR.out.all j (by omega)⟩)
      have hex : (¬ (i : Int) < (n1 : Int)) ∨ ((i : Int) < (n1 : Int) ∧ ¬ (i : Int) < 1000) := by omega
      clear HR q1 q2 hi hi2 hlt
      rcases hex with ha | ⟨ha, hb⟩
      all_goals
        go_wp2_with fail
        go_loopw [9, 11] (fun p q wr => ∃ (i : Nat) (u : Int), p = .int .i64 u ∧ q = .int .i64 (i : Int) ∧ i ≤ n3 ∧ i ≤ 1000 ∧ SameB w wr ∧ Hid (GrB s L2 i u)) (fun _ q _ => n3 - (RowKit.intOf q).toNat)
        case atStart => exact ⟨0, _, rfl, rfl, Nat.zero_le _, Nat.zero_le _, rfl, Lib.hid ⟨Int.le_refl _, by omega, fun j hj => (by cases hj)⟩⟩
        case round =>
          obtain ⟨k, u, rfl, rfl, hk, hk2, hw, HR⟩ := hrel
          obtain rfl : w = wr := hw
          have q1 := HR.out.lo
          have q2 := HR.out.hi
          have q3 := HX.out.1
          by_cases hlt : k < n3 ∧ k < 1000
          · obtain ⟨hlt, hlk⟩ := hlt
            obtain ⟨b, o, q, c, rfl, hc, hL⟩ := HE2.out k hlt
            have HL := Lib.hid (And.intro hlt hlk)
            have i1 : (0 : Int) ≤ (k : Int) := Int.natCast_nonneg k
            have i2 : (k : Int) < (n3 : Int) := by omega
            have i3 : (k : Int) < 1000 := by omega
            by_cases h300 : L2 k ≤ 300
            · have HN := Lib.hid (HR.out.step h300)
              have s1 : u + (L2 k : Int) ≤ 1200000000 := by omega
              have s2 : 0 ≤ u := by omega
              generalize L2 k = m at *
              have s3 : (m : Int) ≤ 300 := by omega
              clear hlt hlk q1 q2 q3 hk hk2
              go_wp2_with fail
              go_roundw
              case rel => exact ⟨k + 1, _, rfl, by go_num, by have := HL.out; omega, by have := HL.out; omega, rfl, HN⟩
              case measure => have := HL.out; simp [RowKit.intOf]; omega
            · have s3 : ¬ ((L2 k : Nat) : Int) ≤ 300 := by omega
              have s4 : ((L2 k : Nat) : Int) > 300 := by omega
              generalize L2 k = m at *
              clear hlt hlk q1 q2 q3 hk hk2
              go_wp2_with fail
              go_ret
              exact ⟨true, rfl, rfl, fun h => by cases h⟩
          · have HY := Lib.hid (show s ≤ u ∧ (n3 ≤ 900 → ∀ j, j < n3 → L2 j ≤ 300) from ⟨q1, fun h j hj => HR.out.all j (by omega)⟩)
            have hex : (¬ (k : Int) < (n3 : Int)) ∨ ((k : Int) < (n3 : Int) ∧ ¬ (k : Int) < 1000) := by omega
            clear HR q1 q2 q3 hk hk2 hlt
            by_cases g1 : u > 5000
            · rcases hex with hc | ⟨hc, hd⟩
              all_goals
                go_wp2_with fail
                go_ret
                exact ⟨true, rfl, rfl, fun h => by cases h⟩
            · have HF := Lib.hid (show u ≤ 5000 by omega)
              by_cases g2 : (n1 : Int) + (n3 : Int) > 900
              · rcases hex with hc | ⟨hc, hd⟩
                all_goals
                  go_wp2_with fail
                  go_ret
                  exact ⟨true, rfl, rfl, fun h => by cases h⟩
              · have HG := Lib.hid (show n1 + n3 ≤ 900 by omega)
                rcases hex with hc | ⟨hc, hd⟩
                all_goals
                  go_wp2_with fail
                  go_ret
                  exact ⟨false, rfl, rfl, fun _ => ⟨by have := HF.out; have := HY.out.1; have := HX.out.1.1; omega, HG.out, fun j hj => by have := HF.out; have := HY.out.1; have := HX.out.2 (by have := HG.out; omega) j hj; omega, fun j hj => HY.out.2 (by have := HG.out; omega) j hj⟩⟩
end Go.Proofs.YtbkciiogkgndiaaGreatDoor

namespace Go.Proofs.YtbkciiogkgndiaaGreatDoor
open Go Go.RowKit Go.Lib

theorem srcI_sl {w : World} {v : Value} {li : List Int} (h : SrcI w v li) : ∃ p c, v = .slice p li.length c := by
  rcases h with ⟨rfl, p, c, rfl, _⟩ | ⟨b, o, c, rfl, _⟩
  · exact ⟨p, c, rfl⟩
  · exact ⟨_, c, rfl⟩
theorem srcI_n {w : World} {p : Option Addr} {n c : Nat} {li : List Int} (h : SrcI w (.slice p n c) li) : n = li.length := by
  obtain ⟨q, d, e⟩ := srcI_sl h
  cases e
  rfl
theorem srcI_all {w : World} {v : Value} {li : List Int} (h : SrcI w v li) : ∀ n ∈ li, I64 n := by
  rcases h with ⟨rfl, _⟩ | ⟨b, o, c, rfl, _, _, _, _, h⟩
  · exact fun n hn => by cases hn
  · exact fun n hn => h n hn
theorem srcR_n {w : World} {p : Option Addr} {n c : Nat} {l : List Rg} (h : SrcR w (.slice p n c) l) : n = l.length := by
  rcases h with ⟨rfl, p', c', e, _⟩ | ⟨b, o, c', e, _⟩
  · cases e; rfl
  · cases e; rfl
theorem srcR_all {w : World} {v : Value} {l : List Rg} (h : SrcR w v l) : ∀ r ∈ l, r.Ok := by
  rcases h with ⟨rfl, _⟩ | ⟨b, o, c, rfl, _, _, _, _, h⟩
  · exact fun n hn => by cases hn
  · exact h
section
variable {w : World} {α : Type} {f : α → List Value} {sz : Nat} {Q : α → Prop} {v : Value} {l : List α}
theorem src_sl (h : Src w f sz Q v l) : ∃ p c, v = .slice p l.length c ∧ c ≤ 9223372036854775807 ∧ l.length ≤ max l.length c ∧ (∀ e ∈ l, Q e) ∧ ∀ i e, l[i]? = some e → ∃ b o, p = some ⟨b, o, none⟩ ∧ b < w.heap.size ∧ ∀ k u, (f e)[k]? = some u → w.cell? ⟨b, o + i * sz + k, none⟩ = some u := by
  rcases h with ⟨rfl, p, c, rfl, hc⟩ | ⟨b, o, c, rfl, h1, h2, h3, h4, h5⟩
  · exact ⟨p, c, rfl, hc, Nat.zero_le _, (fun e he => by cases he), fun i e he => by simp at he⟩
  · exact ⟨_, c, rfl, h2, Nat.le_max_left _ _, h5, fun i e he => ⟨b, o, rfl, h3, h4 i e he⟩⟩
end
/-- the law's arguments, as they lie -/
theorem srcS_of {w : World} {v : Value} {l : List Sp} (h : ArgSp w v l) (hs : ∀ e ∈ l, e.li.length ≤ 1000000) : SrcS w v l := by
  rcases h.1 with ⟨rfl, p, c, rfl, hc⟩ | ⟨b, o, c, rfl, h1, h2, h3, h4, h5⟩
  · exact .inl ⟨rfl, p, c, rfl, hc⟩
  · exact .inr ⟨b, o, c, rfl, h1, h2, h3, fun j e hj => ⟨h4 j e hj 0 _ rfl, h4 j e hj 1 _ rfl, h4 j e hj 2 _ rfl⟩, fun e he => ⟨(h5 e he).1, (h5 e he).2.1, (h5 e he).2.2.1, hs e he⟩⟩
theorem srcF_of {w : World} {v : Value} {l : List Fo} (h : ArgFo w v l) : SrcF w v l := by
  rcases h.1 with ⟨rfl, p, c, rfl, hc⟩ | ⟨b, o, c, rfl, h1, h2, h3, h4, h5⟩
  · exact .inl ⟨rfl, p, c, rfl, hc⟩
  · exact .inr ⟨b, o, c, rfl, h1, h2, h3, fun j e hj => ⟨h4 j e hj 0 _ rfl, h4 j e hj 1 _ rfl, h4 j e hj 2 _ rfl⟩, h5⟩
theorem srcC_of {w : World} {v : Value} {l : List Ch} (h : ArgCh w v l) (hs : ∀ e ∈ l, e.l.length ≤ 1000000) : SrcC w v l := by
  rcases h.1 with ⟨rfl, p, c, rfl, hc⟩ | ⟨b, o, c, rfl, h1, h2, h3, h4, h5⟩
  · exact .inl ⟨rfl, p, c, rfl, hc⟩
  · refine .inr ⟨b, o, c, rfl, h1, h2, h3, fun j e hj => ?_, fun e he => ⟨(h5 e he).1, hs e he⟩⟩
    have := h4 j e hj 0 _ rfl
    rwa [Nat.mul_one, Nat.add_zero] at this
theorem argSp_fit {w : World} {v : Value} {l : List Sp} (h : ArgSp w v l) : ∀ e ∈ l, SpO w e := by
  obtain ⟨p, c, _, _, _, h5, _⟩ := src_sl h.1
  exact h5
theorem argFo_fit {w : World} {v : Value} {l : List Fo} (h : ArgFo w v l) : ∀ e ∈ l, FoOk w e := by
  obtain ⟨p, c, _, _, _, h5, _⟩ := src_sl h.1
  exact h5
theorem argCh_fit {w : World} {v : Value} {l : List Ch} (h : ArgCh w v l) : ∀ e ∈ l, ChO w e := by
  obtain ⟨p, c, _, _, _, h5, _⟩ := src_sl h.1
  exact h5
def lnS (l : List Sp) (i : Nat) : Nat := ((l[i]?).map fun e => e.li.length).getD 0
def lnC (l : List Ch) (i : Nat) : Nat := ((l[i]?).map fun e => e.l.length).getD 0
/-- great, of the arguments: where it says no, there are few -/
theorem great_args {w : World} {v1 v2 v3 v4 : Value} {li : List Int} {ls : List Sp} {fo : List Fo} {ch : List Ch} (W : World) (hB : Below w.heap.size w W) (h1 : SrcI w v1 li ∧ li.length ≤ 1048576) (h2 : ArgSp w v2 ls) (h3 : ArgFo w v3 fo) (h4 : ArgCh w v4 ch) :
    Calls Tryz.prog 46 #[v1, v2, v3, v4] W (GrIs li.length ls.length fo.length ch.length (lnS ls) (lnC ch) W) := by
  obtain ⟨p1, c1, rfl⟩ := srcI_sl h1.1
  obtain ⟨p2, c2, rfl, _, _, q2, r2⟩ := src_sl h2.1
  obtain ⟨p3, c3, rfl, _⟩ := src_sl h3.1
  obtain ⟨p4, c4, rfl, _, _, q4, r4⟩ := src_sl h4.1
  refine great8_any p1 p2 p3 p4 _ _ _ _ c1 c2 c3 c4 _ _ W h1.2 h2.2 h3.2 h4.2 (fun i hi => ?_) (fun i hi => ?_)
  · have he := List.getElem?_eq_getElem hi
    obtain ⟨b, o, rfl, hb, hc⟩ := r2 i _ he
    have hq := q2 _ (List.getElem_mem hi)
    have hn := srcI_n hq.2.2.1
    have hl : lnS ls i = ls[i].li.length := by unfold lnS; rw [he]; rfl
    refine ⟨b, o, ls[i].p, ls[i].c, rfl, ?_, by rw [hl]; exact hq.2.2.2⟩
    rw [hl, ← hn]
    exact (hB.cell (p := ⟨b, o + i * 3 + 2, none⟩) hb).trans (hc 2 _ rfl)
  · have he := List.getElem?_eq_getElem hi
    obtain ⟨b, o, rfl, hb, hc⟩ := r4 i _ he
    have hq := q4 _ (List.getElem_mem hi)
    have hn := srcR_n hq.1
    have hl : lnC ch i = ch[i].l.length := by unfold lnC; rw [he]; rfl
    refine ⟨b, o, ch[i].p, ch[i].c, rfl, ?_, by rw [hl]; exact hq.2⟩
    rw [hl, ← hn]
    have := hc 0 _ rfl
    rw [Nat.mul_one, Nat.add_zero] at this
    exact (hB.cell (p := ⟨b, o + i, none⟩) hb).trans this
theorem few_S {n0 n2 : Nat} {L2 : Nat → Nat} {ls : List Sp} {m : Nat} (h : Few n0 ls.length n2 m (lnS ls) L2) : ∀ e ∈ ls, e.li.length ≤ 5000 := fun e he => by
  obtain ⟨i, hi, rfl⟩ := List.getElem_of_mem he
  have := h.2.2.1 i hi
  unfold lnS at this
  rw [List.getElem?_eq_getElem hi] at this
  exact this
theorem few_C {n0 n1 n2 : Nat} {L1 : Nat → Nat} {ch : List Ch} (h : Few n0 n1 n2 ch.length L1 (lnC ch)) : ∀ e ∈ ch, e.l.length ≤ 300 := fun e he => by
  obtain ⟨i, hi, rfl⟩ := List.getElem_of_mem he
  have := h.2.2.2 i hi
  unfold lnC at this
  rw [List.getElem?_eq_getElem hi] at this
  exact this
end Go.Proofs.YtbkciiogkgndiaaGreatDoor

namespace Go.Proofs.YtbkciiogkgndiaaGreatDoor
open Go Go.RowKit Go.Lib

theorem got_range (r : Rg) (m : Bool) (k : Nat) (f : V.T) : V.got 6 (chT r m k f) ⟨#[114, 97, 110, 103, 101]⟩ = some (6, ⟨#[]⟩, .nil, rangeT r.a r.b r.c r.d) := by
  unfold V.got chT
  rw [if_pos rfl]
  unfold V.T.find
  rw [if_pos rfl]
theorem got_start (a b c d : Int) : V.got 6 (rangeT a b c d) ⟨#[115, 116, 97, 114, 116]⟩ = some (6, ⟨#[]⟩, .nil, posT a b) := by
  unfold V.got rangeT
  rw [if_pos rfl]
  unfold V.T.find
  rw [if_pos rfl]
theorem got_end (a b c d : Int) : V.got 6 (rangeT a b c d) ⟨#[101, 110, 100]⟩ = some (6, ⟨#[]⟩, .nil, posT c d) := by
  unfold V.got rangeT
  rw [if_pos rfl]
  unfold V.T.find
  rw [if_neg (by decide +kernel)]
  unfold V.T.find
  rw [if_pos rfl]
theorem res_parent (r : Rg) (l : List Rg) : V.res (V.got 6 (chainT (r :: l)) ⟨#[112, 97, 114, 101, 110, 116]⟩) = (chainK l, ⟨#[]⟩, .nil, chainT l, !l.isEmpty) := by
  show V.res (V.got 6 (chT r (!l.isEmpty) (chainK l) (chainT l)) ⟨#[112, 97, 114, 101, 110, 116]⟩) = _
  unfold V.got chT
  rw [if_pos rfl]
  unfold V.T.find
  rw [if_neg (by decide +kernel)]
  cases l with
  | nil =>
    rw [show (!([] : List Rg).isEmpty) = false from rfl, if_neg (by decide)]
    rfl
  | cons s l =>
    rw [show (!(s :: l).isEmpty) = true from rfl, if_pos rfl]
    unfold V.T.find
    rw [if_pos rfl]
    rfl
/-- the chain's rest, from the k-th range on -/
def rst (l : List Rg) (k : Nat) : List Rg := l.drop k
theorem rst_cons {l : List Rg} {k : Nat} (h : k < l.length) : rst l k = rgAt l k :: rst l (k + 1) := by
  unfold rst rgAt
  rw [List.drop_eq_getElem_cons h, List.getD_eq_getElem?_getD, List.getElem?_eq_getElem h]
  rfl
theorem rst_end (l : List Rg) : rst l l.length = [] := by unfold rst; rw [List.drop_length]
/-- what is had of x: its kind, its fields, whether it is there -/
def isK (l : List Rg) (k : Nat) : Bool := !(rst l k).isEmpty
theorem isK_yes {l : List Rg} {k : Nat} (h : k < l.length) : isK l k = true := by unfold isK; rw [rst_cons h]; rfl
theorem isK_no (l : List Rg) : isK l l.length = false := by unfold isK; rw [rst_end]; rfl
theorem isK_zero (l : List Rg) : decide (chainK l = 6) = isK l 0 := by
  unfold isK rst chainK
  rw [List.drop_zero]
  cases l with
  | nil => rfl
  | cons r l => rfl
/-- x: a box of its own, a value in other blocks -/
def XIn (bx : Nat) (l : List Rg) (k : Nat) (W : World) : Prop := ∃ p n c q m d, Blk4 W bx 25 (.int .u8 (chainK (rst l k))) (.string ⟨#[]⟩) (.slice p n c) (.slice q m d) ∧ HS W (fun b => b ≠ bx) 0 (.slice p n c) .nil ∧ HS W (fun b => b ≠ bx) 1 (.slice q m d) (chainT (rst l k))
theorem XIn.on {bx k : Nat} {l : List Rg} {W W' : World} (h : XIn bx l k W) (hB : Below W.heap.size W W') : XIn bx l k W' := by
  obtain ⟨p, n, c, q, m, d, h1, h2, h3⟩ := h
  exact ⟨p, n, c, q, m, d, h1.same (hB.block _ h1.lt), h2.below hB, h3.below hB⟩
/-- what is read of the k-th range -/
theorem get_range {l : List Rg} {k : Nat} (hk : k < l.length) (va ua : Value) (A : Nat → Prop) (w : World) (hva : HS w A 0 va .nil) (hua : HS w A 1 ua (chainT (rst l k))) :
    Calls Tryz.prog 49 #[.agg #[.int .u8 (6 : Nat), .string ⟨#[]⟩, va, ua], .string ⟨#[114, 97, 110, 103, 101]⟩] w (GotF (some (6, ⟨#[]⟩, .nil, rangeT (rgAt l k).a (rgAt l k).b (rgAt l k).c (rgAt l k).d)) w) := by
  rw [← got_range (rgAt l k) (!(rst l (k + 1)).isEmpty) (chainK (rst l (k + 1))) (chainT (rst l (k + 1)))]
  rw [rst_cons hk] at hua
  exact get_any 6 ⟨#[]⟩ _ va ua .nil _ A w hva hua
def GotP (l : List Rg) (k : Nat) (w : World) (en : Ending) (w' : World) : Prop :=
  ∃ v u, en = .returned (.tuple #[.agg #[.int .u8 (chainK (rst l k)), .string ⟨#[]⟩, v, u], .bool (isK l k)]) ∧ HS w' (Fre w.heap.size w') 0 v .nil ∧ HS w' (Fre w.heap.size w') 1 u (chainT (rst l k)) ∧ Below w.heap.size w w'
theorem get_parent {l : List Rg} {k : Nat} (hk : k < l.length) (va ua : Value) (A : Nat → Prop) (w : World) (hva : HS w A 0 va .nil) (hua : HS w A 1 ua (chainT (rst l k))) :
    Calls Tryz.prog 49 #[.agg #[.int .u8 (6 : Nat), .string ⟨#[]⟩, va, ua], .string ⟨#[112, 97, 114, 101, 110, 116]⟩] w (GotP l (k + 1) w) := by
  rw [rst_cons hk] at hua
  refine (get_any 6 ⟨#[]⟩ _ va ua .nil _ A w hva hua).mono ?_
  rintro e w1 ⟨v, u, rfl, h1, h2, -, -, hB⟩
  rw [res_parent] at h1 h2 ⊢
  exact ⟨v, u, rfl, h1, h2, hB⟩
theorem chainK_yes {l : List Rg} {k : Nat} (hk : k < l.length) : chainK (rst l k) = 6 := by rw [rst_cons hk]; rfl
theorem src_rg {w : World} {ep : Option Addr} {n c : Nat} {l : List Rg} (h : SrcR w (.slice ep n c) l) : n = l.length ∧ ∀ k, k < l.length → (rgAt l k).Ok ∧ ∃ b o, ep = some ⟨b, o, none⟩ ∧ ∀ W, Below w.heap.size w W → W.cell? ⟨b, o + k * 4, none⟩ = some (.int .i64 (rgAt l k).a) ∧ W.cell? ⟨b, o + k * 4 + 1, none⟩ = some (.int .i64 (rgAt l k).b) ∧ W.cell? ⟨b, o + k * 4 + 2, none⟩ = some (.int .i64 (rgAt l k).c) ∧ W.cell? ⟨b, o + k * 4 + 3, none⟩ = some (.int .i64 (rgAt l k).d) := by
  refine ⟨srcR_n h, fun k hk => ⟨rg_at_ok (srcR_all h) k, ?_⟩⟩
  have e0 : l[k]? = some (rgAt l k) := by unfold rgAt; rw [List.getD_eq_getElem?_getD, List.getElem?_eq_getElem hk]; rfl
  rcases h with ⟨rfl, _⟩ | ⟨b, o, c', e, _, _, hb, h, _⟩
  · exact absurd hk (Nat.not_lt_zero _)
  · cases e
    obtain ⟨h0, h1, h2, h3⟩ := h k _ e0
    exact ⟨b, o, rfl, fun W hB => ⟨(hB.cell (p := ⟨b, o + k * 4, none⟩) hb).trans h0, (hB.cell (p := ⟨b, o + k * 4 + 1, none⟩) hb).trans h1, (hB.cell (p := ⟨b, o + k * 4 + 2, none⟩) hb).trans h2, (hB.cell (p := ⟨b, o + k * 4 + 3, none⟩) hb).trans h3⟩⟩
theorem xin_begin {W : World} {l : List Rg} {p q : Option Addr} {n c m d : Nat} {A : Nat → Prop} (h1 : HS W A 0 (.slice p n c) .nil) (h2 : HS W A 1 (.slice q m d) (chainT l)) : XIn W.heap.size l 0 (W.alloc (.cells #[.int .u8 (chainK l), .string ⟨#[]⟩, .slice p n c, .slice q m d] 25)).drew := by
  refine ⟨p, n, c, q, m, d, ?_, ?_, ?_⟩
  · show Blk4 (W.alloc _) _ _ _ _ _ _
    unfold rst
    rw [List.drop_zero]
    exact heap_alloc_new _ _
  · exact h1.imp (fun b _ hb => Nat.ne_of_lt hb) (fun b _ hb => Below.heap_alloc W _ b hb)
  · unfold rst
    rw [List.drop_zero]
    exact h2.imp (fun b _ hb => Nat.ne_of_lt hb) (fun b _ hb => Below.heap_alloc W _ b hb)
theorem isK_zero' (l : List Rg) : ((chainK l : Int) == 6) = isK l 0 := by
  rw [← isK_zero, Bool.eq_iff_iff]
  simp
  omega
end Go.Proofs.YtbkciiogkgndiaaGreatDoor
