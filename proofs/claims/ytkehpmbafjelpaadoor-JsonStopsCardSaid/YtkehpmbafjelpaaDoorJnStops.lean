/- The statement on the byte at which a text is refused, walked: whatever the text, it answers true. Conditions: such as Go can hold; the library's tables as its text lays them. -/
import Derived.Test.YtkehpmbafjelpaaDoorJnAwake
import Derived.Test.YtkehpmbafjelpaaDoorJpShiftD
namespace Go.Proofs.YtkehpmbafjelpaaDoor
open Go Go.RowKit Go.Lib

theorem pre_sh {s : ByteArray} {m : Nat} (h : m ≤ s.size) : Sh s 0 (s.extract 0 m) 0 m ∧ (s.extract 0 m).size = m := by
  have hz : (s.extract 0 m).size = m := by rw [ByteArray.size_extract]; omega
  refine ⟨⟨by omega, by omega, fun i hi => ?_⟩, hz⟩
  rw [Nat.zero_add]
  have := get_part (s := s) (p := 0) (e := m) (i := i) (by omega) h
  rw [Nat.zero_add] at this
  exact this.symm
theorem pk_end {s : ByteArray} {p : Nat} (h : s.size ≤ p) : J.pk s p = 0 := by unfold J.pk; rw [if_neg (by omega)]
theorem prs_ok {s : ByteArray} (h : (vl s 64 0).2 = (s.size, 0)) : prs s = ((vl s 64 0).1, 0, 0) := by
  unfold prs
  rw [if_pos (by rw [h]), if_neg (by rw [h]; exact Nat.lt_irrefl _)]
theorem prs_bad {s : ByteArray} {q e : Nat} (h : (vl s 64 0).2 = (q, e)) (he : ¬ e = 0) : prs s = ((0, ⟨#[]⟩, .nil, .nil), q, e) := by
  unfold prs
  rw [if_neg (by rw [h]; exact he), h]
theorem prsAll_small {s : ByteArray} (h : s.size ≤ 20000) : prsAll s = prs s := by unfold prsAll; rw [if_neg (by omega)]
/-- what is told of a text, and of what stands ahead of the wrong byte -/
theorem stops (s : ByteArray) (hs : s.size ≤ 20000) : (∃ x, prsAll s = (x, 0, 0)) ∨ ∃ q e, prsAll s = ((0, ⟨#[]⟩, .nil, .nil), q, e) ∧ q ≤ s.size ∧
    ((e = 30 ∧ ∃ x, prsAll (s.extract 0 q) = (x, 0, 0)) ∨ ((e = 30 ∨ e = 31) ∧ prsAll (s.extract 0 q) = ((0, ⟨#[]⟩, .nil, .nil), q, 30))) := by
  have hle := vl_le s 64 0 (Nat.zero_le _)
  obtain ⟨q, hq⟩ : ∃ q, (vl s 64 0).2.1 = q := ⟨_, rfl⟩
  obtain ⟨e, he⟩ : ∃ e, (vl s 64 0).2.2 = e := ⟨_, rfl⟩
  have hv : vl s 64 0 = ((vl s 64 0).1, 0 + q, e) := by rw [← he, ← hq, Nat.zero_add]
  rw [hq] at hle
  have hle2 : q ≤ s.size := hle.2
  obtain ⟨hS, hz⟩ := pre_sh hle2
  have hpk := pk_end (s := s.extract 0 q) (p := 0 + q) (by omega)
  have herr := vl_err s 64 0 (Nat.le_refl _)
  unfold ErrOk at herr
  rw [he, hq] at herr
  by_cases h0 : e = 0
  · subst h0
    have r := vl_shift 64 (Nat.le_refl _) 0 0 q _ 0 0 hv hS (.inl ⟨rfl, rfl, .inr (by rw [hpk]; exact ⟨st1_zero, by decide⟩)⟩)
    have h2 : prsAll (s.extract 0 q) = ((vl (s.extract 0 q) 64 0).1, 0, 0) := by
      rw [prsAll_small (by omega)]
      exact prs_ok (by rw [r.1, hz, Nat.zero_add])
    by_cases hlt : q < s.size
    · refine .inr ⟨q, 30, ?_, hle.2, .inl ⟨rfl, _, h2⟩⟩
      rw [prsAll_small hs]
      unfold prs
      rw [if_pos he, hq, if_pos hlt]
    · refine .inl ⟨(vl s 64 0).1, ?_⟩
      rw [prsAll_small hs]
      have e1 : q = s.size := Nat.le_antisymm hle2 (Nat.not_lt.1 hlt)
      exact prs_ok (by rw [hv]; show (0 + q, 0) = (s.size, 0); rw [Nat.zero_add, e1])
  · have r := vl_shift 64 (Nat.le_refl _) 0 0 q _ e 30 hv hS (.inr ⟨h0, .inl ⟨hpk, rfl⟩⟩)
    refine .inr ⟨q, e, ?_, hle.2, .inr ⟨by omega, ?_⟩⟩
    · rw [prsAll_small hs]; exact prs_bad (by rw [hv, Nat.zero_add]) h0
    · rw [prsAll_small (by omega)]; exact prs_bad (by rw [r.1, Nat.zero_add]) (by decide)

set_option maxHeartbeats 2000000 in
set_option maxRecDepth 100000 in
theorem stopsLaw_any (s : ByteArray) (w : World) (_hs : s.size ≤ 9223372036854775807) (hT : Tabs w) :
    Calls Tryd.prog 4 #[.string s] w (SaysTrue w) := by
  have ha := jsonAwake_any w hT
  have HT := Lib.hid hT
  clear hT
  by_cases hl : 20000 < s.size
  · go_enter Tryd.func4, Tryd.ntmps4
    go_wp2_with fail
    refine ha.mono ?_
    rintro e w1 ⟨rfl, hB1⟩
    go_wp2_with fail
    go_ret
    exact ⟨rfl, hB1⟩
  · have hp := fun W (hW : Tabs W) => Parse_any s W (by omega) hW
    rcases stops s (by omega) with ⟨x, h⟩ | ⟨q, e, h, hq, hc⟩
    · simp only [h] at hp
      unfold ParseIs at hp
      clear h
      obtain ⟨k, x, l, f⟩ := x
      go_enter Tryd.func4, Tryd.ntmps4
      go_wp2_with fail
      refine ha.mono ?_
      rintro e w1 ⟨rfl, hB1⟩
      go_wp2_with fail
      refine (hp _ (tabs_below HT.out hB1)).mono ?_
      rintro e w2 ⟨v, u, rfl, hl2, hf2, -, hB2⟩
      obtain ⟨p2, c2, rfl, -⟩ := hl2.len
      obtain ⟨p3, c3, rfl, -⟩ := hf2.len
      have hB3 := hB1.trans (hB2.mono hB1.size)
      clear hl2 hf2 hp
      go_wp2_with fail
      go_ret
      exact ⟨rfl, hB3.alloc hB3.size _⟩
    · simp only [h] at hp
      unfold ParseIs at hp
      clear h
      have hp2 := fun W (hW : Tabs W) => Parse_any (s.extract 0 q) W (by rw [ByteArray.size_extract]; omega) hW
      go_enter Tryd.func4, Tryd.ntmps4
      go_wp2_with fail
      refine ha.mono ?_
      rintro e1 w1 ⟨rfl, hB1⟩
      go_wp2_with fail
      refine (hp _ (tabs_below HT.out hB1)).mono ?_
      rintro e1 w2 ⟨v, u, rfl, hl2, hf2, -, hB2⟩
      obtain ⟨p2, c2, rfl, -⟩ := hl2.len
      obtain ⟨p3, c3, rfl, -⟩ := hf2.len
      have hB3 := hB1.trans (hB2.mono hB1.size)
      clear hl2 hf2 hp
      rw [show V.T.nil.len = 0 from rfl]
      have B3 : Blk4 (w2.alloc (.cells #[.int .u8 0, .string ⟨#[]⟩, .slice p2 0 c2, .slice p3 0 c3] 25)) w2.heap.size 25 _ _ _ _ := heap_alloc_new _ _
      obtain ⟨x0, x1, x2, x3⟩ := B3.box
      clear B3
      have HB4 := hB3.alloc hB3.size (.cells #[.int .u8 0, .string ⟨#[]⟩, .slice p2 0 c2, .slice p3 0 c3] 25)
      rcases hc with ⟨rfl, x, hx⟩ | ⟨h30, hx⟩
      · simp only [hx] at hp2
        unfold ParseIs at hp2
        obtain ⟨k, x, l, f⟩ := x
        clear hx
        go_wp2_with fail
        refine (hp2 _ (tabs_below HT.out HB4)).mono ?_
        rintro e1 w5 ⟨v, u, rfl, hl5, hf5, -, hB5⟩
        obtain ⟨p4, c4, rfl, -⟩ := hl5.len
        obtain ⟨p5, c5, rfl, -⟩ := hf5.len
        have hB6 := HB4.trans (hB5.mono HB4.size)
        clear hl5 hf5 hp2
        go_wp2_with fail
        go_ret
        exact ⟨rfl, hB6.alloc hB6.size _⟩
      · simp only [hx] at hp2
        unfold ParseIs at hp2
        clear hx
        rcases h30 with rfl | rfl
        · go_wp2_with fail
          refine (hp2 _ (tabs_below HT.out HB4)).mono ?_
          rintro e1 w5 ⟨v, u, rfl, hl5, hf5, -, hB5⟩
          obtain ⟨p4, c4, rfl, -⟩ := hl5.len
          obtain ⟨p5, c5, rfl, -⟩ := hf5.len
          have hB6 := HB4.trans (hB5.mono HB4.size)
          clear hl5 hf5 hp2
          go_wp2_with fail
          go_ret
          exact ⟨rfl, hB6.alloc hB6.size _⟩
        · go_wp2_with fail
          refine (hp2 _ (tabs_below HT.out HB4)).mono ?_
          rintro e1 w5 ⟨v, u, rfl, hl5, hf5, -, hB5⟩
          obtain ⟨p4, c4, rfl, -⟩ := hl5.len
          obtain ⟨p5, c5, rfl, -⟩ := hf5.len
          have hB6 := HB4.trans (hB5.mono HB4.size)
          clear hl5 hf5 hp2
          go_wp2_with fail
          go_ret
          exact ⟨rfl, hB6.alloc hB6.size _⟩
end Go.Proofs.YtkehpmbafjelpaaDoor
