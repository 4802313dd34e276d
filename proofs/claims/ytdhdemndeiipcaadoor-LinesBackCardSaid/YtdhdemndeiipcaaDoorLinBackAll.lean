/- The statement on the way from an offset to a place by lines and back: whatever the string, the offset and the place, it answers true. Conditions: such as Go can hold; the library's two tables as its text lays them. -/
import Derived.Test.YtdhdemndeiipcaaDoorLinBackWalk
namespace Go.Proofs.YtdhdemndeiipcaaDoor
open Go Go.RowKit Go.Shelf Go.Lib

theorem knows (s : ByteArray) (i l c : Int) (hs : s.size ≤ 20000) (hc : c ≤ 9223372036854775807) {b bk : Nat} (hb : bgnAt s i = b) (hbk : min b (L.to s (L.ln s b)) = bk) :
    Knows s i l c b (posL s b) (posC s b) bk (ofs s l c) (posL s (ofs s l c)) (posC s (ofs s l c)) := by
  obtain ⟨hA, hle⟩ := ofs_at s l c
  have hbs : bgnAt s i ≤ s.size := by obtain ⟨_, _, _, h, _⟩ := U.bgnAt_facts s i; exact h
  have hAb := U.at_bgn s i
  have e1 : ofs s (posL s b : Nat) (posC s b : Nat) = bk := by rw [← hbk, ← hb]; exact ofs_pos s _ hAb hbs
  have hu : posC s b ≤ 20000 := by
    have := U.units_le (s.extract (L.fr s (L.ln s b)) (min b (L.to s (L.ln s b))))
    rw [ByteArray.size_extract] at this
    unfold posC; omega
  have hu2 : posC s (ofs s l c) ≤ 20000 := by
    have := U.units_le (s.extract (L.fr s (L.ln s (ofs s l c))) (min (ofs s l c) (L.to s (L.ln s (ofs s l c)))))
    rw [ByteArray.size_extract] at this
    unfold posC; omega
  refine ⟨fun W hW => ?_, fun W hW => ?_, fun W => ?_, fun W => offset_any s l c W (by omega) hc, fun W hW => ?_, fun W hW => ?_, fun W => ?_, hle⟩
  · rw [← hb]; exact utfBegin_all s i W (by omega) hW
  · have := pos_any s i W (by omega) hW
    rw [hb] at this; exact this
  · have := offset_any s (posL s b : Nat) (posC s b : Nat) W (by omega) (by omega)
    rw [e1] at this; exact this
  · have := pos_any s (ofs s l c : Nat) W (by omega) hW
    rw [U.bgn_at hA hle] at this; exact this
  · have := utfBegin_all s (ofs s l c : Nat) W (by omega) hW
    rw [U.bgn_at hA hle] at this; exact this
  · have := offset_any s (posL s (ofs s l c) : Nat) (posC s (ofs s l c) : Nat) W (by omega) (by omega)
    rw [ofs_ofs] at this; exact this

theorem lbLaw_short (s : ByteArray) (i l c : Int) (w : World) (hs : s.size ≤ 20000) (hc : c ≤ 9223372036854775807) (hT : Tabs w) :
    Calls Tryd.prog 4 #[.string s, .int .i64 i, .agg #[.int .i64 l, .int .i64 c]] w (SaysTrue w) := by
  obtain ⟨b, hb⟩ : ∃ b, bgnAt s i = b := ⟨_, rfl⟩
  have hbs : b ≤ s.size := by rw [← hb]; obtain ⟨_, _, _, h, _⟩ := U.bgnAt_facts s i; exact h
  by_cases hk : l.toNat < L.mny s
  · obtain ⟨k1, k2, k3, k4⟩ := ofs_line s l c hk
    have hX : max l 0 = ((posL s (ofs s l c) : Nat) : Int) := by rw [k3]; omega
    have hline : ∀ W, Calls Tryd.prog 15 #[.string s, .int .i64 (posL s (ofs s l c) : Nat)] W fun e w' => e = .returned (.tuple #[.agg #[.int .i64 (L.fr s l.toNat), .int .i64 (L.to s l.toNat)], .bool true]) ∧ Below W.heap.size W w' := fun W => by
      rw [k3]
      exact (line_is s (l.toNat : Nat) W (by omega)).mono fun e w' h => line_yes hk h
    by_cases ham : L.to s (L.ln s b) < b
    · obtain ⟨a1, a2, a3, a4, a5⟩ := L.amid_yes hbs ham
      obtain ⟨m, rfl⟩ : ∃ m, b = m + 1 := ⟨b - 1, by omega⟩
      rw [Nat.add_sub_cancel, ← at_byte (show m < s.size by omega)] at a3
      rw [← at_byte a2] at a4
      exact lbLaw_4y s i l c w hs hT m a2 a3 a4 _ _ _ _ _ (knows s i l c hs hc hb (by omega)) _ _ _ hX rfl k4 k1 k2 hline
    · have hbk : min b (L.to s (L.ln s b)) = b := by omega
      have K := knows s i l c hs hc hb hbk
      by_cases h0 : b = 0
      · subst h0
        exact lbLaw_0y s i l c w hs hT _ _ _ _ _ K _ _ _ hX rfl k4 k1 k2 hline
      obtain ⟨m, rfl⟩ : ∃ m, b = m + 1 := ⟨b - 1, by omega⟩
      by_cases h1 : m + 1 < s.size
      · by_cases h2 : s[m].toNat = 13
        · by_cases h3 : s[m + 1].toNat = 10
          · rw [at_byte (show m < s.size by omega)] at h2
            rw [at_byte h1] at h3
            exact absurd (L.amid_no (by omega) (by omega) h1 h2 h3) id
          · exact lbLaw_3y s i l c w hs hT m h1 h2 h3 _ _ _ _ _ K _ _ _ hX rfl k4 k1 k2 hline
        · exact lbLaw_2y s i l c w hs hT m h1 h2 _ _ _ _ _ K _ _ _ hX rfl k4 k1 k2 hline
      · exact lbLaw_1y s i l c w hs hT m (by omega) _ _ _ _ _ K _ _ _ hX rfl k4 k1 k2 hline
  · have hks := ofs_none s l c hk
    have hm := L.mny_pos s
    have hline : ∀ W, Calls Tryd.prog 15 #[.string s, .int .i64 (max l 0)] W fun e w' => e = .returned (.tuple #[.agg #[.int .i64 0, .int .i64 0], .bool false]) ∧ Below W.heap.size W w' := fun W =>
      (line_is s (max l 0) W (by omega)).mono fun e w' h => line_no (by omega) h
    by_cases ham : L.to s (L.ln s b) < b
    · obtain ⟨a1, a2, a3, a4, a5⟩ := L.amid_yes hbs ham
      obtain ⟨m, rfl⟩ : ∃ m, b = m + 1 := ⟨b - 1, by omega⟩
      rw [Nat.add_sub_cancel, ← at_byte (show m < s.size by omega)] at a3
      rw [← at_byte a2] at a4
      exact lbLaw_4n s i l c w hs hT m a2 a3 a4 _ _ _ _ _ (knows s i l c hs hc hb (by omega)) hks _ rfl hline
    · have hbk : min b (L.to s (L.ln s b)) = b := by omega
      have K := knows s i l c hs hc hb hbk
      by_cases h0 : b = 0
      · subst h0
        exact lbLaw_0n s i l c w hs hT _ _ _ _ _ K hks _ rfl hline
      obtain ⟨m, rfl⟩ : ∃ m, b = m + 1 := ⟨b - 1, by omega⟩
      by_cases h1 : m + 1 < s.size
      · by_cases h2 : s[m].toNat = 13
        · by_cases h3 : s[m + 1].toNat = 10
          · rw [at_byte (show m < s.size by omega)] at h2
            rw [at_byte h1] at h3
            exact absurd (L.amid_no (by omega) (by omega) h1 h2 h3) id
          · exact lbLaw_3n s i l c w hs hT m h1 h2 h3 _ _ _ _ _ K hks _ rfl hline
        · exact lbLaw_2n s i l c w hs hT m h1 h2 _ _ _ _ _ K hks _ rfl hline
      · exact lbLaw_1n s i l c w hs hT m (by omega) _ _ _ _ _ K hks _ rfl hline
theorem lbLaw_any (s : ByteArray) (i l c : Int) (w : World) (hs : s.size ≤ 9223372036854775807) (_hi : -9223372036854775808 ≤ i ∧ i ≤ 9223372036854775807) (hc : c ≤ 9223372036854775807) (hT : Tabs w) :
    Calls Tryd.prog 4 #[.string s, .int .i64 i, .agg #[.int .i64 l, .int .i64 c]] w (SaysTrue w) := by
  by_cases h : s.size ≤ 20000
  · exact lbLaw_short s i l c w h hc hT
  · exact lbLaw_long s i l c w hs hT (by omega)
end Go.Proofs.YtdhdemndeiipcaaDoor
