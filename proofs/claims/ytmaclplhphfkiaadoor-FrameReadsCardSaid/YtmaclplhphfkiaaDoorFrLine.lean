/- A head's line is cut. Conditions: a line of at most 10^9 bytes; the library's own variable holds a number. -/
import Derived.Test.YtmaclplhphfkiaaDoorFrAny
import Derived.Shelf.Strings.Cut
import Derived.Shelf.Strings.SlTrimAscii
import Derived.Lib.SlTrimSet
namespace Go.Proofs
open Go Go.RowKit Go.Lib
namespace YtmaclplhphfkiaaDoor
open F

theorem infoSetF : (Tryd.prog.info? (Tryd.laysIndexAny_ren.t 116)).map (fun i => (i.zero, i.size)) = some (some (.agg (Array.replicate 256 (.bool false))), 256) := by kernel_rfl
theorem infoSetT : (Tryd.prog.info? (Tryd.laysTrim_ren.t 116)).map (fun i => (i.zero, i.size)) = some (some (.agg (Array.replicate 256 (.bool false))), 256) := by kernel_rfl
theorem idx_ok : ∀ (l : Bs), decide (0 ≤ Lib.indexAny l [13, 10]) = !(okVal l)
  | [] => rfl
  | c :: l => by
    have ih := idx_ok l
    have hge := Lib.indexAny_ge [13, 10] l
    unfold Lib.indexAny
    by_cases h : c = 13 ∨ c = 10
    · have hc : ([13, 10] : Bs).contains c = true := by rcases h with h | h <;> simp [h]
      rw [if_pos hc]
      have : okVal (c :: l) = false := by unfold okVal; rcases h with h | h <;> simp [h]
      rw [this]; rfl
    · have hc : ([13, 10] : Bs).contains c = false := by
        rw [Bool.eq_false_iff]; intro h'; simp at h'; exact h h'
      rw [if_neg (by rw [hc]; decide)]
      have e : okVal (c :: l) = okVal l := by
        unfold okVal
        rw [List.all_cons]
        have h1 : c ≠ 13 := fun e => h (.inl e)
        have h2 : c ≠ 10 := fun e => h (.inr e)
        simp [h1, h2]
      rw [e, ← ih]
      split
      · rename_i h3
        have : Lib.indexAny l [13, 10] = -1 := by simpa using h3
        rw [this]
      · rename_i h3
        have : ¬ Lib.indexAny l [13, 10] = -1 := by simpa using h3
        exact decide_eq_decide.2 (by omega)
theorem indexAny_any (l : Bs) (hl : l.length ≤ 1000000000) (w : World) : Calls Tryd.prog 176 #[.string (ba l), .string ⟨#[13, 10]⟩] w (AnyIs l w) := by
  by_cases h8 : l.length ≤ 8
  · exact indexAny_short l h8 w
  · have h := Any.strings_IndexAny_long Tryd.laysIndexAny (zero_of_info infoSetF).1 (zero_of_info infoSetF).2 (ba l) ⟨#[13, 10]⟩ w (by decide) (by rw [ba_size]; omega) (by rw [ba_size]; omega) (by decide) (ascii_of_all (by decide))
    change Calls Tryd.prog 176 _ _ _ at h
    refine h.mono fun e w' h => ?_
    obtain ⟨he, hw⟩ := h
    refine ⟨_, he, idx_ok l, ?_⟩
    rw [hw]
    exact ((Below.refl _ _).alloc (Nat.le_refl _) _).alloc (by simp) _
set_option maxRecDepth 100000 in
set_option maxHeartbeats 400000 in
theorem containsAny_any (l : Bs) (hl : l.length ≤ 1000000000) (w : World) : Calls Tryd.prog 150 #[.string (ba l), .string ⟨#[13, 10]⟩] w (BoolBelow0 (!(okVal l)) w) := by
  have h := indexAny_any l hl w
  go_enter Tryd.func150, Tryd.ntmps150
  go_wp2_with fail
  refine h.mono ?_
  rintro e w' ⟨z, rfl, hz, hB⟩
  have HB := Lib.hid (And.intro hz hB)
  clear hz hB
  go_wp2_with fail
  go_ret
  exact ⟨by rw [← HB.out.1]; rfl, HB.out.2⟩
/-- a line's name and value, and whether it is well-formed -/
def LineIs (l : Bs) (w : World) (e : Ending) (w' : World) : Prop :=
  (okLine l = true → e = .returned (.tuple #[.string (ba (nm l)), .string (ba (trim (vl l))), .bool true])) ∧ (okLine l = false → e = .returned (.tuple #[.string ⟨#[]⟩, .string ⟨#[]⟩, .bool false])) ∧ Below w.heap.size w w'
theorem cut_len (l : Bs) : (nm l).length ≤ l.length ∧ (vl l).length ≤ l.length := by
  unfold nm vl Lib.cut
  split
  · simp only [List.length_take, List.length_drop]; omega
  · simp
set_option maxRecDepth 100000 in
set_option maxHeartbeats 1000000 in
theorem cutLine_any (l : Bs) (hl : l.length ≤ 1000000) (w : World) (hE : ∃ m, w.cell? ⟨10, 0, none⟩ = some (.int .i64 m)) :
    Calls Tryd.prog 122 #[.string (ba l)] w (LineIs l w) := by
  obtain ⟨m, hm⟩ := hE
  have hcl := cut_len l
  have hc := Any.strings_Cut Tryd.laysCut (ba l) ⟨#[58]⟩ m w (by rw [ba_size]; omega) hm
  change Calls Tryd.prog 148 #[.string (ba l), .string ⟨#[58]⟩] w (fun e w' => e = .returned (.tuple #[.string (ba (nm l)), .string (ba (vl l)), .bool (Lib.cut l [58]).2.2]) ∧ ∃ n, w' = w.drewN n) at hc
  have hn := fun W => isName_any (nm l) W
  have hv := fun W => containsAny_any (vl l) (by omega) W
  have ht := fun W => Any.strings_Trim_laid Tryd.laysTrim infoSetT (ba (vl l)) ⟨#[32, 9]⟩ W (by rw [ba_size]; omega) (by decide) (ascii_of_all (by decide))
  change ∀ W, Calls Tryd.prog 151 #[.string (ba (vl l)), .string ⟨#[32, 9]⟩] W (fun e w' => e = .returned (.string (ba (trim (vl l)))) ∧ Below W.heap.size W w') at ht
  unfold LineIs
  have hok : okLine l = ((Lib.cut l [58]).2.2 && (okName (nm l) && okVal (vl l))) := rfl
  rw [hok]
  clear hok hcl
  generalize (Lib.cut l [58]).2.2 = b0 at *
  generalize okName (nm l) = b1 at *
  generalize okVal (vl l) = b2 at *
  generalize trim (vl l) = tv at *
  generalize nm l = n at *
  generalize vl l = v at *
  cases b0
  · go_enter Tryd.func122, Tryd.ntmps122
    go_wp2_with fail
    refine hc.mono ?_
    rintro e w' ⟨rfl, q, rfl⟩
    go_wp2_with fail
    go_ret3
    exact ⟨fun h => by simp at h, fun _ => rfl, Alt.below (A := fun _ => False) (Alt.drewN _ _ _) (fun _ h _ => h.elim) (Nat.le_refl _)⟩
  · have hB0 := fun q => Lib.hid (Alt.below (A := fun _ => False) (Alt.drewN _ w q) (fun _ h _ => h.elim) (Nat.le_refl _))
    cases b1
    · go_enter Tryd.func122, Tryd.ntmps122
      go_wp2_with fail
      refine hc.mono ?_
      rintro e w' ⟨rfl, q, rfl⟩
      go_wp2_with fail
      refine (hn _).mono ?_
      rintro e w1 ⟨rfl, hB1⟩
      have HB1 := Lib.hid ((hB0 q).out.trans (hB1.mono (hB0 q).out.size))
      clear hB1
      go_wp2_with fail
      go_ret3
      exact ⟨fun h => by simp at h, fun _ => rfl, HB1.out⟩
    · cases b2
      · go_enter Tryd.func122, Tryd.ntmps122
        go_wp2_with fail
        refine hc.mono ?_
        rintro e w' ⟨rfl, q, rfl⟩
        go_wp2_with fail
        refine (hn _).mono ?_
        rintro e w1 ⟨rfl, hB1⟩
        have HB1 := Lib.hid ((hB0 q).out.trans (hB1.mono (hB0 q).out.size))
        clear hB1
        go_wp2_with fail
        refine (hv _).mono ?_
        rintro e w2 ⟨rfl, hB2⟩
        have HB2 := Lib.hid (HB1.out.trans (hB2.mono HB1.out.size))
        clear hB2
        go_wp2_with fail
        go_ret3
        exact ⟨fun h => by simp at h, fun _ => rfl, HB2.out⟩
      · go_enter Tryd.func122, Tryd.ntmps122
        go_wp2_with fail
        refine hc.mono ?_
        rintro e w' ⟨rfl, q, rfl⟩
        go_wp2_with fail
        refine (hn _).mono ?_
        rintro e w1 ⟨rfl, hB1⟩
        have HB1 := Lib.hid ((hB0 q).out.trans (hB1.mono (hB0 q).out.size))
        clear hB1
        go_wp2_with fail
        refine (hv _).mono ?_
        rintro e w2 ⟨rfl, hB2⟩
        have HB2 := Lib.hid (HB1.out.trans (hB2.mono HB1.out.size))
        clear hB2
        go_wp2_with fail
        refine (ht _).mono ?_
        rintro e w3 ⟨rfl, hB3⟩
        have HB3 := Lib.hid (HB2.out.trans (hB3.mono HB2.out.size))
        clear hB3
        go_wp2_with fail
        go_ret3
        exact ⟨fun _ => rfl, fun h => by simp at h, HB3.out⟩
end YtmaclplhphfkiaaDoor
end Go.Proofs
