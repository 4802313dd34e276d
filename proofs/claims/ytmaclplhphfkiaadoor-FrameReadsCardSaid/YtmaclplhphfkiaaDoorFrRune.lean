/- Is a rune beyond ASCII among 0D and 0A? It is none. Conditions: such runes as a string has. -/
import Derived.Test.YtmaclplhphfkiaaDoorFrName
import Derived.Laws.Runes
import Derived.Lib.OthersKept
import Derived.BigQuiet
import Derived.Deep.QuietTactic
import Derived.IntWalk
import Derived.Test.YtmaclplhphfkiaaDoorJvLays
import Derived.Shelf.Small.Strs
namespace Go.Proofs
open Go Go.RowKit Go.Lib
namespace YtmaclplhphfkiaaDoor
open F

def NoneB (w : World) (e : Ending) (w' : World) : Prop := e = .returned (.int .i64 (-1)) ∧ Below w.heap.size w w'
set_option maxRecDepth 100000 in
set_option maxHeartbeats 400000 in
theorem cutover_any (n : Nat) (h : n ≤ 1000) (w : World) : Calls Tryd.prog 197 #[.int .i64 n] w (Stay (.int .i64 ((n + 16) / 8 : Nat)) w) := by
  have h1 : ((n : Int) + 16).tdiv 8 = (((n + 16) / 8 : Nat) : Int) := by
    rw [show (n : Int) + 16 = ((n + 16 : Nat) : Int) from rfl]; rfl
  go_enter Tryd.func197, Tryd.ntmps197
  go_wp2_with fail
  go_ret
  exact ⟨by first | rfl | (congr 2), rfl⟩
def ASome (w : World) (e : Ending) (w' : World) : Prop := ∃ b, e = .returned (.bool b) ∧ w = w'
set_option maxRecDepth 100000 in
set_option maxHeartbeats 400000 in
theorem validRune_hi (x : Nat) (hx : x ≤ 1114111) (w : World) : Calls Tryd.prog 199 #[.int .i32 x] w (fun e w' => e = .returned (.bool (Utf8.valid (x : Int))) ∧ w = w') := by
  have hv : Utf8.valid (x : Int) = (decide (x < 55296) || decide (57343 < x)) := by
    unfold Utf8.valid
    rw [Bool.eq_iff_iff]
    simp
    omega
  rw [hv]
  have e0 : decide ((0 : Int) ≤ (x : Int)) = true := decide_eq_true (by omega)
  have e3 : decide ((x : Int) ≤ 1114111) = true := decide_eq_true (by omega)
  by_cases h1 : x < 55296
  · have e1 : decide ((x : Int) < 55296) = true := decide_eq_true (by omega)
    rw [decide_eq_true h1]
    go_enter Tryd.func199, Tryd.ntmps199
    go_wp2_with fail
    go_ret
    exact ⟨rfl, rfl⟩
  · have e1 : decide ((x : Int) < 55296) = false := decide_eq_false (by omega)
    rw [decide_eq_false h1]
    by_cases h2 : 57343 < x
    · have e2 : decide ((57343 : Int) < (x : Int)) = true := decide_eq_true (by omega)
      rw [decide_eq_true h2]
      clear h1 h2 hv
      go_enter Tryd.func199, Tryd.ntmps199
      go_wp2_with fail
      go_ret
      exact ⟨rfl, rfl⟩
    · have e2 : decide ((57343 : Int) < (x : Int)) = false := decide_eq_false (by omega)
      rw [decide_eq_false h2]
      clear h1 h2 hv
      go_enter Tryd.func199, Tryd.ntmps199
      go_wp2_with fail
      go_ret
      exact ⟨rfl, rfl⟩
set_option maxRecDepth 100000 in
set_option maxHeartbeats 1000000 in
theorem idxRune_hi (x : Nat) (h : 128 ≤ x) (hx : x ≤ 1114111) (w : World) : Calls Tryd.prog 191 #[.string ⟨#[13, 10]⟩, .int .i32 x] w (NoneB w) := by
  have e1 : decide ((x : Int) < 128) = false := decide_eq_false (by omega)
  have e0 : decide ((0 : Int) ≤ (x : Int)) = true := decide_eq_true (by omega)
  have hvr := validRune_hi x hx
  by_cases hf : x = 65533
  · have e2 : ((x : Int) == 65533) = true := by simp; omega
    have hI0 : (w.iter ⟨#[13, 10]⟩ 0).heap[w.heap.size]? = some (.stringIter ⟨#[13, 10]⟩ 0) := heap_alloc_new w (.stringIter ⟨#[13, 10]⟩ 0)
    have n0 := fun ty => Lib.run_next_ascii_at (P := Tryd.prog) (w.iter ⟨#[13, 10]⟩ 0) w.heap.size ⟨#[13, 10]⟩ 0 ty hI0 (by decide) (by decide)
    have hI1 := Lib.iterAt_heap (w.iter ⟨#[13, 10]⟩ 0) w.heap.size ⟨#[13, 10]⟩ 0 (0 + 1) hI0
    have n1 := fun ty => Lib.run_next_ascii_at (P := Tryd.prog) _ w.heap.size ⟨#[13, 10]⟩ 1 ty hI1 (by decide) (by decide)
    have hI2 := Lib.iterAt_heap _ w.heap.size ⟨#[13, 10]⟩ 1 (1 + 1) hI1
    have n2 := fun ty => Lib.run_next_end_at (P := Tryd.prog) _ w.heap.size ⟨#[13, 10]⟩ 2 ty hI2 (by decide)
    have HB := Lib.hid ((Lib.below_iterAt (Lib.below_iterAt (show Below w.heap.size w (w.iter ⟨#[13, 10]⟩ 0) from (Below.refl w.heap.size w).alloc (Nat.le_refl _) (.stringIter ⟨#[13, 10]⟩ 0)) (Nat.le_refl _) ⟨#[13, 10]⟩ (0 + 1)) (Nat.le_refl _) ⟨#[13, 10]⟩ (1 + 1)))
    clear hI0 hI1 hI2 hvr hf h hx
    go_enter Tryd.func191, Tryd.ntmps191
    go_wp2_with fail
    refine wp_loop_rounds 3 ?_
    rw [rounds_succ]
    go_wp2_with fail
    rw [rounds_succ]
    go_wp2_with fail
    rw [rounds_succ]
    go_wp2_with fail
    go_ret
    exact ⟨rfl, HB.out⟩
  · have e2 : ((x : Int) == 65533) = false := by simp; omega
    cases hv : Utf8.valid (x : Int)
    · rw [hv] at hvr
      go_enter Tryd.func191, Tryd.ntmps191
      go_wp2_with fail
      refine (hvr _).mono ?_
      rintro e w' ⟨rfl, rfl⟩
      go_wp2_with fail
      go_ret
      exact ⟨rfl, Below.refl _ _⟩
    · rw [hv] at hvr
      obtain ⟨g1, g2, g3⟩ := encode_facts (x : Int) hv (by omega)
      have hcv := fun W : World => run_convert_int_string (P := Tryd.prog) W 21 9 .i32 (x : Int) (by rw [Tryd.underlying21]; rfl) Tryd.underlying9
      generalize Utf8.encode (x : Int) = rs at *
      by_cases hz : rs.size = 2
      · have hlt1 : 1 < rs.size := by omega
        have hb3 : 128 ≤ (rs[1]'hlt1).toNat := by
          have e : rs.size - 1 = 1 := by omega
          have := g3 (by omega)
          simpa only [e] using this
        obtain ⟨b, hb⟩ : ∃ b : UInt8, rs[1]'hlt1 = b := ⟨_, rfl⟩
        rw [hb] at hb3
        have hnb : (((10 : Nat) : Int) != (b.toNat : Int)) = true := by simp; omega
        have hnb2 : ((10 : Int) != (b.toNat : Int)) = true := by simp; omega
        have hlast : IntKind.i64.wrap ((rs.size : Int) - 1) = 1 := by rw [hz]; rfl
        have hnb3 : ((((⟨#[13, 10]⟩ : ByteArray)[1]'(by decide)).toNat : Int) != (b.toNat : Int)) = true := hnb2
        have hib := fun W => Any.strings_IndexByte Tryd.laysIndexByte ((⟨#[13, 10]⟩ : ByteArray).extract 2 2) (b.toNat : Int) W
        change ∀ W, Calls Tryd.prog 130 _ _ _ at hib
        have hib0 : Lib.indexByte ((⟨#[13, 10]⟩ : ByteArray).extract 2 2).data.toList (b.toNat : Int).toNat.toUInt8 = -1 := rfl
        rw [hib0] at hib
        clear g3
        go_enter Tryd.func191, Tryd.ntmps191
        go_wp2_with fail
        refine (hvr _).mono ?_
        rintro e w' ⟨rfl, rfl⟩
        go_wp2_with fail
        go_step3
        go_wp2_with fail
        refine wp_loop_rounds 2 ?_
        clear hvr hcv e0 e1 e2 hf hx h hv
        rw [rounds_succ]
        go_wp2_with fail
        go_step3
        go_wp2_with fail
        go_quiet (fail)
        obtain ⟨q1, hq1⟩ : ∃ q1, q1 = nq := ⟨_, rfl⟩
        subst hq1
        go_wp2_with fail
        go_quiet ((go_at_call 130; refine (hib _).mono ?_; rintro _ _ ⟨rfl, rfl⟩; exact ⟨rfl, _, rfl⟩))
        go_wp2_with fail
        rw [Exit.noGoto_ret]
        change Exit.noGoto _ Exit.ret _ _
        rw [Exit.noGoto_ret]
        go_ret
        exact ⟨rfl, Alt.below (A := fun _ => False) (Alt.drewN _ _ _) (fun _ h _ => h.elim) (Nat.le_refl _)⟩
      have hlast : IntKind.i64.wrap ((rs.size : Int) - 1) = ((rs.size - 1 : Nat) : Int) := by rw [IntWalk.i64_in _ (by omega)]; omega
      have hl2 : ¬ (rs.size : Int) - 1 < 2 := by omega
      have hl3 : ¬ (rs.size - 1 < 2) := by omega
      go_enter Tryd.func191, Tryd.ntmps191
      go_wp2_with fail
      refine (hvr _).mono ?_
      rintro e w' ⟨rfl, rfl⟩
      go_wp2_with fail
      go_step3
      go_wp2_with fail
      refine wp_loop_rounds 1 ?_
      clear hvr hcv e0 e1 e2 hf hx h hv
      rw [rounds_succ]
      go_wp2_with fail
      rw [Exit.noGoto_ret]
      go_ret
      exact ⟨rfl, Below.refl _ _⟩
end YtmaclplhphfkiaaDoor
end Go.Proofs
