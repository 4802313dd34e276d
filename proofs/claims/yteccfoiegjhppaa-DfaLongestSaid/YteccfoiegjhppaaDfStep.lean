/- The scanner's steps, the program's own: where a state goes by a class, which kind it is, whether it goes anywhere. Conditions: a state, a class of the table. -/
import Derived.Test.YteccfoiegjhppaaProg
import Derived.Test.YteccfoiegjhppaaDfMath
import Derived.WalkKit
import Derived.WalkSpells
import Derived.WalkLawsBesides
import Derived.WalkSmall
import Derived.Deep.DeepCutAuto
import Derived.Deep.RegionHeld3
import Derived.BigQuiet
import Derived.Deep.QuietTactic
import Derived.ProofKit
import Derived.Lib.Hide
import Derived.Laws.Tables
import Derived.Great.BuildSlice
import Derived.Deep.WholeRow
namespace Go.Proofs.Yteccfoiegjhppaa
open Go Go.RowKit Go.Lib
def IntB (x : Int) (w : World) (e : Ending) (w' : World) : Prop := e = .returned (.int .i64 x) ∧ Below w.heap.size w w'
def BoolB (b : Bool) (w : World) (e : Ending) (w' : World) : Prop := e = .returned (.bool b) ∧ Below w.heap.size w w'
def ByteB (x : Nat) (w : World) (e : Ending) (w' : World) : Prop := e = .returned (.int .u8 (x : Int)) ∧ Below w.heap.size w w'
theorem int_at (k : IntKind) (zs : List Int) (c : Nat) (x : Int) (h : zs[c]? = some x) : ((zs.map (Value.int k)).toArray)[c]? = some (.int k x) := by
  rw [List.getElem?_toArray, List.getElem?_map, h]; rfl
theorem ints_one (k : IntKind) (zs : List Int) : ((zs.map (Value.int k)).toArray).all (·.oneCell') = true := by
  rw [Array.all_eq_true']
  intro x hx
  simp only [List.mem_toArray, List.mem_map] at hx
  obtain ⟨n, _, rfl⟩ := hx
  rfl
theorem upto24 {c : Nat} (h : c < 24) : c = 0 ∨ c = 1 ∨ c = 2 ∨ c = 3 ∨ c = 4 ∨ c = 5 ∨ c = 6 ∨ c = 7 ∨ c = 8 ∨ c = 9 ∨ c = 10 ∨ c = 11 ∨ c = 12 ∨ c = 13 ∨ c = 14 ∨ c = 15 ∨ c = 16 ∨ c = 17 ∨ c = 18 ∨ c = 19 ∨ c = 20 ∨ c = 21 ∨ c = 22 ∨ c = 23 := by omega
def zs0 : List Int := [34, 1, 1, 7, 8, 9, 34, 2, 32, 12, 14, 16, 18, 20, 22, 24, 25, 26, 27, 28, 29, 30, 31, 33]
def zsk : List Int := [0, 1, 36, 2, 4, 4, 3, 6, 7, 9, 9, 8, 26, 27, 38, 28, 29, 30, 31, 32, 5, 39, 5, 40, 20, 21, 22, 23, 24, 25, 33, 34, 35, 37, 5]
theorem zs0_at {c : Nat} (h : c < 24) : zs0[c]? = some (D.stp 0 c) := by
  have : ∀ c : Fin 24, zs0[c.1]? = some (D.stp 0 c.1) := by decide +kernel
  exact this ⟨c, h⟩
theorem zsk_at {q : Nat} (h : q < 35) : zsk[q]? = some (D.kd q : Int) := by
  have : ∀ c : Fin 35, zsk[c.1]? = some (D.kd c.1 : Int) := by decide +kernel
  exact this ⟨q, h⟩
set_option maxHeartbeats 4000000 in
set_option maxRecDepth 100000 in
theorem first_any (c : Nat) (hc : c < 24) (w : World) : Calls Try.prog 26 #[.int .i64 c] w (IntB (D.stp 0 c) w) := by
  have i1 : (0 : Int) ≤ (c : Int) := Int.natCast_nonneg c
  have i2 : (c : Int) < 24 := by omega
  have HC := Lib.hid (int_at .i64 zs0 c _ (zs0_at hc))
  go_enter Try.func26, Try.ntmps26
  go_upto_region 2 with (first
    | (refine wpList_buildFlatArr rfl 50 3 24 _ rfl .i64 zs0 (by kernel_rfl) (by kernel_rfl) (by kernel_rfl) (by kernel_rfl) ?_)
    | (refine wpList_store_row rfl 50 _ _ rfl w.heap.size (zs0.map (Value.int .i64)).toArray rfl rfl 50 _ (heap_alloc_new w _) (by kernel_rfl) (by rfl) (ints_one _ _) ?_))
  rw [World.setRow_alloc_new]
  generalize hW : w.alloc _ = W0
  have c1 : W0.cell? ⟨w.heap.size, c, none⟩ = some (.int .i64 (D.stp 0 c)) := by
    rw [← hW, Lib.cell_of_heap (heap_alloc_new w _)]
    exact HC.out
  have HB := Lib.hid (show Below w.heap.size w W0 by rw [← hW]; exact (Below.refl w.heap.size w).alloc (Nat.le_refl _) _)
  clear hW
  go_wp2_with fail
  go_ret
  exact ⟨rfl, HB.out⟩
set_option maxHeartbeats 4000000 in
set_option maxRecDepth 100000 in
theorem kind_any (q : Nat) (hq : q < 35) (w : World) : Calls Try.prog 10 #[.int .i64 q] w (ByteB (D.kd q) w) := by
  have i1 : (0 : Int) ≤ (q : Int) := Int.natCast_nonneg q
  have i2 : (q : Int) < 35 := by omega
  have HC := Lib.hid (int_at .u8 zsk q _ (zsk_at hq))
  go_enter Try.func10, Try.ntmps10
  go_upto_region 2 with (first
    | (refine wpList_buildTo rfl 42 _ rfl (some 4) rfl (zsk.map (Value.int .u8)).toArray (by kernel_rfl) ?_)
    | (refine wpList_store_row rfl 42 _ _ rfl w.heap.size (zsk.map (Value.int .u8)).toArray rfl rfl 42 _ (heap_alloc_new w _) (by kernel_rfl) (by rfl) (ints_one _ _) ?_))
  rw [World.setRow_alloc_new]
  generalize hW : w.alloc _ = W0
  have c1 : W0.cell? ⟨w.heap.size, q, none⟩ = some (.int .u8 (D.kd q)) := by
    rw [← hW, Lib.cell_of_heap (heap_alloc_new w _)]
    exact HC.out
  have HB := Lib.hid (show Below w.heap.size w W0 by rw [← hW]; exact (Below.refl w.heap.size w).alloc (Nat.le_refl _) _)
  clear hW
  generalize D.kd q = k at *
  go_wp2_with fail
  go_ret
  exact ⟨rfl, HB.out⟩
set_option maxHeartbeats 400000 in
theorem only_any (b : Bool) (n : Int) (w : World) : Calls Try.prog 27 #[.bool b, .int .i64 n] w (IntB (if b = true then n else -1) w) := by
  cases b
  all_goals
    go_enter Try.func27, Try.ntmps27
    go_wp2_with fail
    go_ret
    exact ⟨rfl, Below.refl _ _⟩
set_option maxHeartbeats 4000000 in
set_option maxRecDepth 100000 in
theorem behindSlash_any (c : Nat) (w : World) : Calls Try.prog 28 #[.int .i64 c] w (IntB (if c = 7 then 3 else if c = 8 then 4 else -1) w) := by
  by_cases h7 : c = 7
  · subst h7
    go_enter Try.func28, Try.ntmps28
    go_wp2_with fail
    go_ret
    exact ⟨rfl, Below.refl _ _⟩
  by_cases h8 : c = 8
  · subst h8
    go_enter Try.func28, Try.ntmps28
    go_wp2_with fail
    go_ret
    exact ⟨rfl, Below.refl _ _⟩
  have e7 : ((c : Int) == 7) = false := by simp; omega
  have e8 : ((c : Int) == 8) = false := by simp; omega
  rw [if_neg h7, if_neg h8]
  clear h7 h8
  · skip
    go_enter Try.func28, Try.ntmps28
    go_wp2_with fail
    go_ret
    exact ⟨rfl, Below.refl _ _⟩
set_option maxHeartbeats 4000000 in
set_option maxRecDepth 100000 in
theorem inComment_any (c : Nat) (q : Nat) (w : World) : Calls Try.prog 29 #[.int .i64 q, .int .i64 c] w (IntB (if c = 8 then 5 else if c = 7 ∧ q = 5 then 6 else 4) w) := by
  by_cases h8 : c = 8
  · subst h8
    go_enter Try.func29, Try.ntmps29
    go_wp2_with fail
    go_ret
    exact ⟨rfl, Below.refl _ _⟩
  by_cases h7 : c = 7
  · subst h7
    by_cases h5 : q = 5
    · subst h5
      go_enter Try.func29, Try.ntmps29
      go_wp2_with fail
      go_ret
      exact ⟨rfl, Below.refl _ _⟩
    have e5 : ((q : Int) == 5) = false := by simp; omega
    rw [if_neg h8, if_neg (fun h => h5 h.2)]
    clear h5 h8
    go_enter Try.func29, Try.ntmps29
    go_wp2_with fail
    go_ret
    exact ⟨rfl, Below.refl _ _⟩
  have e7 : ((c : Int) == 7) = false := by simp; omega
  have e8 : ((c : Int) == 8) = false := by simp; omega
  rw [if_neg h8, if_neg (fun h => h7 h.1)]
  clear h7 h8
  · skip
    go_enter Try.func29, Try.ntmps29
    go_wp2_with fail
    go_ret
    exact ⟨rfl, Below.refl _ _⟩
set_option maxHeartbeats 4000000 in
set_option maxRecDepth 100000 in
theorem inText_any (c : Nat) (w : World) : Calls Try.prog 30 #[.int .i64 c] w (IntB (if c = 5 then 11 else if c = 6 then 10 else if c = 2 then -1 else 9) w) := by
  by_cases h5 : c = 5
  · subst h5
    go_enter Try.func30, Try.ntmps30
    go_wp2_with fail
    go_ret
    exact ⟨rfl, Below.refl _ _⟩
  by_cases h6 : c = 6
  · subst h6
    go_enter Try.func30, Try.ntmps30
    go_wp2_with fail
    go_ret
    exact ⟨rfl, Below.refl _ _⟩
  have e5 : ((c : Int) == 5) = false := by simp; omega
  have e6 : ((c : Int) == 6) = false := by simp; omega
  have HO := Lib.hid (fun b W => only_any b 9 W)
  rw [if_neg h5, if_neg h6]
  by_cases h2 : c = 2
  · subst h2
    go_enter Try.func30, Try.ntmps30
    go_wp2_with fail
    refine (HO.out _ _).mono ?_
    rintro e w' ⟨rfl, hb⟩
    go_wp2_with fail
    go_ret
    exact ⟨rfl, hb⟩
  have e2 : ((c : Int) != 2) = true := by simp; omega
  rw [if_neg h2]
  clear h2 h5 h6
  go_enter Try.func30, Try.ntmps30
  go_wp2_with fail
  refine (HO.out _ _).mono ?_
  rintro e w' ⟨rfl, hb⟩
  go_wp2_with fail
  go_ret
  exact ⟨rfl, hb⟩
end Go.Proofs.Yteccfoiegjhppaa
