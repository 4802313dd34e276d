/- The program's Quote: a character as it is written. Conditions: such as Go can hold. -/
import Derived.Test.YtoolkaahjmnjeaaGreatDoorMW18
import Derived.Deep.RegionHeld3
import Derived.Deep.AppendLies
namespace Go.Proofs.YtoolkaahjmnjeaaGreatDoor
open Go Go.RowKit Go.Shelf Go.Lib

def hx (n : Nat) : UInt8 := if n < 10 then (48 + n).toUInt8 else (87 + n).toUInt8
/-- a byte as it is written in quotes -/
def rb (b : Nat) : List UInt8 :=
  if b = 34 then [92, 34] else if b = 92 then [92, 92] else if b = 8 then [92, 98] else if b = 9 then [92, 116] else if b = 10 then [92, 110] else if b = 12 then [92, 102] else if b = 13 then [92, 114]
  else if b < 32 then [92, 117, 48, 48, hx (b / 16), hx (b % 16)] else [b.toUInt8]
/-- new blocks alone, and what the row may grow by -/
def Grows (w w' : World) (row : Option Nat) : Prop := w.grownBy w' row ∨ ∃ o, (w.alloc o).grownBy w' row ∨ (w.alloc o).drew.grownBy w' row
def App (B : Nat) (v : Value) (l m : List UInt8) (w : World) (en : Ending) (w' : World) : Prop := ∃ v', en = .returned v' ∧ w'.ownsRow B 5 1 v' (l ++ m).length (U.cellsOf (l ++ m)) ∧ Grows w w' v.ownBlock
theorem cells6 {w : World} {a b c d e f : Value} {t : TypeId} : ∀ (j : Nat) (u : Value), [a, b, c, d, e, f][j]? = some u → (w.alloc (.cells #[a, b, c, d, e, f] t)).cell? ((⟨w.heap.size, 0, none⟩ : Addr).add j) = some u := by
  intro j u hj
  match j, hj with
  | 0, hj => simp at hj; subst hj; simp [Addr.add]
  | 1, hj => simp at hj; subst hj; simp [Addr.add]
  | 2, hj => simp at hj; subst hj; simp [Addr.add]
  | 3, hj => simp at hj; subst hj; simp [Addr.add]
  | 4, hj => simp at hj; subst hj; simp [Addr.add]
  | 5, hj => simp at hj; subst hj; simp [Addr.add]
  | (j + 6), hj => simp at hj
theorem cells2 {w : World} {a b : Value} {t : TypeId} : ∀ (j : Nat) (u : Value), [a, b][j]? = some u → (w.alloc (.cells #[a, b] t)).cell? ((⟨w.heap.size, 0, none⟩ : Addr).add j) = some u := by
  intro j u hj
  match j, hj with
  | 0, hj => simp at hj; subst hj; simp [Addr.add]
  | 1, hj => simp at hj; subst hj; simp [Addr.add]
  | (j + 2), hj => simp at hj
theorem cells1 {w : World} {a : Value} {t : TypeId} : ∀ (j : Nat) (u : Value), [a][j]? = some u → (w.alloc (.cells #[a] t)).cell? ((⟨w.heap.size, 0, none⟩ : Addr).add j) = some u := by
  intro j u hj
  match j, hj with
  | 0, hj => simp at hj; subst hj; simp [Addr.add]
  | (j + 1), hj => simp at hj

set_option maxHeartbeats 1000000 in
set_option maxRecDepth 100000 in
theorem char_0 (B : Nat) (v : Value) (l : List UInt8) (w : World) (hown : w.ownsRow B 5 1 v l.length (U.cellsOf l)) (hlen : l.length + 8 ≤ 140737488355328) (hBw : B ≤ w.heap.size) :
    Calls Tryz.prog 187 #[v, .int .i32 0] w (App B v l (rb 0) w) := by
  obtain ⟨i0, hi, hz0, hz1, hz2⟩ := info_parts infoByte
  have ha : bits .and .i32 (0 : Int) 15 = 0 := by decide
  go_enter Tryz.func187, Tryz.ntmps187
  go_wp2_with fail
  go_region_held3 (fun _ => True) (exact trivial)
    ((refine step_append_lies _ (by rfl) _ _ _ (by rfl) B 5 i0 _ 1 1 Tryz.underlying81 hi hz0 hz1 hz2 rfl (by decide) v l.length (U.cellsOf l) (by rfl) ((hown.alloc _).drew) ⟨w.heap.size, 0, none⟩ 6 6 [.int .u8 92, .int .u8 117, .int .u8 48, .int .u8 48, .int .u8 48, .int .u8 48] (by rfl) (by rfl) (World.news_of_block (cs := #[.int .u8 92, .int .u8 117, .int .u8 48, .int .u8 48, .int .u8 48, .int .u8 48]) (t := 5) (fr := (0, 0)) (heap_alloc_new w _)) (by simp [Value.oneCell']) (by decide) (by unfold maxLen; omega) (by omega) (by simp; omega) (w.heap.size + 1) (by simp) ?_; intro gg cap w1 hown1 hgrow hat hlt))
  all_goals go_wp2_with fail
  all_goals
    go_ret
    refine ⟨_, rfl, ?_, .inr ⟨_, .inr hgrow⟩⟩
    rw [List.length_append, ← U.cellsOf_append]
    exact hown1

set_option maxHeartbeats 1000000 in
set_option maxRecDepth 100000 in
theorem char_1 (B : Nat) (v : Value) (l : List UInt8) (w : World) (hown : w.ownsRow B 5 1 v l.length (U.cellsOf l)) (hlen : l.length + 8 ≤ 140737488355328) (hBw : B ≤ w.heap.size) :
    Calls Tryz.prog 187 #[v, .int .i32 1] w (App B v l (rb 1) w) := by
  obtain ⟨i0, hi, hz0, hz1, hz2⟩ := info_parts infoByte
  have ha : bits .and .i32 (1 : Int) 15 = 1 := by decide
  go_enter Tryz.func187, Tryz.ntmps187
  go_wp2_with fail
  go_region_held3 (fun _ => True) (exact trivial)
    ((refine step_append_lies _ (by rfl) _ _ _ (by rfl) B 5 i0 _ 1 1 Tryz.underlying81 hi hz0 hz1 hz2 rfl (by decide) v l.length (U.cellsOf l) (by rfl) ((hown.alloc _).drew) ⟨w.heap.size, 0, none⟩ 6 6 [.int .u8 92, .int .u8 117, .int .u8 48, .int .u8 48, .int .u8 48, .int .u8 49] (by rfl) (by rfl) (World.news_of_block (cs := #[.int .u8 92, .int .u8 117, .int .u8 48, .int .u8 48, .int .u8 48, .int .u8 49]) (t := 5) (fr := (0, 0)) (heap_alloc_new w _)) (by simp [Value.oneCell']) (by decide) (by unfold maxLen; omega) (by omega) (by simp; omega) (w.heap.size + 1) (by simp) ?_; intro gg cap w1 hown1 hgrow hat hlt))
  all_goals go_wp2_with fail
  all_goals
    go_ret
    refine ⟨_, rfl, ?_, .inr ⟨_, .inr hgrow⟩⟩
    rw [List.length_append, ← U.cellsOf_append]
    exact hown1

set_option maxHeartbeats 1000000 in
set_option maxRecDepth 100000 in
theorem char_2 (B : Nat) (v : Value) (l : List UInt8) (w : World) (hown : w.ownsRow B 5 1 v l.length (U.cellsOf l)) (hlen : l.length + 8 ≤ 140737488355328) (hBw : B ≤ w.heap.size) :
    Calls Tryz.prog 187 #[v, .int .i32 2] w (App B v l (rb 2) w) := by
  obtain ⟨i0, hi, hz0, hz1, hz2⟩ := info_parts infoByte
  have ha : bits .and .i32 (2 : Int) 15 = 2 := by decide
  go_enter Tryz.func187, Tryz.ntmps187
  go_wp2_with fail
  go_region_held3 (fun _ => True) (exact trivial)
    ((refine step_append_lies _ (by rfl) _ _ _ (by rfl) B 5 i0 _ 1 1 Tryz.underlying81 hi hz0 hz1 hz2 rfl (by decide) v l.length (U.cellsOf l) (by rfl) ((hown.alloc _).drew) ⟨w.heap.size, 0, none⟩ 6 6 [.int .u8 92, .int .u8 117, .int .u8 48, .int .u8 48, .int .u8 48, .int .u8 50] (by rfl) (by rfl) (World.news_of_block (cs := #[.int .u8 92, .int .u8 117, .int .u8 48, .int .u8 48, .int .u8 48, .int .u8 50]) (t := 5) (fr := (0, 0)) (heap_alloc_new w _)) (by simp [Value.oneCell']) (by decide) (by unfold maxLen; omega) (by omega) (by simp; omega) (w.heap.size + 1) (by simp) ?_; intro gg cap w1 hown1 hgrow hat hlt))
  all_goals go_wp2_with fail
  all_goals
    go_ret
    refine ⟨_, rfl, ?_, .inr ⟨_, .inr hgrow⟩⟩
    rw [List.length_append, ← U.cellsOf_append]
    exact hown1

set_option maxHeartbeats 1000000 in
set_option maxRecDepth 100000 in
theorem char_3 (B : Nat) (v : Value) (l : List UInt8) (w : World) (hown : w.ownsRow B 5 1 v l.length (U.cellsOf l)) (hlen : l.length + 8 ≤ 140737488355328) (hBw : B ≤ w.heap.size) :
    Calls Tryz.prog 187 #[v, .int .i32 3] w (App B v l (rb 3) w) := by
  obtain ⟨i0, hi, hz0, hz1, hz2⟩ := info_parts infoByte
  have ha : bits .and .i32 (3 : Int) 15 = 3 := by decide
  go_enter Tryz.func187, Tryz.ntmps187
  go_wp2_with fail
  go_region_held3 (fun _ => True) (exact trivial)
    ((refine step_append_lies _ (by rfl) _ _ _ (by rfl) B 5 i0 _ 1 1 Tryz.underlying81 hi hz0 hz1 hz2 rfl (by decide) v l.length (U.cellsOf l) (by rfl) ((hown.alloc _).drew) ⟨w.heap.size, 0, none⟩ 6 6 [.int .u8 92, .int .u8 117, .int .u8 48, .int .u8 48, .int .u8 48, .int .u8 51] (by rfl) (by rfl) (World.news_of_block (cs := #[.int .u8 92, .int .u8 117, .int .u8 48, .int .u8 48, .int .u8 48, .int .u8 51]) (t := 5) (fr := (0, 0)) (heap_alloc_new w _)) (by simp [Value.oneCell']) (by decide) (by unfold maxLen; omega) (by omega) (by simp; omega) (w.heap.size + 1) (by simp) ?_; intro gg cap w1 hown1 hgrow hat hlt))
  all_goals go_wp2_with fail
  all_goals
    go_ret
    refine ⟨_, rfl, ?_, .inr ⟨_, .inr hgrow⟩⟩
    rw [List.length_append, ← U.cellsOf_append]
    exact hown1

set_option maxHeartbeats 1000000 in
set_option maxRecDepth 100000 in
theorem char_4 (B : Nat) (v : Value) (l : List UInt8) (w : World) (hown : w.ownsRow B 5 1 v l.length (U.cellsOf l)) (hlen : l.length + 8 ≤ 140737488355328) (hBw : B ≤ w.heap.size) :
    Calls Tryz.prog 187 #[v, .int .i32 4] w (App B v l (rb 4) w) := by
  obtain ⟨i0, hi, hz0, hz1, hz2⟩ := info_parts infoByte
  have ha : bits .and .i32 (4 : Int) 15 = 4 := by decide
  go_enter Tryz.func187, Tryz.ntmps187
  go_wp2_with fail
  go_region_held3 (fun _ => True) (exact trivial)
    ((refine step_append_lies _ (by rfl) _ _ _ (by rfl) B 5 i0 _ 1 1 Tryz.underlying81 hi hz0 hz1 hz2 rfl (by decide) v l.length (U.cellsOf l) (by rfl) ((hown.alloc _).drew) ⟨w.heap.size, 0, none⟩ 6 6 [.int .u8 92, .int .u8 117, .int .u8 48, .int .u8 48, .int .u8 48, .int .u8 52] (by rfl) (by rfl) (World.news_of_block (cs := #[.int .u8 92, .int .u8 117, .int .u8 48, .int .u8 48, .int .u8 48, .int .u8 52]) (t := 5) (fr := (0, 0)) (heap_alloc_new w _)) (by simp [Value.oneCell']) (by decide) (by unfold maxLen; omega) (by omega) (by simp; omega) (w.heap.size + 1) (by simp) ?_; intro gg cap w1 hown1 hgrow hat hlt))
  all_goals go_wp2_with fail
  all_goals
    go_ret
    refine ⟨_, rfl, ?_, .inr ⟨_, .inr hgrow⟩⟩
    rw [List.length_append, ← U.cellsOf_append]
    exact hown1

set_option maxHeartbeats 1000000 in
set_option maxRecDepth 100000 in
theorem char_5 (B : Nat) (v : Value) (l : List UInt8) (w : World) (hown : w.ownsRow B 5 1 v l.length (U.cellsOf l)) (hlen : l.length + 8 ≤ 140737488355328) (hBw : B ≤ w.heap.size) :
    Calls Tryz.prog 187 #[v, .int .i32 5] w (App B v l (rb 5) w) := by
  obtain ⟨i0, hi, hz0, hz1, hz2⟩ := info_parts infoByte
  have ha : bits .and .i32 (5 : Int) 15 = 5 := by decide
  go_enter Tryz.func187, Tryz.ntmps187
  go_wp2_with fail
  go_region_held3 (fun _ => True) (exact trivial)
    ((refine step_append_lies _ (by rfl) _ _ _ (by rfl) B 5 i0 _ 1 1 Tryz.underlying81 hi hz0 hz1 hz2 rfl (by decide) v l.length (U.cellsOf l) (by rfl) ((hown.alloc _).drew) ⟨w.heap.size, 0, none⟩ 6 6 [.int .u8 92, .int .u8 117, .int .u8 48, .int .u8 48, .int .u8 48, .int .u8 53] (by rfl) (by rfl) (World.news_of_block (cs := #[.int .u8 92, .int .u8 117, .int .u8 48, .int .u8 48, .int .u8 48, .int .u8 53]) (t := 5) (fr := (0, 0)) (heap_alloc_new w _)) (by simp [Value.oneCell']) (by decide) (by unfold maxLen; omega) (by omega) (by simp; omega) (w.heap.size + 1) (by simp) ?_; intro gg cap w1 hown1 hgrow hat hlt))
  all_goals go_wp2_with fail
  all_goals
    go_ret
    refine ⟨_, rfl, ?_, .inr ⟨_, .inr hgrow⟩⟩
    rw [List.length_append, ← U.cellsOf_append]
    exact hown1

set_option maxHeartbeats 1000000 in
set_option maxRecDepth 100000 in
theorem char_6 (B : Nat) (v : Value) (l : List UInt8) (w : World) (hown : w.ownsRow B 5 1 v l.length (U.cellsOf l)) (hlen : l.length + 8 ≤ 140737488355328) (hBw : B ≤ w.heap.size) :
    Calls Tryz.prog 187 #[v, .int .i32 6] w (App B v l (rb 6) w) := by
  obtain ⟨i0, hi, hz0, hz1, hz2⟩ := info_parts infoByte
  have ha : bits .and .i32 (6 : Int) 15 = 6 := by decide
  go_enter Tryz.func187, Tryz.ntmps187
  go_wp2_with fail
  go_region_held3 (fun _ => True) (exact trivial)
    ((refine step_append_lies _ (by rfl) _ _ _ (by rfl) B 5 i0 _ 1 1 Tryz.underlying81 hi hz0 hz1 hz2 rfl (by decide) v l.length (U.cellsOf l) (by rfl) ((hown.alloc _).drew) ⟨w.heap.size, 0, none⟩ 6 6 [.int .u8 92, .int .u8 117, .int .u8 48, .int .u8 48, .int .u8 48, .int .u8 54] (by rfl) (by rfl) (World.news_of_block (cs := #[.int .u8 92, .int .u8 117, .int .u8 48, .int .u8 48, .int .u8 48, .int .u8 54]) (t := 5) (fr := (0, 0)) (heap_alloc_new w _)) (by simp [Value.oneCell']) (by decide) (by unfold maxLen; omega) (by omega) (by simp; omega) (w.heap.size + 1) (by simp) ?_; intro gg cap w1 hown1 hgrow hat hlt))
  all_goals go_wp2_with fail
  all_goals
    go_ret
    refine ⟨_, rfl, ?_, .inr ⟨_, .inr hgrow⟩⟩
    rw [List.length_append, ← U.cellsOf_append]
    exact hown1

set_option maxHeartbeats 1000000 in
set_option maxRecDepth 100000 in
theorem char_7 (B : Nat) (v : Value) (l : List UInt8) (w : World) (hown : w.ownsRow B 5 1 v l.length (U.cellsOf l)) (hlen : l.length + 8 ≤ 140737488355328) (hBw : B ≤ w.heap.size) :
    Calls Tryz.prog 187 #[v, .int .i32 7] w (App B v l (rb 7) w) := by
  obtain ⟨i0, hi, hz0, hz1, hz2⟩ := info_parts infoByte
  have ha : bits .and .i32 (7 : Int) 15 = 7 := by decide
  go_enter Tryz.func187, Tryz.ntmps187
  go_wp2_with fail
  go_region_held3 (fun _ => True) (exact trivial)
    ((refine step_append_lies _ (by rfl) _ _ _ (by rfl) B 5 i0 _ 1 1 Tryz.underlying81 hi hz0 hz1 hz2 rfl (by decide) v l.length (U.cellsOf l) (by rfl) ((hown.alloc _).drew) ⟨w.heap.size, 0, none⟩ 6 6 [.int .u8 92, .int .u8 117, .int .u8 48, .int .u8 48, .int .u8 48, .int .u8 55] (by rfl) (by rfl) (World.news_of_block (cs := #[.int .u8 92, .int .u8 117, .int .u8 48, .int .u8 48, .int .u8 48, .int .u8 55]) (t := 5) (fr := (0, 0)) (heap_alloc_new w _)) (by simp [Value.oneCell']) (by decide) (by unfold maxLen; omega) (by omega) (by simp; omega) (w.heap.size + 1) (by simp) ?_; intro gg cap w1 hown1 hgrow hat hlt))
  all_goals go_wp2_with fail
  all_goals
    go_ret
    refine ⟨_, rfl, ?_, .inr ⟨_, .inr hgrow⟩⟩
    rw [List.length_append, ← U.cellsOf_append]
    exact hown1

set_option maxHeartbeats 1000000 in
set_option maxRecDepth 100000 in
theorem char_8 (B : Nat) (v : Value) (l : List UInt8) (w : World) (hown : w.ownsRow B 5 1 v l.length (U.cellsOf l)) (hlen : l.length + 8 ≤ 140737488355328) (hBw : B ≤ w.heap.size) :
    Calls Tryz.prog 187 #[v, .int .i32 8] w (App B v l (rb 8) w) := by
  obtain ⟨i0, hi, hz0, hz1, hz2⟩ := info_parts infoByte
  go_enter Tryz.func187, Tryz.ntmps187
  go_wp2_with (at_builtin; refine wpList_append_own_string _ rfl _ _ 81 9 rfl B 5 i0 Tryz.underlying81 Tryz.underlying9 hi hz0 hz1 hz2 _ l.length (U.cellsOf l) rfl hown _ rfl ?c3 ?c4 hBw ?_)
  case c3 => unfold maxLen; show l.length + 2 ≤ _; omega
  case c4 => show (l.length + 2) ≤ _; omega
  intro v' w2 hown2 hgrow _
  go_wp2_with fail
  go_ret
  refine ⟨v', rfl, ?_, .inl hgrow⟩
  rw [List.length_append, ← U.cellsOf_append]
  exact hown2

set_option maxHeartbeats 1000000 in
set_option maxRecDepth 100000 in
theorem char_9 (B : Nat) (v : Value) (l : List UInt8) (w : World) (hown : w.ownsRow B 5 1 v l.length (U.cellsOf l)) (hlen : l.length + 8 ≤ 140737488355328) (hBw : B ≤ w.heap.size) :
    Calls Tryz.prog 187 #[v, .int .i32 9] w (App B v l (rb 9) w) := by
  obtain ⟨i0, hi, hz0, hz1, hz2⟩ := info_parts infoByte
  go_enter Tryz.func187, Tryz.ntmps187
  go_wp2_with (at_builtin; refine wpList_append_own_string _ rfl _ _ 81 9 rfl B 5 i0 Tryz.underlying81 Tryz.underlying9 hi hz0 hz1 hz2 _ l.length (U.cellsOf l) rfl hown _ rfl ?c3 ?c4 hBw ?_)
  case c3 => unfold maxLen; show l.length + 2 ≤ _; omega
  case c4 => show (l.length + 2) ≤ _; omega
  intro v' w2 hown2 hgrow _
  go_wp2_with fail
  go_ret
  refine ⟨v', rfl, ?_, .inl hgrow⟩
  rw [List.length_append, ← U.cellsOf_append]
  exact hown2

set_option maxHeartbeats 1000000 in
set_option maxRecDepth 100000 in
theorem char_10 (B : Nat) (v : Value) (l : List UInt8) (w : World) (hown : w.ownsRow B 5 1 v l.length (U.cellsOf l)) (hlen : l.length + 8 ≤ 140737488355328) (hBw : B ≤ w.heap.size) :
    Calls Tryz.prog 187 #[v, .int .i32 10] w (App B v l (rb 10) w) := by
  obtain ⟨i0, hi, hz0, hz1, hz2⟩ := info_parts infoByte
  go_enter Tryz.func187, Tryz.ntmps187
  go_wp2_with (at_builtin; refine wpList_append_own_string _ rfl _ _ 81 9 rfl B 5 i0 Tryz.underlying81 Tryz.underlying9 hi hz0 hz1 hz2 _ l.length (U.cellsOf l) rfl hown _ rfl ?c3 ?c4 hBw ?_)
  case c3 => unfold maxLen; show l.length + 2 ≤ _; omega
  case c4 => show (l.length + 2) ≤ _; omega
  intro v' w2 hown2 hgrow _
  go_wp2_with fail
  go_ret
  refine ⟨v', rfl, ?_, .inl hgrow⟩
  rw [List.length_append, ← U.cellsOf_append]
  exact hown2

set_option maxHeartbeats 1000000 in
set_option maxRecDepth 100000 in
theorem char_11 (B : Nat) (v : Value) (l : List UInt8) (w : World) (hown : w.ownsRow B 5 1 v l.length (U.cellsOf l)) (hlen : l.length + 8 ≤ 140737488355328) (hBw : B ≤ w.heap.size) :
    Calls Tryz.prog 187 #[v, .int .i32 11] w (App B v l (rb 11) w) := by
  obtain ⟨i0, hi, hz0, hz1, hz2⟩ := info_parts infoByte
  have ha : bits .and .i32 (11 : Int) 15 = 11 := by decide
  go_enter Tryz.func187, Tryz.ntmps187
  go_wp2_with fail
  go_region_held3 (fun _ => True) (exact trivial)
    ((refine step_append_lies _ (by rfl) _ _ _ (by rfl) B 5 i0 _ 1 1 Tryz.underlying81 hi hz0 hz1 hz2 rfl (by decide) v l.length (U.cellsOf l) (by rfl) ((hown.alloc _).drew) ⟨w.heap.size, 0, none⟩ 6 6 [.int .u8 92, .int .u8 117, .int .u8 48, .int .u8 48, .int .u8 48, .int .u8 98] (by rfl) (by rfl) (World.news_of_block (cs := #[.int .u8 92, .int .u8 117, .int .u8 48, .int .u8 48, .int .u8 48, .int .u8 98]) (t := 5) (fr := (0, 0)) (heap_alloc_new w _)) (by simp [Value.oneCell']) (by decide) (by unfold maxLen; omega) (by omega) (by simp; omega) (w.heap.size + 1) (by simp) ?_; intro gg cap w1 hown1 hgrow hat hlt))
  all_goals go_wp2_with fail
  all_goals
    go_ret
    refine ⟨_, rfl, ?_, .inr ⟨_, .inr hgrow⟩⟩
    rw [List.length_append, ← U.cellsOf_append]
    exact hown1

set_option maxHeartbeats 1000000 in
set_option maxRecDepth 100000 in
theorem char_12 (B : Nat) (v : Value) (l : List UInt8) (w : World) (hown : w.ownsRow B 5 1 v l.length (U.cellsOf l)) (hlen : l.length + 8 ≤ 140737488355328) (hBw : B ≤ w.heap.size) :
    Calls Tryz.prog 187 #[v, .int .i32 12] w (App B v l (rb 12) w) := by
  obtain ⟨i0, hi, hz0, hz1, hz2⟩ := info_parts infoByte
  go_enter Tryz.func187, Tryz.ntmps187
  go_wp2_with (at_builtin; refine wpList_append_own_string _ rfl _ _ 81 9 rfl B 5 i0 Tryz.underlying81 Tryz.underlying9 hi hz0 hz1 hz2 _ l.length (U.cellsOf l) rfl hown _ rfl ?c3 ?c4 hBw ?_)
  case c3 => unfold maxLen; show l.length + 2 ≤ _; omega
  case c4 => show (l.length + 2) ≤ _; omega
  intro v' w2 hown2 hgrow _
  go_wp2_with fail
  go_ret
  refine ⟨v', rfl, ?_, .inl hgrow⟩
  rw [List.length_append, ← U.cellsOf_append]
  exact hown2

set_option maxHeartbeats 1000000 in
set_option maxRecDepth 100000 in
theorem char_13 (B : Nat) (v : Value) (l : List UInt8) (w : World) (hown : w.ownsRow B 5 1 v l.length (U.cellsOf l)) (hlen : l.length + 8 ≤ 140737488355328) (hBw : B ≤ w.heap.size) :
    Calls Tryz.prog 187 #[v, .int .i32 13] w (App B v l (rb 13) w) := by
  obtain ⟨i0, hi, hz0, hz1, hz2⟩ := info_parts infoByte
  go_enter Tryz.func187, Tryz.ntmps187
  go_wp2_with (at_builtin; refine wpList_append_own_string _ rfl _ _ 81 9 rfl B 5 i0 Tryz.underlying81 Tryz.underlying9 hi hz0 hz1 hz2 _ l.length (U.cellsOf l) rfl hown _ rfl ?c3 ?c4 hBw ?_)
  case c3 => unfold maxLen; show l.length + 2 ≤ _; omega
  case c4 => show (l.length + 2) ≤ _; omega
  intro v' w2 hown2 hgrow _
  go_wp2_with fail
  go_ret
  refine ⟨v', rfl, ?_, .inl hgrow⟩
  rw [List.length_append, ← U.cellsOf_append]
  exact hown2

set_option maxHeartbeats 1000000 in
set_option maxRecDepth 100000 in
theorem char_14 (B : Nat) (v : Value) (l : List UInt8) (w : World) (hown : w.ownsRow B 5 1 v l.length (U.cellsOf l)) (hlen : l.length + 8 ≤ 140737488355328) (hBw : B ≤ w.heap.size) :
    Calls Tryz.prog 187 #[v, .int .i32 14] w (App B v l (rb 14) w) := by
  obtain ⟨i0, hi, hz0, hz1, hz2⟩ := info_parts infoByte
  have ha : bits .and .i32 (14 : Int) 15 = 14 := by decide
  go_enter Tryz.func187, Tryz.ntmps187
  go_wp2_with fail
  go_region_held3 (fun _ => True) (exact trivial)
    ((refine step_append_lies _ (by rfl) _ _ _ (by rfl) B 5 i0 _ 1 1 Tryz.underlying81 hi hz0 hz1 hz2 rfl (by decide) v l.length (U.cellsOf l) (by rfl) ((hown.alloc _).drew) ⟨w.heap.size, 0, none⟩ 6 6 [.int .u8 92, .int .u8 117, .int .u8 48, .int .u8 48, .int .u8 48, .int .u8 101] (by rfl) (by rfl) (World.news_of_block (cs := #[.int .u8 92, .int .u8 117, .int .u8 48, .int .u8 48, .int .u8 48, .int .u8 101]) (t := 5) (fr := (0, 0)) (heap_alloc_new w _)) (by simp [Value.oneCell']) (by decide) (by unfold maxLen; omega) (by omega) (by simp; omega) (w.heap.size + 1) (by simp) ?_; intro gg cap w1 hown1 hgrow hat hlt))
  all_goals go_wp2_with fail
  all_goals
    go_ret
    refine ⟨_, rfl, ?_, .inr ⟨_, .inr hgrow⟩⟩
    rw [List.length_append, ← U.cellsOf_append]
    exact hown1

set_option maxHeartbeats 1000000 in
set_option maxRecDepth 100000 in
theorem char_15 (B : Nat) (v : Value) (l : List UInt8) (w : World) (hown : w.ownsRow B 5 1 v l.length (U.cellsOf l)) (hlen : l.length + 8 ≤ 140737488355328) (hBw : B ≤ w.heap.size) :
    Calls Tryz.prog 187 #[v, .int .i32 15] w (App B v l (rb 15) w) := by
  obtain ⟨i0, hi, hz0, hz1, hz2⟩ := info_parts infoByte
  have ha : bits .and .i32 (15 : Int) 15 = 15 := by decide
  go_enter Tryz.func187, Tryz.ntmps187
  go_wp2_with fail
  go_region_held3 (fun _ => True) (exact trivial)
    ((refine step_append_lies _ (by rfl) _ _ _ (by rfl) B 5 i0 _ 1 1 Tryz.underlying81 hi hz0 hz1 hz2 rfl (by decide) v l.length (U.cellsOf l) (by rfl) ((hown.alloc _).drew) ⟨w.heap.size, 0, none⟩ 6 6 [.int .u8 92, .int .u8 117, .int .u8 48, .int .u8 48, .int .u8 48, .int .u8 102] (by rfl) (by rfl) (World.news_of_block (cs := #[.int .u8 92, .int .u8 117, .int .u8 48, .int .u8 48, .int .u8 48, .int .u8 102]) (t := 5) (fr := (0, 0)) (heap_alloc_new w _)) (by simp [Value.oneCell']) (by decide) (by unfold maxLen; omega) (by omega) (by simp; omega) (w.heap.size + 1) (by simp) ?_; intro gg cap w1 hown1 hgrow hat hlt))
  all_goals go_wp2_with fail
  all_goals
    go_ret
    refine ⟨_, rfl, ?_, .inr ⟨_, .inr hgrow⟩⟩
    rw [List.length_append, ← U.cellsOf_append]
    exact hown1

set_option maxHeartbeats 1000000 in
set_option maxRecDepth 100000 in
theorem char_16 (B : Nat) (v : Value) (l : List UInt8) (w : World) (hown : w.ownsRow B 5 1 v l.length (U.cellsOf l)) (hlen : l.length + 8 ≤ 140737488355328) (hBw : B ≤ w.heap.size) :
    Calls Tryz.prog 187 #[v, .int .i32 16] w (App B v l (rb 16) w) := by
  obtain ⟨i0, hi, hz0, hz1, hz2⟩ := info_parts infoByte
  have ha : bits .and .i32 (16 : Int) 15 = 0 := by decide
  go_enter Tryz.func187, Tryz.ntmps187
  go_wp2_with fail
  go_region_held3 (fun _ => True) (exact trivial)
    ((refine step_append_lies _ (by rfl) _ _ _ (by rfl) B 5 i0 _ 1 1 Tryz.underlying81 hi hz0 hz1 hz2 rfl (by decide) v l.length (U.cellsOf l) (by rfl) ((hown.alloc _).drew) ⟨w.heap.size, 0, none⟩ 6 6 [.int .u8 92, .int .u8 117, .int .u8 48, .int .u8 48, .int .u8 49, .int .u8 48] (by rfl) (by rfl) (World.news_of_block (cs := #[.int .u8 92, .int .u8 117, .int .u8 48, .int .u8 48, .int .u8 49, .int .u8 48]) (t := 5) (fr := (0, 0)) (heap_alloc_new w _)) (by simp [Value.oneCell']) (by decide) (by unfold maxLen; omega) (by omega) (by simp; omega) (w.heap.size + 1) (by simp) ?_; intro gg cap w1 hown1 hgrow hat hlt))
  all_goals go_wp2_with fail
  all_goals
    go_ret
    refine ⟨_, rfl, ?_, .inr ⟨_, .inr hgrow⟩⟩
    rw [List.length_append, ← U.cellsOf_append]
    exact hown1

set_option maxHeartbeats 1000000 in
set_option maxRecDepth 100000 in
theorem char_17 (B : Nat) (v : Value) (l : List UInt8) (w : World) (hown : w.ownsRow B 5 1 v l.length (U.cellsOf l)) (hlen : l.length + 8 ≤ 140737488355328) (hBw : B ≤ w.heap.size) :
    Calls Tryz.prog 187 #[v, .int .i32 17] w (App B v l (rb 17) w) := by
  obtain ⟨i0, hi, hz0, hz1, hz2⟩ := info_parts infoByte
  have ha : bits .and .i32 (17 : Int) 15 = 1 := by decide
  go_enter Tryz.func187, Tryz.ntmps187
  go_wp2_with fail
  go_region_held3 (fun _ => True) (exact trivial)
    ((refine step_append_lies _ (by rfl) _ _ _ (by rfl) B 5 i0 _ 1 1 Tryz.underlying81 hi hz0 hz1 hz2 rfl (by decide) v l.length (U.cellsOf l) (by rfl) ((hown.alloc _).drew) ⟨w.heap.size, 0, none⟩ 6 6 [.int .u8 92, .int .u8 117, .int .u8 48, .int .u8 48, .int .u8 49, .int .u8 49] (by rfl) (by rfl) (World.news_of_block (cs := #[.int .u8 92, .int .u8 117, .int .u8 48, .int .u8 48, .int .u8 49, .int .u8 49]) (t := 5) (fr := (0, 0)) (heap_alloc_new w _)) (by simp [Value.oneCell']) (by decide) (by unfold maxLen; omega) (by omega) (by simp; omega) (w.heap.size + 1) (by simp) ?_; intro gg cap w1 hown1 hgrow hat hlt))
  all_goals go_wp2_with fail
  all_goals
    go_ret
    refine ⟨_, rfl, ?_, .inr ⟨_, .inr hgrow⟩⟩
    rw [List.length_append, ← U.cellsOf_append]
    exact hown1

set_option maxHeartbeats 1000000 in
set_option maxRecDepth 100000 in
theorem char_18 (B : Nat) (v : Value) (l : List UInt8) (w : World) (hown : w.ownsRow B 5 1 v l.length (U.cellsOf l)) (hlen : l.length + 8 ≤ 140737488355328) (hBw : B ≤ w.heap.size) :
    Calls Tryz.prog 187 #[v, .int .i32 18] w (App B v l (rb 18) w) := by
  obtain ⟨i0, hi, hz0, hz1, hz2⟩ := info_parts infoByte
  have ha : bits .and .i32 (18 : Int) 15 = 2 := by decide
  go_enter Tryz.func187, Tryz.ntmps187
  go_wp2_with fail
  go_region_held3 (fun _ => True) (exact trivial)
    ((refine step_append_lies _ (by rfl) _ _ _ (by rfl) B 5 i0 _ 1 1 Tryz.underlying81 hi hz0 hz1 hz2 rfl (by decide) v l.length (U.cellsOf l) (by rfl) ((hown.alloc _).drew) ⟨w.heap.size, 0, none⟩ 6 6 [.int .u8 92, .int .u8 117, .int .u8 48, .int .u8 48, .int .u8 49, .int .u8 50] (by rfl) (by rfl) (World.news_of_block (cs := #[.int .u8 92, .int .u8 117, .int .u8 48, .int .u8 48, .int .u8 49, .int .u8 50]) (t := 5) (fr := (0, 0)) (heap_alloc_new w _)) (by simp [Value.oneCell']) (by decide) (by unfold maxLen; omega) (by omega) (by simp; omega) (w.heap.size + 1) (by simp) ?_; intro gg cap w1 hown1 hgrow hat hlt))
  all_goals go_wp2_with fail
  all_goals
    go_ret
    refine ⟨_, rfl, ?_, .inr ⟨_, .inr hgrow⟩⟩
    rw [List.length_append, ← U.cellsOf_append]
    exact hown1

set_option maxHeartbeats 1000000 in
set_option maxRecDepth 100000 in
theorem char_19 (B : Nat) (v : Value) (l : List UInt8) (w : World) (hown : w.ownsRow B 5 1 v l.length (U.cellsOf l)) (hlen : l.length + 8 ≤ 140737488355328) (hBw : B ≤ w.heap.size) :
    Calls Tryz.prog 187 #[v, .int .i32 19] w (App B v l (rb 19) w) := by
  obtain ⟨i0, hi, hz0, hz1, hz2⟩ := info_parts infoByte
  have ha : bits .and .i32 (19 : Int) 15 = 3 := by decide
  go_enter Tryz.func187, Tryz.ntmps187
  go_wp2_with fail
  go_region_held3 (fun _ => True) (exact trivial)
    ((refine step_append_lies _ (by rfl) _ _ _ (by rfl) B 5 i0 _ 1 1 Tryz.underlying81 hi hz0 hz1 hz2 rfl (by decide) v l.length (U.cellsOf l) (by rfl) ((hown.alloc _).drew) ⟨w.heap.size, 0, none⟩ 6 6 [.int .u8 92, .int .u8 117, .int .u8 48, .int .u8 48, .int .u8 49, .int .u8 51] (by rfl) (by rfl) (World.news_of_block (cs := #[.int .u8 92, .int .u8 117, .int .u8 48, .int .u8 48, .int .u8 49, .int .u8 51]) (t := 5) (fr := (0, 0)) (heap_alloc_new w _)) (by simp [Value.oneCell']) (by decide) (by unfold maxLen; omega) (by omega) (by simp; omega) (w.heap.size + 1) (by simp) ?_; intro gg cap w1 hown1 hgrow hat hlt))
  all_goals go_wp2_with fail
  all_goals
    go_ret
    refine ⟨_, rfl, ?_, .inr ⟨_, .inr hgrow⟩⟩
    rw [List.length_append, ← U.cellsOf_append]
    exact hown1

set_option maxHeartbeats 1000000 in
set_option maxRecDepth 100000 in
theorem char_20 (B : Nat) (v : Value) (l : List UInt8) (w : World) (hown : w.ownsRow B 5 1 v l.length (U.cellsOf l)) (hlen : l.length + 8 ≤ 140737488355328) (hBw : B ≤ w.heap.size) :
    Calls Tryz.prog 187 #[v, .int .i32 20] w (App B v l (rb 20) w) := by
  obtain ⟨i0, hi, hz0, hz1, hz2⟩ := info_parts infoByte
  have ha : bits .and .i32 (20 : Int) 15 = 4 := by decide
  go_enter Tryz.func187, Tryz.ntmps187
  go_wp2_with fail
  go_region_held3 (fun _ => True) (exact trivial)
    ((refine step_append_lies _ (by rfl) _ _ _ (by rfl) B 5 i0 _ 1 1 Tryz.underlying81 hi hz0 hz1 hz2 rfl (by decide) v l.length (U.cellsOf l) (by rfl) ((hown.alloc _).drew) ⟨w.heap.size, 0, none⟩ 6 6 [.int .u8 92, .int .u8 117, .int .u8 48, .int .u8 48, .int .u8 49, .int .u8 52] (by rfl) (by rfl) (World.news_of_block (cs := #[.int .u8 92, .int .u8 117, .int .u8 48, .int .u8 48, .int .u8 49, .int .u8 52]) (t := 5) (fr := (0, 0)) (heap_alloc_new w _)) (by simp [Value.oneCell']) (by decide) (by unfold maxLen; omega) (by omega) (by simp; omega) (w.heap.size + 1) (by simp) ?_; intro gg cap w1 hown1 hgrow hat hlt))
  all_goals go_wp2_with fail
  all_goals
    go_ret
    refine ⟨_, rfl, ?_, .inr ⟨_, .inr hgrow⟩⟩
    rw [List.length_append, ← U.cellsOf_append]
    exact hown1

set_option maxHeartbeats 1000000 in
set_option maxRecDepth 100000 in
theorem char_21 (B : Nat) (v : Value) (l : List UInt8) (w : World) (hown : w.ownsRow B 5 1 v l.length (U.cellsOf l)) (hlen : l.length + 8 ≤ 140737488355328) (hBw : B ≤ w.heap.size) :
    Calls Tryz.prog 187 #[v, .int .i32 21] w (App B v l (rb 21) w) := by
  obtain ⟨i0, hi, hz0, hz1, hz2⟩ := info_parts infoByte
  have ha : bits .and .i32 (21 : Int) 15 = 5 := by decide
  go_enter Tryz.func187, Tryz.ntmps187
  go_wp2_with fail
  go_region_held3 (fun _ => True) (exact trivial)
    ((refine step_append_lies _ (by rfl) _ _ _ (by rfl) B 5 i0 _ 1 1 Tryz.underlying81 hi hz0 hz1 hz2 rfl (by decide) v l.length (U.cellsOf l) (by rfl) ((hown.alloc _).drew) ⟨w.heap.size, 0, none⟩ 6 6 [.int .u8 92, .int .u8 117, .int .u8 48, .int .u8 48, .int .u8 49, .int .u8 53] (by rfl) (by rfl) (World.news_of_block (cs := #[.int .u8 92, .int .u8 117, .int .u8 48, .int .u8 48, .int .u8 49, .int .u8 53]) (t := 5) (fr := (0, 0)) (heap_alloc_new w _)) (by simp [Value.oneCell']) (by decide) (by unfold maxLen; omega) (by omega) (by simp; omega) (w.heap.size + 1) (by simp) ?_; intro gg cap w1 hown1 hgrow hat hlt))
  all_goals go_wp2_with fail
  all_goals
    go_ret
    refine ⟨_, rfl, ?_, .inr ⟨_, .inr hgrow⟩⟩
    rw [List.length_append, ← U.cellsOf_append]
    exact hown1

set_option maxHeartbeats 1000000 in
set_option maxRecDepth 100000 in
theorem char_22 (B : Nat) (v : Value) (l : List UInt8) (w : World) (hown : w.ownsRow B 5 1 v l.length (U.cellsOf l)) (hlen : l.length + 8 ≤ 140737488355328) (hBw : B ≤ w.heap.size) :
    Calls Tryz.prog 187 #[v, .int .i32 22] w (App B v l (rb 22) w) := by
  obtain ⟨i0, hi, hz0, hz1, hz2⟩ := info_parts infoByte
  have ha : bits .and .i32 (22 : Int) 15 = 6 := by decide
  go_enter Tryz.func187, Tryz.ntmps187
  go_wp2_with fail
  go_region_held3 (fun _ => True) (exact trivial)
    ((refine step_append_lies _ (by rfl) _ _ _ (by rfl) B 5 i0 _ 1 1 Tryz.underlying81 hi hz0 hz1 hz2 rfl (by decide) v l.length (U.cellsOf l) (by rfl) ((hown.alloc _).drew) ⟨w.heap.size, 0, none⟩ 6 6 [.int .u8 92, .int .u8 117, .int .u8 48, .int .u8 48, .int .u8 49, .int .u8 54] (by rfl) (by rfl) (World.news_of_block (cs := #[.int .u8 92, .int .u8 117, .int .u8 48, .int .u8 48, .int .u8 49, .int .u8 54]) (t := 5) (fr := (0, 0)) (heap_alloc_new w _)) (by simp [Value.oneCell']) (by decide) (by unfold maxLen; omega) (by omega) (by simp; omega) (w.heap.size + 1) (by simp) ?_; intro gg cap w1 hown1 hgrow hat hlt))
  all_goals go_wp2_with fail
  all_goals
    go_ret
    refine ⟨_, rfl, ?_, .inr ⟨_, .inr hgrow⟩⟩
    rw [List.length_append, ← U.cellsOf_append]
    exact hown1

set_option maxHeartbeats 1000000 in
set_option maxRecDepth 100000 in
theorem char_23 (B : Nat) (v : Value) (l : List UInt8) (w : World) (hown : w.ownsRow B 5 1 v l.length (U.cellsOf l)) (hlen : l.length + 8 ≤ 140737488355328) (hBw : B ≤ w.heap.size) :
    Calls Tryz.prog 187 #[v, .int .i32 23] w (App B v l (rb 23) w) := by
  obtain ⟨i0, hi, hz0, hz1, hz2⟩ := info_parts infoByte
  have ha : bits .and .i32 (23 : Int) 15 = 7 := by decide
  go_enter Tryz.func187, Tryz.ntmps187
  go_wp2_with fail
  go_region_held3 (fun _ => True) (exact trivial)
    ((refine step_append_lies _ (by rfl) _ _ _ (by rfl) B 5 i0 _ 1 1 Tryz.underlying81 hi hz0 hz1 hz2 rfl (by decide) v l.length (U.cellsOf l) (by rfl) ((hown.alloc _).drew) ⟨w.heap.size, 0, none⟩ 6 6 [.int .u8 92, .int .u8 117, .int .u8 48, .int .u8 48, .int .u8 49, .int .u8 55] (by rfl) (by rfl) (World.news_of_block (cs := #[.int .u8 92, .int .u8 117, .int .u8 48, .int .u8 48, .int .u8 49, .int .u8 55]) (t := 5) (fr := (0, 0)) (heap_alloc_new w _)) (by simp [Value.oneCell']) (by decide) (by unfold maxLen; omega) (by omega) (by simp; omega) (w.heap.size + 1) (by simp) ?_; intro gg cap w1 hown1 hgrow hat hlt))
  all_goals go_wp2_with fail
  all_goals
    go_ret
    refine ⟨_, rfl, ?_, .inr ⟨_, .inr hgrow⟩⟩
    rw [List.length_append, ← U.cellsOf_append]
    exact hown1

set_option maxHeartbeats 1000000 in
set_option maxRecDepth 100000 in
theorem char_24 (B : Nat) (v : Value) (l : List UInt8) (w : World) (hown : w.ownsRow B 5 1 v l.length (U.cellsOf l)) (hlen : l.length + 8 ≤ 140737488355328) (hBw : B ≤ w.heap.size) :
    Calls Tryz.prog 187 #[v, .int .i32 24] w (App B v l (rb 24) w) := by
  obtain ⟨i0, hi, hz0, hz1, hz2⟩ := info_parts infoByte
  have ha : bits .and .i32 (24 : Int) 15 = 8 := by decide
  go_enter Tryz.func187, Tryz.ntmps187
  go_wp2_with fail
  go_region_held3 (fun _ => True) (exact trivial)
    ((refine step_append_lies _ (by rfl) _ _ _ (by rfl) B 5 i0 _ 1 1 Tryz.underlying81 hi hz0 hz1 hz2 rfl (by decide) v l.length (U.cellsOf l) (by rfl) ((hown.alloc _).drew) ⟨w.heap.size, 0, none⟩ 6 6 [.int .u8 92, .int .u8 117, .int .u8 48, .int .u8 48, .int .u8 49, .int .u8 56] (by rfl) (by rfl) (World.news_of_block (cs := #[.int .u8 92, .int .u8 117, .int .u8 48, .int .u8 48, .int .u8 49, .int .u8 56]) (t := 5) (fr := (0, 0)) (heap_alloc_new w _)) (by simp [Value.oneCell']) (by decide) (by unfold maxLen; omega) (by omega) (by simp; omega) (w.heap.size + 1) (by simp) ?_; intro gg cap w1 hown1 hgrow hat hlt))
  all_goals go_wp2_with fail
  all_goals
    go_ret
    refine ⟨_, rfl, ?_, .inr ⟨_, .inr hgrow⟩⟩
    rw [List.length_append, ← U.cellsOf_append]
    exact hown1

set_option maxHeartbeats 1000000 in
set_option maxRecDepth 100000 in
theorem char_25 (B : Nat) (v : Value) (l : List UInt8) (w : World) (hown : w.ownsRow B 5 1 v l.length (U.cellsOf l)) (hlen : l.length + 8 ≤ 140737488355328) (hBw : B ≤ w.heap.size) :
    Calls Tryz.prog 187 #[v, .int .i32 25] w (App B v l (rb 25) w) := by
  obtain ⟨i0, hi, hz0, hz1, hz2⟩ := info_parts infoByte
  have ha : bits .and .i32 (25 : Int) 15 = 9 := by decide
  go_enter Tryz.func187, Tryz.ntmps187
  go_wp2_with fail
  go_region_held3 (fun _ => True) (exact trivial)
    ((refine step_append_lies _ (by rfl) _ _ _ (by rfl) B 5 i0 _ 1 1 Tryz.underlying81 hi hz0 hz1 hz2 rfl (by decide) v l.length (U.cellsOf l) (by rfl) ((hown.alloc _).drew) ⟨w.heap.size, 0, none⟩ 6 6 [.int .u8 92, .int .u8 117, .int .u8 48, .int .u8 48, .int .u8 49, .int .u8 57] (by rfl) (by rfl) (World.news_of_block (cs := #[.int .u8 92, .int .u8 117, .int .u8 48, .int .u8 48, .int .u8 49, .int .u8 57]) (t := 5) (fr := (0, 0)) (heap_alloc_new w _)) (by simp [Value.oneCell']) (by decide) (by unfold maxLen; omega) (by omega) (by simp; omega) (w.heap.size + 1) (by simp) ?_; intro gg cap w1 hown1 hgrow hat hlt))
  all_goals go_wp2_with fail
  all_goals
    go_ret
    refine ⟨_, rfl, ?_, .inr ⟨_, .inr hgrow⟩⟩
    rw [List.length_append, ← U.cellsOf_append]
    exact hown1

set_option maxHeartbeats 1000000 in
set_option maxRecDepth 100000 in
theorem char_26 (B : Nat) (v : Value) (l : List UInt8) (w : World) (hown : w.ownsRow B 5 1 v l.length (U.cellsOf l)) (hlen : l.length + 8 ≤ 140737488355328) (hBw : B ≤ w.heap.size) :
    Calls Tryz.prog 187 #[v, .int .i32 26] w (App B v l (rb 26) w) := by
  obtain ⟨i0, hi, hz0, hz1, hz2⟩ := info_parts infoByte
  have ha : bits .and .i32 (26 : Int) 15 = 10 := by decide
  go_enter Tryz.func187, Tryz.ntmps187
  go_wp2_with fail
  go_region_held3 (fun _ => True) (exact trivial)
    ((refine step_append_lies _ (by rfl) _ _ _ (by rfl) B 5 i0 _ 1 1 Tryz.underlying81 hi hz0 hz1 hz2 rfl (by decide) v l.length (U.cellsOf l) (by rfl) ((hown.alloc _).drew) ⟨w.heap.size, 0, none⟩ 6 6 [.int .u8 92, .int .u8 117, .int .u8 48, .int .u8 48, .int .u8 49, .int .u8 97] (by rfl) (by rfl) (World.news_of_block (cs := #[.int .u8 92, .int .u8 117, .int .u8 48, .int .u8 48, .int .u8 49, .int .u8 97]) (t := 5) (fr := (0, 0)) (heap_alloc_new w _)) (by simp [Value.oneCell']) (by decide) (by unfold maxLen; omega) (by omega) (by simp; omega) (w.heap.size + 1) (by simp) ?_; intro gg cap w1 hown1 hgrow hat hlt))
  all_goals go_wp2_with fail
  all_goals
    go_ret
    refine ⟨_, rfl, ?_, .inr ⟨_, .inr hgrow⟩⟩
    rw [List.length_append, ← U.cellsOf_append]
    exact hown1

set_option maxHeartbeats 1000000 in
set_option maxRecDepth 100000 in
theorem char_27 (B : Nat) (v : Value) (l : List UInt8) (w : World) (hown : w.ownsRow B 5 1 v l.length (U.cellsOf l)) (hlen : l.length + 8 ≤ 140737488355328) (hBw : B ≤ w.heap.size) :
    Calls Tryz.prog 187 #[v, .int .i32 27] w (App B v l (rb 27) w) := by
  obtain ⟨i0, hi, hz0, hz1, hz2⟩ := info_parts infoByte
  have ha : bits .and .i32 (27 : Int) 15 = 11 := by decide
  go_enter Tryz.func187, Tryz.ntmps187
  go_wp2_with fail
  go_region_held3 (fun _ => True) (exact trivial)
    ((refine step_append_lies _ (by rfl) _ _ _ (by rfl) B 5 i0 _ 1 1 Tryz.underlying81 hi hz0 hz1 hz2 rfl (by decide) v l.length (U.cellsOf l) (by rfl) ((hown.alloc _).drew) ⟨w.heap.size, 0, none⟩ 6 6 [.int .u8 92, .int .u8 117, .int .u8 48, .int .u8 48, .int .u8 49, .int .u8 98] (by rfl) (by rfl) (World.news_of_block (cs := #[.int .u8 92, .int .u8 117, .int .u8 48, .int .u8 48, .int .u8 49, .int .u8 98]) (t := 5) (fr := (0, 0)) (heap_alloc_new w _)) (by simp [Value.oneCell']) (by decide) (by unfold maxLen; omega) (by omega) (by simp; omega) (w.heap.size + 1) (by simp) ?_; intro gg cap w1 hown1 hgrow hat hlt))
  all_goals go_wp2_with fail
  all_goals
    go_ret
    refine ⟨_, rfl, ?_, .inr ⟨_, .inr hgrow⟩⟩
    rw [List.length_append, ← U.cellsOf_append]
    exact hown1

set_option maxHeartbeats 1000000 in
set_option maxRecDepth 100000 in
theorem char_28 (B : Nat) (v : Value) (l : List UInt8) (w : World) (hown : w.ownsRow B 5 1 v l.length (U.cellsOf l)) (hlen : l.length + 8 ≤ 140737488355328) (hBw : B ≤ w.heap.size) :
    Calls Tryz.prog 187 #[v, .int .i32 28] w (App B v l (rb 28) w) := by
  obtain ⟨i0, hi, hz0, hz1, hz2⟩ := info_parts infoByte
  have ha : bits .and .i32 (28 : Int) 15 = 12 := by decide
  go_enter Tryz.func187, Tryz.ntmps187
  go_wp2_with fail
  go_region_held3 (fun _ => True) (exact trivial)
    ((refine step_append_lies _ (by rfl) _ _ _ (by rfl) B 5 i0 _ 1 1 Tryz.underlying81 hi hz0 hz1 hz2 rfl (by decide) v l.length (U.cellsOf l) (by rfl) ((hown.alloc _).drew) ⟨w.heap.size, 0, none⟩ 6 6 [.int .u8 92, .int .u8 117, .int .u8 48, .int .u8 48, .int .u8 49, .int .u8 99] (by rfl) (by rfl) (World.news_of_block (cs := #[.int .u8 92, .int .u8 117, .int .u8 48, .int .u8 48, .int .u8 49, .int .u8 99]) (t := 5) (fr := (0, 0)) (heap_alloc_new w _)) (by simp [Value.oneCell']) (by decide) (by unfold maxLen; omega) (by omega) (by simp; omega) (w.heap.size + 1) (by simp) ?_; intro gg cap w1 hown1 hgrow hat hlt))
  all_goals go_wp2_with fail
  all_goals
    go_ret
    refine ⟨_, rfl, ?_, .inr ⟨_, .inr hgrow⟩⟩
    rw [List.length_append, ← U.cellsOf_append]
    exact hown1

set_option maxHeartbeats 1000000 in
set_option maxRecDepth 100000 in
theorem char_29 (B : Nat) (v : Value) (l : List UInt8) (w : World) (hown : w.ownsRow B 5 1 v l.length (U.cellsOf l)) (hlen : l.length + 8 ≤ 140737488355328) (hBw : B ≤ w.heap.size) :
    Calls Tryz.prog 187 #[v, .int .i32 29] w (App B v l (rb 29) w) := by
  obtain ⟨i0, hi, hz0, hz1, hz2⟩ := info_parts infoByte
  have ha : bits .and .i32 (29 : Int) 15 = 13 := by decide
  go_enter Tryz.func187, Tryz.ntmps187
  go_wp2_with fail
  go_region_held3 (fun _ => True) (exact trivial)
    ((refine step_append_lies _ (by rfl) _ _ _ (by rfl) B 5 i0 _ 1 1 Tryz.underlying81 hi hz0 hz1 hz2 rfl (by decide) v l.length (U.cellsOf l) (by rfl) ((hown.alloc _).drew) ⟨w.heap.size, 0, none⟩ 6 6 [.int .u8 92, .int .u8 117, .int .u8 48, .int .u8 48, .int .u8 49, .int .u8 100] (by rfl) (by rfl) (World.news_of_block (cs := #[.int .u8 92, .int .u8 117, .int .u8 48, .int .u8 48, .int .u8 49, .int .u8 100]) (t := 5) (fr := (0, 0)) (heap_alloc_new w _)) (by simp [Value.oneCell']) (by decide) (by unfold maxLen; omega) (by omega) (by simp; omega) (w.heap.size + 1) (by simp) ?_; intro gg cap w1 hown1 hgrow hat hlt))
  all_goals go_wp2_with fail
  all_goals
    go_ret
    refine ⟨_, rfl, ?_, .inr ⟨_, .inr hgrow⟩⟩
    rw [List.length_append, ← U.cellsOf_append]
    exact hown1

set_option maxHeartbeats 1000000 in
set_option maxRecDepth 100000 in
theorem char_30 (B : Nat) (v : Value) (l : List UInt8) (w : World) (hown : w.ownsRow B 5 1 v l.length (U.cellsOf l)) (hlen : l.length + 8 ≤ 140737488355328) (hBw : B ≤ w.heap.size) :
    Calls Tryz.prog 187 #[v, .int .i32 30] w (App B v l (rb 30) w) := by
  obtain ⟨i0, hi, hz0, hz1, hz2⟩ := info_parts infoByte
  have ha : bits .and .i32 (30 : Int) 15 = 14 := by decide
  go_enter Tryz.func187, Tryz.ntmps187
  go_wp2_with fail
  go_region_held3 (fun _ => True) (exact trivial)
    ((refine step_append_lies _ (by rfl) _ _ _ (by rfl) B 5 i0 _ 1 1 Tryz.underlying81 hi hz0 hz1 hz2 rfl (by decide) v l.length (U.cellsOf l) (by rfl) ((hown.alloc _).drew) ⟨w.heap.size, 0, none⟩ 6 6 [.int .u8 92, .int .u8 117, .int .u8 48, .int .u8 48, .int .u8 49, .int .u8 101] (by rfl) (by rfl) (World.news_of_block (cs := #[.int .u8 92, .int .u8 117, .int .u8 48, .int .u8 48, .int .u8 49, .int .u8 101]) (t := 5) (fr := (0, 0)) (heap_alloc_new w _)) (by simp [Value.oneCell']) (by decide) (by unfold maxLen; omega) (by omega) (by simp; omega) (w.heap.size + 1) (by simp) ?_; intro gg cap w1 hown1 hgrow hat hlt))
  all_goals go_wp2_with fail
  all_goals
    go_ret
    refine ⟨_, rfl, ?_, .inr ⟨_, .inr hgrow⟩⟩
    rw [List.length_append, ← U.cellsOf_append]
    exact hown1

set_option maxHeartbeats 1000000 in
set_option maxRecDepth 100000 in
theorem char_31 (B : Nat) (v : Value) (l : List UInt8) (w : World) (hown : w.ownsRow B 5 1 v l.length (U.cellsOf l)) (hlen : l.length + 8 ≤ 140737488355328) (hBw : B ≤ w.heap.size) :
    Calls Tryz.prog 187 #[v, .int .i32 31] w (App B v l (rb 31) w) := by
  obtain ⟨i0, hi, hz0, hz1, hz2⟩ := info_parts infoByte
  have ha : bits .and .i32 (31 : Int) 15 = 15 := by decide
  go_enter Tryz.func187, Tryz.ntmps187
  go_wp2_with fail
  go_region_held3 (fun _ => True) (exact trivial)
    ((refine step_append_lies _ (by rfl) _ _ _ (by rfl) B 5 i0 _ 1 1 Tryz.underlying81 hi hz0 hz1 hz2 rfl (by decide) v l.length (U.cellsOf l) (by rfl) ((hown.alloc _).drew) ⟨w.heap.size, 0, none⟩ 6 6 [.int .u8 92, .int .u8 117, .int .u8 48, .int .u8 48, .int .u8 49, .int .u8 102] (by rfl) (by rfl) (World.news_of_block (cs := #[.int .u8 92, .int .u8 117, .int .u8 48, .int .u8 48, .int .u8 49, .int .u8 102]) (t := 5) (fr := (0, 0)) (heap_alloc_new w _)) (by simp [Value.oneCell']) (by decide) (by unfold maxLen; omega) (by omega) (by simp; omega) (w.heap.size + 1) (by simp) ?_; intro gg cap w1 hown1 hgrow hat hlt))
  all_goals go_wp2_with fail
  all_goals
    go_ret
    refine ⟨_, rfl, ?_, .inr ⟨_, .inr hgrow⟩⟩
    rw [List.length_append, ← U.cellsOf_append]
    exact hown1

set_option maxHeartbeats 1000000 in
set_option maxRecDepth 100000 in
theorem char_34 (B : Nat) (v : Value) (l : List UInt8) (w : World) (hown : w.ownsRow B 5 1 v l.length (U.cellsOf l)) (hlen : l.length + 8 ≤ 140737488355328) (hBw : B ≤ w.heap.size) :
    Calls Tryz.prog 187 #[v, .int .i32 34] w (App B v l (rb 34) w) := by
  obtain ⟨i0, hi, hz0, hz1, hz2⟩ := info_parts infoByte
  go_enter Tryz.func187, Tryz.ntmps187
  go_wp2_with (at_builtin; refine wpList_append_own _ rfl _ _ 81 rfl B 5 i0 (.int .u8 0) 1 1 Tryz.underlying81 hi hz0 hz1 hz2 rfl (by decide) _ l.length (U.cellsOf l) rfl (hown.alloc _) ⟨w.heap.size, 0, none⟩ 2 2 [.int .u8 92, .int .u8 34] rfl rfl ?c1 ?c2 ?c3 ?c4 ?c5 ?_)
  case c1 => exact cells2
  case c2 => intro u hu; simp at hu; rcases hu with rfl | rfl <;> rfl
  case c3 => unfold maxLen; omega
  case c4 => omega
  case c5 => simp; omega
  intro v' w2 hown2 hgrow _
  go_wp2_with fail
  go_ret
  refine ⟨v', rfl, ?_, .inr ⟨_, .inl hgrow⟩⟩
  rw [List.length_append, ← U.cellsOf_append]
  exact hown2

set_option maxHeartbeats 1000000 in
set_option maxRecDepth 100000 in
theorem char_92 (B : Nat) (v : Value) (l : List UInt8) (w : World) (hown : w.ownsRow B 5 1 v l.length (U.cellsOf l)) (hlen : l.length + 8 ≤ 140737488355328) (hBw : B ≤ w.heap.size) :
    Calls Tryz.prog 187 #[v, .int .i32 92] w (App B v l (rb 92) w) := by
  obtain ⟨i0, hi, hz0, hz1, hz2⟩ := info_parts infoByte
  go_enter Tryz.func187, Tryz.ntmps187
  go_wp2_with (at_builtin; refine wpList_append_own _ rfl _ _ 81 rfl B 5 i0 (.int .u8 0) 1 1 Tryz.underlying81 hi hz0 hz1 hz2 rfl (by decide) _ l.length (U.cellsOf l) rfl (hown.alloc _) ⟨w.heap.size, 0, none⟩ 2 2 [.int .u8 92, .int .u8 92] rfl rfl ?c1 ?c2 ?c3 ?c4 ?c5 ?_)
  case c1 => exact cells2
  case c2 => intro u hu; simp at hu; rcases hu with rfl <;> rfl
  case c3 => unfold maxLen; omega
  case c4 => omega
  case c5 => simp; omega
  intro v' w2 hown2 hgrow _
  go_wp2_with fail
  go_ret
  refine ⟨v', rfl, ?_, .inr ⟨_, .inl hgrow⟩⟩
  rw [List.length_append, ← U.cellsOf_append]
  exact hown2

set_option maxHeartbeats 1000000 in
set_option maxRecDepth 100000 in
theorem char_else (B : Nat) (v : Value) (l : List UInt8) (s : ByteArray) (p : Nat) (hp : p < s.size) (w : World) (hown : w.ownsRow B 5 1 v l.length (U.cellsOf l)) (hlen : l.length + 8 ≤ 140737488355328) (hBw : B ≤ w.heap.size) (h1 : 32 ≤ U.ch s p) (h2 : ¬ U.ch s p = 34) (h3 : ¬ U.ch s p = 92) :
    Calls Tryz.prog 187 #[v, .int .i32 (U.ch s p)] w (App B v l (U.piece s p) w) := by
  have hc := append_any B v l s p hp w hown (by omega) hBw
  have hf := (U.facts s p hp).2.2.2.2.2
  generalize U.ch s p = c at *
  have t1 : ((c : Int) == 34) = false := by simp; omega
  have t2 : ((c : Int) == 92) = false := by simp; omega
  have t3 : ((c : Int) == 8) = false := by simp; omega
  have t4 : ((c : Int) == 9) = false := by simp; omega
  have t5 : ((c : Int) == 10) = false := by simp; omega
  have t6 : ((c : Int) == 12) = false := by simp; omega
  have t7 : ((c : Int) == 13) = false := by simp; omega
  have t8 : decide ((c : Int) < 32) = false := decide_eq_false (by omega)
  clear h1 h2 h3
  go_enter Tryz.func187, Tryz.ntmps187
  go_wp2_with fail
  refine hc.mono ?_
  rintro e w' ⟨v', rfl, hown2, o, hgrow⟩
  go_wp2_with fail
  go_ret
  exact ⟨v', rfl, hown2, .inr ⟨o, .inl hgrow⟩⟩
/-- a character -/
def pq (s : ByteArray) (p : Nat) : List UInt8 := if U.ch s p < 32 ∨ U.ch s p = 34 ∨ U.ch s p = 92 then rb (U.ch s p) else U.piece s p
theorem char_any (B : Nat) (v : Value) (l : List UInt8) (s : ByteArray) (p : Nat) (hp : p < s.size) (w : World) (hown : w.ownsRow B 5 1 v l.length (U.cellsOf l)) (hlen : l.length + 8 ≤ 140737488355328) (hBw : B ≤ w.heap.size) :
    Calls Tryz.prog 187 #[v, .int .i32 (U.ch s p)] w (App B v l (pq s p) w) := by
  unfold pq
  by_cases h : U.ch s p < 32 ∨ U.ch s p = 34 ∨ U.ch s p = 92
  · rw [if_pos h]
    generalize U.ch s p = c at *
    have hc : c = 0 ∨ c = 1 ∨ c = 2 ∨ c = 3 ∨ c = 4 ∨ c = 5 ∨ c = 6 ∨ c = 7 ∨ c = 8 ∨ c = 9 ∨ c = 10 ∨ c = 11 ∨ c = 12 ∨ c = 13 ∨ c = 14 ∨ c = 15 ∨ c = 16 ∨ c = 17 ∨ c = 18 ∨ c = 19 ∨ c = 20 ∨ c = 21 ∨ c = 22 ∨ c = 23 ∨ c = 24 ∨ c = 25 ∨ c = 26 ∨ c = 27 ∨ c = 28 ∨ c = 29 ∨ c = 30 ∨ c = 31 ∨ c = 34 ∨ c = 92 := by omega
    rcases hc with rfl | rfl | rfl | rfl | rfl | rfl | rfl | rfl | rfl | rfl | rfl | rfl | rfl | rfl | rfl | rfl | rfl | rfl | rfl | rfl | rfl | rfl | rfl | rfl | rfl | rfl | rfl | rfl | rfl | rfl | rfl | rfl | rfl | rfl
    · exact char_0 B v l w hown hlen hBw
    · exact char_1 B v l w hown hlen hBw
    · exact char_2 B v l w hown hlen hBw
    · exact char_3 B v l w hown hlen hBw
    · exact char_4 B v l w hown hlen hBw
    · exact char_5 B v l w hown hlen hBw
    · exact char_6 B v l w hown hlen hBw
    · exact char_7 B v l w hown hlen hBw
    · exact char_8 B v l w hown hlen hBw
    · exact char_9 B v l w hown hlen hBw
    · exact char_10 B v l w hown hlen hBw
    · exact char_11 B v l w hown hlen hBw
    · exact char_12 B v l w hown hlen hBw
    · exact char_13 B v l w hown hlen hBw
    · exact char_14 B v l w hown hlen hBw
    · exact char_15 B v l w hown hlen hBw
    · exact char_16 B v l w hown hlen hBw
    · exact char_17 B v l w hown hlen hBw
    · exact char_18 B v l w hown hlen hBw
    · exact char_19 B v l w hown hlen hBw
    · exact char_20 B v l w hown hlen hBw
    · exact char_21 B v l w hown hlen hBw
    · exact char_22 B v l w hown hlen hBw
    · exact char_23 B v l w hown hlen hBw
    · exact char_24 B v l w hown hlen hBw
    · exact char_25 B v l w hown hlen hBw
    · exact char_26 B v l w hown hlen hBw
    · exact char_27 B v l w hown hlen hBw
    · exact char_28 B v l w hown hlen hBw
    · exact char_29 B v l w hown hlen hBw
    · exact char_30 B v l w hown hlen hBw
    · exact char_31 B v l w hown hlen hBw
    · exact char_34 B v l w hown hlen hBw
    · exact char_92 B v l w hown hlen hBw
  · rw [if_neg h]
    exact char_else B v l s p hp w hown hlen hBw (by omega) (by omega) (by omega)
end Go.Proofs.YtoolkaahjmnjeaaGreatDoor
