/- The chapter's examples hold: awake of the statements on results answers true. Conditions: the library's tables. -/
import Derived.Test.YtbkciiogkgndiaaGreatDoorMB48
import Derived.Test.YtbkciiogkgndiaaGreatDoorMB44
import Derived.Test.YtbkciiogkgndiaaGreatDoorMB07
import Derived.Test.YtbkciiogkgndiaaGreatDoorMB11
import Derived.Lib.Hide
namespace Go.Proofs.YtbkciiogkgndiaaGreatDoor
open Go Go.RowKit Go.Lib

def True8 (w : World) (e : Ending) (w' : World) : Prop := e = .returned (.bool true) ∧ Below w.heap.size w w'
theorem new_cell (w : World) (cs : Array Value) (t : TypeId) (j : Nat) (v : Value) (h : cs[j]? = some v) : (w.alloc (.cells cs t)).cell? ⟨w.heap.size, j, none⟩ = some v := (cell_of_row _ _ j cs t (0, 0) (heap_alloc_new _ _)).trans h
theorem old_cell (w : World) (o : Obj) {b j : Nat} {v : Value} (h : w.cell? ⟨b, j, none⟩ = some v) : (w.alloc o).cell? ⟨b, j, none⟩ = some v := ((Below.refl w.heap.size w).alloc (Nat.le_refl _) o).cell (p := ⟨b, j, none⟩) (World.block_lt_of_cell? w _ h) |>.trans h
theorem k5 : I64 5 := ⟨by decide, by decide⟩
theorem k0 : I64 0 := ⟨by decide, by decide⟩
theorem i64n (n : Nat) (h : n < 1000) : I64 (n : Int) := ⟨by omega, by omega⟩
set_option maxRecDepth 100000 in
theorem w8i1 (w : World) : SrcI (w.alloc (.cells #[.int .i64 0, .int .i64 4, .int .i64 3, .int .i64 0, .int .i64 0] 3)) (.slice (some ⟨w.heap.size, 0, none⟩) 5 5) [0, 4, 3, 0, 0] := by
  refine .inr ⟨_, 0, 5, rfl, by decide, by decide, by simp, fun j n hj => ?_, fun n hn => ?_⟩
  · rw [Nat.zero_add]
    match j, hj with
    | 0, hj => cases hj; exact new_cell _ _ _ 0 _ rfl
    | 1, hj => cases hj; exact new_cell _ _ _ 1 _ rfl
    | 2, hj => cases hj; exact new_cell _ _ _ 2 _ rfl
    | 3, hj => cases hj; exact new_cell _ _ _ 3 _ rfl
    | 4, hj => cases hj; exact new_cell _ _ _ 4 _ rfl
  · simp only [List.mem_cons, List.not_mem_nil, or_false] at hn
    rcases hn with rfl | rfl | rfl | rfl | rfl <;> exact ⟨by decide, by decide⟩
theorem w8i2 (w : World) : SrcI (w.alloc (.cells #[.int .i64 1, .int .i64 2] 3)) (.slice (some ⟨w.heap.size, 0, none⟩) 2 2) [1, 2] := by
  refine .inr ⟨_, 0, 2, rfl, by decide, by decide, by simp, fun j n hj => ?_, fun n hn => ?_⟩
  · rw [Nat.zero_add]
    match j, hj with
    | 0, hj => cases hj; exact new_cell _ _ _ 0 _ rfl
    | 1, hj => cases hj; exact new_cell _ _ _ 1 _ rfl
  · simp only [List.mem_cons, List.not_mem_nil, or_false] at hn
    rcases hn with rfl | rfl <;> exact ⟨by decide, by decide⟩
theorem w8s (w : World) : SrcS ((w.alloc (.cells #[.int .i64 1, .int .i64 2] 3)).alloc (.cells #[.int .i64 5, .int .i64 0, .slice (some ⟨w.heap.size, 0, none⟩) 2 2] 91)) (.slice (some ⟨w.heap.size + 1, 0, none⟩) 1 1) [⟨5, 0, some ⟨w.heap.size, 0, none⟩, 2, 2, [1, 2]⟩] := by
  have hz := World.size_alloc w (.cells #[.int .i64 1, .int .i64 2] 3)
  have hn := fun j v h => new_cell (w.alloc (.cells #[.int .i64 1, .int .i64 2] 3)) #[.int .i64 5, .int .i64 0, .slice (some ⟨w.heap.size, 0, none⟩) 2 2] 91 j v h
  rw [hz] at hn
  refine .inr ⟨_, 0, 1, rfl, Nat.le_refl 1, by decide, by simp, fun j e hj => ?_, fun e he => ?_⟩
  · match j, hj with
    | 0, hj => cases hj; exact ⟨hn 0 _ rfl, hn 1 _ rfl, hn 2 _ rfl⟩
  · obtain rfl := List.mem_singleton.1 he
    exact ⟨k5, k0, (w8i2 w).below ((Below.refl _ _).alloc (Nat.le_refl _) _), (by show (2 : Nat) ≤ 1000000; decide)⟩
theorem w8f (w : World) : SrcF (w.alloc (.cells #[.int .i64 1, .int .i64 3, .bool false, .int .i64 4, .int .i64 5, .bool true] 94)) (.slice (some ⟨w.heap.size, 0, none⟩) 2 2) [⟨1, 3, false⟩, ⟨4, 5, true⟩] := by
  have hn := fun j v h => new_cell w #[.int .i64 1, .int .i64 3, .bool false, .int .i64 4, .int .i64 5, .bool true] 94 j v h
  refine .inr ⟨_, 0, 2, rfl, by decide, by decide, by simp, fun j e hj => ?_, fun e he => ?_⟩
  · match j, hj with
    | 0, hj => cases hj; exact ⟨hn 0 _ rfl, hn 1 _ rfl, hn 2 _ rfl⟩
    | 1, hj => cases hj; exact ⟨hn 3 _ rfl, hn 4 _ rfl, hn 5 _ rfl⟩
  · simp only [List.mem_cons, List.not_mem_nil, or_false] at he
    rcases he with rfl | rfl <;> exact ⟨⟨by decide, by decide⟩, ⟨by decide, by decide⟩⟩
theorem w8r (w : World) : SrcR (w.alloc (.cells #[.int .i64 0, .int .i64 1, .int .i64 0, .int .i64 2, .int .i64 0, .int .i64 0, .int .i64 1, .int .i64 0] 67)) (.slice (some ⟨w.heap.size, 0, none⟩) 2 2) [⟨0, 1, 0, 2⟩, ⟨0, 0, 1, 0⟩] := by
  have hn := fun j v h => new_cell w #[.int .i64 0, .int .i64 1, .int .i64 0, .int .i64 2, .int .i64 0, .int .i64 0, .int .i64 1, .int .i64 0] 67 j v h
  refine .inr ⟨_, 0, 2, rfl, by decide, by decide, by simp, fun j e hj => ?_, fun e he => ?_⟩
  · match j, hj with
    | 0, hj => cases hj; exact ⟨hn 0 _ rfl, hn 1 _ rfl, hn 2 _ rfl, hn 3 _ rfl⟩
    | 1, hj => cases hj; exact ⟨hn 4 _ rfl, hn 5 _ rfl, hn 6 _ rfl, hn 7 _ rfl⟩
  · simp only [List.mem_cons, List.not_mem_nil, or_false] at he
    rcases he with rfl | rfl <;> exact ⟨⟨by decide, by decide⟩, ⟨by decide, by decide⟩, ⟨by decide, by decide⟩, ⟨by decide, by decide⟩⟩
theorem w8c (w : World) : SrcC (((w.alloc (.cells #[.int .i64 0, .int .i64 1, .int .i64 0, .int .i64 2, .int .i64 0, .int .i64 0, .int .i64 1, .int .i64 0] 67)).alloc (.cells #[] 67)).alloc (.cells #[.slice (some ⟨w.heap.size, 0, none⟩) 2 2, .slice (some ⟨w.heap.size + 1, 0, none⟩) 0 0] 165)) (.slice (some ⟨w.heap.size + 2, 0, none⟩) 2 2) [⟨some ⟨w.heap.size, 0, none⟩, 2, 2, [⟨0, 1, 0, 2⟩, ⟨0, 0, 1, 0⟩]⟩, ⟨some ⟨w.heap.size + 1, 0, none⟩, 0, 0, []⟩] := by
  have hn := fun j v h => new_cell ((w.alloc (.cells #[.int .i64 0, .int .i64 1, .int .i64 0, .int .i64 2, .int .i64 0, .int .i64 0, .int .i64 1, .int .i64 0] 67)).alloc (.cells #[] 67)) #[.slice (some ⟨w.heap.size, 0, none⟩) 2 2, .slice (some ⟨w.heap.size + 1, 0, none⟩) 0 0] 165 j v h
  have hz : ((w.alloc (.cells #[.int .i64 0, .int .i64 1, .int .i64 0, .int .i64 2, .int .i64 0, .int .i64 0, .int .i64 1, .int .i64 0] 67)).alloc (.cells #[] 67)).heap.size = w.heap.size + 2 := by simp
  rw [hz] at hn
  refine .inr ⟨_, 0, 2, rfl, Nat.le_refl 2, by decide, by simp, fun j e hj => ?_, fun e he => ?_⟩
  · match j, hj with
    | 0, hj => cases hj; exact hn 0 _ rfl
    | 1, hj => cases hj; exact hn 1 _ rfl
  · simp only [List.mem_cons, List.not_mem_nil, or_false] at he
    rcases he with rfl | rfl
    · exact ⟨((w8r w).below ((Below.refl _ _).alloc (Nat.le_refl _) _)).below ((Below.refl _ _).alloc (Nat.le_refl _) _), (by show (2 : Nat) ≤ 1000000; decide)⟩
    · exact ⟨.inl ⟨rfl, _, _, rfl, (by show (0 : Nat) ≤ 9223372036854775807; decide)⟩, (by show (0 : Nat) ≤ 1000000; decide)⟩

set_option maxHeartbeats 4000000 in
set_option maxRecDepth 100000 in
theorem awake8_any (w : World) (hP : PowTab w) (hT : Tabs w) : Calls Tryz.prog 45 #[] w (True8 w) := by
  have HPo := Lib.hid (fun W (h : Below w.heap.size w W) => pow_below hP h)
  have HTo := Lib.hid (fun W (h : Below w.heap.size w W) => tabs_below hT h)
  have H1 := Lib.hid (fun W (h : Below w.heap.size w W) => (show Calls Tryz.prog 47 #[.string ⟨#[49]⟩, .slice (some ⟨W.heap.size, 0, none⟩) 5 5] (W.alloc (.cells #[.int .i64 0, .int .i64 4, .int .i64 3, .int .i64 0, .int .i64 0] 3)) (RetV 0 6 ⟨#[]⟩ .nil w8T1 (W.alloc (.cells #[.int .i64 0, .int .i64 4, .int .i64 3, .int .i64 0, .int .i64 0] 3))) from by
    have hb := h.alloc h.size (.cells #[.int .i64 0, .int .i64 4, .int .i64 3, .int .i64 0, .int .i64 0] 3)
    rw [← w8e1]
    exact full_any ⟨#[49]⟩ _ 5 5 _ 0 _ (by decide) (w8i1 W) (by decide) (Nat.zero_le _) (HPo.out _ hb) (HTo.out _ hb)))
  have H2 := Lib.hid (fun W (h : Below w.heap.size w W) => (show Calls Tryz.prog 48 #[.string ⟨#[50]⟩, .slice (some ⟨W.heap.size + 1, 0, none⟩) 1 1] ((W.alloc (.cells #[.int .i64 1, .int .i64 2] 3)).alloc (.cells #[.int .i64 5, .int .i64 0, .slice (some ⟨W.heap.size, 0, none⟩) 2 2] 91)) (RetV 0 6 ⟨#[]⟩ .nil w8T2 ((W.alloc (.cells #[.int .i64 1, .int .i64 2] 3)).alloc (.cells #[.int .i64 5, .int .i64 0, .slice (some ⟨W.heap.size, 0, none⟩) 2 2] 91))) from by
    have hb := (h.alloc h.size (.cells #[.int .i64 1, .int .i64 2] 3)).alloc (by simp; have := h.size; omega) (.cells #[.int .i64 5, .int .i64 0, .slice (some ⟨W.heap.size, 0, none⟩) 2 2] 91)
    rw [← w8e2 (some ⟨W.heap.size, 0, none⟩) 2 2]
    exact delta_any ⟨#[50]⟩ _ 1 1 _ 0 _ (by decide) (w8s W) (by show (1 : Nat) ≤ 1000000; decide) (Nat.zero_le _) (HPo.out _ hb) (HTo.out _ hb)))
  have H3 := Lib.hid (fun W (h : Below w.heap.size w W) => (show Calls Tryz.prog 53 #[.slice (some ⟨W.heap.size, 0, none⟩) 2 2] (W.alloc (.cells #[.int .i64 1, .int .i64 3, .bool false, .int .i64 4, .int .i64 5, .bool true] 94)) (RetV 0 5 ⟨#[]⟩ w8T3 .nil (W.alloc (.cells #[.int .i64 1, .int .i64 3, .bool false, .int .i64 4, .int .i64 5, .bool true] 94))) from by
    have hb := h.alloc h.size (.cells #[.int .i64 1, .int .i64 3, .bool false, .int .i64 4, .int .i64 5, .bool true] 94)
    rw [← w8e3]
    exact folds_any _ 2 2 _ 0 _ (Nat.zero_le _) (w8f W) (by decide) (HPo.out _ hb) (HTo.out _ hb)))
  have H4 := Lib.hid (fun W (h : Below w.heap.size w W) => (show Calls Tryz.prog 55 #[.slice (some ⟨W.heap.size + 2, 0, none⟩) 2 2] (((W.alloc (.cells #[.int .i64 0, .int .i64 1, .int .i64 0, .int .i64 2, .int .i64 0, .int .i64 0, .int .i64 1, .int .i64 0] 67)).alloc (.cells #[] 67)).alloc (.cells #[.slice (some ⟨W.heap.size, 0, none⟩) 2 2, .slice (some ⟨W.heap.size + 1, 0, none⟩) 0 0] 165)) (RetV 0 5 ⟨#[]⟩ w8T4 .nil (((W.alloc (.cells #[.int .i64 0, .int .i64 1, .int .i64 0, .int .i64 2, .int .i64 0, .int .i64 0, .int .i64 1, .int .i64 0] 67)).alloc (.cells #[] 67)).alloc (.cells #[.slice (some ⟨W.heap.size, 0, none⟩) 2 2, .slice (some ⟨W.heap.size + 1, 0, none⟩) 0 0] 165))) from by
    have hb := ((h.alloc h.size (.cells #[.int .i64 0, .int .i64 1, .int .i64 0, .int .i64 2, .int .i64 0, .int .i64 0, .int .i64 1, .int .i64 0] 67)).alloc (by simp; have := h.size; omega) (.cells #[] 67)).alloc (by simp; have := h.size; omega) (.cells #[.slice (some ⟨W.heap.size, 0, none⟩) 2 2, .slice (some ⟨W.heap.size + 1, 0, none⟩) 0 0] 165)
    rw [← w8e4 (some ⟨W.heap.size, 0, none⟩) (some ⟨W.heap.size + 1, 0, none⟩) 2 0 2 0]
    exact chains_any _ 2 2 _ 0 _ (Nat.zero_le _) (w8c W) (by show (2 : Nat) ≤ 1000000; decide) (HPo.out _ hb)))
  clear hP hT
  go_enter Tryz.func45, Tryz.ntmps45
  go_wp2_with fail
  refine (H1.out w (Below.refl _ _)).mono ?_
  rintro e w1 ⟨y, rfl, hv, hB⟩
  have B1 := Lib.hid (((Below.refl w.heap.size w).alloc (Nat.le_refl _) (.cells #[.int .i64 0, .int .i64 4, .int .i64 3, .int .i64 0, .int .i64 0] 3)).trans (hB.mono (by simp)))
  have HV := Lib.hid hv
  clear hv hB
  go_wp2_with fail
  refine (printF HV.out w8s1 w8w1 w8p1 (HTo.out _ B1.out)).mono ?_
  rintro e w2 ⟨rfl, hB⟩
  have B2 := Lib.hid (B1.out.trans (hB.mono B1.out.size))
  clear hB HV
  go_wp2_with fail
  refine (H2.out w2 B2.out).mono ?_
  rintro e w3 ⟨y, rfl, hv, hB⟩
  have B3 := Lib.hid (((B2.out.alloc B2.out.size (.cells #[.int .i64 1, .int .i64 2] 3)).alloc (by simp; have := B2.out.size; omega) (.cells #[.int .i64 5, .int .i64 0, .slice (some ⟨w2.heap.size, 0, none⟩) 2 2] 91)).trans (hB.mono (by simp; have := B2.out.size; omega)))
  have HV := Lib.hid hv
  clear hv hB
  go_wp2_with fail
  refine (printF HV.out w8s2 w8w2 w8p2 (HTo.out _ B3.out)).mono ?_
  rintro e w4 ⟨rfl, hB⟩
  have B4 := Lib.hid (B3.out.trans (hB.mono B3.out.size))
  clear hB HV
  go_wp2_with fail
  refine (H3.out w4 B4.out).mono ?_
  rintro e w5 ⟨y, rfl, hv, hB⟩
  have B5 := Lib.hid ((B4.out.alloc B4.out.size (.cells #[.int .i64 1, .int .i64 3, .bool false, .int .i64 4, .int .i64 5, .bool true] 94)).trans (hB.mono (by simp; have := B4.out.size; omega)))
  have HV := Lib.hid hv
  clear hv hB
  go_wp2_with fail
  refine (printL HV.out w8s3 w8w3 w8p3 (HTo.out _ B5.out)).mono ?_
  rintro e w6 ⟨rfl, hB⟩
  have B6 := Lib.hid (B5.out.trans (hB.mono B5.out.size))
  clear hB HV
  go_wp2_with fail
  refine (H4.out w6 B6.out).mono ?_
  rintro e w7 ⟨y, rfl, hv, hB⟩
  have B7 := Lib.hid ((((B6.out.alloc B6.out.size (.cells #[.int .i64 0, .int .i64 1, .int .i64 0, .int .i64 2, .int .i64 0, .int .i64 0, .int .i64 1, .int .i64 0] 67)).alloc (by simp; have := B6.out.size; omega) (.cells #[] 67)).alloc (by simp; have := B6.out.size; omega) (.cells #[.slice (some ⟨w6.heap.size, 0, none⟩) 2 2, .slice (some ⟨w6.heap.size + 1, 0, none⟩) 0 0] 165)).trans (hB.mono (by simp; have := B6.out.size; omega)))
  have HV := Lib.hid hv
  clear hv hB
  go_wp2_with fail
  refine (printL HV.out w8s4 w8w4 w8p4 (HTo.out _ B7.out)).mono ?_
  rintro e w8 ⟨rfl, hB⟩
  have B8 := Lib.hid (B7.out.trans (hB.mono B7.out.size))
  clear hB HV
  go_wp2_with fail
  go_ret
  exact ⟨rfl, B8.out⟩
end Go.Proofs.YtbkciiogkgndiaaGreatDoor

namespace Go.Proofs.YtbkciiogkgndiaaGreatDoor
open Go Go.RowKit Go.Lib

theorem got_fid (id : ByteArray) (li : List Int) : V.got 6 (full_anyT id li) ⟨#[114, 101, 115, 117, 108, 116, 73, 100]⟩ = some (4, U.fixS id, .nil, .nil) := by
  unfold V.got full_anyT
  rw [if_pos rfl]
  unfold V.T.find
  rw [if_pos rfl]
theorem got_fda (id : ByteArray) (li : List Int) : V.got 6 (full_anyT id li) ⟨#[100, 97, 116, 97]⟩ = some (5, ⟨#[]⟩, nmT li, .nil) := by
  unfold V.got full_anyT
  rw [if_pos rfl]
  unfold V.T.find
  rw [if_neg (by decide +kernel)]
  unfold V.T.find
  rw [if_pos rfl]
theorem got_did (id : ByteArray) (ls : List Sp) : V.got 6 (delta_anyT id ls) ⟨#[114, 101, 115, 117, 108, 116, 73, 100]⟩ = some (4, U.fixS id, .nil, .nil) := by
  unfold V.got delta_anyT
  rw [if_pos rfl]
  unfold V.T.find
  rw [if_pos rfl]
theorem got_ded (id : ByteArray) (ls : List Sp) : V.got 6 (delta_anyT id ls) ⟨#[101, 100, 105, 116, 115]⟩ = some (5, ⟨#[]⟩, listSpT ls, .nil) := by
  unfold V.got delta_anyT
  rw [if_pos rfl]
  unfold V.T.find
  rw [if_neg (by decide +kernel)]
  unfold V.T.find
  rw [if_pos rfl]
theorem got_sst (a b : Int) (li : List Int) : V.got 6 (spliceT a b li) ⟨#[115, 116, 97, 114, 116]⟩ = some (3, ⟨(Lib.itoa a).toArray⟩, .nil, .nil) := by
  unfold V.got spliceT
  rw [if_pos rfl]
  unfold V.T.find
  rw [if_pos rfl]
theorem got_sde (a b : Int) (li : List Int) : V.got 6 (spliceT a b li) ⟨#[100, 101, 108, 101, 116, 101, 67, 111, 117, 110, 116]⟩ = some (3, ⟨(Lib.itoa b).toArray⟩, .nil, .nil) := by
  unfold V.got spliceT
  rw [if_pos rfl]
  unfold V.T.find
  rw [if_neg (by decide +kernel)]
  unfold V.T.find
  rw [if_pos rfl]
theorem got_sda (a b : Int) (li : List Int) : V.got 6 (spliceT a b li) ⟨#[100, 97, 116, 97]⟩ = some (5, ⟨#[]⟩, nmT li, .nil) := by
  unfold V.got spliceT
  rw [if_pos rfl]
  unfold V.T.find
  rw [if_neg (by decide +kernel)]
  unfold V.T.find
  rw [if_neg (by decide +kernel)]
  unfold V.T.find
  rw [if_pos rfl]
theorem got_fsl (a b : Int) (c : Bool) : V.got 6 (foldT a b c) ⟨#[115, 116, 97, 114, 116, 76, 105, 110, 101]⟩ = some (3, ⟨(Lib.itoa a).toArray⟩, .nil, .nil) := by
  unfold V.got foldT
  rw [if_pos rfl]
  unfold V.T.find
  rw [if_pos rfl]
theorem got_fel (a b : Int) (c : Bool) : V.got 6 (foldT a b c) ⟨#[101, 110, 100, 76, 105, 110, 101]⟩ = some (3, ⟨(Lib.itoa b).toArray⟩, .nil, .nil) := by
  unfold V.got foldT
  rw [if_pos rfl]
  unfold V.T.find
  rw [if_neg (by decide +kernel)]
  unfold V.T.find
  rw [if_pos rfl]
theorem got_fki (a b : Int) (c : Bool) : V.got 6 (foldT a b c) ⟨#[107, 105, 110, 100]⟩ = if c then some (4, ⟨#[99, 111, 109, 109, 101, 110, 116]⟩, .nil, .nil) else none := by
  unfold V.got foldT
  rw [if_pos rfl]
  unfold V.T.find
  rw [if_neg (by decide +kernel)]
  unfold V.T.find
  rw [if_neg (by decide +kernel)]
  cases c with
  | false => rw [if_neg (by decide), if_neg (by decide)]; rfl
  | true =>
    rw [if_pos rfl, if_pos rfl]
    unfold V.T.find
    rw [if_pos rfl]
/-- a value in a box of its own that nobody writes -/
def VB8 (bz k : Nat) (x : ByteArray) (p : Option Addr) (n c : Nat) (q : Option Addr) (m d : Nat) (l f : V.T) (W : World) : Prop := Blk4 W bz 25 (.int .u8 k) (.string x) (.slice p n c) (.slice q m d) ∧ HS W (fun _ => True) 0 (.slice p n c) l ∧ HS W (fun _ => True) 1 (.slice q m d) f
theorem VB8.on {bz k : Nat} {x : ByteArray} {p q : Option Addr} {n c m d : Nat} {l f : V.T} {W W' : World} (h : VB8 bz k x p n c q m d l f W) (hB : Below W.heap.size W W') : VB8 bz k x p n c q m d l f W' := ⟨h.1.same (hB.block _ h.1.lt), h.2.1.below hB, h.2.2.below hB⟩
theorem VB8.new {k : Nat} {x : ByteArray} {p q : Option Addr} {n c m d : Nat} {l f : V.T} {W : World} {A A' : Nat → Prop} (h1 : HS W A 0 (.slice p n c) l) (h2 : HS W A' 1 (.slice q m d) f) : VB8 W.heap.size k x p n c q m d l f (W.alloc (.cells #[.int .u8 k, .string x, .slice p n c, .slice q m d] 25)) :=
  ⟨heap_alloc_new _ _, (h1.mono fun _ _ _ => trivial).alloc _, (h2.mono fun _ _ _ => trivial).alloc _⟩
theorem VB8.cells {bz k : Nat} {x : ByteArray} {p q : Option Addr} {n c m d : Nat} {l f : V.T} {W : World} (h : VB8 bz k x p n c q m d l f W) : W.cell? ⟨bz, 0, none⟩ = some (.int .u8 k) ∧ W.cell? ⟨bz, 1, none⟩ = some (.string x) ∧ W.cell? ⟨bz, 2, none⟩ = some (.slice p n c) ∧ W.cell? ⟨bz, 3, none⟩ = some (.slice q m d) := by
  obtain ⟨a, b, c, d⟩ := h.1.box
  exact ⟨a, b, c, d⟩
end Go.Proofs.YtbkciiogkgndiaaGreatDoor

namespace Go.Proofs.YtbkciiogkgndiaaGreatDoor
open Go Go.RowKit

section
variable {P : Program} {ops : Array Oper} {Q : Exit → Act → World → Prop} {md : Region.Mode} {zs : List Nat}
/-- the box is there, and is its object -/
def BxAt (ob : Option Nat) (o : Obj) (W : World) : Prop := ∀ b, ob = some b → W.heap[b]? = some o
theorem wpAnyL_monoA {dl : List (Option Nat)} (A0 : Act) (x M : Nat) (ox : Obj) (G : World → Prop) (F : Option Nat → Nat → Value → World → Prop) (hdl : ops.toList.map (·.dst) = dl) (hap : apartL dl = true)
    (hL : allL md ops zs = true) (hO : ordB md ops = true) (hz : ∃ z, z ∈ zs ∧ z < ops.size) (hxz : zs.contains x = false) (hxn : x < ops.size)
    (hM : ∀ W, G W → M ≤ W.heap.size) (hG : ∀ W W', G W → Below W.heap.size W W' → G W') (hF : ∀ ob i v W W', F ob i v W → Below W.heap.size W W' → F ob i v W') (hA : ∀ i v W, M ≤ W.heap.size → F none i v W → F (some W.heap.size) i v (W.alloc ox))
    (alloc : ∀ o, ops[x]? = some o → ∀ (rr : Nat → Value) W, G W → ∀ K' : Act → World → Prop, Shut (K' ((putL A0 dl 0 rr).put o.dst (.pointer (some ⟨W.heap.size, 0, none⟩))) (W.alloc ox)) →
        if Region.wanted o (yielded ops (putL A0 dl 0 rr).tmps) = true then Oper.wp P o (putL A0 dl 0 rr) W K' Q else K' ((putL A0 dl 0 rr).put o.dst undef) W)
    (step : ∀ i o, ops[i]? = some o → zs.contains i = false → i ≠ x → ∀ (ob : Option Nat) (rr : Nat → Value) W, G W → (∀ b, ob = some b → M ≤ b ∧ b < W.heap.size) → (∀ j, j ∈ deps md ops i → zs.contains j = false → j ≠ x → F ob j (rr j) W) →
      ∀ K' : Act → World → Prop, Shut (∀ v W', F ob i v W' → Below W.heap.size W W' → K' ((putL A0 dl 0 rr).put o.dst v) W') →
        if Region.wanted o (yielded ops (putL A0 dl 0 rr).tmps) = true then Oper.wp P o (putL A0 dl 0 rr) W K' Q else K' ((putL A0 dl 0 rr).put o.dst undef) W)
    (fin : ∀ fuel listed (b : Nat) rr W, G W → M ≤ b → W.heap[b]? = some ox → rr x = .pointer (some ⟨b, 0, none⟩) → (∀ j, j < ops.size → zs.contains j = false → j ≠ x → F (some b) j (rr j) W) → listed.size = ops.size → (∀ j, j < ops.size → listed.getD j false = !zs.contains j) → fuel + listed.toList.count true = ops.size →
      wpAnyL P md ops Q (fun _ => True) zs fuel listed (putL A0 dl 0 rr) W)
    (w : World) (hw : G w) : wpAnyL P md ops Q (fun _ => True) zs ops.size (Array.replicate ops.size false) A0 w := by
  have hlen : dl.length = ops.size := by rw [← hdl, List.length_map, Array.length_toList]
  have hd : ∀ i o, ops[i]? = some o → dl.getD i none = o.dst := fun i o ho => by
    rw [← hdl, List.getD_eq_getElem?_getD, List.getElem?_map, Array.getElem?_toList, ho]
    rfl
  refine wpAnyL_inv (I := fun listed a W => ∃ (rr : Nat → Value) (ob : Option Nat), a = putL A0 dl 0 rr ∧ G W ∧ listed.size = ops.size ∧ (∀ z, z ∈ zs → z < ops.size → listed.getD z true = false) ∧ (listed.getD x false = false → ob = none) ∧ (listed.getD x false = true → ∃ b, ob = some b ∧ M ≤ b ∧ W.heap[b]? = some ox ∧ rr x = .pointer (some ⟨b, 0, none⟩)) ∧ ∀ j, j < ops.size → zs.contains j = false → j ≠ x → listed.getD j false = true → F ob j (rr j) W)
    hL hO (fun _ _ _ ⟨_, _, _, _, h, _⟩ => h) (fun _ _ _ ⟨_, _, _, _, _, h, _⟩ => by obtain ⟨z, h1, h2⟩ := hz; exact ⟨z, h2, h z h1 h2⟩) ?_ ?_ _ _ _ _ ?_ ?_ ?_
  · rintro listed a W i o ⟨rr, ob, rfl, hg, hs, hzl, hx0, hx1, hf⟩ hi hzi ho K' hK
    have hlt : i < ops.size := (Array.getElem?_eq_some_iff.1 ho).1
    have hun : listed.getD i false = false := by
      have := (mem_ready.1 hi).1
      rw [Array.getD_eq_getD_getElem?, Array.getElem?_eq_getElem (by omega)] at this ⊢
      exact this
    have hzl' : ∀ z, z ∈ zs → z < ops.size → (listed.setIfInBounds i true).getD z true = false := fun z hz hzl' => by
      have hne : i ≠ z := fun e => by
        subst e
        simp [hz] at hzi
      rw [getD_set_ne true hne]
      exact hzl z hz hzl'
    have hput : ∀ v, (putL A0 dl 0 rr).put o.dst v = putL A0 dl 0 (upd rr i v) := fun v => by
      have := putL_upd dl A0 0 rr i v hap (by omega)
      rw [Nat.zero_add, hd i o ho] at this
      exact this.symm
    by_cases hix : i = x
    · subst hix
      obtain rfl := hx0 hun
      refine alloc o ho rr W hg K' ?_
      have hB := (Below.refl W.heap.size W).alloc (Nat.le_refl _) ox
      refine hK.out _ _ trivial ⟨upd rr i (.pointer (some ⟨W.heap.size, 0, none⟩)), some W.heap.size, hput _, hG _ _ hg hB, by simpa using hs, hzl', fun h => ?_, fun _ => ⟨_, rfl, hM _ hg, heap_alloc_new _ _, upd_same _ _ _⟩, fun j hj hzj hne hl => ?_⟩
      · simp [Array.getD, hs, hlt] at h
      · rw [upd_else _ _ _ hne]
        rw [getD_set_ne false (Ne.symm hne)] at hl
        exact hA _ _ _ (hM _ hg) (hf j hj hzj hne hl)
    · have hbx : ∀ b, ob = some b → M ≤ b ∧ b < W.heap.size := fun b hb => by
        cases hc : listed.getD x false with
        | false => rw [hx0 hc] at hb; cases hb
        | true =>
          obtain ⟨b', h1, h0, h2, _⟩ := hx1 hc
          rw [h1] at hb
          cases hb
          exact ⟨h0, (Array.getElem?_eq_some_iff.1 h2).1⟩
      refine step i o ho hzi hix ob rr W hg hbx (fun j hj hzj hne => ?_) K' (fun v W' hv hB => ?_)
      · have h1 := ready_deps hi j hj
        refine hf j ?_ hzj hne h1
        rcases Nat.lt_or_ge j ops.size with h | h
        · exact h
        · have : listed.getD j false = false := by simp [Array.getD, show ¬ j < listed.size by omega]
          rw [this] at h1
          cases h1
      · refine hK.out _ _ trivial ⟨upd rr i v, ob, hput v, hG _ _ hg hB, by simpa using hs, hzl', fun h => ?_, fun h => ?_, fun j hj hzj hne hl => ?_⟩
        · rw [getD_set_ne false hix] at h
          exact hx0 h
        · rw [getD_set_ne false hix] at h
          obtain ⟨b, h1, h0, h2, h3⟩ := hx1 h
          exact ⟨b, h1, h0, (hB.block b (hbx b h1).2).trans h2, by rw [upd_else _ _ _ (Ne.symm hix)]; exact h3⟩
        · by_cases e : j = i
          · subst e
            rw [upd_same]
            exact hv
          · rw [upd_else _ _ _ e]
            rw [getD_set_ne false (Ne.symm e)] at hl
            exact hF _ _ _ _ _ (hf j hj hzj hne hl) hB
  · rintro fuel listed a W ⟨rr, ob, rfl, hg, hs, hzl, hx0, hx1, hf⟩ hfu hall
    obtain ⟨b, rfl, hb0, hb1, hb2⟩ := hx1 (hall x hxn hxz)
    refine fin fuel listed b rr W hg hb0 hb1 hb2 (fun j hj hzj hne => hf j hj hzj hne (hall j hj hzj)) hs (fun j hj => ?_) hfu
    cases hc : zs.contains j with
    | false => exact hall j hj hc
    | true =>
      have := hzl j (by simpa using hc) hj
      rw [Array.getD_eq_getD_getElem?, Array.getElem?_eq_getElem (by omega)] at this ⊢
      exact this
  · intro j hj
    simp [Array.getD] at hj
  · refine ⟨fun j => slotV A0 (dl.getD j none), none, (putL_own dl A0 0 _ (fun i _ => by rw [Nat.zero_add])).symm, hw, by simp, fun z _ hz => by simp [Array.getD, hz], fun _ => rfl, fun h => by simp [Array.getD] at h, fun j hj _ _ hl => by simp [Array.getD] at hl⟩
  · rw [Array.toList_replicate, List.count_replicate]; simp
end
/-- a drawn statement that makes a box and fills it last -/
theorem wp_region_stepsA {P : Program} {ops : Array Oper} {Q : Exit → Act → World → Prop} {id : Nat} (x z M : Nat) (ox : Obj) (dl : List (Option Nat)) (A0 : Act) (w : World) (G : World → Prop) (F : Option Nat → Nat → Value → World → Prop) (hm : P.follows .mixedOrders = true) (hdl : ops.toList.map (·.dst) = dl) (hap : apartL dl = true)
    (hsz : (dl.all fun d => match d with | some t => decide (t < A0.tmps.size) | none => true) = true)
    (hL : allL .any ops [z] = true) (hO : ordB .any ops = true) (hzn : z < ops.size) (hxz : x ≠ z) (hxn : x < ops.size) (hfu : 1 + (listedOf ops.size [z]).toList.count true = ops.size)
    (hM : ∀ W, G W → M ≤ W.heap.size) (hG : ∀ W W', G W → Below W.heap.size W W' → G W') (hF : ∀ ob i v W W', F ob i v W → Below W.heap.size W W' → F ob i v W') (hA : ∀ i v W, M ≤ W.heap.size → F none i v W → F (some W.heap.size) i v (W.alloc ox))
    (alloc : ∀ o, ops[x]? = some o → ∀ (a : Act) W, G W → ∀ K' : Act → World → Prop, Shut (K' (a.put o.dst (.pointer (some ⟨W.heap.size, 0, none⟩))) (W.alloc ox)) →
        if Region.wanted o (yielded ops a.tmps) = true then Oper.wp P o a W K' Q else K' (a.put o.dst undef) W)
    (step : ∀ i o, ops[i]? = some o → i ≠ z → i ≠ x → ∀ (ob : Option Nat) (a : Act) W, G W → (∀ b, ob = some b → M ≤ b ∧ b < W.heap.size) → (∀ j t, dl.getD j none = some t → (deps .any ops i).contains j = true → j ≠ z → j ≠ x → ∃ v, a.tmps[t]? = some v ∧ F ob j v W) → (∀ t, dl.contains (some t) = false → a.tmps[t]? = A0.tmps[t]?) →
      ∀ K' : Act → World → Prop, Shut (∀ v W', F ob i v W' → Below W.heap.size W W' → K' (a.put o.dst v) W') →
        if Region.wanted o (yielded ops a.tmps) = true then Oper.wp P o a W K' Q else K' (a.put o.dst undef) W)
    (fin : ∀ (b : Nat) rr W, G W → M ≤ b → W.heap[b]? = some ox → rr x = .pointer (some ⟨b, 0, none⟩) → (∀ j, j < ops.size → j ≠ z → j ≠ x → F (some b) j (rr j) W) → wpAnyL P .any ops Q (fun _ => True) [z] 1 (listedOf ops.size [z]) (putL A0 dl 0 rr) W)
    (hw : G w.drew) : (Code.region id ops true).wp P Q A0 w := by
  have hc : ∀ j : Nat, [z].contains j = decide (j = z) := fun j => by rw [Bool.eq_iff_iff]; simp
  refine wp_region_late (S := fun _ => True) (zs := [z]) hm (wpAnyL_monoA (dl := dl) A0 x M ox G F hdl hap hL hO ⟨z, by simp, hzn⟩ (by rw [hc]; simp [hxz]) hxn hM hG hF hA (fun o ho rr W hg K' hK => alloc o ho _ W hg K' hK) (fun i o ho hzi hix ob rr W hg hb hf K' hK => step i o ho (fun e => by rw [hc] at hzi; simp [e] at hzi) hix ob (putL A0 dl 0 rr) W hg hb (fun j t hj hd hjz hjx => ⟨rr j, by
    have h1 := putL_new dl A0 0 rr j t hap hj (dl_lt hsz hj)
    rw [Nat.zero_add] at h1
    exact h1, hf j (by simpa using hd) (by rw [hc]; simp [hjz]) hjx⟩) (fun t ht => putL_old dl A0 0 rr t ht) K' hK) ?_ _ hw)
  intro fuel listed b rr W hg hb0 hb hx hf hs hl hfu'
  have e : listed = listedOf ops.size [z] := by
    refine Array.ext (by simp [listedOf, hs]) (fun j h1 h2 => ?_)
    have h3 := hl j (by omega)
    rw [Array.getD_eq_getD_getElem?, Array.getElem?_eq_getElem h1] at h3
    rw [show listed[j] = ![z].contains j from h3]
    simp [listedOf]
  subst e
  obtain rfl : fuel = 1 := by omega
  exact fin b rr W hg hb0 hb hx (fun j hj hjz hjx => hf j hj (by rw [hc]; simp [hjz]) hjx)
/-- as stepsF; the frame is handed on as it was written, too -/
theorem wp_region_stepsP {P : Program} {ops : Array Oper} {Q : Exit → Act → World → Prop} {id : Nat} {z : Nat} {oz : Oper} (dl : List (Option Nat)) (A0 : Act) (w : World) (G : World → Prop) (F : Nat → Value → World → Prop) (hm : P.follows .mixedOrders = true) (hdl : ops.toList.map (·.dst) = dl) (hap : apartL dl = true)
    (hsz : (dl.all fun d => match d with | some t => decide (t < A0.tmps.size) | none => true) = true)
    (hL : allL .any ops [z] = true) (hO : ordB .any ops = true) (hoz : ops[z]? = some oz)
    (hG : ∀ W W', G W → Below W.heap.size W W' → G W') (hF : ∀ i v W W', F i v W → Below W.heap.size W W' → F i v W')
    (step : ∀ i o, ops[i]? = some o → i ≠ z → ∀ (a : Act) W, G W → (∀ j t, dl.getD j none = some t → (deps .any ops i).contains j = true → j ≠ z → ∃ v, a.tmps[t]? = some v ∧ F j v W) → (∀ t, dl.contains (some t) = false → a.tmps[t]? = A0.tmps[t]?) →
      ∀ K' : Act → World → Prop, Shut (∀ v W', F i v W' → Below W.heap.size W W' → K' (a.put o.dst v) W') →
        if Region.wanted o (yielded ops a.tmps) = true then Oper.wp P o a W K' Q else K' (a.put o.dst undef) W)
    (fin : ∀ (a : Act) W, G W → (∀ j t, dl.getD j none = some t → j < ops.size → j ≠ z → ∃ v, a.tmps[t]? = some v ∧ F j v W) → (∀ t, dl.contains (some t) = false → a.tmps[t]? = A0.tmps[t]?) → Hid (∃ rr, a = putL A0 dl 0 rr) → ∀ K' : Act → World → Prop, Shut (∀ a W', Q .normal a W' → K' a W') →
      if Region.wanted oz (yielded ops a.tmps) = true then Oper.wp P oz a W K' Q else K' (a.put oz.dst undef) W)
    (hw : G w.drew) : (Code.region id ops true).wp P Q A0 w :=
  wp_region_steps dl A0 w G F hm hdl hap hsz hL hO hoz hG hF step (fun rr W hg hf K' hK => fin (putL A0 dl 0 rr) W hg (fun j t hj hlt hne => ⟨rr j, by
    have h1 := putL_new dl A0 0 rr j t hap hj (dl_lt hsz hj)
    rw [Nat.zero_add] at h1
    exact h1, hf j hlt hne⟩) (fun t ht => putL_old dl A0 0 rr t ht) (Lib.hid ⟨rr, rfl⟩) K' hK) hw
end Go.Proofs.YtbkciiogkgndiaaGreatDoor
