/- The program's Int: a number's int. Conditions: a string of at most 10^12 bytes. -/
import Derived.Test.YtgcdfkoobbijeaaGreatDoorMP08
import Derived.Test.YtgcdfkoobbijeaaGreatDoorMP03
import Derived.Test.YtgcdfkoobbijeaaGreatDoorMP45
import Derived.Shelf.Strconv.AtoiAll
import Derived.Lib.AtoiErrMem
namespace Go.Proofs
open Go Go.RowKit Go.Shelf Go.Lib

namespace YtgcdfkoobbijeaaGreatDoor
def IntR (r : Int × Bool) (w : World) (e : Ending) (w' : World) : Prop := e = .returned (.tuple #[.int .i64 r.1, .bool r.2]) ∧ Below w.heap.size w w'
set_option maxHeartbeats 1000000 in
set_option maxRecDepth 100000 in
theorem int_kind (k : Nat) (x : ByteArray) (va ua : Value) (w : World) (hk : ¬ k = 3) : Calls Tryz.prog 12 #[.agg #[.int .u8 k, .string x, va, ua]] w (IntR (0, false) w) := by
  have t1 : ((k : Int) != 3) = true := by simp; omega
  have hB := (Below.refl w.heap.size w).alloc (Nat.le_refl _) (.cells #[.int .u8 k, .string x, va, ua] 25)
  clear hk
  go_enter Tryz.func12, Tryz.ntmps12
  go_wp2_with fail
  go_ret2
  exact ⟨rfl, hB⟩
set_option maxHeartbeats 1000000 in
set_option maxRecDepth 100000 in
theorem int_text (x : ByteArray) (va ua : Value) (w : World) (hx : x.size ≤ 1000000000000) (h : bothS (ciS x) = false) : Calls Tryz.prog 12 #[.agg #[.int .u8 3, .string x, va, ua]] w (IntR (0, false) w) := by
  have hB := Lib.hid ((Below.refl w.heap.size w).alloc (Nat.le_refl _) (.cells #[.int .u8 3, .string x, va, ua] 25))
  have hI := fun W => isInteger_any x W hx
  rw [h] at hI
  unfold BoolB at hI
  clear h
  go_enter Tryz.func12, Tryz.ntmps12
  go_wp2_with fail
  refine (hI _).mono ?_
  rintro e w1 ⟨rfl, hB1⟩
  have H1 := Lib.hid (hB.out.trans (hB1.mono hB.out.size))
  clear hB1 hI
  go_wp2_with fail
  go_ret2
  exact ⟨rfl, H1.out⟩
set_option maxHeartbeats 1000000 in
set_option maxRecDepth 100000 in
theorem int_some (x : ByteArray) (va ua : Value) (v : Int) (w : World) (hx : x.size ≤ 1000000000000) (h : bothS (ciS x) = true) (hv : Lib.atoiAll x.data.toList = .ok v) : Calls Tryz.prog 12 #[.agg #[.int .u8 3, .string x, va, ua]] w (IntR (v, true) w) := by
  have hB := Lib.hid ((Below.refl w.heap.size w).alloc (Nat.le_refl _) (.cells #[.int .u8 3, .string x, va, ua] 25))
  have hbk : Blk4 (w.alloc (.cells #[.int .u8 3, .string x, va, ua] 25)) w.heap.size 25 (.int .u8 3) (.string x) va ua := heap_alloc_new _ _
  have HBK := Lib.hid hbk
  have hI := fun W => isInteger_any x W hx
  rw [h] at hI
  unfold BoolB at hI
  have hA := fun W => Any.strconv_Atoi_ok Tryz.laysAtoi x (by omega) v hv W
  have HA := Lib.hid hA
  clear h hv hbk hA
  go_enter Tryz.func12, Tryz.ntmps12
  go_wp2_with fail
  refine (hI _).mono ?_
  rintro e w1 ⟨rfl, hB1⟩
  have H1 := Lib.hid (hB.out.trans (hB1.mono hB.out.size))
  have b1 := HBK.out.same (hB1.block _ HBK.out.lt)
  obtain ⟨d0, d1, d2, d3⟩ := b1.box
  clear hB1 hI b1
  go_wp2_with fail
  refine (HA.out _).mono ?_
  rintro e w2 ⟨rfl, hw2⟩
  have hB2 : Below w1.heap.size w1 w2 := by
    rcases hw2 with rfl | ⟨t, rfl⟩
    · exact Below.refl _ _
    · exact Lib.bytesWorld_below _ _ _
  have H2 := Lib.hid (H1.out.trans (hB2.mono H1.out.size))
  clear hB2 hw2 d0 d1 d2 d3
  go_wp2_with fail
  go_ret2
  exact ⟨rfl, H2.out⟩
end YtgcdfkoobbijeaaGreatDoor
end Go.Proofs

namespace Go.Proofs.YtgcdfkoobbijeaaGreatDoor
open Go Go.RowKit Go.Shelf Go.Lib

def awL : V.T := .cons ⟨#[]⟩ 3 ⟨#[49]⟩ .nil .nil (.cons ⟨#[]⟩ 0 ⟨#[]⟩ .nil .nil .nil)
def awF : V.T := .cons ⟨#[97]⟩ 5 ⟨#[]⟩ awL .nil (.cons ⟨#[195, 169]⟩ 4 ⟨#[34, 10, 1, 127]⟩ .nil .nil .nil)
def awS : ByteArray := ⟨#[123, 34, 97, 34, 58, 91, 49, 44, 110, 117, 108, 108, 93, 44, 34, 195, 169, 34, 58, 34, 92, 34, 92, 110, 92, 117, 48, 48, 48, 49, 127, 34, 125]⟩
theorem aw1 : prn 6 ⟨#[]⟩ .nil awF = (awS, 0) := by kernel_rfl
theorem aw2 : prn 3 ⟨#[48, 49]⟩ .nil .nil = (⟨#[]⟩, 40) := by kernel_rfl
theorem aw3 : bothS (ciS ⟨#[45, 49, 50]⟩) = true := by kernel_rfl
theorem aw4 : Lib.atoiAll (⟨#[45, 49, 50]⟩ : ByteArray).data.toList = .ok (-12) := by kernel_rfl
theorem aw5 : bothS (ciS ⟨#[49, 46, 48]⟩) = false := by kernel_rfl
theorem aw6 : (⟨(qL ⟨#[97, 92, 98, 255]⟩).toArray⟩ : ByteArray) = ⟨#[34, 97, 92, 92, 98, 239, 191, 189, 34]⟩ := by kernel_rfl
/-- a row that is known whole -/
theorem row_at {W : World} {g : Nat} {cur : Array Value} {t : TypeId} (h : W.heap[g]? = some (.cells cur t (0, 0))) (j : Nat) (v : Value) (hv : cur[j]? = some v) : W.cell? ⟨g, j, none⟩ = some v := (cell_of_row W g j cur t (0, 0) h).trans hv
theorem aw_list {W : World} {g : Nat} {t : TypeId} (h : W.heap[g]? = some (.cells #[.int .u8 3, .string ⟨#[49]⟩, .slice none 0 0, .slice none 0 0, .int .u8 0, .string ⟨#[]⟩, .slice none 0 0, .slice none 0 0] t (0, 0))) : HS W (fun _ => True) 0 (.slice (some ⟨g, 0, none⟩) 2 2) awL :=
  .inr (.inr ⟨g, 0, 2, rfl, Nat.le_refl _, ⟨by decide, by decide⟩, trivial, fun _ => rfl, (fun e => by cases e), row_at h 0 _ rfl, row_at h 1 _ rfl, ⟨_, row_at h 2 _ rfl, .inl ⟨rfl, rfl⟩⟩, ⟨_, row_at h 3 _ rfl, .inl ⟨rfl, rfl⟩⟩, ⟨by decide, by decide, by decide⟩,
    trivial, fun _ => rfl, (fun e => by cases e), row_at h 4 _ rfl, row_at h 5 _ rfl, ⟨_, row_at h 6 _ rfl, .inl ⟨rfl, rfl⟩⟩, ⟨_, row_at h 7 _ rfl, .inl ⟨rfl, rfl⟩⟩, ⟨by decide, by decide, by decide⟩, trivial⟩)
theorem aw_fields {W : World} {g g2 : Nat} {t t2 : TypeId} (hl : W.heap[g2]? = some (.cells #[.int .u8 3, .string ⟨#[49]⟩, .slice none 0 0, .slice none 0 0, .int .u8 0, .string ⟨#[]⟩, .slice none 0 0, .slice none 0 0] t2 (0, 0)))
    (h : W.heap[g]? = some (.cells #[.string ⟨#[97]⟩, .int .u8 5, .string ⟨#[]⟩, .slice (some ⟨g2, 0, none⟩) 2 2, .slice none 0 0, .string ⟨#[195, 169]⟩, .int .u8 4, .string ⟨#[34, 10, 1, 127]⟩, .slice none 0 0, .slice none 0 0] t (0, 0))) : HS W (fun _ => True) 1 (.slice (some ⟨g, 0, none⟩) 2 2) awF :=
  .inr (.inr ⟨g, 0, 2, rfl, Nat.le_refl _, ⟨by decide, by decide⟩, trivial, (fun e => by cases e), fun _ => row_at h 0 _ rfl, row_at h 1 _ rfl, row_at h 2 _ rfl, ⟨_, row_at h 3 _ rfl, aw_list hl⟩, ⟨_, row_at h 4 _ rfl, .inl ⟨rfl, rfl⟩⟩, ⟨by decide, by decide, by decide⟩,
    trivial, (fun e => by cases e), fun _ => row_at h 5 _ rfl, row_at h 6 _ rfl, row_at h 7 _ rfl, ⟨_, row_at h 8 _ rfl, .inl ⟨rfl, rfl⟩⟩, ⟨_, row_at h 9 _ rfl, .inl ⟨rfl, rfl⟩⟩, ⟨by decide, by decide, by decide⟩, trivial⟩)
def TrueIs (w : World) (e : Ending) (w' : World) : Prop := e = .returned (.bool true) ∧ Below w.heap.size w w'

set_option maxHeartbeats 2000000 in
set_option maxRecDepth 100000 in
theorem awake4_any (w : World) (hT : Tabs w) : Calls Tryz.prog 19 #[] w (TrueIs w) := by
  have h1 := fun (W : World) (p : Value) (h : HS W (fun _ => True) 1 p awF) (hW : Tabs W) => print_any 6 ⟨#[]⟩ (.slice none 0 0) p .nil awF (fun _ => True) W (gv_of (HS.nil _ _ _) h (by decide) (.inr ⟨by decide, by decide⟩)) hW
  have h2 := fun (W : World) (hW : Tabs W) => print_any 3 ⟨#[48, 49]⟩ (.slice none 0 0) (.slice none 0 0) .nil .nil (fun _ => True) W (gv_of (HS.nil _ _ _) (HS.nil _ _ _) (by decide) (.inl ⟨rfl, by decide⟩)) hW
  have h3 := fun (W : World) => int_some ⟨#[45, 49, 50]⟩ (.slice none 0 0) (.slice none 0 0) (-12) W (by decide) aw3 aw4
  have h4 := fun (W : World) => int_text ⟨#[49, 46, 48]⟩ (.slice none 0 0) (.slice none 0 0) W (by decide) aw5
  have h5 := fun (W : World) => quote_any ⟨#[97, 92, 98, 255]⟩ W (by decide)
  rw [aw1] at h1
  rw [aw2] at h2
  simp only [aw6] at h5
  have HT := Lib.hid hT
  have H1 := Lib.hid h1
  have H2 := Lib.hid h2
  have H3 := Lib.hid h3
  have H4 := Lib.hid h4
  have H5 := Lib.hid h5
  clear hT h1 h2 h3 h4 h5
  go_enter Tryz.func19, Tryz.ntmps19
  go_wp2_with fail
  have hn := two_new w (.cells #[.int .u8 3, .string ⟨#[49]⟩, .slice none 0 0, .slice none 0 0, .int .u8 0, .string ⟨#[]⟩, .slice none 0 0, .slice none 0 0] 25) (.cells #[.string ⟨#[97]⟩, .int .u8 5, .string ⟨#[]⟩, .slice (some ⟨w.heap.size, 0, none⟩) 2 2, .slice none 0 0, .string ⟨#[195, 169]⟩, .int .u8 4, .string ⟨#[34, 10, 1, 127]⟩, .slice none 0 0, .slice none 0 0] 58)
  have hz := two_size w (.cells #[.int .u8 3, .string ⟨#[49]⟩, .slice none 0 0, .slice none 0 0, .int .u8 0, .string ⟨#[]⟩, .slice none 0 0, .slice none 0 0] 25) (.cells #[.string ⟨#[97]⟩, .int .u8 5, .string ⟨#[]⟩, .slice (some ⟨w.heap.size, 0, none⟩) 2 2, .slice none 0 0, .string ⟨#[195, 169]⟩, .int .u8 4, .string ⟨#[34, 10, 1, 127]⟩, .slice none 0 0, .slice none 0 0] 58)
  have hX := (Below.heap_alloc ((w.alloc (.cells #[.int .u8 3, .string ⟨#[49]⟩, .slice none 0 0, .slice none 0 0, .int .u8 0, .string ⟨#[]⟩, .slice none 0 0, .slice none 0 0] 25)).alloc (.cells #[.string ⟨#[97]⟩, .int .u8 5, .string ⟨#[]⟩, .slice (some ⟨w.heap.size, 0, none⟩) 2 2, .slice none 0 0, .string ⟨#[195, 169]⟩, .int .u8 4, .string ⟨#[34, 10, 1, 127]⟩, .slice none 0 0, .slice none 0 0] 58)) (.cells #[.int .u8 6, .string ⟨#[]⟩, .slice none 0 0, .slice (some ⟨w.heap.size + 1, 0, none⟩) 2 2] 25) w.heap.size (by rw [hz]; omega)).trans hn.1
  have hY := (Below.heap_alloc ((w.alloc (.cells #[.int .u8 3, .string ⟨#[49]⟩, .slice none 0 0, .slice none 0 0, .int .u8 0, .string ⟨#[]⟩, .slice none 0 0, .slice none 0 0] 25)).alloc (.cells #[.string ⟨#[97]⟩, .int .u8 5, .string ⟨#[]⟩, .slice (some ⟨w.heap.size, 0, none⟩) 2 2, .slice none 0 0, .string ⟨#[195, 169]⟩, .int .u8 4, .string ⟨#[34, 10, 1, 127]⟩, .slice none 0 0, .slice none 0 0] 58)) (.cells #[.int .u8 6, .string ⟨#[]⟩, .slice none 0 0, .slice (some ⟨w.heap.size + 1, 0, none⟩) 2 2] 25) (w.heap.size + 1) (by rw [hz]; omega)).trans hn.2
  have hB := (two_below w (.cells #[.int .u8 3, .string ⟨#[49]⟩, .slice none 0 0, .slice none 0 0, .int .u8 0, .string ⟨#[]⟩, .slice none 0 0, .slice none 0 0] 25) (.cells #[.string ⟨#[97]⟩, .int .u8 5, .string ⟨#[]⟩, .slice (some ⟨w.heap.size, 0, none⟩) 2 2, .slice none 0 0, .string ⟨#[195, 169]⟩, .int .u8 4, .string ⟨#[34, 10, 1, 127]⟩, .slice none 0 0, .slice none 0 0] 58)).alloc (by rw [hz]; omega) (.cells #[.int .u8 6, .string ⟨#[]⟩, .slice none 0 0, .slice (some ⟨w.heap.size + 1, 0, none⟩) 2 2] 25)
  clear hn hz
  have HB := Lib.hid hB
  have HX := Lib.hid (aw_fields hX hY)
  clear hX hY hB
  generalize ((w.alloc (.cells #[.int .u8 3, .string ⟨#[49]⟩, .slice none 0 0, .slice none 0 0, .int .u8 0, .string ⟨#[]⟩, .slice none 0 0, .slice none 0 0] 25)).alloc (.cells #[.string ⟨#[97]⟩, .int .u8 5, .string ⟨#[]⟩, .slice (some ⟨w.heap.size, 0, none⟩) 2 2, .slice none 0 0, .string ⟨#[195, 169]⟩, .int .u8 4, .string ⟨#[34, 10, 1, 127]⟩, .slice none 0 0, .slice none 0 0] 58)).alloc (.cells #[.int .u8 6, .string ⟨#[]⟩, .slice none 0 0, .slice (some ⟨w.heap.size + 1, 0, none⟩) 2 2] 25) = W0 at *
  refine (H1.out W0 _ HX.out (tabs_below HT.out HB.out)).mono ?_
  rintro e w1 ⟨rfl, hB1⟩
  have G1 := Lib.hid (HB.out.trans (hB1.mono HB.out.size))
  clear hB1
  go_wp2_with fail
  refine (H2.out _ (tabs_below HT.out G1.out)).mono ?_
  rintro e w2 ⟨rfl, hB2⟩
  have G2 := Lib.hid (G1.out.trans (hB2.mono G1.out.size))
  clear hB2
  go_wp2_with fail
  refine (H3.out _).mono ?_
  rintro e w3 ⟨rfl, hB3⟩
  have G3 := Lib.hid (G2.out.trans (hB3.mono G2.out.size))
  clear hB3
  go_wp2_with fail
  refine (H4.out _).mono ?_
  rintro e w4 ⟨rfl, hB4⟩
  have G4 := Lib.hid (G3.out.trans (hB4.mono G3.out.size))
  clear hB4
  unfold awS
  go_wp2_with fail
  refine (H5.out _).mono ?_
  rintro e w5 ⟨rfl, hB5⟩
  have G5 := Lib.hid (G4.out.trans (hB5.mono G4.out.size))
  clear hB5
  go_wp2_with fail
  go_ret
  exact ⟨rfl, G5.out⟩
end Go.Proofs.YtgcdfkoobbijeaaGreatDoor
