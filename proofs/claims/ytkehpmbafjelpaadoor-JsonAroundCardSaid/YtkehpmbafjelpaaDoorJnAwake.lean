/- The chapter's examples hold: awake answers true. Conditions: the library's two tables as its text lays them. -/
import Derived.Test.YtkehpmbafjelpaaDoorJvGetD
import Derived.Test.YtkehpmbafjelpaaDoorJpDeep
namespace Go.Proofs.YtkehpmbafjelpaaDoor
open Go Go.RowKit Go.Lib

def SaysTrue (w : World) (e : Ending) (w' : World) : Prop := e = .returned (.bool true) ∧ Below w.heap.size w w'
def ex1 : ByteArray := ⟨#[123, 34, 97, 34, 58, 91, 49, 44, 45, 48, 46, 53, 101, 43, 51, 44, 34, 34, 93, 44, 34, 98, 34, 58, 110, 117, 108, 108, 44, 34, 97, 34, 58, 116, 114, 117, 101, 125]⟩
def ex2 : ByteArray := ⟨#[34, 92, 117, 48, 48, 101, 57, 92, 117, 68, 56, 51, 68, 92, 117, 68, 69, 48, 48, 92, 117, 100, 56, 48, 48, 120, 92, 117, 68, 67, 48, 48, 92, 47, 34]⟩
def ex1v : V.T := .cons ⟨#[97]⟩ 2 ⟨#[]⟩ .nil .nil (.cons ⟨#[98]⟩ 0 ⟨#[]⟩ .nil .nil .nil)
theorem ex1_is : prsAll ex1 = ((6, ⟨#[]⟩, .nil, ex1v), 0, 0) := by kernel_rfl
theorem ex2_is : prsAll ex2 = ((4, ⟨#[195, 169, 240, 159, 152, 128, 239, 191, 189, 120, 239, 191, 189, 47]⟩, .nil, .nil), 0, 0) := by kernel_rfl
theorem ex3_is : prsAll ⟨#[91, 49, 44, 93]⟩ = ((0, ⟨#[]⟩, .nil, .nil), 3, 30) := by kernel_rfl
theorem ex4_is : prsAll ⟨#[48, 49]⟩ = ((0, ⟨#[]⟩, .nil, .nil), 1, 30) := by kernel_rfl
theorem ex1_got : V.got 6 ex1v ⟨#[97]⟩ = some (2, ⟨#[]⟩, .nil, .nil) := by kernel_rfl

set_option maxHeartbeats 2000000 in
set_option maxRecDepth 100000 in
theorem jsonAwake_any (w : World) (hT : Tabs w) :
    Calls Tryd.prog 12 #[] w (SaysTrue w) := by
  have h1 := fun W (hW : Tabs W) => Parse_any ex1 W (by decide) hW
  have h2 := fun W (hW : Tabs W) => Parse_any ex2 W (by decide) hW
  have h3 := fun W (hW : Tabs W) => Parse_any ⟨#[91, 49, 44, 93]⟩ W (by decide) hW
  have h4 := fun W (hW : Tabs W) => Parse_any ⟨#[48, 49]⟩ W (by decide) hW
  simp only [ex1_is] at h1
  simp only [ex2_is] at h2
  simp only [ex3_is] at h3
  simp only [ex4_is] at h4
  have HT := Lib.hid hT
  clear hT
  go_enter Tryd.func12, Tryd.ntmps12
  go_wp2_with fail
  refine (h1 _ HT.out).mono ?_
  rintro e w1 ⟨v1, u1, rfl, hl1, hf1, -, hB1⟩
  obtain ⟨p1, c1, rfl, -⟩ := hl1.len
  obtain ⟨p2, c2, rfl, -⟩ := hf1.len
  have HL1 := Lib.hid (And.intro hl1 hf1)
  have HB1 := Lib.hid hB1
  clear hl1 hf1 hB1
  go_wp2_with fail
  have hg := get_any 6 ⟨#[]⟩ ⟨#[97]⟩ _ _ _ _ _ _ (HL1.out.1.alloc (.cells #[.int .u8 6, .string ⟨#[]⟩, .slice p1 V.T.nil.len c1, .slice p2 ex1v.len c2] 25)) (HL1.out.2.alloc (.cells #[.int .u8 6, .string ⟨#[]⟩, .slice p1 V.T.nil.len c1, .slice p2 ex1v.len c2] 25))
  rw [ex1_got] at hg
  unfold GotF at hg
  simp only [V.res] at hg
  have Hb := Lib.hid (HB1.out.alloc HB1.out.size (.cells #[.int .u8 6, .string ⟨#[]⟩, .slice p1 V.T.nil.len c1, .slice p2 ex1v.len c2] 25))
  have Hc := Lib.hid (heap_alloc_new w1 (.cells #[.int .u8 6, .string ⟨#[]⟩, .slice p1 V.T.nil.len c1, .slice p2 ex1v.len c2] 25))
  have Hz : Hid (w1.heap.size < (w1.alloc (.cells #[.int .u8 6, .string ⟨#[]⟩, .slice p1 V.T.nil.len c1, .slice p2 ex1v.len c2] 25)).heap.size) := Lib.hid (by simp)
  generalize w1.alloc (.cells #[.int .u8 6, .string ⟨#[]⟩, .slice p1 V.T.nil.len c1, .slice p2 ex1v.len c2] 25) = W1 at *
  refine hg.mono ?_
  rintro e w2 ⟨v2, u2, rfl, hl2, hf2, -, -, hB2⟩
  obtain ⟨p3, c3, rfl, -⟩ := hl2.len
  obtain ⟨p4, c4, rfl, -⟩ := hf2.len
  have Hb2 := Lib.hid (Hb.out.trans (hB2.mono Hb.out.size))
  have B2 : Blk4 w2 w1.heap.size 25 _ _ _ _ := Hc.out |> (hB2.block _ Hz.out).trans
  clear hB2 hg hl2 hf2
  go_wp2_with fail
  have Hb3 := Lib.hid (Hb2.out.alloc Hb2.out.size (.cells #[.int .u8 2, .string ⟨#[]⟩, .slice p3 V.T.nil.len c3, .slice p4 V.T.nil.len c4] 25))
  have B3 : Blk4 (w2.alloc (.cells #[.int .u8 2, .string ⟨#[]⟩, .slice p3 V.T.nil.len c3, .slice p4 V.T.nil.len c4] 25)) w1.heap.size 25 _ _ _ _ := B2.same (Below.heap_alloc _ _ _ B2.lt)
  have C3 : Blk4 (w2.alloc (.cells #[.int .u8 2, .string ⟨#[]⟩, .slice p3 V.T.nil.len c3, .slice p4 V.T.nil.len c4] 25)) w2.heap.size 25 _ _ _ _ := heap_alloc_new _ _
  refine (h2 _ (tabs_below HT.out Hb3.out)).mono ?_
  rintro e w3 ⟨v3, u3, rfl, hl3, hf3, -, hB3⟩
  obtain ⟨p5, c5, rfl, -⟩ := hl3.len
  obtain ⟨p6, c6, rfl, -⟩ := hf3.len
  have Hb4 := Lib.hid (Hb3.out.trans (hB3.mono Hb3.out.size))
  have B4 := B3.same (hB3.block _ B3.lt)
  have C4 := C3.same (hB3.block _ C3.lt)
  clear hB3 hl3 hf3 B3 C3 B2
  go_wp2_with fail
  have Hb5 := Lib.hid (Hb4.out.alloc Hb4.out.size (.cells #[.int .u8 4, .string ⟨#[195, 169, 240, 159, 152, 128, 239, 191, 189, 120, 239, 191, 189, 47]⟩, .slice p5 V.T.nil.len c5, .slice p6 V.T.nil.len c6] 25))
  have D5 : Blk4 (w3.alloc (.cells #[.int .u8 4, .string ⟨#[195, 169, 240, 159, 152, 128, 239, 191, 189, 120, 239, 191, 189, 47]⟩, .slice p5 V.T.nil.len c5, .slice p6 V.T.nil.len c6] 25)) w3.heap.size 25 _ _ _ _ := heap_alloc_new _ _
  have B5 := B4.same (Below.heap_alloc w3 (.cells #[.int .u8 4, .string ⟨#[195, 169, 240, 159, 152, 128, 239, 191, 189, 120, 239, 191, 189, 47]⟩, .slice p5 V.T.nil.len c5, .slice p6 V.T.nil.len c6] 25) _ B4.lt)
  have C5 := C4.same (Below.heap_alloc w3 (.cells #[.int .u8 4, .string ⟨#[195, 169, 240, 159, 152, 128, 239, 191, 189, 120, 239, 191, 189, 47]⟩, .slice p5 V.T.nil.len c5, .slice p6 V.T.nil.len c6] 25) _ C4.lt)
  refine (h3 _ (tabs_below HT.out Hb5.out)).mono ?_
  rintro e w4 ⟨v4, u4, rfl, hl4, hf4, -, hB4⟩
  obtain ⟨p7, c7, rfl, -⟩ := hl4.len
  obtain ⟨p8, c8, rfl, -⟩ := hf4.len
  have Hb6 := Lib.hid (Hb5.out.trans (hB4.mono Hb5.out.size))
  have B6 := B5.same (hB4.block _ B5.lt)
  have C6 := C5.same (hB4.block _ C5.lt)
  have D6 := D5.same (hB4.block _ D5.lt)
  clear hB4 hl4 hf4 B5 C5 D5 B4 C4
  go_wp2_with fail
  have Hb6 := Lib.hid (Hb6.out.alloc Hb6.out.size (.cells #[.int .u8 0, .string ⟨#[]⟩, .slice p7 V.T.nil.len c7, .slice p8 V.T.nil.len c8] 25))
  have B6 := B6.same (Below.heap_alloc w4 (.cells #[.int .u8 0, .string ⟨#[]⟩, .slice p7 V.T.nil.len c7, .slice p8 V.T.nil.len c8] 25) _ B6.lt)
  have C6 := C6.same (Below.heap_alloc w4 (.cells #[.int .u8 0, .string ⟨#[]⟩, .slice p7 V.T.nil.len c7, .slice p8 V.T.nil.len c8] 25) _ C6.lt)
  have D6 := D6.same (Below.heap_alloc w4 (.cells #[.int .u8 0, .string ⟨#[]⟩, .slice p7 V.T.nil.len c7, .slice p8 V.T.nil.len c8] 25) _ D6.lt)
  refine (h4 _ (tabs_below HT.out Hb6.out)).mono ?_
  rintro e w5 ⟨v5, u5, rfl, hl5, hf5, -, hB5⟩
  obtain ⟨p9, c9, rfl, -⟩ := hl5.len
  obtain ⟨p10, c10, rfl, -⟩ := hf5.len
  have Hb7 := Lib.hid (Hb6.out.trans (hB5.mono Hb6.out.size))
  have B7 := B6.same (hB5.block _ B6.lt)
  have C7 := C6.same (hB5.block _ C6.lt)
  have D7 := D6.same (hB5.block _ D6.lt)
  clear hB5 hl5 hf5 B6 C6 D6
  have B7 := B7.same (Below.heap_alloc w5 (.cells #[.int .u8 0, .string ⟨#[]⟩, .slice p9 V.T.nil.len c9, .slice p10 V.T.nil.len c10] 25) _ B7.lt)
  have C7 := C7.same (Below.heap_alloc w5 (.cells #[.int .u8 0, .string ⟨#[]⟩, .slice p9 V.T.nil.len c9, .slice p10 V.T.nil.len c10] 25) _ C7.lt)
  have D7 := D7.same (Below.heap_alloc w5 (.cells #[.int .u8 0, .string ⟨#[]⟩, .slice p9 V.T.nil.len c9, .slice p10 V.T.nil.len c10] 25) _ D7.lt)
  obtain ⟨x0, x1, x2, x3⟩ := B7.box
  obtain ⟨y0, y1, y2, y3⟩ := C7.box
  obtain ⟨z0, z1, z2, z3⟩ := D7.box
  have hln : ex1v.len = 2 := rfl
  rw [hln] at x3
  clear B7 C7 D7
  go_wp2_with fail
  go_ret
  exact ⟨rfl, Hb7.out.alloc Hb7.out.size (.cells #[.int .u8 0, .string ⟨#[]⟩, .slice p9 V.T.nil.len c9, .slice p10 V.T.nil.len c10] 25)⟩
end Go.Proofs.YtkehpmbafjelpaaDoor
