/- The chapter's examples hold: awake answers true. Conditions: the library's two tables as its text lays them. -/
import Derived.Test.YtdhdemndeiipcaaDoorLinPlacesWalk
namespace Go.Proofs.YtdhdemndeiipcaaDoor
open Go Go.RowKit Go.Shelf Go.Lib

set_option maxHeartbeats 2000000 in
set_option maxRecDepth 100000 in
theorem linAwake_any (w : World) (hT : Tabs w) :
    Calls Tryd.prog 13 #[] w (SaysTrue w) := by
  have hst := fun W => starts_any ⟨#[97, 98, 13, 10, 195, 169, 240, 159, 152, 128, 99, 10]⟩ W (by decide)
  unfold StartsAre at hst
  rw [show L.mny ⟨#[97, 98, 13, 10, 195, 169, 240, 159, 152, 128, 99, 10]⟩ = 3 by decide +kernel] at hst
  have hln := fun W => (line_is ⟨#[97, 98, 13, 10, 195, 169, 240, 159, 152, 128, 99, 10]⟩ ((1 : Nat) : Int) W (by decide)).mono fun e w' h => line_yes (by decide +kernel) h
  unfold LineYes at hln
  rw [show L.fr ⟨#[97, 98, 13, 10, 195, 169, 240, 159, 152, 128, 99, 10]⟩ 1 = 4 by decide +kernel, show L.to ⟨#[97, 98, 13, 10, 195, 169, 240, 159, 152, 128, 99, 10]⟩ 1 = 11 by decide +kernel] at hln
  have hmy := fun W => many_any ⟨#[]⟩ W (by decide)
  rw [show L.mny ⟨#[]⟩ = 1 by decide +kernel] at hmy
  have ho1 := fun W => offset_any ⟨#[97, 98, 13, 10, 195, 169, 240, 159, 152, 128, 99, 10]⟩ 1 2 W (by decide) (by decide)
  rw [show ofs ⟨#[97, 98, 13, 10, 195, 169, 240, 159, 152, 128, 99, 10]⟩ 1 2 = 6 by decide +kernel] at ho1
  have ho2 := fun W => offset_any ⟨#[97, 98, 13, 10, 195, 169, 240, 159, 152, 128, 99, 10]⟩ 0 9 W (by decide) (by decide)
  rw [show ofs ⟨#[97, 98, 13, 10, 195, 169, 240, 159, 152, 128, 99, 10]⟩ 0 9 = 2 by decide +kernel] at ho2
  have hp1 := fun W (hW : Tabs W) => pos_any ⟨#[97, 98, 13, 10, 195, 169, 240, 159, 152, 128, 99, 10]⟩ 8 W (by decide) hW
  unfold PosIs at hp1
  rw [show posL ⟨#[97, 98, 13, 10, 195, 169, 240, 159, 152, 128, 99, 10]⟩ (bgnAt ⟨#[97, 98, 13, 10, 195, 169, 240, 159, 152, 128, 99, 10]⟩ 8) = 1 by decide +kernel, show posC ⟨#[97, 98, 13, 10, 195, 169, 240, 159, 152, 128, 99, 10]⟩ (bgnAt ⟨#[97, 98, 13, 10, 195, 169, 240, 159, 152, 128, 99, 10]⟩ 8) = 1 by decide +kernel] at hp1
  have hp2 := fun W (hW : Tabs W) => pos_any ⟨#[97, 98, 13, 10, 195, 169, 240, 159, 152, 128, 99, 10]⟩ 3 W (by decide) hW
  unfold PosIs at hp2
  rw [show posL ⟨#[97, 98, 13, 10, 195, 169, 240, 159, 152, 128, 99, 10]⟩ (bgnAt ⟨#[97, 98, 13, 10, 195, 169, 240, 159, 152, 128, 99, 10]⟩ 3) = 0 by decide +kernel, show posC ⟨#[97, 98, 13, 10, 195, 169, 240, 159, 152, 128, 99, 10]⟩ (bgnAt ⟨#[97, 98, 13, 10, 195, 169, 240, 159, 152, 128, 99, 10]⟩ 3) = 2 by decide +kernel] at hp2
  have hoo := fun W => offsets_any ⟨#[97, 98, 13, 10, 195, 169, 240, 159, 152, 128, 99, 10]⟩ 1 1 0 1 W (by decide) (by decide) (by decide)
  unfold SpanIs at hoo
  rw [show ofs ⟨#[97, 98, 13, 10, 195, 169, 240, 159, 152, 128, 99, 10]⟩ 1 1 = 6 by decide +kernel, show ofs ⟨#[97, 98, 13, 10, 195, 169, 240, 159, 152, 128, 99, 10]⟩ 0 1 = 1 by decide +kernel, show min ((6 : Nat) : Int) ((1 : Nat) : Int) = 1 by decide, show max ((6 : Nat) : Int) ((1 : Nat) : Int) = 6 by decide] at hoo
  have hof : Hid (offs ⟨#[97, 98, 13, 10, 195, 169, 240, 159, 152, 128, 99, 10]⟩ (List.range 3) = [.int .i64 0, .int .i64 4, .int .i64 12]) := Lib.hid (by
    simp only [offs, List.range, List.range.loop, List.map]
    rw [show L.fr ⟨#[97, 98, 13, 10, 195, 169, 240, 159, 152, 128, 99, 10]⟩ 0 = 0 by decide +kernel, show L.fr ⟨#[97, 98, 13, 10, 195, 169, 240, 159, 152, 128, 99, 10]⟩ 1 = 4 by decide +kernel, show L.fr ⟨#[97, 98, 13, 10, 195, 169, 240, 159, 152, 128, 99, 10]⟩ 2 = 12 by decide +kernel]
    rfl)
  have HT := Lib.hid hT
  clear hT
  go_enter Tryd.func13, Tryd.ntmps13
  go_wp2_with fail
  refine (hst _).mono ?_
  rintro e w1 ⟨g, cap, rfl, hown, hB1⟩
  have HO1 := Lib.hid hown
  clear hown
  go_wp2_with fail
  refine (hln _).mono ?_
  rintro e w2 ⟨rfl, hB2⟩
  have HO2 := Lib.hid ((ownsRow_below HO1.out hB2).alloc (.cells #[.int .i64 4, .int .i64 11] 29))
  have k1 := HO2.out.cellAt 1 (by decide)
  have k2 := HO2.out.cellAt 2 (by decide)
  rw [hof.out] at k1 k2
  simp only [List.getElem?_cons_succ, List.getElem?_cons_zero] at k1 k2
  have bX := Boxed2.new w2 29 (.int .i64 4) (.int .i64 11)
  have hB12 := hB1.trans ((hB2.alloc hB2.size (.cells #[.int .i64 4, .int .i64 11] 29)).mono hB1.size)
  clear hB1 hB2 HO1 HO2
  go_wp2_with fail
  refine (hmy _).mono ?_
  rintro e w3 ⟨rfl, hB3⟩
  have bX3 := bX.below hB3
  have hB13 := hB12.trans (hB3.mono hB12.size)
  have x0 := bX3.cell0
  have x1 := bX3.cell1
  clear k1 k2 bX hB12 hB3
  go_wp2_with fail
  refine (ho1 _).mono ?_
  rintro e w4 ⟨rfl, hB4⟩
  have hB14 := hB13.trans (hB4.mono hB13.size)
  clear hB13 hB4 x0 x1 bX3
  go_wp2_with fail
  refine (ho2 _).mono ?_
  rintro e w5 ⟨rfl, hB5⟩
  have hB15 := hB14.trans (hB5.mono hB14.size)
  clear hB14 hB5
  go_wp2_with fail
  refine (hp1 _ (tabs_below HT.out hB15)).mono ?_
  rintro e w6 ⟨rfl, hB6⟩
  have hB16 := hB15.trans (hB6.mono hB15.size)
  clear hB15 hB6
  go_wp2_with fail
  refine (hp2 _ (tabs_below HT.out hB16)).mono ?_
  rintro e w7 ⟨rfl, hB7⟩
  have hB17 := hB16.trans (hB7.mono hB16.size)
  clear hB16 hB7
  go_wp2_with fail
  refine (hoo _).mono ?_
  rintro e w8 ⟨rfl, hB8⟩
  have hB18 := hB17.trans (hB8.mono hB17.size)
  clear hB17 hB8
  go_wp2_with fail
  go_ret
  exact ⟨rfl, hB18⟩
end Go.Proofs.YtdhdemndeiipcaaDoor
