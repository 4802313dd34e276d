/- The chapter's examples hold: awake answers true. Conditions: the library's two tables as its text lays them. -/
import Derived.Test.YteoeamdfglmmoaaDoorUtfFix
import Derived.Test.YteoeamdfglmmoaaDoorUtfMathG
import Derived.Test.YteoeamdfglmmoaaDoorUtfTellsWalk
namespace Go.Proofs.YteoeamdfglmmoaaDoor
open Go Go.RowKit Go.Shelf Go.Lib

set_option maxHeartbeats 1000000 in
set_option maxRecDepth 100000 in
theorem awake_any (w : World) (hT : Tabs w) :
    Calls Tryd.prog 17 #[] w (LawIs w) := by
  have hN1 := fun W (hW : Tabs W) => utfNext_all ⟨#[97, 195, 169]⟩ 1 W (by decide) hW
  rw [show nxR ⟨#[97, 195, 169]⟩ 1 = 233 by decide +kernel, show nxK ⟨#[97, 195, 169]⟩ 1 = 2 by decide +kernel, show nxB ⟨#[97, 195, 169]⟩ 1 = true by decide +kernel] at hN1
  have hN2 := fun W (hW : Tabs W) => utfNext_all ⟨#[97, 195, 169]⟩ 2 W (by decide) hW
  rw [show nxR ⟨#[97, 195, 169]⟩ 2 = 0 by decide +kernel, show nxK ⟨#[97, 195, 169]⟩ 2 = 0 by decide +kernel, show nxB ⟨#[97, 195, 169]⟩ 2 = false by decide +kernel] at hN2
  have hV1 := fun W (hW : Tabs W) => utfValid_any ⟨#[97, 195, 169]⟩ W (by decide) hW
  rw [show U.valid ⟨#[97, 195, 169]⟩ = true by decide +kernel] at hV1
  have hV2 := fun W (hW : Tabs W) => utfValid_any ⟨#[195]⟩ W (by decide) hW
  rw [show U.valid ⟨#[195]⟩ = false by decide +kernel] at hV2
  have hV3 := fun W (hW : Tabs W) => utfValid_any ⟨#[237, 160, 128]⟩ W (by decide) hW
  rw [show U.valid ⟨#[237, 160, 128]⟩ = false by decide +kernel] at hV3
  have hU := fun W => utfUnits_is ⟨#[97, 240, 159, 152, 128, 98]⟩ W (by decide)
  rw [show U.units ⟨#[97, 240, 159, 152, 128, 98]⟩ = 4 by decide +kernel] at hU
  have hC2 := fun W => utfCut_any ⟨#[97, 240, 159, 152, 128, 98]⟩ 2 W (by decide) (by decide)
  rw [show U.cut ⟨#[97, 240, 159, 152, 128, 98]⟩ 2 = 1 by decide +kernel] at hC2
  have hC3 := fun W => utfCut_any ⟨#[97, 240, 159, 152, 128, 98]⟩ 3 W (by decide) (by decide)
  rw [show U.cut ⟨#[97, 240, 159, 152, 128, 98]⟩ 3 = 5 by decide +kernel] at hC3
  have hB := fun W (hW : Tabs W) => utfBegin_all ⟨#[97, 240, 159, 152, 128, 98]⟩ 3 W (by decide) hW
  rw [show bgnAt ⟨#[97, 240, 159, 152, 128, 98]⟩ 3 = 1 by decide +kernel] at hB
  have hF := fun W (hW : Tabs W) => utfFix_any ⟨#[97, 255, 254]⟩ W (by decide) hW
  rw [show U.fixS ⟨#[97, 255, 254]⟩ = ⟨#[97, 239, 191, 189, 239, 191, 189]⟩ by decide +kernel] at hF
  have HT := Lib.hid hT
  clear hT
  go_enter Tryd.func17, Tryd.ntmps17
  go_wp2_with fail
  refine (hN1 _ HT.out).mono ?_
  rintro e w1 ⟨rfl, b1⟩
  go_wp2_with fail
  refine (hN2 _ (tabs_below HT.out b1)).mono ?_
  rintro e w2 ⟨rfl, b2⟩
  have b2' := b1.trans (b2.mono b1.size)
  clear b1 b2
  go_wp2_with fail
  refine (hV1 _ (tabs_below HT.out b2')).mono ?_
  rintro e w3 ⟨rfl, b3⟩
  have b3' := b2'.trans (b3.mono b2'.size)
  clear b3 b2'
  go_wp2_with fail
  refine (hV2 _ (tabs_below HT.out b3')).mono ?_
  rintro e w4 ⟨rfl, b4⟩
  have b4' := b3'.trans (b4.mono b3'.size)
  clear b4 b3'
  go_wp2_with fail
  refine (hV3 _ (tabs_below HT.out b4')).mono ?_
  rintro e w5 ⟨rfl, b5⟩
  have b5' := b4'.trans (b5.mono b4'.size)
  clear b5 b4'
  go_wp2_with fail
  refine (hU _).mono ?_
  rintro e w6 ⟨rfl, b6⟩
  have b6' := b5'.trans (b6.mono b5'.size)
  clear b6 b5'
  go_wp2_with fail
  refine (hC2 _).mono ?_
  rintro e w7 ⟨rfl, b7⟩
  have b7' := b6'.trans (b7.mono b6'.size)
  clear b7 b6'
  go_wp2_with fail
  refine (hC3 _).mono ?_
  rintro e w8 ⟨rfl, b8⟩
  have b8' := b7'.trans (b8.mono b7'.size)
  clear b8 b7'
  go_wp2_with fail
  refine (hB _ (tabs_below HT.out b8')).mono ?_
  rintro e w9 ⟨rfl, b9⟩
  have b9' := b8'.trans (b9.mono b8'.size)
  clear b9 b8'
  go_wp2_with fail
  refine (hF _ (tabs_below HT.out b9')).mono ?_
  rintro e w10 ⟨rfl, b10⟩
  have b10' := b9'.trans (b10.mono b9'.size)
  clear b10 b9'
  go_wp2_with fail
  go_ret
  exact ⟨rfl, b10'⟩
end Go.Proofs.YteoeamdfglmmoaaDoor
