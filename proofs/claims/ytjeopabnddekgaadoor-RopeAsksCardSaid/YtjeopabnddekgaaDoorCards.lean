/-
  DERIVED. GIVEN WITH THE SEED: THE CARDS: each row of YtjeopabnddekgaaDoorRows.lean that lists a variable, with what it lists TIED to the program's text (the seventh form; the later family's looks); each row that meets fmt, with fmt's text TOLD by the authors' own Lean function (tested against real Go, not proved from fmt's source: count such statements apart). THE CARD IS WHAT COUNTS. Prove the row's statement (the work); the ties are given (YtjeopabnddekgaaDoorTie.lean); close each card by the builder's one call (the guide's Derived/Test/ToyasCard.lean, 'card_holds'). Laid BY PROGRAM, IN A SANDBOX (cutbox-door.mjs). By AI agents, Wed Nov 11 2026. No macro, syntax, notation, axiom, sorry.
-/
import Derived.Test.YtjeopabnddekgaaDoorRows
import GoSem.ClaimSeven
namespace Go.Proofs.YtjeopabnddekgaaDoor
namespace Rows

/-- THE TIED CARD OF 'glossatorlaw09.RopePlays'. -/
def ropePlaysCard : Claim7 := { stood := { row := ropePlaysRow, standIns := [], harness := (true, "ffd7b071ffb8abaf50a8979e12e530dfd1dca454ea2171d4874248fe6ef38a11"), looks := true }, kinds := [], alts := [], laidByText := true, laidKinds := [.data, .pinned], laidTests := true, laidLooks := .later }
def RopePlaysCardSaid : Prop := Claim7.holds Tryd.pinned (.plain (OpenSpec.ofChange ropePlaysSpec)) ropePlaysCard

/-- THE TIED CARD OF 'glossatorlaw09.RopeAsks'. -/
def ropeAsksCard : Claim7 := { stood := { row := ropeAsksRow, standIns := [], harness := (true, "ffd7b071ffb8abaf50a8979e12e530dfd1dca454ea2171d4874248fe6ef38a11"), looks := true }, kinds := [], alts := [], laidByText := true, laidKinds := [.data, .pinned], laidTests := true, laidLooks := .later }
def RopeAsksCardSaid : Prop := Claim7.holds Tryd.pinned (.plain (OpenSpec.ofChange ropeAsksSpec)) ropeAsksCard

/-- THE TIED CARD OF 'glossatorlaw09.RopePlaces'. -/
def ropePlacesCard : Claim7 := { stood := { row := ropePlacesRow, standIns := [], harness := (true, "ffd7b071ffb8abaf50a8979e12e530dfd1dca454ea2171d4874248fe6ef38a11"), looks := true }, kinds := [], alts := [], laidByText := true, laidKinds := [.data, .pinned], laidTests := true, laidLooks := .later }
def RopePlacesCardSaid : Prop := Claim7.holds Tryd.pinned (.plain (OpenSpec.ofChange ropePlacesSpec)) ropePlacesCard

/-- THE TIED CARD OF 'glossatorlaw10.EditsDo'. -/
def editsDoCard : Claim7 := { stood := { row := editsDoRow, standIns := [], harness := (true, "ffd7b071ffb8abaf50a8979e12e530dfd1dca454ea2171d4874248fe6ef38a11"), looks := true }, kinds := [], alts := [], laidByText := true, laidKinds := [.data, .pinned], laidTests := true, laidLooks := .later }
def EditsDoCardSaid : Prop := Claim7.holds Tryd.pinned (.plain (OpenSpec.ofChange editsDoSpec)) editsDoCard

/-- THE TIED CARD OF 'glossatorlaw10.EditsNil'. -/
def editsNilCard : Claim7 := { stood := { row := editsNilRow, standIns := [], harness := (true, "ffd7b071ffb8abaf50a8979e12e530dfd1dca454ea2171d4874248fe6ef38a11"), looks := true }, kinds := [], alts := [], laidByText := true, laidKinds := [.data, .pinned], laidTests := true, laidLooks := .later }
def EditsNilCardSaid : Prop := Claim7.holds Tryd.pinned (.plain (OpenSpec.ofChange editsNilSpec)) editsNilCard

/-- THE TIED CARD OF 'glossatorlaw10.EditsOutside'. -/
def editsOutsideCard : Claim7 := { stood := { row := editsOutsideRow, standIns := [], harness := (true, "ffd7b071ffb8abaf50a8979e12e530dfd1dca454ea2171d4874248fe6ef38a11"), looks := true }, kinds := [], alts := [], laidByText := true, laidKinds := [.data, .pinned], laidTests := true, laidLooks := .later }
def EditsOutsideCardSaid : Prop := Claim7.holds Tryd.pinned (.plain (OpenSpec.ofChange editsOutsideSpec)) editsOutsideCard

/-- THE TIED CARD OF 'glossatorlaw10.EditsParted'. -/
def editsPartedCard : Claim7 := { stood := { row := editsPartedRow, standIns := [], harness := (true, "ffd7b071ffb8abaf50a8979e12e530dfd1dca454ea2171d4874248fe6ef38a11"), looks := true }, kinds := [], alts := [], laidByText := true, laidKinds := [.data, .pinned], laidTests := true, laidLooks := .later }
def EditsPartedCardSaid : Prop := Claim7.holds Tryd.pinned (.plain (OpenSpec.ofChange editsPartedSpec)) editsPartedCard

/-- THE SECOND FORM's CARD OF 'glossatorlaw09.RopePlays'. -/
def ropePlaysUptoCard : Claim7 := { stood := { row := ropePlaysUptoRow, standIns := [], harness := (true, "ffd7b071ffb8abaf50a8979e12e530dfd1dca454ea2171d4874248fe6ef38a11"), looks := true }, kinds := [], alts := [], laidByText := true, laidKinds := [.data, .pinned], laidTests := true, laidLooks := .later }
def RopePlaysUptoCardSaid : Prop := Claim7.holds Tryd.pinned (.plain (OpenSpec.upto ropePlaysSpec)) ropePlaysUptoCard

/-- THE SECOND FORM's CARD OF 'glossatorlaw09.RopeAsks'. -/
def ropeAsksUptoCard : Claim7 := { stood := { row := ropeAsksUptoRow, standIns := [], harness := (true, "ffd7b071ffb8abaf50a8979e12e530dfd1dca454ea2171d4874248fe6ef38a11"), looks := true }, kinds := [], alts := [], laidByText := true, laidKinds := [.data, .pinned], laidTests := true, laidLooks := .later }
def RopeAsksUptoCardSaid : Prop := Claim7.holds Tryd.pinned (.plain (OpenSpec.upto ropeAsksSpec)) ropeAsksUptoCard

/-- THE SECOND FORM's CARD OF 'glossatorlaw09.RopePlaces'. -/
def ropePlacesUptoCard : Claim7 := { stood := { row := ropePlacesUptoRow, standIns := [], harness := (true, "ffd7b071ffb8abaf50a8979e12e530dfd1dca454ea2171d4874248fe6ef38a11"), looks := true }, kinds := [], alts := [], laidByText := true, laidKinds := [.data, .pinned], laidTests := true, laidLooks := .later }
def RopePlacesUptoCardSaid : Prop := Claim7.holds Tryd.pinned (.plain (OpenSpec.upto ropePlacesSpec)) ropePlacesUptoCard

/-- THE SECOND FORM's CARD OF 'glossatorlaw10.EditsDo'. -/
def editsDoUptoCard : Claim7 := { stood := { row := editsDoUptoRow, standIns := [], harness := (true, "ffd7b071ffb8abaf50a8979e12e530dfd1dca454ea2171d4874248fe6ef38a11"), looks := true }, kinds := [], alts := [], laidByText := true, laidKinds := [.data, .pinned], laidTests := true, laidLooks := .later }
def EditsDoUptoCardSaid : Prop := Claim7.holds Tryd.pinned (.plain (OpenSpec.upto editsDoSpec)) editsDoUptoCard

/-- THE SECOND FORM's CARD OF 'glossatorlaw10.EditsNil'. -/
def editsNilUptoCard : Claim7 := { stood := { row := editsNilUptoRow, standIns := [], harness := (true, "ffd7b071ffb8abaf50a8979e12e530dfd1dca454ea2171d4874248fe6ef38a11"), looks := true }, kinds := [], alts := [], laidByText := true, laidKinds := [.data, .pinned], laidTests := true, laidLooks := .later }
def EditsNilUptoCardSaid : Prop := Claim7.holds Tryd.pinned (.plain (OpenSpec.upto editsNilSpec)) editsNilUptoCard

/-- THE SECOND FORM's CARD OF 'glossatorlaw10.EditsOutside'. -/
def editsOutsideUptoCard : Claim7 := { stood := { row := editsOutsideUptoRow, standIns := [], harness := (true, "ffd7b071ffb8abaf50a8979e12e530dfd1dca454ea2171d4874248fe6ef38a11"), looks := true }, kinds := [], alts := [], laidByText := true, laidKinds := [.data, .pinned], laidTests := true, laidLooks := .later }
def EditsOutsideUptoCardSaid : Prop := Claim7.holds Tryd.pinned (.plain (OpenSpec.upto editsOutsideSpec)) editsOutsideUptoCard

/-- THE SECOND FORM's CARD OF 'glossatorlaw10.EditsParted'. -/
def editsPartedUptoCard : Claim7 := { stood := { row := editsPartedUptoRow, standIns := [], harness := (true, "ffd7b071ffb8abaf50a8979e12e530dfd1dca454ea2171d4874248fe6ef38a11"), looks := true }, kinds := [], alts := [], laidByText := true, laidKinds := [.data, .pinned], laidTests := true, laidLooks := .later }
def EditsPartedUptoCardSaid : Prop := Claim7.holds Tryd.pinned (.plain (OpenSpec.upto editsPartedSpec)) editsPartedUptoCard
end Rows
end Go.Proofs.YtjeopabnddekgaaDoor
