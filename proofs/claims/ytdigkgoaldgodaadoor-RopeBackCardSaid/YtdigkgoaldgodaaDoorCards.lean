/-
  DERIVED. GIVEN WITH THE SEED: THE CARDS: each row of YtdigkgoaldgodaaDoorRows.lean that lists a variable, with what it lists TIED to the program's text (the seventh form; the later family's looks); each row that meets fmt, with fmt's text TOLD by the authors' own Lean function (tested against real Go, not proved from fmt's source: count such statements apart). THE CARD IS WHAT COUNTS. Prove the row's statement (the work); the ties are given (YtdigkgoaldgodaaDoorTie.lean); close each card by the builder's one call (the guide's Derived/Test/ToyasCard.lean, 'card_holds'). Laid BY PROGRAM, IN A SANDBOX (cutbox-door.mjs). By AI agents, Wed Nov 11 2026. No macro, syntax, notation, axiom, sorry.
-/
import Derived.Test.YtdigkgoaldgodaaDoorRows
import GoSem.ClaimSeven
namespace Go.Proofs.YtdigkgoaldgodaaDoor
namespace Rows

/-- THE TIED CARD OF 'glossatorlaw09.RopePlays'. -/
def ropePlaysCard : Claim7 := { stood := { row := ropePlaysRow, standIns := [], harness := (true, "eef56344a4dc55894937560d6e633b5a07f7dfb8f3e1ca4bfec11e08787747a4"), looks := true }, kinds := [], alts := [], laidByText := true, laidKinds := [.data, .pinned], laidTests := true, laidLooks := .later }
def RopePlaysCardSaid : Prop := Claim7.holds Tryd.pinned (.plain (OpenSpec.ofChange ropePlaysSpec)) ropePlaysCard

/-- THE TIED CARD OF 'glossatorlaw09.RopeAsks'. -/
def ropeAsksCard : Claim7 := { stood := { row := ropeAsksRow, standIns := [], harness := (true, "eef56344a4dc55894937560d6e633b5a07f7dfb8f3e1ca4bfec11e08787747a4"), looks := true }, kinds := [], alts := [], laidByText := true, laidKinds := [.data, .pinned], laidTests := true, laidLooks := .later }
def RopeAsksCardSaid : Prop := Claim7.holds Tryd.pinned (.plain (OpenSpec.ofChange ropeAsksSpec)) ropeAsksCard

/-- THE TIED CARD OF 'glossatorlaw09.RopeBack'. -/
def ropeBackCard : Claim7 := { stood := { row := ropeBackRow, standIns := [], harness := (true, "eef56344a4dc55894937560d6e633b5a07f7dfb8f3e1ca4bfec11e08787747a4"), looks := true }, kinds := [], alts := [], laidByText := true, laidKinds := [.data, .pinned], laidTests := true, laidLooks := .later }
def RopeBackCardSaid : Prop := Claim7.holds Tryd.pinned (.plain (OpenSpec.ofChange ropeBackSpec)) ropeBackCard

/-- THE TIED CARD OF 'glossatorlaw09.RopePlaces'. -/
def ropePlacesCard : Claim7 := { stood := { row := ropePlacesRow, standIns := [], harness := (true, "eef56344a4dc55894937560d6e633b5a07f7dfb8f3e1ca4bfec11e08787747a4"), looks := true }, kinds := [], alts := [], laidByText := true, laidKinds := [.data, .pinned], laidTests := true, laidLooks := .later }
def RopePlacesCardSaid : Prop := Claim7.holds Tryd.pinned (.plain (OpenSpec.ofChange ropePlacesSpec)) ropePlacesCard

/-- THE SECOND FORM's CARD OF 'glossatorlaw09.RopePlays'. -/
def ropePlaysUptoCard : Claim7 := { stood := { row := ropePlaysUptoRow, standIns := [], harness := (true, "eef56344a4dc55894937560d6e633b5a07f7dfb8f3e1ca4bfec11e08787747a4"), looks := true }, kinds := [], alts := [], laidByText := true, laidKinds := [.data, .pinned], laidTests := true, laidLooks := .later }
def RopePlaysUptoCardSaid : Prop := Claim7.holds Tryd.pinned (.plain (OpenSpec.upto ropePlaysSpec)) ropePlaysUptoCard

/-- THE SECOND FORM's CARD OF 'glossatorlaw09.RopeAsks'. -/
def ropeAsksUptoCard : Claim7 := { stood := { row := ropeAsksUptoRow, standIns := [], harness := (true, "eef56344a4dc55894937560d6e633b5a07f7dfb8f3e1ca4bfec11e08787747a4"), looks := true }, kinds := [], alts := [], laidByText := true, laidKinds := [.data, .pinned], laidTests := true, laidLooks := .later }
def RopeAsksUptoCardSaid : Prop := Claim7.holds Tryd.pinned (.plain (OpenSpec.upto ropeAsksSpec)) ropeAsksUptoCard

/-- THE SECOND FORM's CARD OF 'glossatorlaw09.RopeBack'. -/
def ropeBackUptoCard : Claim7 := { stood := { row := ropeBackUptoRow, standIns := [], harness := (true, "eef56344a4dc55894937560d6e633b5a07f7dfb8f3e1ca4bfec11e08787747a4"), looks := true }, kinds := [], alts := [], laidByText := true, laidKinds := [.data, .pinned], laidTests := true, laidLooks := .later }
def RopeBackUptoCardSaid : Prop := Claim7.holds Tryd.pinned (.plain (OpenSpec.upto ropeBackSpec)) ropeBackUptoCard

/-- THE SECOND FORM's CARD OF 'glossatorlaw09.RopePlaces'. -/
def ropePlacesUptoCard : Claim7 := { stood := { row := ropePlacesUptoRow, standIns := [], harness := (true, "eef56344a4dc55894937560d6e633b5a07f7dfb8f3e1ca4bfec11e08787747a4"), looks := true }, kinds := [], alts := [], laidByText := true, laidKinds := [.data, .pinned], laidTests := true, laidLooks := .later }
def RopePlacesUptoCardSaid : Prop := Claim7.holds Tryd.pinned (.plain (OpenSpec.upto ropePlacesSpec)) ropePlacesUptoCard
end Rows
end Go.Proofs.YtdigkgoaldgodaaDoor
