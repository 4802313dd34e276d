/-
  DERIVED. GIVEN WITH THE SEED: THE CARDS: each row of YthglpfmbmmlbjaaDoorRows.lean that lists a variable, with what it lists TIED to the program's text (the seventh form; the later family's looks); each row that meets fmt, with fmt's text TOLD by the authors' own Lean function (tested against real Go, not proved from fmt's source: count such statements apart). THE CARD IS WHAT COUNTS. Prove the row's statement (the work); the ties are given (YthglpfmbmmlbjaaDoorTie.lean); close each card by the builder's one call (the guide's Derived/Test/ToyasCard.lean, 'card_holds'). Laid BY PROGRAM, IN A SANDBOX (cutbox-door.mjs). By AI agents, Wed Nov 11 2026. No macro, syntax, notation, axiom, sorry.
-/
import Derived.Test.YthglpfmbmmlbjaaDoorRows
import GoSem.ClaimSeven
namespace Go.Proofs.YthglpfmbmmlbjaaDoor
namespace Rows

/-- THE TIED CARD OF 'glossatorlaw12.LexPlaces'. -/
def lexPlacesCard : Claim7 := { stood := { row := lexPlacesRow, standIns := [], harness := (true, "93ee3799896e246170dd24d34a01b74f6d3775e3e760ad6af6d5dd41bfa2bc29"), looks := false }, kinds := [], alts := [], laidByText := true, laidKinds := [.data], laidTests := true, laidLooks := .later }
def LexPlacesCardSaid : Prop := Claim7.holds Tryd.pinned (.plain (OpenSpec.ofChange lexPlacesSpec)) lexPlacesCard

/-- THE TIED CARD OF 'glossatorlaw12.LexWhole'. -/
def lexWholeCard : Claim7 := { stood := { row := lexWholeRow, standIns := [], harness := (true, "93ee3799896e246170dd24d34a01b74f6d3775e3e760ad6af6d5dd41bfa2bc29"), looks := false }, kinds := [], alts := [], laidByText := true, laidKinds := [.data], laidTests := true, laidLooks := .later }
def LexWholeCardSaid : Prop := Claim7.holds Tryd.pinned (.plain (OpenSpec.ofChange lexWholeSpec)) lexWholeCard

/-- THE TIED CARD OF 'glossatorlaw12.LexLooks'. -/
def lexLooksCard : Claim7 := { stood := { row := lexLooksRow, standIns := [], harness := (true, "93ee3799896e246170dd24d34a01b74f6d3775e3e760ad6af6d5dd41bfa2bc29"), looks := false }, kinds := [], alts := [], laidByText := true, laidKinds := [.data], laidTests := true, laidLooks := .later }
def LexLooksCardSaid : Prop := Claim7.holds Tryd.pinned (.plain (OpenSpec.ofChange lexLooksSpec)) lexLooksCard

/-- THE TIED CARD OF 'glossatorlaw12.LexRest'. -/
def lexRestCard : Claim7 := { stood := { row := lexRestRow, standIns := [], harness := (true, "93ee3799896e246170dd24d34a01b74f6d3775e3e760ad6af6d5dd41bfa2bc29"), looks := false }, kinds := [], alts := [], laidByText := true, laidKinds := [.data], laidTests := true, laidLooks := .later }
def LexRestCardSaid : Prop := Claim7.holds Tryd.pinned (.plain (OpenSpec.ofChange lexRestSpec)) lexRestCard

/-- THE SECOND FORM's CARD OF 'glossatorlaw12.LexPlaces'. -/
def lexPlacesUptoCard : Claim7 := { stood := { row := lexPlacesUptoRow, standIns := [], harness := (true, "93ee3799896e246170dd24d34a01b74f6d3775e3e760ad6af6d5dd41bfa2bc29"), looks := false }, kinds := [], alts := [], laidByText := true, laidKinds := [.data], laidTests := true, laidLooks := .later }
def LexPlacesUptoCardSaid : Prop := Claim7.holds Tryd.pinned (.plain (OpenSpec.upto lexPlacesSpec)) lexPlacesUptoCard

/-- THE SECOND FORM's CARD OF 'glossatorlaw12.LexWhole'. -/
def lexWholeUptoCard : Claim7 := { stood := { row := lexWholeUptoRow, standIns := [], harness := (true, "93ee3799896e246170dd24d34a01b74f6d3775e3e760ad6af6d5dd41bfa2bc29"), looks := false }, kinds := [], alts := [], laidByText := true, laidKinds := [.data], laidTests := true, laidLooks := .later }
def LexWholeUptoCardSaid : Prop := Claim7.holds Tryd.pinned (.plain (OpenSpec.upto lexWholeSpec)) lexWholeUptoCard

/-- THE SECOND FORM's CARD OF 'glossatorlaw12.LexLooks'. -/
def lexLooksUptoCard : Claim7 := { stood := { row := lexLooksUptoRow, standIns := [], harness := (true, "93ee3799896e246170dd24d34a01b74f6d3775e3e760ad6af6d5dd41bfa2bc29"), looks := false }, kinds := [], alts := [], laidByText := true, laidKinds := [.data], laidTests := true, laidLooks := .later }
def LexLooksUptoCardSaid : Prop := Claim7.holds Tryd.pinned (.plain (OpenSpec.upto lexLooksSpec)) lexLooksUptoCard

/-- THE SECOND FORM's CARD OF 'glossatorlaw12.LexRest'. -/
def lexRestUptoCard : Claim7 := { stood := { row := lexRestUptoRow, standIns := [], harness := (true, "93ee3799896e246170dd24d34a01b74f6d3775e3e760ad6af6d5dd41bfa2bc29"), looks := false }, kinds := [], alts := [], laidByText := true, laidKinds := [.data], laidTests := true, laidLooks := .later }
def LexRestUptoCardSaid : Prop := Claim7.holds Tryd.pinned (.plain (OpenSpec.upto lexRestSpec)) lexRestUptoCard
end Rows
end Go.Proofs.YthglpfmbmmlbjaaDoor
