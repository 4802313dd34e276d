/-
  DERIVED. GIVEN WITH THE SEED: THE CARDS: each row of YteoeamdfglmmoaaDoorRows.lean that lists a variable, with what it lists TIED to the program's text (the seventh form; the later family's looks); each row that meets fmt, with fmt's text TOLD by the authors' own Lean function (tested against real Go, not proved from fmt's source: count such statements apart). THE CARD IS WHAT COUNTS. Prove the row's statement (the work); the ties are given (YteoeamdfglmmoaaDoorTie.lean); close each card by the builder's one call (the guide's Derived/Test/ToyasCard.lean, 'card_holds'). Laid BY PROGRAM, IN A SANDBOX (cutbox-door.mjs). By AI agents, Wed Nov 11 2026. No macro, syntax, notation, axiom, sorry.
-/
import Derived.Test.YteoeamdfglmmoaaDoorRows
import GoSem.ClaimSeven
namespace Go.Proofs.YteoeamdfglmmoaaDoor
namespace Rows

/-- THE TIED CARD OF 'glossatorlaw01.UtfTells'. -/
def utfTellsCard : Claim7 := { stood := { row := utfTellsRow, standIns := [], harness := (true, "5e4016a24f71ab244acdfaaea773c85a1cac3cb7a0ea4d30b927478d8af75dbf"), looks := false }, kinds := [], alts := [], laidByText := true, laidKinds := [.data, .pinned], laidTests := true, laidLooks := .later }
def UtfTellsCardSaid : Prop := Claim7.holds Tryd.pinned (.plain (OpenSpec.ofChange utfTellsSpec)) utfTellsCard

/-- THE TIED CARD OF 'glossatorlaw01.UtfFixes'. -/
def utfFixesCard : Claim7 := { stood := { row := utfFixesRow, standIns := [], harness := (true, "5e4016a24f71ab244acdfaaea773c85a1cac3cb7a0ea4d30b927478d8af75dbf"), looks := false }, kinds := [], alts := [], laidByText := true, laidKinds := [.data, .pinned], laidTests := true, laidLooks := .later }
def UtfFixesCardSaid : Prop := Claim7.holds Tryd.pinned (.plain (OpenSpec.ofChange utfFixesSpec)) utfFixesCard

/-- THE TIED CARD OF 'glossatorlaw01.UtfFixed'. -/
def utfFixedCard : Claim7 := { stood := { row := utfFixedRow, standIns := [], harness := (true, "5e4016a24f71ab244acdfaaea773c85a1cac3cb7a0ea4d30b927478d8af75dbf"), looks := false }, kinds := [], alts := [], laidByText := true, laidKinds := [.data, .pinned], laidTests := true, laidLooks := .later }
def UtfFixedCardSaid : Prop := Claim7.holds Tryd.pinned (.plain (OpenSpec.ofChange utfFixedSpec)) utfFixedCard

/-- THE TIED CARD OF 'glossatorlaw01.UtfBack'. -/
def utfBackCard : Claim7 := { stood := { row := utfBackRow, standIns := [], harness := (true, "5e4016a24f71ab244acdfaaea773c85a1cac3cb7a0ea4d30b927478d8af75dbf"), looks := false }, kinds := [], alts := [], laidByText := true, laidKinds := [.data, .pinned], laidTests := true, laidLooks := .later }
def UtfBackCardSaid : Prop := Claim7.holds Tryd.pinned (.plain (OpenSpec.ofChange utfBackSpec)) utfBackCard

/-- THE TIED CARD OF 'glossatorlaw01.UtfJoins'. -/
def utfJoinsCard : Claim7 := { stood := { row := utfJoinsRow, standIns := [], harness := (true, "5e4016a24f71ab244acdfaaea773c85a1cac3cb7a0ea4d30b927478d8af75dbf"), looks := false }, kinds := [], alts := [], laidByText := true, laidKinds := [.data, .pinned], laidTests := true, laidLooks := .later }
def UtfJoinsCardSaid : Prop := Claim7.holds Tryd.pinned (.plain (OpenSpec.ofChange utfJoinsSpec)) utfJoinsCard

/-- THE SECOND FORM's CARD OF 'glossatorlaw01.UtfTells'. -/
def utfTellsUptoCard : Claim7 := { stood := { row := utfTellsUptoRow, standIns := [], harness := (true, "5e4016a24f71ab244acdfaaea773c85a1cac3cb7a0ea4d30b927478d8af75dbf"), looks := false }, kinds := [], alts := [], laidByText := true, laidKinds := [.data, .pinned], laidTests := true, laidLooks := .later }
def UtfTellsUptoCardSaid : Prop := Claim7.holds Tryd.pinned (.plain (OpenSpec.upto utfTellsSpec)) utfTellsUptoCard

/-- THE SECOND FORM's CARD OF 'glossatorlaw01.UtfFixes'. -/
def utfFixesUptoCard : Claim7 := { stood := { row := utfFixesUptoRow, standIns := [], harness := (true, "5e4016a24f71ab244acdfaaea773c85a1cac3cb7a0ea4d30b927478d8af75dbf"), looks := false }, kinds := [], alts := [], laidByText := true, laidKinds := [.data, .pinned], laidTests := true, laidLooks := .later }
def UtfFixesUptoCardSaid : Prop := Claim7.holds Tryd.pinned (.plain (OpenSpec.upto utfFixesSpec)) utfFixesUptoCard

/-- THE SECOND FORM's CARD OF 'glossatorlaw01.UtfFixed'. -/
def utfFixedUptoCard : Claim7 := { stood := { row := utfFixedUptoRow, standIns := [], harness := (true, "5e4016a24f71ab244acdfaaea773c85a1cac3cb7a0ea4d30b927478d8af75dbf"), looks := false }, kinds := [], alts := [], laidByText := true, laidKinds := [.data, .pinned], laidTests := true, laidLooks := .later }
def UtfFixedUptoCardSaid : Prop := Claim7.holds Tryd.pinned (.plain (OpenSpec.upto utfFixedSpec)) utfFixedUptoCard

/-- THE SECOND FORM's CARD OF 'glossatorlaw01.UtfBack'. -/
def utfBackUptoCard : Claim7 := { stood := { row := utfBackUptoRow, standIns := [], harness := (true, "5e4016a24f71ab244acdfaaea773c85a1cac3cb7a0ea4d30b927478d8af75dbf"), looks := false }, kinds := [], alts := [], laidByText := true, laidKinds := [.data, .pinned], laidTests := true, laidLooks := .later }
def UtfBackUptoCardSaid : Prop := Claim7.holds Tryd.pinned (.plain (OpenSpec.upto utfBackSpec)) utfBackUptoCard

/-- THE SECOND FORM's CARD OF 'glossatorlaw01.UtfJoins'. -/
def utfJoinsUptoCard : Claim7 := { stood := { row := utfJoinsUptoRow, standIns := [], harness := (true, "5e4016a24f71ab244acdfaaea773c85a1cac3cb7a0ea4d30b927478d8af75dbf"), looks := false }, kinds := [], alts := [], laidByText := true, laidKinds := [.data, .pinned], laidTests := true, laidLooks := .later }
def UtfJoinsUptoCardSaid : Prop := Claim7.holds Tryd.pinned (.plain (OpenSpec.upto utfJoinsSpec)) utfJoinsUptoCard
end Rows
end Go.Proofs.YteoeamdfglmmoaaDoor
