/-
  DERIVED. GIVEN WITH THE SEED: THE CARDS: each row of YtdgmbmoaeoakpaaDoorRows.lean that lists a variable, with what it lists TIED to the program's text (the seventh form; the later family's looks); each row that meets fmt, with fmt's text TOLD by the authors' own Lean function (tested against real Go, not proved from fmt's source: count such statements apart). THE CARD IS WHAT COUNTS. Prove the row's statement (the work); the ties are given (YtdgmbmoaeoakpaaDoorTie.lean); close each card by the builder's one call (the guide's Derived/Test/ToyasCard.lean, 'card_holds'). Laid BY PROGRAM, IN A SANDBOX (cutbox-door.mjs). By AI agents, Wed Nov 11 2026. No macro, syntax, notation, axiom, sorry.
-/
import Derived.Test.YtdgmbmoaeoakpaaDoorRows
import GoSem.ClaimSeven
namespace Go.Proofs.YtdgmbmoaeoakpaaDoor
namespace Rows

/-- THE TIED CARD OF 'glossatorlaw03.JsonReads'. -/
def jsonReadsCard : Claim7 := { stood := { row := jsonReadsRow, standIns := [], harness := (true, "89e1b04f81890b9ca0cd6863856e74e97a6a0da2d367bb036fdafa4ed5e194f2"), looks := true }, kinds := [], alts := [], laidByText := true, laidKinds := [.data, .data, .data, .data, .sentinel, .sentinel, .pinned], laidTests := true, laidLooks := .later }
def JsonReadsCardSaid : Prop := Claim7.holds Tryd.pinned (.plain (OpenSpec.ofChange jsonReadsSpec)) jsonReadsCard

/-- THE TIED CARD OF 'glossatorlaw07.ParamsMake'. -/
def paramsMakeCard : Claim7 := { stood := { row := paramsMakeRow, standIns := [], harness := (true, "89e1b04f81890b9ca0cd6863856e74e97a6a0da2d367bb036fdafa4ed5e194f2"), looks := true }, kinds := [], alts := [], laidByText := true, laidKinds := [.data, .data, .data, .data, .pinned], laidTests := true, laidLooks := .later }
def ParamsMakeCardSaid : Prop := Claim7.holds Tryd.pinned (.plain (OpenSpec.ofChange paramsMakeSpec)) paramsMakeCard

/-- THE TIED CARD OF 'glossatorlaw08.ResultsMake'. -/
def resultsMakeCard : Claim7 := { stood := { row := resultsMakeRow, standIns := [], harness := (true, "89e1b04f81890b9ca0cd6863856e74e97a6a0da2d367bb036fdafa4ed5e194f2"), looks := true }, kinds := [], alts := [], laidByText := true, laidKinds := [.data, .data, .data, .data, .pinned], laidTests := true, laidLooks := .later }
def ResultsMakeCardSaid : Prop := Claim7.holds Tryd.pinned (.plain (OpenSpec.ofChange resultsMakeSpec)) resultsMakeCard

/-- THE TIED CARD OF 'glossatorlaw08.ResultsMay'. -/
def resultsMayCard : Claim7 := { stood := { row := resultsMayRow, standIns := [], harness := (true, "89e1b04f81890b9ca0cd6863856e74e97a6a0da2d367bb036fdafa4ed5e194f2"), looks := true }, kinds := [], alts := [], laidByText := true, laidKinds := [.data, .data, .data, .data, .pinned], laidTests := true, laidLooks := .later }
def ResultsMayCardSaid : Prop := Claim7.holds Tryd.pinned (.plain (OpenSpec.ofChange resultsMaySpec)) resultsMayCard

/-- THE SECOND FORM's CARD OF 'glossatorlaw03.JsonReads'. -/
def jsonReadsUptoCard : Claim7 := { stood := { row := jsonReadsUptoRow, standIns := [], harness := (true, "89e1b04f81890b9ca0cd6863856e74e97a6a0da2d367bb036fdafa4ed5e194f2"), looks := true }, kinds := [], alts := [], laidByText := true, laidKinds := [.data, .data, .data, .data, .sentinel, .sentinel, .pinned], laidTests := true, laidLooks := .later }
def JsonReadsUptoCardSaid : Prop := Claim7.holds Tryd.pinned (.plain (OpenSpec.upto jsonReadsSpec)) jsonReadsUptoCard

/-- THE SECOND FORM's CARD OF 'glossatorlaw07.ParamsMake'. -/
def paramsMakeUptoCard : Claim7 := { stood := { row := paramsMakeUptoRow, standIns := [], harness := (true, "89e1b04f81890b9ca0cd6863856e74e97a6a0da2d367bb036fdafa4ed5e194f2"), looks := true }, kinds := [], alts := [], laidByText := true, laidKinds := [.data, .data, .data, .data, .pinned], laidTests := true, laidLooks := .later }
def ParamsMakeUptoCardSaid : Prop := Claim7.holds Tryd.pinned (.plain (OpenSpec.upto paramsMakeSpec)) paramsMakeUptoCard

/-- THE SECOND FORM's CARD OF 'glossatorlaw08.ResultsMake'. -/
def resultsMakeUptoCard : Claim7 := { stood := { row := resultsMakeUptoRow, standIns := [], harness := (true, "89e1b04f81890b9ca0cd6863856e74e97a6a0da2d367bb036fdafa4ed5e194f2"), looks := true }, kinds := [], alts := [], laidByText := true, laidKinds := [.data, .data, .data, .data, .pinned], laidTests := true, laidLooks := .later }
def ResultsMakeUptoCardSaid : Prop := Claim7.holds Tryd.pinned (.plain (OpenSpec.upto resultsMakeSpec)) resultsMakeUptoCard

/-- THE SECOND FORM's CARD OF 'glossatorlaw08.ResultsMay'. -/
def resultsMayUptoCard : Claim7 := { stood := { row := resultsMayUptoRow, standIns := [], harness := (true, "89e1b04f81890b9ca0cd6863856e74e97a6a0da2d367bb036fdafa4ed5e194f2"), looks := true }, kinds := [], alts := [], laidByText := true, laidKinds := [.data, .data, .data, .data, .pinned], laidTests := true, laidLooks := .later }
def ResultsMayUptoCardSaid : Prop := Claim7.holds Tryd.pinned (.plain (OpenSpec.upto resultsMaySpec)) resultsMayUptoCard
end Rows
end Go.Proofs.YtdgmbmoaeoakpaaDoor
