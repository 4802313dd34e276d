/-
  DERIVED. GIVEN WITH THE SEED: THE CARDS: each row of YtepjomdjkoaofaaDoorRows.lean that lists a variable, with what it lists TIED to the program's text (the seventh form; the later family's looks); each row that meets fmt, with fmt's text TOLD by the authors' own Lean function (tested against real Go, not proved from fmt's source: count such statements apart). THE CARD IS WHAT COUNTS. Prove the row's statement (the work); the ties are given (YtepjomdjkoaofaaDoorTie.lean); close each card by the builder's one call (the guide's Derived/Test/ToyasCard.lean, 'card_holds'). Laid BY PROGRAM, IN A SANDBOX (cutbox-door.mjs). By AI agents, Wed Nov 11 2026. No macro, syntax, notation, axiom, sorry.
-/
import Derived.Test.YtepjomdjkoaofaaDoorRows
import GoSem.ClaimSeven
namespace Go.Proofs.YtepjomdjkoaofaaDoor
namespace Rows

/-- THE TIED CARD OF 'glossatorlaw03.JsonReads'. -/
def jsonReadsCard : Claim7 := { stood := { row := jsonReadsRow, standIns := [], harness := (true, "306d635973c39c79f1d50637a94ad454f18171e49e3fc3908ba3e9d8c9f8dd43"), looks := true }, kinds := [], alts := [], laidByText := true, laidKinds := [.data, .data, .data, .data, .sentinel, .sentinel, .pinned], laidTests := true, laidLooks := .later }
def JsonReadsCardSaid : Prop := Claim7.holds Tryd.pinned (.plain (OpenSpec.ofChange jsonReadsSpec)) jsonReadsCard

/-- THE TIED CARD OF 'glossatorlaw06.RpcMakes'. -/
def rpcMakesCard : Claim7 := { stood := { row := rpcMakesRow, standIns := [], harness := (true, "306d635973c39c79f1d50637a94ad454f18171e49e3fc3908ba3e9d8c9f8dd43"), looks := true }, kinds := [], alts := [], laidByText := true, laidKinds := [.data, .data, .data, .data, .pinned], laidTests := true, laidLooks := .later }
def RpcMakesCardSaid : Prop := Claim7.holds Tryd.pinned (.plain (OpenSpec.ofChange rpcMakesSpec)) rpcMakesCard

/-- THE TIED CARD OF 'glossatorlaw07.ParamsMake'. -/
def paramsMakeCard : Claim7 := { stood := { row := paramsMakeRow, standIns := [], harness := (true, "306d635973c39c79f1d50637a94ad454f18171e49e3fc3908ba3e9d8c9f8dd43"), looks := true }, kinds := [], alts := [], laidByText := true, laidKinds := [.data, .data, .data, .data, .pinned], laidTests := true, laidLooks := .later }
def ParamsMakeCardSaid : Prop := Claim7.holds Tryd.pinned (.plain (OpenSpec.ofChange paramsMakeSpec)) paramsMakeCard

/-- THE SECOND FORM's CARD OF 'glossatorlaw03.JsonReads'. -/
def jsonReadsUptoCard : Claim7 := { stood := { row := jsonReadsUptoRow, standIns := [], harness := (true, "306d635973c39c79f1d50637a94ad454f18171e49e3fc3908ba3e9d8c9f8dd43"), looks := true }, kinds := [], alts := [], laidByText := true, laidKinds := [.data, .data, .data, .data, .sentinel, .sentinel, .pinned], laidTests := true, laidLooks := .later }
def JsonReadsUptoCardSaid : Prop := Claim7.holds Tryd.pinned (.plain (OpenSpec.upto jsonReadsSpec)) jsonReadsUptoCard

/-- THE SECOND FORM's CARD OF 'glossatorlaw06.RpcMakes'. -/
def rpcMakesUptoCard : Claim7 := { stood := { row := rpcMakesUptoRow, standIns := [], harness := (true, "306d635973c39c79f1d50637a94ad454f18171e49e3fc3908ba3e9d8c9f8dd43"), looks := true }, kinds := [], alts := [], laidByText := true, laidKinds := [.data, .data, .data, .data, .pinned], laidTests := true, laidLooks := .later }
def RpcMakesUptoCardSaid : Prop := Claim7.holds Tryd.pinned (.plain (OpenSpec.upto rpcMakesSpec)) rpcMakesUptoCard

/-- THE SECOND FORM's CARD OF 'glossatorlaw07.ParamsMake'. -/
def paramsMakeUptoCard : Claim7 := { stood := { row := paramsMakeUptoRow, standIns := [], harness := (true, "306d635973c39c79f1d50637a94ad454f18171e49e3fc3908ba3e9d8c9f8dd43"), looks := true }, kinds := [], alts := [], laidByText := true, laidKinds := [.data, .data, .data, .data, .pinned], laidTests := true, laidLooks := .later }
def ParamsMakeUptoCardSaid : Prop := Claim7.holds Tryd.pinned (.plain (OpenSpec.upto paramsMakeSpec)) paramsMakeUptoCard
end Rows
end Go.Proofs.YtepjomdjkoaofaaDoor
