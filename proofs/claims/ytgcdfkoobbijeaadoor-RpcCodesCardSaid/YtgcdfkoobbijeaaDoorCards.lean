/-
  DERIVED. GIVEN WITH THE SEED: THE CARDS: each row of YtgcdfkoobbijeaaDoorRows.lean that lists a variable, with what it lists TIED to the program's text (the seventh form; the later family's looks); each row that meets fmt, with fmt's text TOLD by the authors' own Lean function (tested against real Go, not proved from fmt's source: count such statements apart). THE CARD IS WHAT COUNTS. Prove the row's statement (the work); the ties are given (YtgcdfkoobbijeaaDoorTie.lean); close each card by the builder's one call (the guide's Derived/Test/ToyasCard.lean, 'card_holds'). Laid BY PROGRAM, IN A SANDBOX (cutbox-door.mjs). By AI agents, Wed Nov 11 2026. No macro, syntax, notation, axiom, sorry.
-/
import Derived.Test.YtgcdfkoobbijeaaDoorRows
import GoSem.ClaimSeven
namespace Go.Proofs.YtgcdfkoobbijeaaDoor
namespace Rows

/-- THE TIED CARD OF 'glossatorlaw03.JsonReads'. -/
def jsonReadsCard : Claim7 := { stood := { row := jsonReadsRow, standIns := [], harness := (true, "656ea42ee2e271b74f82db8e98eaae6a6cd9c88f3baa62852feb9d9d398f13e2"), looks := true }, kinds := [], alts := [], laidByText := true, laidKinds := [.data, .data, .data, .data, .sentinel, .sentinel, .pinned], laidTests := true, laidLooks := .later }
def JsonReadsCardSaid : Prop := Claim7.holds Tryd.pinned (.plain (OpenSpec.ofChange jsonReadsSpec)) jsonReadsCard

/-- THE TIED CARD OF 'glossatorlaw04.JsontextOne'. -/
def jsontextOneCard : Claim7 := { stood := { row := jsontextOneRow, standIns := [], harness := (true, "656ea42ee2e271b74f82db8e98eaae6a6cd9c88f3baa62852feb9d9d398f13e2"), looks := true }, kinds := [], alts := [], laidByText := true, laidKinds := [.data, .data, .data, .data, .sentinel, .sentinel, .pinned], laidTests := true, laidLooks := .later }
def JsontextOneCardSaid : Prop := Claim7.holds Tryd.pinned (.plain (OpenSpec.ofChange jsontextOneSpec)) jsontextOneCard

/-- THE TIED CARD OF 'glossatorlaw06.RpcMakes'. -/
def rpcMakesCard : Claim7 := { stood := { row := rpcMakesRow, standIns := [], harness := (true, "656ea42ee2e271b74f82db8e98eaae6a6cd9c88f3baa62852feb9d9d398f13e2"), looks := true }, kinds := [], alts := [], laidByText := true, laidKinds := [.data, .data, .data, .data, .pinned], laidTests := true, laidLooks := .later }
def RpcMakesCardSaid : Prop := Claim7.holds Tryd.pinned (.plain (OpenSpec.ofChange rpcMakesSpec)) rpcMakesCard

/-- THE TIED CARD OF 'glossatorlaw06.RpcCodes'. -/
def rpcCodesCard : Claim7 := { stood := { row := rpcCodesRow, standIns := [], harness := (true, "656ea42ee2e271b74f82db8e98eaae6a6cd9c88f3baa62852feb9d9d398f13e2"), looks := true }, kinds := [], alts := [], laidByText := true, laidKinds := [.data, .data, .data, .data, .pinned], laidTests := true, laidLooks := .later }
def RpcCodesCardSaid : Prop := Claim7.holds Tryd.pinned (.plain (OpenSpec.ofChange rpcCodesSpec)) rpcCodesCard

/-- THE SECOND FORM's CARD OF 'glossatorlaw03.JsonReads'. -/
def jsonReadsUptoCard : Claim7 := { stood := { row := jsonReadsUptoRow, standIns := [], harness := (true, "656ea42ee2e271b74f82db8e98eaae6a6cd9c88f3baa62852feb9d9d398f13e2"), looks := true }, kinds := [], alts := [], laidByText := true, laidKinds := [.data, .data, .data, .data, .sentinel, .sentinel, .pinned], laidTests := true, laidLooks := .later }
def JsonReadsUptoCardSaid : Prop := Claim7.holds Tryd.pinned (.plain (OpenSpec.upto jsonReadsSpec)) jsonReadsUptoCard

/-- THE SECOND FORM's CARD OF 'glossatorlaw04.JsontextOne'. -/
def jsontextOneUptoCard : Claim7 := { stood := { row := jsontextOneUptoRow, standIns := [], harness := (true, "656ea42ee2e271b74f82db8e98eaae6a6cd9c88f3baa62852feb9d9d398f13e2"), looks := true }, kinds := [], alts := [], laidByText := true, laidKinds := [.data, .data, .data, .data, .sentinel, .sentinel, .pinned], laidTests := true, laidLooks := .later }
def JsontextOneUptoCardSaid : Prop := Claim7.holds Tryd.pinned (.plain (OpenSpec.upto jsontextOneSpec)) jsontextOneUptoCard

/-- THE SECOND FORM's CARD OF 'glossatorlaw06.RpcMakes'. -/
def rpcMakesUptoCard : Claim7 := { stood := { row := rpcMakesUptoRow, standIns := [], harness := (true, "656ea42ee2e271b74f82db8e98eaae6a6cd9c88f3baa62852feb9d9d398f13e2"), looks := true }, kinds := [], alts := [], laidByText := true, laidKinds := [.data, .data, .data, .data, .pinned], laidTests := true, laidLooks := .later }
def RpcMakesUptoCardSaid : Prop := Claim7.holds Tryd.pinned (.plain (OpenSpec.upto rpcMakesSpec)) rpcMakesUptoCard

/-- THE SECOND FORM's CARD OF 'glossatorlaw06.RpcCodes'. -/
def rpcCodesUptoCard : Claim7 := { stood := { row := rpcCodesUptoRow, standIns := [], harness := (true, "656ea42ee2e271b74f82db8e98eaae6a6cd9c88f3baa62852feb9d9d398f13e2"), looks := true }, kinds := [], alts := [], laidByText := true, laidKinds := [.data, .data, .data, .data, .pinned], laidTests := true, laidLooks := .later }
def RpcCodesUptoCardSaid : Prop := Claim7.holds Tryd.pinned (.plain (OpenSpec.upto rpcCodesSpec)) rpcCodesUptoCard
end Rows
end Go.Proofs.YtgcdfkoobbijeaaDoor
