/-
  DERIVED. GIVEN WITH THE SEED: THE CARDS: each row of YtgcdfkoobbijeaaGreatDoorRows.lean that lists a variable, with what it lists TIED to the program's text (the seventh form; the later family's looks); each row that meets fmt, with fmt's text TOLD by the authors' own Lean function (tested against real Go, not proved from fmt's source: count such statements apart). THE CARD IS WHAT COUNTS. Prove the row's statement (the work); the ties are given (YtgcdfkoobbijeaaGreatDoorTie.lean); close each card by the builder's one call (the guide's Derived/Test/ToyasCard.lean, 'card_holds'). Laid BY PROGRAM, IN A SANDBOX (cutbox-door.mjs). By AI agents, Wed Nov 11 2026. No macro, syntax, notation, axiom, sorry.
-/
import Derived.Test.YtgcdfkoobbijeaaGreatDoorRows
import GoSem.ClaimSeven
namespace Go.Proofs.YtgcdfkoobbijeaaGreatDoor
namespace Rows

/-- THE TIED CARD OF 'glossatorlaw04.JsontextWrites'. -/
def jsontextWritesCard : Claim7 := { stood := { row := jsontextWritesRow, standIns := [], harness := (true, "7213c514036a6e1bcae4a00bd64fbbed44d70053ebe7b144f39e51b347a45b8d"), looks := true }, kinds := [], alts := [], laidByText := true, laidKinds := [.data, .data, .data, .data, .sentinel, .sentinel, .pinned], laidTests := true, laidLooks := .later }
def JsontextWritesCardSaid : Prop := Claim7.holds Tryz.pinned (.plain (OpenSpec.ofChange jsontextWritesSpec)) jsontextWritesCard

/-- THE TIED CARD OF 'glossatorlaw04.JsontextBack'. -/
def jsontextBackCard : Claim7 := { stood := { row := jsontextBackRow, standIns := [], harness := (true, "7213c514036a6e1bcae4a00bd64fbbed44d70053ebe7b144f39e51b347a45b8d"), looks := true }, kinds := [], alts := [], laidByText := true, laidKinds := [.data, .data, .data, .data, .sentinel, .sentinel, .pinned], laidTests := true, laidLooks := .later }
def JsontextBackCardSaid : Prop := Claim7.holds Tryz.pinned (.plain (OpenSpec.ofChange jsontextBackSpec)) jsontextBackCard

/-- THE TIED CARD OF 'glossatorlaw04.JsontextPlain'. -/
def jsontextPlainCard : Claim7 := { stood := { row := jsontextPlainRow, standIns := [], harness := (true, "7213c514036a6e1bcae4a00bd64fbbed44d70053ebe7b144f39e51b347a45b8d"), looks := true }, kinds := [], alts := [], laidByText := true, laidKinds := [.data, .data, .data, .data, .sentinel, .sentinel, .pinned], laidTests := true, laidLooks := .later }
def JsontextPlainCardSaid : Prop := Claim7.holds Tryz.pinned (.plain (OpenSpec.ofChange jsontextPlainSpec)) jsontextPlainCard

/-- THE TIED CARD OF 'glossatorlaw06.RpcBack'. -/
def rpcBackCard : Claim7 := { stood := { row := rpcBackRow, standIns := [], harness := (true, "7213c514036a6e1bcae4a00bd64fbbed44d70053ebe7b144f39e51b347a45b8d"), looks := true }, kinds := [], alts := [], laidByText := true, laidKinds := [.data, .data, .data, .data, .sentinel, .sentinel, .pinned], laidTests := true, laidLooks := .later }
def RpcBackCardSaid : Prop := Claim7.holds Tryz.pinned (.plain (OpenSpec.ofChange rpcBackSpec)) rpcBackCard

/-- THE TIED CARD OF 'glossatorlaw06.RpcOne'. -/
def rpcOneCard : Claim7 := { stood := { row := rpcOneRow, standIns := [], harness := (true, "7213c514036a6e1bcae4a00bd64fbbed44d70053ebe7b144f39e51b347a45b8d"), looks := true }, kinds := [], alts := [], laidByText := true, laidKinds := [.data, .data, .data, .data, .sentinel, .sentinel, .pinned], laidTests := true, laidLooks := .later }
def RpcOneCardSaid : Prop := Claim7.holds Tryz.pinned (.plain (OpenSpec.ofChange rpcOneSpec)) rpcOneCard

/-- THE SECOND FORM's CARD OF 'glossatorlaw04.JsontextWrites'. -/
def jsontextWritesUptoCard : Claim7 := { stood := { row := jsontextWritesUptoRow, standIns := [], harness := (true, "7213c514036a6e1bcae4a00bd64fbbed44d70053ebe7b144f39e51b347a45b8d"), looks := true }, kinds := [], alts := [], laidByText := true, laidKinds := [.data, .data, .data, .data, .sentinel, .sentinel, .pinned], laidTests := true, laidLooks := .later }
def JsontextWritesUptoCardSaid : Prop := Claim7.holds Tryz.pinned (.plain (OpenSpec.upto jsontextWritesSpec)) jsontextWritesUptoCard

/-- THE SECOND FORM's CARD OF 'glossatorlaw04.JsontextBack'. -/
def jsontextBackUptoCard : Claim7 := { stood := { row := jsontextBackUptoRow, standIns := [], harness := (true, "7213c514036a6e1bcae4a00bd64fbbed44d70053ebe7b144f39e51b347a45b8d"), looks := true }, kinds := [], alts := [], laidByText := true, laidKinds := [.data, .data, .data, .data, .sentinel, .sentinel, .pinned], laidTests := true, laidLooks := .later }
def JsontextBackUptoCardSaid : Prop := Claim7.holds Tryz.pinned (.plain (OpenSpec.upto jsontextBackSpec)) jsontextBackUptoCard

/-- THE SECOND FORM's CARD OF 'glossatorlaw04.JsontextPlain'. -/
def jsontextPlainUptoCard : Claim7 := { stood := { row := jsontextPlainUptoRow, standIns := [], harness := (true, "7213c514036a6e1bcae4a00bd64fbbed44d70053ebe7b144f39e51b347a45b8d"), looks := true }, kinds := [], alts := [], laidByText := true, laidKinds := [.data, .data, .data, .data, .sentinel, .sentinel, .pinned], laidTests := true, laidLooks := .later }
def JsontextPlainUptoCardSaid : Prop := Claim7.holds Tryz.pinned (.plain (OpenSpec.upto jsontextPlainSpec)) jsontextPlainUptoCard

/-- THE SECOND FORM's CARD OF 'glossatorlaw06.RpcBack'. -/
def rpcBackUptoCard : Claim7 := { stood := { row := rpcBackUptoRow, standIns := [], harness := (true, "7213c514036a6e1bcae4a00bd64fbbed44d70053ebe7b144f39e51b347a45b8d"), looks := true }, kinds := [], alts := [], laidByText := true, laidKinds := [.data, .data, .data, .data, .sentinel, .sentinel, .pinned], laidTests := true, laidLooks := .later }
def RpcBackUptoCardSaid : Prop := Claim7.holds Tryz.pinned (.plain (OpenSpec.upto rpcBackSpec)) rpcBackUptoCard

/-- THE SECOND FORM's CARD OF 'glossatorlaw06.RpcOne'. -/
def rpcOneUptoCard : Claim7 := { stood := { row := rpcOneUptoRow, standIns := [], harness := (true, "7213c514036a6e1bcae4a00bd64fbbed44d70053ebe7b144f39e51b347a45b8d"), looks := true }, kinds := [], alts := [], laidByText := true, laidKinds := [.data, .data, .data, .data, .sentinel, .sentinel, .pinned], laidTests := true, laidLooks := .later }
def RpcOneUptoCardSaid : Prop := Claim7.holds Tryz.pinned (.plain (OpenSpec.upto rpcOneSpec)) rpcOneUptoCard
end Rows
end Go.Proofs.YtgcdfkoobbijeaaGreatDoor
