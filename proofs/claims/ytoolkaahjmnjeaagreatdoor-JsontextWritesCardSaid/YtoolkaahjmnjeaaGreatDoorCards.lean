/-
  DERIVED. GIVEN WITH THE SEED: THE CARDS: each row of YtoolkaahjmnjeaaGreatDoorRows.lean that lists a variable, with what it lists TIED to the program's text (the seventh form; the later family's looks); each row that meets fmt, with fmt's text TOLD by the authors' own Lean function (tested against real Go, not proved from fmt's source: count such statements apart). THE CARD IS WHAT COUNTS. Prove the row's statement (the work); the ties are given (YtoolkaahjmnjeaaGreatDoorTie.lean); close each card by the builder's one call (the guide's Derived/Test/ToyasCard.lean, 'card_holds'). Laid BY PROGRAM, IN A SANDBOX (cutbox-door.mjs). By AI agents, Wed Nov 11 2026. No macro, syntax, notation, axiom, sorry.
-/
import Derived.Test.YtoolkaahjmnjeaaGreatDoorRows
import GoSem.ClaimSeven
namespace Go.Proofs.YtoolkaahjmnjeaaGreatDoor
namespace Rows

/-- THE TIED CARD OF 'glossatorlaw04.JsontextWrites'. -/
def jsontextWritesCard : Claim7 := { stood := { row := jsontextWritesRow, standIns := [], harness := (true, "d196fda092e80d2594ee693cd2b34ed93d434ec1fe2facfb4b0ce21bb803ca51"), looks := true }, kinds := [], alts := [], laidByText := true, laidKinds := [.data, .data, .data, .data, .sentinel, .sentinel, .pinned], laidTests := true, laidLooks := .later }
def JsontextWritesCardSaid : Prop := Claim7.holds Tryz.pinned (.plain (OpenSpec.ofChange jsontextWritesSpec)) jsontextWritesCard

/-- THE TIED CARD OF 'glossatorlaw07.ParamsTell'. -/
def paramsTellCard : Claim7 := { stood := { row := paramsTellRow, standIns := [], harness := (true, "d196fda092e80d2594ee693cd2b34ed93d434ec1fe2facfb4b0ce21bb803ca51"), looks := true }, kinds := [], alts := [], laidByText := true, laidKinds := [.data, .data, .data, .data, .sentinel, .sentinel, .pinned], laidTests := true, laidLooks := .later }
def ParamsTellCardSaid : Prop := Claim7.holds Tryz.pinned (.plain (OpenSpec.ofChange paramsTellSpec)) paramsTellCard

/-- THE TIED CARD OF 'glossatorlaw07.ParamsAsk'. -/
def paramsAskCard : Claim7 := { stood := { row := paramsAskRow, standIns := [], harness := (true, "d196fda092e80d2594ee693cd2b34ed93d434ec1fe2facfb4b0ce21bb803ca51"), looks := true }, kinds := [], alts := [], laidByText := true, laidKinds := [.data, .data, .data, .data, .sentinel, .sentinel, .pinned], laidTests := true, laidLooks := .later }
def ParamsAskCardSaid : Prop := Claim7.holds Tryz.pinned (.plain (OpenSpec.ofChange paramsAskSpec)) paramsAskCard

/-- THE TIED CARD OF 'glossatorlaw07.ParamsBack'. -/
def paramsBackCard : Claim7 := { stood := { row := paramsBackRow, standIns := [], harness := (true, "d196fda092e80d2594ee693cd2b34ed93d434ec1fe2facfb4b0ce21bb803ca51"), looks := true }, kinds := [], alts := [], laidByText := true, laidKinds := [.data, .data, .data, .data, .sentinel, .sentinel, .pinned], laidTests := true, laidLooks := .later }
def ParamsBackCardSaid : Prop := Claim7.holds Tryz.pinned (.plain (OpenSpec.ofChange paramsBackSpec)) paramsBackCard

/-- THE TIED CARD OF 'glossatorlaw07.ParamsMore'. -/
def paramsMoreCard : Claim7 := { stood := { row := paramsMoreRow, standIns := [], harness := (true, "d196fda092e80d2594ee693cd2b34ed93d434ec1fe2facfb4b0ce21bb803ca51"), looks := true }, kinds := [], alts := [], laidByText := true, laidKinds := [.data, .data, .data, .data, .sentinel, .sentinel, .pinned], laidTests := true, laidLooks := .later }
def ParamsMoreCardSaid : Prop := Claim7.holds Tryz.pinned (.plain (OpenSpec.ofChange paramsMoreSpec)) paramsMoreCard

/-- THE SECOND FORM's CARD OF 'glossatorlaw04.JsontextWrites'. -/
def jsontextWritesUptoCard : Claim7 := { stood := { row := jsontextWritesUptoRow, standIns := [], harness := (true, "d196fda092e80d2594ee693cd2b34ed93d434ec1fe2facfb4b0ce21bb803ca51"), looks := true }, kinds := [], alts := [], laidByText := true, laidKinds := [.data, .data, .data, .data, .sentinel, .sentinel, .pinned], laidTests := true, laidLooks := .later }
def JsontextWritesUptoCardSaid : Prop := Claim7.holds Tryz.pinned (.plain (OpenSpec.upto jsontextWritesSpec)) jsontextWritesUptoCard

/-- THE SECOND FORM's CARD OF 'glossatorlaw07.ParamsTell'. -/
def paramsTellUptoCard : Claim7 := { stood := { row := paramsTellUptoRow, standIns := [], harness := (true, "d196fda092e80d2594ee693cd2b34ed93d434ec1fe2facfb4b0ce21bb803ca51"), looks := true }, kinds := [], alts := [], laidByText := true, laidKinds := [.data, .data, .data, .data, .sentinel, .sentinel, .pinned], laidTests := true, laidLooks := .later }
def ParamsTellUptoCardSaid : Prop := Claim7.holds Tryz.pinned (.plain (OpenSpec.upto paramsTellSpec)) paramsTellUptoCard

/-- THE SECOND FORM's CARD OF 'glossatorlaw07.ParamsAsk'. -/
def paramsAskUptoCard : Claim7 := { stood := { row := paramsAskUptoRow, standIns := [], harness := (true, "d196fda092e80d2594ee693cd2b34ed93d434ec1fe2facfb4b0ce21bb803ca51"), looks := true }, kinds := [], alts := [], laidByText := true, laidKinds := [.data, .data, .data, .data, .sentinel, .sentinel, .pinned], laidTests := true, laidLooks := .later }
def ParamsAskUptoCardSaid : Prop := Claim7.holds Tryz.pinned (.plain (OpenSpec.upto paramsAskSpec)) paramsAskUptoCard

/-- THE SECOND FORM's CARD OF 'glossatorlaw07.ParamsBack'. -/
def paramsBackUptoCard : Claim7 := { stood := { row := paramsBackUptoRow, standIns := [], harness := (true, "d196fda092e80d2594ee693cd2b34ed93d434ec1fe2facfb4b0ce21bb803ca51"), looks := true }, kinds := [], alts := [], laidByText := true, laidKinds := [.data, .data, .data, .data, .sentinel, .sentinel, .pinned], laidTests := true, laidLooks := .later }
def ParamsBackUptoCardSaid : Prop := Claim7.holds Tryz.pinned (.plain (OpenSpec.upto paramsBackSpec)) paramsBackUptoCard

/-- THE SECOND FORM's CARD OF 'glossatorlaw07.ParamsMore'. -/
def paramsMoreUptoCard : Claim7 := { stood := { row := paramsMoreUptoRow, standIns := [], harness := (true, "d196fda092e80d2594ee693cd2b34ed93d434ec1fe2facfb4b0ce21bb803ca51"), looks := true }, kinds := [], alts := [], laidByText := true, laidKinds := [.data, .data, .data, .data, .sentinel, .sentinel, .pinned], laidTests := true, laidLooks := .later }
def ParamsMoreUptoCardSaid : Prop := Claim7.holds Tryz.pinned (.plain (OpenSpec.upto paramsMoreSpec)) paramsMoreUptoCard
end Rows
end Go.Proofs.YtoolkaahjmnjeaaGreatDoor
