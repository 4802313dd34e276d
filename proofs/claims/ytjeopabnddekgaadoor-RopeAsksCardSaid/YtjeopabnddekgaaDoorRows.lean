/-
  NARROWER THAN 'FOR EVERY INPUT', by the rows' own cells (each row's printed sentence says how): RopePlays: laid · RopeAsks: laid · RopePlaces: laid · EditsDo: laid · EditsNil: laid · EditsOutside: laid · EditsParted: laid.
  DERIVED. THE GIVEN ROWS OF THIS SEAT. 7 by the template 'for every input the law returns true; each argument reads behind the call as it read before'; 0 by the template 'total and deterministic' (their statements: YtjeopabnddekgaaDoorTotals.lean).
  GIVEN WITH THE SEED: the statements are not yours to turn. If you find one false, say at which input.
  Laid BY PROGRAM, IN A SANDBOX (cutbox-rows.mjs): the forced cells as the released guide's own fill.sh prints them over the translation c6be0266ca1fc127… (all of the seat's roots in one cut). By AI agents, Wed Nov 11 2026. No macro, syntax, notation, axiom, sorry.
-/
import Derived.Test.YtjeopabnddekgaaDoorChecked
import GoSem.PinnedTables
import GoSem.Claim
import GoSem.ClaimJoined
import GoSem.ClaimMapViews
import Derived.JoinedTies
import Derived.KernelRfl
namespace Go.Proofs.YtjeopabnddekgaaDoor
/- THE CELL 'sum', in the pinned program and in every row, IS THE sha256 OF THE DUMP (.gsa) THAT YtjeopabnddekgaaDoorProg.lean LOADS. Nothing in Lean hashes anything: it is a label: what it is worth is what the hold of that sum in a sandbox is worth. -/
noncomputable def Tryd.pinned : Pinned := { name := "ytjeopabnddekgaadoor", sum := "c6be0266ca1fc12720f9585ed71e597e8550276b1ed1419aad0235112339b7fa", checked := Tryd.checked }
namespace Rows
def none {H : Type} : Left H := { results := [], args := [] }

/- WHAT THE LISTED PACKAGE-LEVEL VARIABLES READ AS WHEN THE CALL BEGINS. Each datum BY PROGRAM (the guide's laid-datum.mjs) off the statement by which the dump's own 'gosem.cut.vars' lays the variable. In a bare row this is a premise. The card (YtjeopabnddekgaaDoorCards.lean) ties it to the program's text. -/
def laid_unicode_utf8_acceptRanges {H : Type} : DataW H := .agg [.agg [.lit (.int .u8 128), .lit (.int .u8 191)], .agg [.lit (.int .u8 160), .lit (.int .u8 191)], .agg [.lit (.int .u8 128), .lit (.int .u8 159)], .agg [.lit (.int .u8 144), .lit (.int .u8 191)], .agg [.lit (.int .u8 128), .lit (.int .u8 143)], .agg [.lit (.int .u8 0), .lit (.int .u8 0)], .agg [.lit (.int .u8 0), .lit (.int .u8 0)], .agg [.lit (.int .u8 0), .lit (.int .u8 0)], .agg [.lit (.int .u8 0), .lit (.int .u8 0)], .agg [.lit (.int .u8 0), .lit (.int .u8 0)], .agg [.lit (.int .u8 0), .lit (.int .u8 0)], .agg [.lit (.int .u8 0), .lit (.int .u8 0)], .agg [.lit (.int .u8 0), .lit (.int .u8 0)], .agg [.lit (.int .u8 0), .lit (.int .u8 0)], .agg [.lit (.int .u8 0), .lit (.int .u8 0)], .agg [.lit (.int .u8 0), .lit (.int .u8 0)]]
/-- One of Go's own tables, pinned by name: the form's constant. -/
def laid_unicode_utf8_first : DataW Unit := Go.Pinned.utf8First

/-- 'glossatorlaw09.RopePlays': WHATEVER THE INPUT: true; the input reads as it did. -/
def ropePlaysSpec : ChangeSpec := { name := "ropePlays", fn := fun _ => fun
  | [d1, d2] => { results := [.lit (.bool true)], args := [d1, d2] }
  | _ => none }
def ropePlaysRow : OpenClaim := { program := "ytjeopabnddekgaadoor", sum := "c6be0266ca1fc12720f9585ed71e597e8550276b1ed1419aad0235112339b7fa", func := "glossator/glossatorlaw09.RopePlays", spec := "ropePlays", inPlace := ["internal/abi.NoEscape"], unfollowed := true, recurses := true, named := ["unicode/utf8.first", "unicode/utf8.acceptRanges"], apart := false, laid := [("unicode/utf8.acceptRanges", laid_unicode_utf8_acceptRanges), ("unicode/utf8.first", laid_unicode_utf8_first)] }
def RopePlaysSaid : Prop := ropePlaysRow.holds Tryd.pinned (OpenSpec.ofChange ropePlaysSpec)

/-- ITS FALSE NEIGHBOUR: 'it returns false'. Refute it at one input. -/
def ropePlaysWrong : ChangeSpec := { name := "ropePlays", fn := fun _ => fun
  | [d1, d2] => { results := [.lit (.bool false)], args := [d1, d2] }
  | _ => none }
def RopePlaysWrongFalsely : Prop := ropePlaysRow.holds Tryd.pinned (OpenSpec.ofChange ropePlaysWrong)

/-- 'glossatorlaw09.RopeAsks': WHATEVER THE INPUT: true; the input reads as it did. -/
def ropeAsksSpec : ChangeSpec := { name := "ropeAsks", fn := fun _ => fun
  | [d1, d2, d3, d4, d5] => { results := [.lit (.bool true)], args := [d1, d2, d3, d4, d5] }
  | _ => none }
def ropeAsksRow : OpenClaim := { program := "ytjeopabnddekgaadoor", sum := "c6be0266ca1fc12720f9585ed71e597e8550276b1ed1419aad0235112339b7fa", func := "glossator/glossatorlaw09.RopeAsks", spec := "ropeAsks", inPlace := ["internal/abi.NoEscape"], unfollowed := true, recurses := true, named := ["unicode/utf8.first", "unicode/utf8.acceptRanges"], apart := false, laid := [("unicode/utf8.acceptRanges", laid_unicode_utf8_acceptRanges), ("unicode/utf8.first", laid_unicode_utf8_first)] }
def RopeAsksSaid : Prop := ropeAsksRow.holds Tryd.pinned (OpenSpec.ofChange ropeAsksSpec)

/-- ITS FALSE NEIGHBOUR: 'it returns false'. Refute it at one input. -/
def ropeAsksWrong : ChangeSpec := { name := "ropeAsks", fn := fun _ => fun
  | [d1, d2, d3, d4, d5] => { results := [.lit (.bool false)], args := [d1, d2, d3, d4, d5] }
  | _ => none }
def RopeAsksWrongFalsely : Prop := ropeAsksRow.holds Tryd.pinned (OpenSpec.ofChange ropeAsksWrong)

/-- 'glossatorlaw09.RopePlaces': WHATEVER THE INPUT: true; the input reads as it did. -/
def ropePlacesSpec : ChangeSpec := { name := "ropePlaces", fn := fun _ => fun
  | [d1, d2, d3] => { results := [.lit (.bool true)], args := [d1, d2, d3] }
  | _ => none }
def ropePlacesRow : OpenClaim := { program := "ytjeopabnddekgaadoor", sum := "c6be0266ca1fc12720f9585ed71e597e8550276b1ed1419aad0235112339b7fa", func := "glossator/glossatorlaw09.RopePlaces", spec := "ropePlaces", inPlace := ["internal/abi.NoEscape"], unfollowed := true, recurses := true, named := ["unicode/utf8.first", "unicode/utf8.acceptRanges"], apart := false, laid := [("unicode/utf8.acceptRanges", laid_unicode_utf8_acceptRanges), ("unicode/utf8.first", laid_unicode_utf8_first)] }
def RopePlacesSaid : Prop := ropePlacesRow.holds Tryd.pinned (OpenSpec.ofChange ropePlacesSpec)

/-- ITS FALSE NEIGHBOUR: 'it returns false'. Refute it at one input. -/
def ropePlacesWrong : ChangeSpec := { name := "ropePlaces", fn := fun _ => fun
  | [d1, d2, d3] => { results := [.lit (.bool false)], args := [d1, d2, d3] }
  | _ => none }
def RopePlacesWrongFalsely : Prop := ropePlacesRow.holds Tryd.pinned (OpenSpec.ofChange ropePlacesWrong)

/-- 'glossatorlaw10.EditsDo': WHATEVER THE INPUT: true; the input reads as it did. -/
def editsDoSpec : ChangeSpec := { name := "editsDo", fn := fun _ => fun
  | [d1, d2] => { results := [.lit (.bool true)], args := [d1, d2] }
  | _ => none }
def editsDoRow : OpenClaim := { program := "ytjeopabnddekgaadoor", sum := "c6be0266ca1fc12720f9585ed71e597e8550276b1ed1419aad0235112339b7fa", func := "glossator/glossatorlaw10.EditsDo", spec := "editsDo", inPlace := ["internal/abi.NoEscape"], unfollowed := true, recurses := true, named := ["unicode/utf8.first", "unicode/utf8.acceptRanges"], apart := false, laid := [("unicode/utf8.acceptRanges", laid_unicode_utf8_acceptRanges), ("unicode/utf8.first", laid_unicode_utf8_first)] }
def EditsDoSaid : Prop := editsDoRow.holds Tryd.pinned (OpenSpec.ofChange editsDoSpec)

/-- ITS FALSE NEIGHBOUR: 'it returns false'. Refute it at one input. -/
def editsDoWrong : ChangeSpec := { name := "editsDo", fn := fun _ => fun
  | [d1, d2] => { results := [.lit (.bool false)], args := [d1, d2] }
  | _ => none }
def EditsDoWrongFalsely : Prop := editsDoRow.holds Tryd.pinned (OpenSpec.ofChange editsDoWrong)

/-- 'glossatorlaw10.EditsNil': WHATEVER THE INPUT: true; the input reads as it did. -/
def editsNilSpec : ChangeSpec := { name := "editsNil", fn := fun _ => fun
  | [d1, d2] => { results := [.lit (.bool true)], args := [d1, d2] }
  | _ => none }
def editsNilRow : OpenClaim := { program := "ytjeopabnddekgaadoor", sum := "c6be0266ca1fc12720f9585ed71e597e8550276b1ed1419aad0235112339b7fa", func := "glossator/glossatorlaw10.EditsNil", spec := "editsNil", inPlace := ["internal/abi.NoEscape"], unfollowed := true, recurses := true, named := ["unicode/utf8.first", "unicode/utf8.acceptRanges"], apart := false, laid := [("unicode/utf8.acceptRanges", laid_unicode_utf8_acceptRanges), ("unicode/utf8.first", laid_unicode_utf8_first)] }
def EditsNilSaid : Prop := editsNilRow.holds Tryd.pinned (OpenSpec.ofChange editsNilSpec)

/-- ITS FALSE NEIGHBOUR: 'it returns false'. Refute it at one input. -/
def editsNilWrong : ChangeSpec := { name := "editsNil", fn := fun _ => fun
  | [d1, d2] => { results := [.lit (.bool false)], args := [d1, d2] }
  | _ => none }
def EditsNilWrongFalsely : Prop := editsNilRow.holds Tryd.pinned (OpenSpec.ofChange editsNilWrong)

/-- 'glossatorlaw10.EditsOutside': WHATEVER THE INPUT: true; the input reads as it did. -/
def editsOutsideSpec : ChangeSpec := { name := "editsOutside", fn := fun _ => fun
  | [d1, d2] => { results := [.lit (.bool true)], args := [d1, d2] }
  | _ => none }
def editsOutsideRow : OpenClaim := { program := "ytjeopabnddekgaadoor", sum := "c6be0266ca1fc12720f9585ed71e597e8550276b1ed1419aad0235112339b7fa", func := "glossator/glossatorlaw10.EditsOutside", spec := "editsOutside", inPlace := ["internal/abi.NoEscape"], unfollowed := true, recurses := true, named := ["unicode/utf8.first", "unicode/utf8.acceptRanges"], apart := false, laid := [("unicode/utf8.acceptRanges", laid_unicode_utf8_acceptRanges), ("unicode/utf8.first", laid_unicode_utf8_first)] }
def EditsOutsideSaid : Prop := editsOutsideRow.holds Tryd.pinned (OpenSpec.ofChange editsOutsideSpec)

/-- ITS FALSE NEIGHBOUR: 'it returns false'. Refute it at one input. -/
def editsOutsideWrong : ChangeSpec := { name := "editsOutside", fn := fun _ => fun
  | [d1, d2] => { results := [.lit (.bool false)], args := [d1, d2] }
  | _ => none }
def EditsOutsideWrongFalsely : Prop := editsOutsideRow.holds Tryd.pinned (OpenSpec.ofChange editsOutsideWrong)

/-- 'glossatorlaw10.EditsParted': WHATEVER THE INPUT: true; the input reads as it did. -/
def editsPartedSpec : ChangeSpec := { name := "editsParted", fn := fun _ => fun
  | [d1, d2, d3] => { results := [.lit (.bool true)], args := [d1, d2, d3] }
  | _ => none }
def editsPartedRow : OpenClaim := { program := "ytjeopabnddekgaadoor", sum := "c6be0266ca1fc12720f9585ed71e597e8550276b1ed1419aad0235112339b7fa", func := "glossator/glossatorlaw10.EditsParted", spec := "editsParted", inPlace := ["internal/abi.NoEscape"], unfollowed := true, recurses := true, named := ["unicode/utf8.first", "unicode/utf8.acceptRanges"], apart := false, laid := [("unicode/utf8.acceptRanges", laid_unicode_utf8_acceptRanges), ("unicode/utf8.first", laid_unicode_utf8_first)] }
def EditsPartedSaid : Prop := editsPartedRow.holds Tryd.pinned (OpenSpec.ofChange editsPartedSpec)

/-- ITS FALSE NEIGHBOUR: 'it returns false'. Refute it at one input. -/
def editsPartedWrong : ChangeSpec := { name := "editsParted", fn := fun _ => fun
  | [d1, d2, d3] => { results := [.lit (.bool false)], args := [d1, d2, d3] }
  | _ => none }
def EditsPartedWrongFalsely : Prop := editsPartedRow.holds Tryd.pinned (OpenSpec.ofChange editsPartedWrong)

/- THE SECOND FORM. 'bulk': how many values and letters a reading holds, each counted each time it is reached (what is shared counts as often as it is met; a slice's spare places count too). A statement '..UptoSaid' is the law's where the arguments, and the package variables that the reading takes, are together of bulk at most 1048576: NARROWER than '..Said'. Prove '..Said' where nothing that the law and all that it calls make is longer than what came in: it says more and counts as full. Else prove '..UptoSaid'. A law counts once. -/
mutual
def uptoBulk {H : Type} : DataW H → Nat
  | .lit (.string bytes) => bytes.length + 1
  | .lit _ => 1
  | .nil => 1
  | .ptr d => uptoBulk d + 1
  | .slice elems spare => uptoBulkAll elems + uptoBulkAll spare + 1
  | .agg parts => uptoBulkAll parts + 1
  | .iface _ d => uptoBulk d + 1
  | .map entries => uptoBulkEntries entries + 1
  | .held _ => 1
def uptoBulkAll {H : Type} : List (DataW H) → Nat
  | [] => 0
  | d :: r => uptoBulk d + uptoBulkAll r
def uptoBulkEntries {H : Type} : List (Lit × DataW H) → Nat
  | [] => 0
  | x :: r => uptoBulkEntry x + uptoBulkEntries r
def uptoBulkEntry {H : Type} : Lit × DataW H → Nat
  | (.string bytes, d) => bytes.length + uptoBulk d + 1
  | (_, d) => uptoBulk d + 1
 end
def uptoSmall : (H : Type) → List (DataW H) → Bool := fun _ ds => decide (uptoBulkAll ds ≤ 1048576)
def OpenSpec.upto (s : _root_.Go.ChangeSpec) : _root_.Go.OpenSpec := { _root_.Go.OpenSpec.ofChange s with cond := some uptoSmall }

/-- 'glossatorlaw09.RopePlays', WHERE WHAT IT READS IS OF BULK AT MOST 1048576: true; the input reads as it did. -/
def ropePlaysUptoRow : OpenClaim := { program := "ytjeopabnddekgaadoor", sum := "c6be0266ca1fc12720f9585ed71e597e8550276b1ed1419aad0235112339b7fa", func := "glossator/glossatorlaw09.RopePlays", spec := "ropePlays", inPlace := ["internal/abi.NoEscape"], unfollowed := true, recurses := true, named := ["unicode/utf8.first", "unicode/utf8.acceptRanges"], apart := false, laid := [("unicode/utf8.acceptRanges", laid_unicode_utf8_acceptRanges), ("unicode/utf8.first", laid_unicode_utf8_first)], narrowed := true }
def RopePlaysUptoSaid : Prop := ropePlaysUptoRow.holds Tryd.pinned (OpenSpec.upto ropePlaysSpec)

/-- 'glossatorlaw09.RopeAsks', WHERE WHAT IT READS IS OF BULK AT MOST 1048576: true; the input reads as it did. -/
def ropeAsksUptoRow : OpenClaim := { program := "ytjeopabnddekgaadoor", sum := "c6be0266ca1fc12720f9585ed71e597e8550276b1ed1419aad0235112339b7fa", func := "glossator/glossatorlaw09.RopeAsks", spec := "ropeAsks", inPlace := ["internal/abi.NoEscape"], unfollowed := true, recurses := true, named := ["unicode/utf8.first", "unicode/utf8.acceptRanges"], apart := false, laid := [("unicode/utf8.acceptRanges", laid_unicode_utf8_acceptRanges), ("unicode/utf8.first", laid_unicode_utf8_first)], narrowed := true }
def RopeAsksUptoSaid : Prop := ropeAsksUptoRow.holds Tryd.pinned (OpenSpec.upto ropeAsksSpec)

/-- 'glossatorlaw09.RopePlaces', WHERE WHAT IT READS IS OF BULK AT MOST 1048576: true; the input reads as it did. -/
def ropePlacesUptoRow : OpenClaim := { program := "ytjeopabnddekgaadoor", sum := "c6be0266ca1fc12720f9585ed71e597e8550276b1ed1419aad0235112339b7fa", func := "glossator/glossatorlaw09.RopePlaces", spec := "ropePlaces", inPlace := ["internal/abi.NoEscape"], unfollowed := true, recurses := true, named := ["unicode/utf8.first", "unicode/utf8.acceptRanges"], apart := false, laid := [("unicode/utf8.acceptRanges", laid_unicode_utf8_acceptRanges), ("unicode/utf8.first", laid_unicode_utf8_first)], narrowed := true }
def RopePlacesUptoSaid : Prop := ropePlacesUptoRow.holds Tryd.pinned (OpenSpec.upto ropePlacesSpec)

/-- 'glossatorlaw10.EditsDo', WHERE WHAT IT READS IS OF BULK AT MOST 1048576: true; the input reads as it did. -/
def editsDoUptoRow : OpenClaim := { program := "ytjeopabnddekgaadoor", sum := "c6be0266ca1fc12720f9585ed71e597e8550276b1ed1419aad0235112339b7fa", func := "glossator/glossatorlaw10.EditsDo", spec := "editsDo", inPlace := ["internal/abi.NoEscape"], unfollowed := true, recurses := true, named := ["unicode/utf8.first", "unicode/utf8.acceptRanges"], apart := false, laid := [("unicode/utf8.acceptRanges", laid_unicode_utf8_acceptRanges), ("unicode/utf8.first", laid_unicode_utf8_first)], narrowed := true }
def EditsDoUptoSaid : Prop := editsDoUptoRow.holds Tryd.pinned (OpenSpec.upto editsDoSpec)

/-- 'glossatorlaw10.EditsNil', WHERE WHAT IT READS IS OF BULK AT MOST 1048576: true; the input reads as it did. -/
def editsNilUptoRow : OpenClaim := { program := "ytjeopabnddekgaadoor", sum := "c6be0266ca1fc12720f9585ed71e597e8550276b1ed1419aad0235112339b7fa", func := "glossator/glossatorlaw10.EditsNil", spec := "editsNil", inPlace := ["internal/abi.NoEscape"], unfollowed := true, recurses := true, named := ["unicode/utf8.first", "unicode/utf8.acceptRanges"], apart := false, laid := [("unicode/utf8.acceptRanges", laid_unicode_utf8_acceptRanges), ("unicode/utf8.first", laid_unicode_utf8_first)], narrowed := true }
def EditsNilUptoSaid : Prop := editsNilUptoRow.holds Tryd.pinned (OpenSpec.upto editsNilSpec)

/-- 'glossatorlaw10.EditsOutside', WHERE WHAT IT READS IS OF BULK AT MOST 1048576: true; the input reads as it did. -/
def editsOutsideUptoRow : OpenClaim := { program := "ytjeopabnddekgaadoor", sum := "c6be0266ca1fc12720f9585ed71e597e8550276b1ed1419aad0235112339b7fa", func := "glossator/glossatorlaw10.EditsOutside", spec := "editsOutside", inPlace := ["internal/abi.NoEscape"], unfollowed := true, recurses := true, named := ["unicode/utf8.first", "unicode/utf8.acceptRanges"], apart := false, laid := [("unicode/utf8.acceptRanges", laid_unicode_utf8_acceptRanges), ("unicode/utf8.first", laid_unicode_utf8_first)], narrowed := true }
def EditsOutsideUptoSaid : Prop := editsOutsideUptoRow.holds Tryd.pinned (OpenSpec.upto editsOutsideSpec)

/-- 'glossatorlaw10.EditsParted', WHERE WHAT IT READS IS OF BULK AT MOST 1048576: true; the input reads as it did. -/
def editsPartedUptoRow : OpenClaim := { program := "ytjeopabnddekgaadoor", sum := "c6be0266ca1fc12720f9585ed71e597e8550276b1ed1419aad0235112339b7fa", func := "glossator/glossatorlaw10.EditsParted", spec := "editsParted", inPlace := ["internal/abi.NoEscape"], unfollowed := true, recurses := true, named := ["unicode/utf8.first", "unicode/utf8.acceptRanges"], apart := false, laid := [("unicode/utf8.acceptRanges", laid_unicode_utf8_acceptRanges), ("unicode/utf8.first", laid_unicode_utf8_first)], narrowed := true }
def EditsPartedUptoSaid : Prop := editsPartedUptoRow.holds Tryd.pinned (OpenSpec.upto editsPartedSpec)

end Rows
end Go.Proofs.YtjeopabnddekgaaDoor
