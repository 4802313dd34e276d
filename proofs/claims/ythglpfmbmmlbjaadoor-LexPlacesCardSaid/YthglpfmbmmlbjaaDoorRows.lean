/-
  NARROWER THAN 'FOR EVERY INPUT', by the rows' own cells (each row's printed sentence says how): LexPlaces: laid · LexWhole: laid · LexLooks: laid · LexRest: laid.
  DERIVED. THE GIVEN ROWS OF THIS SEAT. 4 by the template 'for every input the law returns true; each argument reads behind the call as it read before'; 0 by the template 'total and deterministic' (their statements: YthglpfmbmmlbjaaDoorTotals.lean).
  GIVEN WITH THE SEED: the statements are not yours to turn. If you find one false, say at which input.
  Laid BY PROGRAM, IN A SANDBOX (cutbox-rows.mjs): the forced cells as the released guide's own fill.sh prints them over the translation fae9059049833b62… (all of the seat's roots in one cut). By AI agents, Wed Nov 11 2026. No macro, syntax, notation, axiom, sorry.
-/
import Derived.Test.YthglpfmbmmlbjaaDoorChecked
import GoSem.Claim
import GoSem.ClaimJoined
import GoSem.ClaimMapViews
import Derived.JoinedTies
import Derived.KernelRfl
namespace Go.Proofs.YthglpfmbmmlbjaaDoor
/- THE CELL 'sum', in the pinned program and in every row, IS THE sha256 OF THE DUMP (.gsa) THAT YthglpfmbmmlbjaaDoorProg.lean LOADS. Nothing in Lean hashes anything: it is a label: what it is worth is what the hold of that sum in a sandbox is worth. -/
noncomputable def Tryd.pinned : Pinned := { name := "ythglpfmbmmlbjaadoor", sum := "fae9059049833b62839dce8456d7c55a8579636984046dc9f29ef3db7f7046a6", checked := Tryd.checked }
namespace Rows
def none {H : Type} : Left H := { results := [], args := [] }

/- WHAT THE LISTED PACKAGE-LEVEL VARIABLES READ AS WHEN THE CALL BEGINS. Each datum BY PROGRAM (the guide's laid-datum.mjs) off the statement by which the dump's own 'gosem.cut.vars' lays the variable. In a bare row this is a premise. The card (YthglpfmbmmlbjaaDoorCards.lean) ties it to the program's text. -/
def laid_glossator_lex_trivia {H : Type} : DataW H := .agg [.lit (.bool false), .lit (.bool true), .lit (.bool true), .lit (.bool true), .lit (.bool true), .lit (.bool true), .lit (.bool false), .lit (.bool false), .lit (.bool false), .lit (.bool true), .lit (.bool false), .lit (.bool false), .lit (.bool false), .lit (.bool false), .lit (.bool false), .lit (.bool false), .lit (.bool false), .lit (.bool false), .lit (.bool false), .lit (.bool false), .lit (.bool false), .lit (.bool false), .lit (.bool false), .lit (.bool false), .lit (.bool false), .lit (.bool false), .lit (.bool false), .lit (.bool false), .lit (.bool false), .lit (.bool false), .lit (.bool false), .lit (.bool false), .lit (.bool false), .lit (.bool false), .lit (.bool false), .lit (.bool false), .lit (.bool false), .lit (.bool false), .lit (.bool false), .lit (.bool false), .lit (.bool false)]

/-- 'glossatorlaw12.LexPlaces': WHATEVER THE INPUT: true; the input reads as it did. -/
def lexPlacesSpec : ChangeSpec := { name := "lexPlaces", fn := fun _ => fun
  | [d1, d2, d3, d4] => { results := [.lit (.bool true)], args := [d1, d2, d3, d4] }
  | _ => none }
def lexPlacesRow : OpenClaim := { program := "ythglpfmbmmlbjaadoor", sum := "fae9059049833b62839dce8456d7c55a8579636984046dc9f29ef3db7f7046a6", func := "glossator/glossatorlaw12.LexPlaces", spec := "lexPlaces", named := ["glossator/lex.trivia"], apart := false, laid := [("glossator/lex.trivia", laid_glossator_lex_trivia)] }
def LexPlacesSaid : Prop := lexPlacesRow.holds Tryd.pinned (OpenSpec.ofChange lexPlacesSpec)

/-- ITS FALSE NEIGHBOUR: 'it returns false'. Refute it at one input. -/
def lexPlacesWrong : ChangeSpec := { name := "lexPlaces", fn := fun _ => fun
  | [d1, d2, d3, d4] => { results := [.lit (.bool false)], args := [d1, d2, d3, d4] }
  | _ => none }
def LexPlacesWrongFalsely : Prop := lexPlacesRow.holds Tryd.pinned (OpenSpec.ofChange lexPlacesWrong)

/-- 'glossatorlaw12.LexWhole': WHATEVER THE INPUT: true; the input reads as it did. -/
def lexWholeSpec : ChangeSpec := { name := "lexWhole", fn := fun _ => fun
  | [d] => { results := [.lit (.bool true)], args := [d] }
  | _ => none }
def lexWholeRow : OpenClaim := { program := "ythglpfmbmmlbjaadoor", sum := "fae9059049833b62839dce8456d7c55a8579636984046dc9f29ef3db7f7046a6", func := "glossator/glossatorlaw12.LexWhole", spec := "lexWhole", inPlace := ["internal/bytealg.IndexByteString", "internal/bytealg.IndexString"], unfollowed := true, recurses := true, named := ["glossator/lex.trivia", "internal/bytealg.MaxLen"], apart := false, laid := [("glossator/lex.trivia", laid_glossator_lex_trivia)] }
def LexWholeSaid : Prop := lexWholeRow.holds Tryd.pinned (OpenSpec.ofChange lexWholeSpec)

/-- ITS FALSE NEIGHBOUR: 'it returns false'. Refute it at one input. -/
def lexWholeWrong : ChangeSpec := { name := "lexWhole", fn := fun _ => fun
  | [d] => { results := [.lit (.bool false)], args := [d] }
  | _ => none }
def LexWholeWrongFalsely : Prop := lexWholeRow.holds Tryd.pinned (OpenSpec.ofChange lexWholeWrong)

/-- 'glossatorlaw12.LexLooks': WHATEVER THE INPUT: true; the input reads as it did. -/
def lexLooksSpec : ChangeSpec := { name := "lexLooks", fn := fun _ => fun
  | [d1, d2, d3] => { results := [.lit (.bool true)], args := [d1, d2, d3] }
  | _ => none }
def lexLooksRow : OpenClaim := { program := "ythglpfmbmmlbjaadoor", sum := "fae9059049833b62839dce8456d7c55a8579636984046dc9f29ef3db7f7046a6", func := "glossator/glossatorlaw12.LexLooks", spec := "lexLooks", inPlace := ["internal/bytealg.IndexByteString", "internal/bytealg.IndexString"], unfollowed := true, recurses := true, named := ["glossator/lex.trivia", "internal/bytealg.MaxLen"], apart := false, laid := [("glossator/lex.trivia", laid_glossator_lex_trivia)] }
def LexLooksSaid : Prop := lexLooksRow.holds Tryd.pinned (OpenSpec.ofChange lexLooksSpec)

/-- ITS FALSE NEIGHBOUR: 'it returns false'. Refute it at one input. -/
def lexLooksWrong : ChangeSpec := { name := "lexLooks", fn := fun _ => fun
  | [d1, d2, d3] => { results := [.lit (.bool false)], args := [d1, d2, d3] }
  | _ => none }
def LexLooksWrongFalsely : Prop := lexLooksRow.holds Tryd.pinned (OpenSpec.ofChange lexLooksWrong)

/-- 'glossatorlaw12.LexRest': WHATEVER THE INPUT: true; the input reads as it did. -/
def lexRestSpec : ChangeSpec := { name := "lexRest", fn := fun _ => fun
  | [d1, d2] => { results := [.lit (.bool true)], args := [d1, d2] }
  | _ => none }
def lexRestRow : OpenClaim := { program := "ythglpfmbmmlbjaadoor", sum := "fae9059049833b62839dce8456d7c55a8579636984046dc9f29ef3db7f7046a6", func := "glossator/glossatorlaw12.LexRest", spec := "lexRest", inPlace := ["internal/bytealg.IndexByteString", "internal/bytealg.IndexString"], unfollowed := true, recurses := true, named := ["glossator/lex.trivia", "internal/bytealg.MaxLen"], apart := false, laid := [("glossator/lex.trivia", laid_glossator_lex_trivia)] }
def LexRestSaid : Prop := lexRestRow.holds Tryd.pinned (OpenSpec.ofChange lexRestSpec)

/-- ITS FALSE NEIGHBOUR: 'it returns false'. Refute it at one input. -/
def lexRestWrong : ChangeSpec := { name := "lexRest", fn := fun _ => fun
  | [d1, d2] => { results := [.lit (.bool false)], args := [d1, d2] }
  | _ => none }
def LexRestWrongFalsely : Prop := lexRestRow.holds Tryd.pinned (OpenSpec.ofChange lexRestWrong)

/- THE SECOND FORM. 'bulk': how many values and letters a reading holds, each counted each time it is reached (what is shared counts as often as it is met; a slice's spare places count too). A statement '..UptoSaid' is the law's where the arguments, and the package variables that the reading takes, are together of bulk at most 1048576: NARROWER than '..Said'. Prove '..Said' where nothing that the law and all that it calls make is longer than what came in: it says more and counts as full. Else prove '..UptoSaid'. A law counts once. -/
mutual
def uptoBulk {H : Type} : DataW H → Nat
  | .lit (.string bytes) => bytes.length + 1
  | .lit _ => 1
  | .nil => 1
  | .ptr d => uptoBulk d + 1
  | .slice elems spare => uptoBulkAll elems + uptoBulkAll spare + 1
  | .agg parts => uptoBulkAll parts + 1
  | .iface _ d => uptoBulk d + 1
  | .map entries => uptoBulkEntries entries + 1
  | .held _ => 1
def uptoBulkAll {H : Type} : List (DataW H) → Nat
  | [] => 0
  | d :: r => uptoBulk d + uptoBulkAll r
def uptoBulkEntries {H : Type} : List (Lit × DataW H) → Nat
  | [] => 0
  | x :: r => uptoBulkEntry x + uptoBulkEntries r
def uptoBulkEntry {H : Type} : Lit × DataW H → Nat
  | (.string bytes, d) => bytes.length + uptoBulk d + 1
  | (_, d) => uptoBulk d + 1
 end
def uptoSmall : (H : Type) → List (DataW H) → Bool := fun _ ds => decide (uptoBulkAll ds ≤ 1048576)
def OpenSpec.upto (s : _root_.Go.ChangeSpec) : _root_.Go.OpenSpec := { _root_.Go.OpenSpec.ofChange s with cond := some uptoSmall }

/-- 'glossatorlaw12.LexPlaces', WHERE WHAT IT READS IS OF BULK AT MOST 1048576: true; the input reads as it did. -/
def lexPlacesUptoRow : OpenClaim := { program := "ythglpfmbmmlbjaadoor", sum := "fae9059049833b62839dce8456d7c55a8579636984046dc9f29ef3db7f7046a6", func := "glossator/glossatorlaw12.LexPlaces", spec := "lexPlaces", named := ["glossator/lex.trivia"], apart := false, laid := [("glossator/lex.trivia", laid_glossator_lex_trivia)], narrowed := true }
def LexPlacesUptoSaid : Prop := lexPlacesUptoRow.holds Tryd.pinned (OpenSpec.upto lexPlacesSpec)

/-- 'glossatorlaw12.LexWhole', WHERE WHAT IT READS IS OF BULK AT MOST 1048576: true; the input reads as it did. -/
def lexWholeUptoRow : OpenClaim := { program := "ythglpfmbmmlbjaadoor", sum := "fae9059049833b62839dce8456d7c55a8579636984046dc9f29ef3db7f7046a6", func := "glossator/glossatorlaw12.LexWhole", spec := "lexWhole", inPlace := ["internal/bytealg.IndexByteString", "internal/bytealg.IndexString"], unfollowed := true, recurses := true, named := ["glossator/lex.trivia", "internal/bytealg.MaxLen"], apart := false, laid := [("glossator/lex.trivia", laid_glossator_lex_trivia)], narrowed := true }
def LexWholeUptoSaid : Prop := lexWholeUptoRow.holds Tryd.pinned (OpenSpec.upto lexWholeSpec)

/-- 'glossatorlaw12.LexLooks', WHERE WHAT IT READS IS OF BULK AT MOST 1048576: true; the input reads as it did. -/
def lexLooksUptoRow : OpenClaim := { program := "ythglpfmbmmlbjaadoor", sum := "fae9059049833b62839dce8456d7c55a8579636984046dc9f29ef3db7f7046a6", func := "glossator/glossatorlaw12.LexLooks", spec := "lexLooks", inPlace := ["internal/bytealg.IndexByteString", "internal/bytealg.IndexString"], unfollowed := true, recurses := true, named := ["glossator/lex.trivia", "internal/bytealg.MaxLen"], apart := false, laid := [("glossator/lex.trivia", laid_glossator_lex_trivia)], narrowed := true }
def LexLooksUptoSaid : Prop := lexLooksUptoRow.holds Tryd.pinned (OpenSpec.upto lexLooksSpec)

/-- 'glossatorlaw12.LexRest', WHERE WHAT IT READS IS OF BULK AT MOST 1048576: true; the input reads as it did. -/
def lexRestUptoRow : OpenClaim := { program := "ythglpfmbmmlbjaadoor", sum := "fae9059049833b62839dce8456d7c55a8579636984046dc9f29ef3db7f7046a6", func := "glossator/glossatorlaw12.LexRest", spec := "lexRest", inPlace := ["internal/bytealg.IndexByteString", "internal/bytealg.IndexString"], unfollowed := true, recurses := true, named := ["glossator/lex.trivia", "internal/bytealg.MaxLen"], apart := false, laid := [("glossator/lex.trivia", laid_glossator_lex_trivia)], narrowed := true }
def LexRestUptoSaid : Prop := lexRestUptoRow.holds Tryd.pinned (OpenSpec.upto lexRestSpec)

end Rows
end Go.Proofs.YthglpfmbmmlbjaaDoor
