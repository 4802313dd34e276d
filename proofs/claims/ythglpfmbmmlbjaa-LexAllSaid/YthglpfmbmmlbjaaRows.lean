/-
  No cell of these rows narrows 'for every input' (looked for: loops, veiled, ifaces, maps, wideKeys, modest, calm, conditions, laid).
  DERIVED. THE GIVEN ROWS OF THIS SEAT. 5 by the template 'for every input the law returns true; each argument reads behind the call as it read before'; 0 by the template 'total and deterministic' (their statements: YthglpfmbmmlbjaaTotals.lean).
  GIVEN WITH THE SEED: the statements are not yours to turn. If you find one false, say at which input.
  Laid BY PROGRAM, IN A SANDBOX (cutbox-rows.mjs): the forced cells as the released guide's own fill.sh prints them over the translation fb952888f0da13f4… (all of the seat's roots in one cut). By AI agents, Wed Nov 11 2026. No macro, syntax, notation, axiom, sorry.
-/
import Derived.Test.YthglpfmbmmlbjaaChecked
import GoSem.Claim
import GoSem.ClaimJoined
import GoSem.ClaimMapViews
import Derived.JoinedTies
import Derived.KernelRfl
namespace Go.Proofs.Ythglpfmbmmlbjaa
/- THE CELL 'sum', in the pinned program and in every row, IS THE sha256 OF THE DUMP (.gsa) THAT YthglpfmbmmlbjaaProg.lean LOADS. Nothing in Lean hashes anything: it is a label: what it is worth is what the hold of that sum in a sandbox is worth. -/
noncomputable def Try.pinned : Pinned := { name := "ythglpfmbmmlbjaa", sum := "fb952888f0da13f471dd4d011359147f0b056fd547d15a32b8041eae9b637a66", checked := Try.checked }
namespace Rows
def none {H : Type} : Left H := { results := [], args := [] }

/-- 'glossatorlaw11.DfaScans': WHATEVER THE INPUT: true; the input reads as it did. -/
def dfaScansSpec : ChangeSpec := { name := "dfaScans", fn := fun _ => fun
  | [d1, d2] => { results := [.lit (.bool true)], args := [d1, d2] }
  | _ => none }
def dfaScansRow : OpenClaim := { program := "ythglpfmbmmlbjaa", sum := "fb952888f0da13f471dd4d011359147f0b056fd547d15a32b8041eae9b637a66", func := "glossator/glossatorlaw11.DfaScans", spec := "dfaScans", inPlace := ["internal/bytealg.IndexByteString", "internal/bytealg.IndexString"], named := ["internal/bytealg.MaxLen"], apart := false }
def DfaScansSaid : Prop := dfaScansRow.holds Try.pinned (OpenSpec.ofChange dfaScansSpec)

/-- ITS FALSE NEIGHBOUR: 'it returns false'. Refute it at one input. -/
def dfaScansWrong : ChangeSpec := { name := "dfaScans", fn := fun _ => fun
  | [d1, d2] => { results := [.lit (.bool false)], args := [d1, d2] }
  | _ => none }
def DfaScansWrongFalsely : Prop := dfaScansRow.holds Try.pinned (OpenSpec.ofChange dfaScansWrong)

/-- 'glossatorlaw11.DfaLongest': WHATEVER THE INPUT: true; the input reads as it did. -/
def dfaLongestSpec : ChangeSpec := { name := "dfaLongest", fn := fun _ => fun
  | [d1, d2] => { results := [.lit (.bool true)], args := [d1, d2] }
  | _ => none }
def dfaLongestRow : OpenClaim := { program := "ythglpfmbmmlbjaa", sum := "fb952888f0da13f471dd4d011359147f0b056fd547d15a32b8041eae9b637a66", func := "glossator/glossatorlaw11.DfaLongest", spec := "dfaLongest", inPlace := ["internal/bytealg.IndexByteString", "internal/bytealg.IndexString"], named := ["internal/bytealg.MaxLen"], apart := false }
def DfaLongestSaid : Prop := dfaLongestRow.holds Try.pinned (OpenSpec.ofChange dfaLongestSpec)

/-- ITS FALSE NEIGHBOUR: 'it returns false'. Refute it at one input. -/
def dfaLongestWrong : ChangeSpec := { name := "dfaLongest", fn := fun _ => fun
  | [d1, d2] => { results := [.lit (.bool false)], args := [d1, d2] }
  | _ => none }
def DfaLongestWrongFalsely : Prop := dfaLongestRow.holds Try.pinned (OpenSpec.ofChange dfaLongestWrong)

/-- 'glossatorlaw11.DfaLooks': WHATEVER THE INPUT: true; the input reads as it did. -/
def dfaLooksSpec : ChangeSpec := { name := "dfaLooks", fn := fun _ => fun
  | [d1, d2, d3] => { results := [.lit (.bool true)], args := [d1, d2, d3] }
  | _ => none }
def dfaLooksRow : OpenClaim := { program := "ythglpfmbmmlbjaa", sum := "fb952888f0da13f471dd4d011359147f0b056fd547d15a32b8041eae9b637a66", func := "glossator/glossatorlaw11.DfaLooks", spec := "dfaLooks", inPlace := ["internal/bytealg.IndexByteString", "internal/bytealg.IndexString"], named := ["internal/bytealg.MaxLen"], apart := false }
def DfaLooksSaid : Prop := dfaLooksRow.holds Try.pinned (OpenSpec.ofChange dfaLooksSpec)

/-- ITS FALSE NEIGHBOUR: 'it returns false'. Refute it at one input. -/
def dfaLooksWrong : ChangeSpec := { name := "dfaLooks", fn := fun _ => fun
  | [d1, d2, d3] => { results := [.lit (.bool false)], args := [d1, d2, d3] }
  | _ => none }
def DfaLooksWrongFalsely : Prop := dfaLooksRow.holds Try.pinned (OpenSpec.ofChange dfaLooksWrong)

/-- 'glossatorlaw11.DfaAll': WHATEVER THE INPUT: true; the input reads as it did. -/
def dfaAllSpec : ChangeSpec := { name := "dfaAll", fn := fun _ => fun
  | [d] => { results := [.lit (.bool true)], args := [d] }
  | _ => none }
def dfaAllRow : OpenClaim := { program := "ythglpfmbmmlbjaa", sum := "fb952888f0da13f471dd4d011359147f0b056fd547d15a32b8041eae9b637a66", func := "glossator/glossatorlaw11.DfaAll", spec := "dfaAll", inPlace := ["internal/bytealg.IndexByteString", "internal/bytealg.IndexString"], named := ["internal/bytealg.MaxLen"], apart := false }
def DfaAllSaid : Prop := dfaAllRow.holds Try.pinned (OpenSpec.ofChange dfaAllSpec)

/-- ITS FALSE NEIGHBOUR: 'it returns false'. Refute it at one input. -/
def dfaAllWrong : ChangeSpec := { name := "dfaAll", fn := fun _ => fun
  | [d] => { results := [.lit (.bool false)], args := [d] }
  | _ => none }
def DfaAllWrongFalsely : Prop := dfaAllRow.holds Try.pinned (OpenSpec.ofChange dfaAllWrong)

/-- 'glossatorlaw12.LexAll': WHATEVER THE INPUT: true; the input reads as it did. -/
def lexAllSpec : ChangeSpec := { name := "lexAll", fn := fun _ => fun
  | [d1, d2] => { results := [.lit (.bool true)], args := [d1, d2] }
  | _ => none }
def lexAllRow : OpenClaim := { program := "ythglpfmbmmlbjaa", sum := "fb952888f0da13f471dd4d011359147f0b056fd547d15a32b8041eae9b637a66", func := "glossator/glossatorlaw12.LexAll", spec := "lexAll", inPlace := ["internal/bytealg.IndexByteString", "internal/bytealg.IndexString"], unfollowed := true, recurses := true, named := ["internal/bytealg.MaxLen"], apart := false }
def LexAllSaid : Prop := lexAllRow.holds Try.pinned (OpenSpec.ofChange lexAllSpec)

/-- ITS FALSE NEIGHBOUR: 'it returns false'. Refute it at one input. -/
def lexAllWrong : ChangeSpec := { name := "lexAll", fn := fun _ => fun
  | [d1, d2] => { results := [.lit (.bool false)], args := [d1, d2] }
  | _ => none }
def LexAllWrongFalsely : Prop := lexAllRow.holds Try.pinned (OpenSpec.ofChange lexAllWrong)

/- THE SECOND FORM. 'bulk': how many values and letters a reading holds, each counted each time it is reached (what is shared counts as often as it is met; a slice's spare places count too). A statement '..UptoSaid' is the law's where the arguments, and the package variables that the reading takes, are together of bulk at most 1048576: NARROWER than '..Said'. Prove '..Said' where nothing that the law and all that it calls make is longer than what came in: it says more and counts as full. Else prove '..UptoSaid'. A law counts once. -/
mutual
def uptoBulk {H : Type} : DataW H → Nat
  | .lit (.string bytes) => bytes.length + 1
  | .lit _ => 1
  | .nil => 1
  | .ptr d => uptoBulk d + 1
  | .slice elems spare => uptoBulkAll elems + uptoBulkAll spare + 1
  | .agg parts => uptoBulkAll parts + 1
  | .iface _ d => uptoBulk d + 1
  | .map entries => uptoBulkEntries entries + 1
  | .held _ => 1
def uptoBulkAll {H : Type} : List (DataW H) → Nat
  | [] => 0
  | d :: r => uptoBulk d + uptoBulkAll r
def uptoBulkEntries {H : Type} : List (Lit × DataW H) → Nat
  | [] => 0
  | x :: r => uptoBulkEntry x + uptoBulkEntries r
def uptoBulkEntry {H : Type} : Lit × DataW H → Nat
  | (.string bytes, d) => bytes.length + uptoBulk d + 1
  | (_, d) => uptoBulk d + 1
 end
def uptoSmall : (H : Type) → List (DataW H) → Bool := fun _ ds => decide (uptoBulkAll ds ≤ 1048576)
def OpenSpec.upto (s : _root_.Go.ChangeSpec) : _root_.Go.OpenSpec := { _root_.Go.OpenSpec.ofChange s with cond := some uptoSmall }

/-- 'glossatorlaw11.DfaScans', WHERE WHAT IT READS IS OF BULK AT MOST 1048576: true; the input reads as it did. -/
def dfaScansUptoRow : OpenClaim := { program := "ythglpfmbmmlbjaa", sum := "fb952888f0da13f471dd4d011359147f0b056fd547d15a32b8041eae9b637a66", func := "glossator/glossatorlaw11.DfaScans", spec := "dfaScans", inPlace := ["internal/bytealg.IndexByteString", "internal/bytealg.IndexString"], named := ["internal/bytealg.MaxLen"], apart := false, narrowed := true }
def DfaScansUptoSaid : Prop := dfaScansUptoRow.holds Try.pinned (OpenSpec.upto dfaScansSpec)

/-- 'glossatorlaw11.DfaLongest', WHERE WHAT IT READS IS OF BULK AT MOST 1048576: true; the input reads as it did. -/
def dfaLongestUptoRow : OpenClaim := { program := "ythglpfmbmmlbjaa", sum := "fb952888f0da13f471dd4d011359147f0b056fd547d15a32b8041eae9b637a66", func := "glossator/glossatorlaw11.DfaLongest", spec := "dfaLongest", inPlace := ["internal/bytealg.IndexByteString", "internal/bytealg.IndexString"], named := ["internal/bytealg.MaxLen"], apart := false, narrowed := true }
def DfaLongestUptoSaid : Prop := dfaLongestUptoRow.holds Try.pinned (OpenSpec.upto dfaLongestSpec)

/-- 'glossatorlaw11.DfaLooks', WHERE WHAT IT READS IS OF BULK AT MOST 1048576: true; the input reads as it did. -/
def dfaLooksUptoRow : OpenClaim := { program := "ythglpfmbmmlbjaa", sum := "fb952888f0da13f471dd4d011359147f0b056fd547d15a32b8041eae9b637a66", func := "glossator/glossatorlaw11.DfaLooks", spec := "dfaLooks", inPlace := ["internal/bytealg.IndexByteString", "internal/bytealg.IndexString"], named := ["internal/bytealg.MaxLen"], apart := false, narrowed := true }
def DfaLooksUptoSaid : Prop := dfaLooksUptoRow.holds Try.pinned (OpenSpec.upto dfaLooksSpec)

/-- 'glossatorlaw11.DfaAll', WHERE WHAT IT READS IS OF BULK AT MOST 1048576: true; the input reads as it did. -/
def dfaAllUptoRow : OpenClaim := { program := "ythglpfmbmmlbjaa", sum := "fb952888f0da13f471dd4d011359147f0b056fd547d15a32b8041eae9b637a66", func := "glossator/glossatorlaw11.DfaAll", spec := "dfaAll", inPlace := ["internal/bytealg.IndexByteString", "internal/bytealg.IndexString"], named := ["internal/bytealg.MaxLen"], apart := false, narrowed := true }
def DfaAllUptoSaid : Prop := dfaAllUptoRow.holds Try.pinned (OpenSpec.upto dfaAllSpec)

/-- 'glossatorlaw12.LexAll', WHERE WHAT IT READS IS OF BULK AT MOST 1048576: true; the input reads as it did. -/
def lexAllUptoRow : OpenClaim := { program := "ythglpfmbmmlbjaa", sum := "fb952888f0da13f471dd4d011359147f0b056fd547d15a32b8041eae9b637a66", func := "glossator/glossatorlaw12.LexAll", spec := "lexAll", inPlace := ["internal/bytealg.IndexByteString", "internal/bytealg.IndexString"], unfollowed := true, recurses := true, named := ["internal/bytealg.MaxLen"], apart := false, narrowed := true }
def LexAllUptoSaid : Prop := lexAllUptoRow.holds Try.pinned (OpenSpec.upto lexAllSpec)

end Rows
end Go.Proofs.Ythglpfmbmmlbjaa
