/-
  No cell of these rows narrows 'for every input' (looked for: loops, veiled, ifaces, maps, wideKeys, modest, calm, conditions, laid).
  DERIVED. THE GIVEN ROWS OF THIS SEAT. 4 by the template 'for every input the law returns true; each argument reads behind the call as it read before'; 0 by the template 'total and deterministic' (their statements: YtglanajglhneeaaTotals.lean).
  GIVEN WITH THE SEED: the statements are not yours to turn. If you find one false, say at which input.
  Laid BY PROGRAM, IN A SANDBOX (cutbox-rows.mjs): the forced cells as the released guide's own fill.sh prints them over the translation bd01f25ef02f3629… (all of the seat's roots in one cut). By AI agents, Wed Nov 11 2026. No macro, syntax, notation, axiom, sorry.
-/
import Derived.Test.YtglanajglhneeaaChecked
import GoSem.Claim
import GoSem.ClaimJoined
import GoSem.ClaimMapViews
import Derived.JoinedTies
import Derived.KernelRfl
namespace Go.Proofs.Ytglanajglhneeaa
/- THE CELL 'sum', in the pinned program and in every row, IS THE sha256 OF THE DUMP (.gsa) THAT YtglanajglhneeaaProg.lean LOADS. Nothing in Lean hashes anything: it is a label: what it is worth is what the hold of that sum in a sandbox is worth. -/
noncomputable def Try.pinned : Pinned := { name := "ytglanajglhneeaa", sum := "bd01f25ef02f362914e86332cc6d5997f69694b742fe7e3dd159cfdfaef727e7", checked := Try.checked }
namespace Rows
def none {H : Type} : Left H := { results := [], args := [] }

/-- 'glossatorlaw11.DfaLongest': WHATEVER THE INPUT: true; the input reads as it did. -/
def dfaLongestSpec : ChangeSpec := { name := "dfaLongest", fn := fun _ => fun
  | [d1, d2] => { results := [.lit (.bool true)], args := [d1, d2] }
  | _ => none }
def dfaLongestRow : OpenClaim := { program := "ytglanajglhneeaa", sum := "bd01f25ef02f362914e86332cc6d5997f69694b742fe7e3dd159cfdfaef727e7", func := "glossator/glossatorlaw11.DfaLongest", spec := "dfaLongest", inPlace := ["internal/bytealg.IndexByteString", "internal/bytealg.IndexString"], named := ["internal/bytealg.MaxLen"], apart := false }
def DfaLongestSaid : Prop := dfaLongestRow.holds Try.pinned (OpenSpec.ofChange dfaLongestSpec)

/-- ITS FALSE NEIGHBOUR: 'it returns false'. Refute it at one input. -/
def dfaLongestWrong : ChangeSpec := { name := "dfaLongest", fn := fun _ => fun
  | [d1, d2] => { results := [.lit (.bool false)], args := [d1, d2] }
  | _ => none }
def DfaLongestWrongFalsely : Prop := dfaLongestRow.holds Try.pinned (OpenSpec.ofChange dfaLongestWrong)

/-- 'glossatorlaw13.RelexUpdates': WHATEVER THE INPUT: true; the input reads as it did. -/
def relexUpdatesSpec : ChangeSpec := { name := "relexUpdates", fn := fun _ => fun
  | [d1, d2] => { results := [.lit (.bool true)], args := [d1, d2] }
  | _ => none }
def relexUpdatesRow : OpenClaim := { program := "ytglanajglhneeaa", sum := "bd01f25ef02f362914e86332cc6d5997f69694b742fe7e3dd159cfdfaef727e7", func := "glossator/glossatorlaw13.RelexUpdates", spec := "relexUpdates", inPlace := ["internal/bytealg.IndexByteString", "internal/bytealg.IndexString"], unfollowed := true, recurses := true, named := ["internal/bytealg.MaxLen"], apart := false }
def RelexUpdatesSaid : Prop := relexUpdatesRow.holds Try.pinned (OpenSpec.ofChange relexUpdatesSpec)

/-- ITS FALSE NEIGHBOUR: 'it returns false'. Refute it at one input. -/
def relexUpdatesWrong : ChangeSpec := { name := "relexUpdates", fn := fun _ => fun
  | [d1, d2] => { results := [.lit (.bool false)], args := [d1, d2] }
  | _ => none }
def RelexUpdatesWrongFalsely : Prop := relexUpdatesRow.holds Try.pinned (OpenSpec.ofChange relexUpdatesWrong)

/-- 'glossatorlaw13.RelexKeeps': WHATEVER THE INPUT: true; the input reads as it did. -/
def relexKeepsSpec : ChangeSpec := { name := "relexKeeps", fn := fun _ => fun
  | [d1, d2] => { results := [.lit (.bool true)], args := [d1, d2] }
  | _ => none }
def relexKeepsRow : OpenClaim := { program := "ytglanajglhneeaa", sum := "bd01f25ef02f362914e86332cc6d5997f69694b742fe7e3dd159cfdfaef727e7", func := "glossator/glossatorlaw13.RelexKeeps", spec := "relexKeeps", inPlace := ["internal/bytealg.IndexByteString", "internal/bytealg.IndexString"], unfollowed := true, recurses := true, named := ["internal/bytealg.MaxLen"], apart := false }
def RelexKeepsSaid : Prop := relexKeepsRow.holds Try.pinned (OpenSpec.ofChange relexKeepsSpec)

/-- ITS FALSE NEIGHBOUR: 'it returns false'. Refute it at one input. -/
def relexKeepsWrong : ChangeSpec := { name := "relexKeeps", fn := fun _ => fun
  | [d1, d2] => { results := [.lit (.bool false)], args := [d1, d2] }
  | _ => none }
def RelexKeepsWrongFalsely : Prop := relexKeepsRow.holds Try.pinned (OpenSpec.ofChange relexKeepsWrong)

/-- 'glossatorlaw13.RelexTwice': WHATEVER THE INPUT: true; the input reads as it did. -/
def relexTwiceSpec : ChangeSpec := { name := "relexTwice", fn := fun _ => fun
  | [d1, d2, d3] => { results := [.lit (.bool true)], args := [d1, d2, d3] }
  | _ => none }
def relexTwiceRow : OpenClaim := { program := "ytglanajglhneeaa", sum := "bd01f25ef02f362914e86332cc6d5997f69694b742fe7e3dd159cfdfaef727e7", func := "glossator/glossatorlaw13.RelexTwice", spec := "relexTwice", inPlace := ["internal/bytealg.IndexByteString", "internal/bytealg.IndexString"], unfollowed := true, recurses := true, named := ["internal/bytealg.MaxLen"], apart := false }
def RelexTwiceSaid : Prop := relexTwiceRow.holds Try.pinned (OpenSpec.ofChange relexTwiceSpec)

/-- ITS FALSE NEIGHBOUR: 'it returns false'. Refute it at one input. -/
def relexTwiceWrong : ChangeSpec := { name := "relexTwice", fn := fun _ => fun
  | [d1, d2, d3] => { results := [.lit (.bool false)], args := [d1, d2, d3] }
  | _ => none }
def RelexTwiceWrongFalsely : Prop := relexTwiceRow.holds Try.pinned (OpenSpec.ofChange relexTwiceWrong)

/- THE SECOND FORM. 'bulk': how many values and letters a reading holds, each counted each time it is reached (what is shared counts as often as it is met; a slice's spare places count too). A statement '..UptoSaid' is the law's where the arguments, and the package variables that the reading takes, are together of bulk at most 1048576: NARROWER than '..Said'. Prove '..Said' where nothing that the law and all that it calls make is longer than what came in: it says more and counts as full. Else prove '..UptoSaid'. A law counts once. -/
mutual
def uptoBulk {H : Type} : DataW H → Nat
  | .lit (.string bytes) => bytes.length + 1
  | .lit _ => 1
  | .nil => 1
  | .ptr d => uptoBulk d + 1
  | .slice elems spare => uptoBulkAll elems + uptoBulkAll spare + 1
  | .agg parts => uptoBulkAll parts + 1
  | .iface _ d => uptoBulk d + 1
  | .map entries => uptoBulkEntries entries + 1
  | .held _ => 1
def uptoBulkAll {H : Type} : List (DataW H) → Nat
  | [] => 0
  | d :: r => uptoBulk d + uptoBulkAll r
def uptoBulkEntries {H : Type} : List (Lit × DataW H) → Nat
  | [] => 0
  | x :: r => uptoBulkEntry x + uptoBulkEntries r
def uptoBulkEntry {H : Type} : Lit × DataW H → Nat
  | (.string bytes, d) => bytes.length + uptoBulk d + 1
  | (_, d) => uptoBulk d + 1
 end
def uptoSmall : (H : Type) → List (DataW H) → Bool := fun _ ds => decide (uptoBulkAll ds ≤ 1048576)
def OpenSpec.upto (s : _root_.Go.ChangeSpec) : _root_.Go.OpenSpec := { _root_.Go.OpenSpec.ofChange s with cond := some uptoSmall }

/-- 'glossatorlaw11.DfaLongest', WHERE WHAT IT READS IS OF BULK AT MOST 1048576: true; the input reads as it did. -/
def dfaLongestUptoRow : OpenClaim := { program := "ytglanajglhneeaa", sum := "bd01f25ef02f362914e86332cc6d5997f69694b742fe7e3dd159cfdfaef727e7", func := "glossator/glossatorlaw11.DfaLongest", spec := "dfaLongest", inPlace := ["internal/bytealg.IndexByteString", "internal/bytealg.IndexString"], named := ["internal/bytealg.MaxLen"], apart := false, narrowed := true }
def DfaLongestUptoSaid : Prop := dfaLongestUptoRow.holds Try.pinned (OpenSpec.upto dfaLongestSpec)

/-- 'glossatorlaw13.RelexUpdates', WHERE WHAT IT READS IS OF BULK AT MOST 1048576: true; the input reads as it did. -/
def relexUpdatesUptoRow : OpenClaim := { program := "ytglanajglhneeaa", sum := "bd01f25ef02f362914e86332cc6d5997f69694b742fe7e3dd159cfdfaef727e7", func := "glossator/glossatorlaw13.RelexUpdates", spec := "relexUpdates", inPlace := ["internal/bytealg.IndexByteString", "internal/bytealg.IndexString"], unfollowed := true, recurses := true, named := ["internal/bytealg.MaxLen"], apart := false, narrowed := true }
def RelexUpdatesUptoSaid : Prop := relexUpdatesUptoRow.holds Try.pinned (OpenSpec.upto relexUpdatesSpec)

/-- 'glossatorlaw13.RelexKeeps', WHERE WHAT IT READS IS OF BULK AT MOST 1048576: true; the input reads as it did. -/
def relexKeepsUptoRow : OpenClaim := { program := "ytglanajglhneeaa", sum := "bd01f25ef02f362914e86332cc6d5997f69694b742fe7e3dd159cfdfaef727e7", func := "glossator/glossatorlaw13.RelexKeeps", spec := "relexKeeps", inPlace := ["internal/bytealg.IndexByteString", "internal/bytealg.IndexString"], unfollowed := true, recurses := true, named := ["internal/bytealg.MaxLen"], apart := false, narrowed := true }
def RelexKeepsUptoSaid : Prop := relexKeepsUptoRow.holds Try.pinned (OpenSpec.upto relexKeepsSpec)

/-- 'glossatorlaw13.RelexTwice', WHERE WHAT IT READS IS OF BULK AT MOST 1048576: true; the input reads as it did. -/
def relexTwiceUptoRow : OpenClaim := { program := "ytglanajglhneeaa", sum := "bd01f25ef02f362914e86332cc6d5997f69694b742fe7e3dd159cfdfaef727e7", func := "glossator/glossatorlaw13.RelexTwice", spec := "relexTwice", inPlace := ["internal/bytealg.IndexByteString", "internal/bytealg.IndexString"], unfollowed := true, recurses := true, named := ["internal/bytealg.MaxLen"], apart := false, narrowed := true }
def RelexTwiceUptoSaid : Prop := relexTwiceUptoRow.holds Try.pinned (OpenSpec.upto relexTwiceSpec)

end Rows
end Go.Proofs.Ytglanajglhneeaa
