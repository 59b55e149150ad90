/-
  NARROWER THAN 'FOR EVERY INPUT', by the rows' own cells (each row's printed sentence says how): Names: laid · Frames: laid · Parses: laid · Back: laid · Turned: laid.
  DERIVED. THE GIVEN ROWS OF THIS SEAT. 5 by the template 'for every input the law returns true; each argument reads behind the call as it read before'; 0 by the template 'total and deterministic' (their statements: YtmmkbaaodebafaaDoorTotals.lean).
  GIVEN WITH THE SEED: the statements are not yours to turn. If you find one false, say at which input.
  Laid BY PROGRAM, IN A SANDBOX (cutbox-rows.mjs): the forced cells as the released guide's own fill.sh prints them over the translation b053863e4ab9759c… (all of the seat's roots in one cut). By AI agents, Wed Nov 11 2026. No macro, syntax, notation, axiom, sorry.
-/
import Derived.Test.YtmmkbaaodebafaaDoorChecked
import GoSem.Claim
import GoSem.ClaimJoined
import GoSem.ClaimMapViews
import Derived.JoinedTies
import Derived.KernelRfl
namespace Go.Proofs.YtmmkbaaodebafaaDoor
/- THE CELL 'sum', in the pinned program and in every row, IS THE sha256 OF THE DUMP (.gsa) THAT YtmmkbaaodebafaaDoorProg.lean LOADS. Nothing in Lean hashes anything: it is a label: what it is worth is what the hold of that sum in a sandbox is worth. -/
noncomputable def Tryd.pinned : Pinned := { name := "ytmmkbaaodebafaadoor", sum := "b053863e4ab9759c081797b9b2418e6fa9c06751eee7986cfd16375a75ee5015", checked := Tryd.checked }
namespace Rows
def none {H : Type} : Left H := { results := [], args := [] }

/- WHAT THE LISTED PACKAGE-LEVEL VARIABLES READ AS WHEN THE CALL BEGINS. Each datum BY PROGRAM (the guide's laid-datum.mjs) off the statement by which the dump's own 'gosem.cut.vars' lays the variable. In a bare row this is a premise. The card (YtmmkbaaodebafaaDoorCards.lean) ties it to the program's text. -/
def laid_journal_api_ErrStream {H : Type} : DataW H := .iface "*errors.errorString" (.ptr (.agg [.lit (.string [116, 104, 101, 114, 101, 32, 105, 115, 32, 110, 111, 32, 115, 116, 114, 101, 97, 109, 32, 111, 102, 32, 115, 117, 99, 104, 32, 97, 32, 110, 97, 109, 101])]))
def laid_journal_api_ErrBatch {H : Type} : DataW H := .iface "*errors.errorString" (.ptr (.agg [.lit (.string [110, 111, 32, 101, 118, 101, 110, 116, 115, 44, 32, 111, 114, 32, 116, 111, 111, 32, 109, 97, 110, 121])]))
def laid_journal_api_ErrData {H : Type} : DataW H := .iface "*errors.errorString" (.ptr (.agg [.lit (.string [97, 110, 32, 101, 118, 101, 110, 116, 32, 105, 115, 32, 116, 111, 111, 32, 108, 111, 110, 103])]))
def laid_journal_api_ErrClosed {H : Type} : DataW H := .iface "*errors.errorString" (.ptr (.agg [.lit (.string [116, 104, 101, 32, 115, 116, 111, 114, 101, 32, 105, 115, 32, 99, 108, 111, 115, 101, 100])]))
def laid_journal_api_ErrFailed {H : Type} : DataW H := .iface "*errors.errorString" (.ptr (.agg [.lit (.string [116, 104, 101, 32, 115, 116, 111, 114, 101, 32, 104, 97, 115, 32, 102, 97, 105, 108, 101, 100])]))
def laid_errors_errorType {H : Type} : DataW H := .iface "internal/reflectlite.rtype" (.agg [.ptr (.lit (.string [101, 114, 114, 111, 114]))])

/-- 'journallaw.Names': WHATEVER THE INPUT: true; the input reads as it did. -/
def namesSpec : ChangeSpec := { name := "names", fn := fun _ => fun
  | [] => { results := [.lit (.bool true)], args := [] }
  | _ => none }
def namesRow : OpenClaim := { program := "ytmmkbaaodebafaadoor", sum := "b053863e4ab9759c081797b9b2418e6fa9c06751eee7986cfd16375a75ee5015", func := "journal/journallaw.Names", spec := "names", inPlace := ["internal/reflectlite.TypeOf"], unfollowed := true, recurses := true, named := ["journal/api.ErrStream", "journal/api.ErrBatch", "journal/api.ErrData", "journal/api.ErrClosed", "journal/api.ErrFailed"], apart := false, laid := [("journal/api.ErrStream", laid_journal_api_ErrStream), ("journal/api.ErrBatch", laid_journal_api_ErrBatch), ("journal/api.ErrData", laid_journal_api_ErrData), ("journal/api.ErrClosed", laid_journal_api_ErrClosed), ("journal/api.ErrFailed", laid_journal_api_ErrFailed)] }
def NamesSaid : Prop := namesRow.holds Tryd.pinned (OpenSpec.ofChange namesSpec)

/-- ITS FALSE NEIGHBOUR: 'it returns false'. Refute it at one input. -/
def namesWrong : ChangeSpec := { name := "names", fn := fun _ => fun
  | [] => { results := [.lit (.bool false)], args := [] }
  | _ => none }
def NamesWrongFalsely : Prop := namesRow.holds Tryd.pinned (OpenSpec.ofChange namesWrong)

/-- 'journallaw.Frames': WHATEVER THE INPUT: true; the input reads as it did. -/
def framesSpec : ChangeSpec := { name := "frames", fn := fun _ => fun
  | [d1, d2, d3, d4] => { results := [.lit (.bool true)], args := [d1, d2, d3, d4] }
  | _ => none }
def framesRow : OpenClaim := { program := "ytmmkbaaodebafaadoor", sum := "b053863e4ab9759c081797b9b2418e6fa9c06751eee7986cfd16375a75ee5015", func := "journal/journallaw.Frames", spec := "frames", inPlace := ["internal/reflectlite.ValueOf", "(internal/reflectlite.Value).Type", "(internal/reflectlite.Value).IsNil", "internal/reflectlite.TypeOf", "(internal/reflectlite.Value).Elem", "(internal/reflectlite.Value).Set"], unfollowed := true, recurses := true, named := ["journal/api.ErrStream", "journal/api.ErrData", "journal/api.ErrBatch", "journal/api.ErrFailed", "journal/api.ErrClosed", "errors.errorType"], apart := false, laid := [("errors.errorType", laid_errors_errorType), ("journal/api.ErrStream", laid_journal_api_ErrStream), ("journal/api.ErrBatch", laid_journal_api_ErrBatch), ("journal/api.ErrData", laid_journal_api_ErrData), ("journal/api.ErrClosed", laid_journal_api_ErrClosed), ("journal/api.ErrFailed", laid_journal_api_ErrFailed)] }
def FramesSaid : Prop := framesRow.holds Tryd.pinned (OpenSpec.ofChange framesSpec)

/-- ITS FALSE NEIGHBOUR: 'it returns false'. Refute it at one input. -/
def framesWrong : ChangeSpec := { name := "frames", fn := fun _ => fun
  | [d1, d2, d3, d4] => { results := [.lit (.bool false)], args := [d1, d2, d3, d4] }
  | _ => none }
def FramesWrongFalsely : Prop := framesRow.holds Tryd.pinned (OpenSpec.ofChange framesWrong)

/-- 'journallaw.Parses': WHATEVER THE INPUT: true; the input reads as it did. -/
def parsesSpec : ChangeSpec := { name := "parses", fn := fun _ => fun
  | [d] => { results := [.lit (.bool true)], args := [d] }
  | _ => none }
def parsesRow : OpenClaim := { program := "ytmmkbaaodebafaadoor", sum := "b053863e4ab9759c081797b9b2418e6fa9c06751eee7986cfd16375a75ee5015", func := "journal/journallaw.Parses", spec := "parses", named := ["journal/api.ErrStream", "journal/api.ErrData", "journal/api.ErrBatch"], apart := false, laid := [("journal/api.ErrStream", laid_journal_api_ErrStream), ("journal/api.ErrBatch", laid_journal_api_ErrBatch), ("journal/api.ErrData", laid_journal_api_ErrData)] }
def ParsesSaid : Prop := parsesRow.holds Tryd.pinned (OpenSpec.ofChange parsesSpec)

/-- ITS FALSE NEIGHBOUR: 'it returns false'. Refute it at one input. -/
def parsesWrong : ChangeSpec := { name := "parses", fn := fun _ => fun
  | [d] => { results := [.lit (.bool false)], args := [d] }
  | _ => none }
def ParsesWrongFalsely : Prop := parsesRow.holds Tryd.pinned (OpenSpec.ofChange parsesWrong)

/-- 'journalkeep.Back': WHATEVER THE INPUT: true; the input reads as it did. -/
def backSpec : ChangeSpec := { name := "back", fn := fun _ => fun
  | [d1, d2, d3, d4, d5, d6] => { results := [.lit (.bool true)], args := [d1, d2, d3, d4, d5, d6] }
  | _ => none }
def backRow : OpenClaim := { program := "ytmmkbaaodebafaadoor", sum := "b053863e4ab9759c081797b9b2418e6fa9c06751eee7986cfd16375a75ee5015", func := "journal/journalkeep.Back", spec := "back", inPlace := ["internal/reflectlite.ValueOf", "(internal/reflectlite.Value).Type", "(internal/reflectlite.Value).IsNil", "internal/reflectlite.TypeOf", "(internal/reflectlite.Value).Elem", "(internal/reflectlite.Value).Set"], unfollowed := true, recurses := true, named := ["journal/api.ErrStream", "journal/api.ErrData", "journal/api.ErrBatch", "journal/api.ErrFailed", "journal/api.ErrClosed", "errors.errorType"], apart := false, laid := [("errors.errorType", laid_errors_errorType), ("journal/api.ErrStream", laid_journal_api_ErrStream), ("journal/api.ErrBatch", laid_journal_api_ErrBatch), ("journal/api.ErrData", laid_journal_api_ErrData), ("journal/api.ErrClosed", laid_journal_api_ErrClosed), ("journal/api.ErrFailed", laid_journal_api_ErrFailed)] }
def BackSaid : Prop := backRow.holds Tryd.pinned (OpenSpec.ofChange backSpec)

/-- ITS FALSE NEIGHBOUR: 'it returns false'. Refute it at one input. -/
def backWrong : ChangeSpec := { name := "back", fn := fun _ => fun
  | [d1, d2, d3, d4, d5, d6] => { results := [.lit (.bool false)], args := [d1, d2, d3, d4, d5, d6] }
  | _ => none }
def BackWrongFalsely : Prop := backRow.holds Tryd.pinned (OpenSpec.ofChange backWrong)

/-- 'journalkeep.Turned': WHATEVER THE INPUT: true; the input reads as it did. -/
def turnedSpec : ChangeSpec := { name := "turned", fn := fun _ => fun
  | [d1, d2, d3, d4, d5] => { results := [.lit (.bool true)], args := [d1, d2, d3, d4, d5] }
  | _ => none }
def turnedRow : OpenClaim := { program := "ytmmkbaaodebafaadoor", sum := "b053863e4ab9759c081797b9b2418e6fa9c06751eee7986cfd16375a75ee5015", func := "journal/journalkeep.Turned", spec := "turned", inPlace := ["internal/reflectlite.ValueOf", "(internal/reflectlite.Value).Type", "(internal/reflectlite.Value).IsNil", "internal/reflectlite.TypeOf", "(internal/reflectlite.Value).Elem", "(internal/reflectlite.Value).Set"], unfollowed := true, recurses := true, named := ["journal/api.ErrStream", "journal/api.ErrData", "journal/api.ErrBatch", "journal/api.ErrFailed", "journal/api.ErrClosed", "errors.errorType"], apart := false, laid := [("errors.errorType", laid_errors_errorType), ("journal/api.ErrStream", laid_journal_api_ErrStream), ("journal/api.ErrBatch", laid_journal_api_ErrBatch), ("journal/api.ErrData", laid_journal_api_ErrData), ("journal/api.ErrClosed", laid_journal_api_ErrClosed), ("journal/api.ErrFailed", laid_journal_api_ErrFailed)] }
def TurnedSaid : Prop := turnedRow.holds Tryd.pinned (OpenSpec.ofChange turnedSpec)

/-- ITS FALSE NEIGHBOUR: 'it returns false'. Refute it at one input. -/
def turnedWrong : ChangeSpec := { name := "turned", fn := fun _ => fun
  | [d1, d2, d3, d4, d5] => { results := [.lit (.bool false)], args := [d1, d2, d3, d4, d5] }
  | _ => none }
def TurnedWrongFalsely : Prop := turnedRow.holds Tryd.pinned (OpenSpec.ofChange turnedWrong)

/- THE SECOND FORM. 'bulk': how many values and letters a reading holds, each counted each time it is reached (what is shared counts as often as it is met; a slice's spare places count too). A statement '..UptoSaid' is the law's where the arguments, and the package variables that the reading takes, are together of bulk at most 1048576: NARROWER than '..Said'. Prove '..Said' where nothing that the law and all that it calls make is longer than what came in: it says more and counts as full. Else prove '..UptoSaid'. A law counts once. -/
mutual
def uptoBulk {H : Type} : DataW H → Nat
  | .lit (.string bytes) => bytes.length + 1
  | .lit _ => 1
  | .nil => 1
  | .ptr d => uptoBulk d + 1
  | .slice elems spare => uptoBulkAll elems + uptoBulkAll spare + 1
  | .agg parts => uptoBulkAll parts + 1
  | .iface _ d => uptoBulk d + 1
  | .map entries => uptoBulkEntries entries + 1
  | .held _ => 1
def uptoBulkAll {H : Type} : List (DataW H) → Nat
  | [] => 0
  | d :: r => uptoBulk d + uptoBulkAll r
def uptoBulkEntries {H : Type} : List (Lit × DataW H) → Nat
  | [] => 0
  | x :: r => uptoBulkEntry x + uptoBulkEntries r
def uptoBulkEntry {H : Type} : Lit × DataW H → Nat
  | (.string bytes, d) => bytes.length + uptoBulk d + 1
  | (_, d) => uptoBulk d + 1
 end
def uptoSmall : (H : Type) → List (DataW H) → Bool := fun _ ds => decide (uptoBulkAll ds ≤ 1048576)
def OpenSpec.upto (s : _root_.Go.ChangeSpec) : _root_.Go.OpenSpec := { _root_.Go.OpenSpec.ofChange s with cond := some uptoSmall }

/-- 'journallaw.Names', WHERE WHAT IT READS IS OF BULK AT MOST 1048576: true; the input reads as it did. -/
def namesUptoRow : OpenClaim := { program := "ytmmkbaaodebafaadoor", sum := "b053863e4ab9759c081797b9b2418e6fa9c06751eee7986cfd16375a75ee5015", func := "journal/journallaw.Names", spec := "names", inPlace := ["internal/reflectlite.TypeOf"], unfollowed := true, recurses := true, named := ["journal/api.ErrStream", "journal/api.ErrBatch", "journal/api.ErrData", "journal/api.ErrClosed", "journal/api.ErrFailed"], apart := false, laid := [("journal/api.ErrStream", laid_journal_api_ErrStream), ("journal/api.ErrBatch", laid_journal_api_ErrBatch), ("journal/api.ErrData", laid_journal_api_ErrData), ("journal/api.ErrClosed", laid_journal_api_ErrClosed), ("journal/api.ErrFailed", laid_journal_api_ErrFailed)], narrowed := true }
def NamesUptoSaid : Prop := namesUptoRow.holds Tryd.pinned (OpenSpec.upto namesSpec)

/-- 'journallaw.Frames', WHERE WHAT IT READS IS OF BULK AT MOST 1048576: true; the input reads as it did. -/
def framesUptoRow : OpenClaim := { program := "ytmmkbaaodebafaadoor", sum := "b053863e4ab9759c081797b9b2418e6fa9c06751eee7986cfd16375a75ee5015", func := "journal/journallaw.Frames", spec := "frames", inPlace := ["internal/reflectlite.ValueOf", "(internal/reflectlite.Value).Type", "(internal/reflectlite.Value).IsNil", "internal/reflectlite.TypeOf", "(internal/reflectlite.Value).Elem", "(internal/reflectlite.Value).Set"], unfollowed := true, recurses := true, named := ["journal/api.ErrStream", "journal/api.ErrData", "journal/api.ErrBatch", "journal/api.ErrFailed", "journal/api.ErrClosed", "errors.errorType"], apart := false, laid := [("errors.errorType", laid_errors_errorType), ("journal/api.ErrStream", laid_journal_api_ErrStream), ("journal/api.ErrBatch", laid_journal_api_ErrBatch), ("journal/api.ErrData", laid_journal_api_ErrData), ("journal/api.ErrClosed", laid_journal_api_ErrClosed), ("journal/api.ErrFailed", laid_journal_api_ErrFailed)], narrowed := true }
def FramesUptoSaid : Prop := framesUptoRow.holds Tryd.pinned (OpenSpec.upto framesSpec)

/-- 'journallaw.Parses', WHERE WHAT IT READS IS OF BULK AT MOST 1048576: true; the input reads as it did. -/
def parsesUptoRow : OpenClaim := { program := "ytmmkbaaodebafaadoor", sum := "b053863e4ab9759c081797b9b2418e6fa9c06751eee7986cfd16375a75ee5015", func := "journal/journallaw.Parses", spec := "parses", named := ["journal/api.ErrStream", "journal/api.ErrData", "journal/api.ErrBatch"], apart := false, laid := [("journal/api.ErrStream", laid_journal_api_ErrStream), ("journal/api.ErrBatch", laid_journal_api_ErrBatch), ("journal/api.ErrData", laid_journal_api_ErrData)], narrowed := true }
def ParsesUptoSaid : Prop := parsesUptoRow.holds Tryd.pinned (OpenSpec.upto parsesSpec)

/-- 'journalkeep.Back', WHERE WHAT IT READS IS OF BULK AT MOST 1048576: true; the input reads as it did. -/
def backUptoRow : OpenClaim := { program := "ytmmkbaaodebafaadoor", sum := "b053863e4ab9759c081797b9b2418e6fa9c06751eee7986cfd16375a75ee5015", func := "journal/journalkeep.Back", spec := "back", inPlace := ["internal/reflectlite.ValueOf", "(internal/reflectlite.Value).Type", "(internal/reflectlite.Value).IsNil", "internal/reflectlite.TypeOf", "(internal/reflectlite.Value).Elem", "(internal/reflectlite.Value).Set"], unfollowed := true, recurses := true, named := ["journal/api.ErrStream", "journal/api.ErrData", "journal/api.ErrBatch", "journal/api.ErrFailed", "journal/api.ErrClosed", "errors.errorType"], apart := false, laid := [("errors.errorType", laid_errors_errorType), ("journal/api.ErrStream", laid_journal_api_ErrStream), ("journal/api.ErrBatch", laid_journal_api_ErrBatch), ("journal/api.ErrData", laid_journal_api_ErrData), ("journal/api.ErrClosed", laid_journal_api_ErrClosed), ("journal/api.ErrFailed", laid_journal_api_ErrFailed)], narrowed := true }
def BackUptoSaid : Prop := backUptoRow.holds Tryd.pinned (OpenSpec.upto backSpec)

/-- 'journalkeep.Turned', WHERE WHAT IT READS IS OF BULK AT MOST 1048576: true; the input reads as it did. -/
def turnedUptoRow : OpenClaim := { program := "ytmmkbaaodebafaadoor", sum := "b053863e4ab9759c081797b9b2418e6fa9c06751eee7986cfd16375a75ee5015", func := "journal/journalkeep.Turned", spec := "turned", inPlace := ["internal/reflectlite.ValueOf", "(internal/reflectlite.Value).Type", "(internal/reflectlite.Value).IsNil", "internal/reflectlite.TypeOf", "(internal/reflectlite.Value).Elem", "(internal/reflectlite.Value).Set"], unfollowed := true, recurses := true, named := ["journal/api.ErrStream", "journal/api.ErrData", "journal/api.ErrBatch", "journal/api.ErrFailed", "journal/api.ErrClosed", "errors.errorType"], apart := false, laid := [("errors.errorType", laid_errors_errorType), ("journal/api.ErrStream", laid_journal_api_ErrStream), ("journal/api.ErrBatch", laid_journal_api_ErrBatch), ("journal/api.ErrData", laid_journal_api_ErrData), ("journal/api.ErrClosed", laid_journal_api_ErrClosed), ("journal/api.ErrFailed", laid_journal_api_ErrFailed)], narrowed := true }
def TurnedUptoSaid : Prop := turnedUptoRow.holds Tryd.pinned (OpenSpec.upto turnedSpec)

end Rows
end Go.Proofs.YtmmkbaaodebafaaDoor
