/-
  No cell of these rows narrows 'for every input' (looked for: loops, veiled, ifaces, maps, wideKeys, modest, calm, conditions, laid).
  DERIVED. THE GIVEN ROWS OF THIS SEAT. 4 by the template 'for every input the law returns true; each argument reads behind the call as it read before'; 0 by the template 'total and deterministic' (their statements: YtmccimbfkehllaaTotals.lean).
  GIVEN WITH THE SEED: the statements are not yours to turn. If you find one false, say at which input.
  Laid BY PROGRAM, IN A SANDBOX (cutbox-rows.mjs): the forced cells as the released guide's own fill.sh prints them over the translation b70cbd4b5c503d52… (all of the seat's roots in one cut). By AI agents, Wed Nov 11 2026. No macro, syntax, notation, axiom, sorry.
-/
import Derived.Test.YtmccimbfkehllaaChecked
import GoSem.Claim
import GoSem.ClaimJoined
import GoSem.ClaimMapViews
import Derived.JoinedTies
import Derived.KernelRfl
namespace Go.Proofs.Ytmccimbfkehllaa
/- THE CELL 'sum', in the pinned program and in every row, IS THE sha256 OF THE DUMP (.gsa) THAT YtmccimbfkehllaaProg.lean LOADS. Nothing in Lean hashes anything: it is a label: what it is worth is what the hold of that sum in a sandbox is worth. -/
noncomputable def Try.pinned : Pinned := { name := "ytmccimbfkehllaa", sum := "b70cbd4b5c503d52cb4b8191ccd5702c5b85fc3778b23b12261e97139c9ed4e8", checked := Try.checked }
namespace Rows
def none {H : Type} : Left H := { results := [], args := [] }

/-- 'replevinlaw28.RunTells': WHATEVER THE INPUT: true; the input reads as it did. -/
def runTellsSpec : ChangeSpec := { name := "runTells", fn := fun _ => fun
  | [d1, d2, d3] => { results := [.lit (.bool true)], args := [d1, d2, d3] }
  | _ => none }
def runTellsRow : OpenClaim := { program := "ytmccimbfkehllaa", sum := "b70cbd4b5c503d52cb4b8191ccd5702c5b85fc3778b23b12261e97139c9ed4e8", func := "replevin/replevinlaw28.RunTells", spec := "runTells", unfollowed := true, recurses := true, apart := false }
def RunTellsSaid : Prop := runTellsRow.holds Try.pinned (OpenSpec.ofChange runTellsSpec)

/-- ITS FALSE NEIGHBOUR: 'it returns false'. Refute it at one input. -/
def runTellsWrong : ChangeSpec := { name := "runTells", fn := fun _ => fun
  | [d1, d2, d3] => { results := [.lit (.bool false)], args := [d1, d2, d3] }
  | _ => none }
def RunTellsWrongFalsely : Prop := runTellsRow.holds Try.pinned (OpenSpec.ofChange runTellsWrong)

/-- 'replevinlaw28.RunFills': WHATEVER THE INPUT: true; the input reads as it did. -/
def runFillsSpec : ChangeSpec := { name := "runFills", fn := fun _ => fun
  | [d1, d2, d3] => { results := [.lit (.bool true)], args := [d1, d2, d3] }
  | _ => none }
def runFillsRow : OpenClaim := { program := "ytmccimbfkehllaa", sum := "b70cbd4b5c503d52cb4b8191ccd5702c5b85fc3778b23b12261e97139c9ed4e8", func := "replevin/replevinlaw28.RunFills", spec := "runFills", unfollowed := true, recurses := true, apart := false }
def RunFillsSaid : Prop := runFillsRow.holds Try.pinned (OpenSpec.ofChange runFillsSpec)

/-- ITS FALSE NEIGHBOUR: 'it returns false'. Refute it at one input. -/
def runFillsWrong : ChangeSpec := { name := "runFills", fn := fun _ => fun
  | [d1, d2, d3] => { results := [.lit (.bool false)], args := [d1, d2, d3] }
  | _ => none }
def RunFillsWrongFalsely : Prop := runFillsRow.holds Try.pinned (OpenSpec.ofChange runFillsWrong)

/-- 'replevinlaw28.RunSteps': WHATEVER THE INPUT: true; the input reads as it did. -/
def runStepsSpec : ChangeSpec := { name := "runSteps", fn := fun _ => fun
  | [d1, d2, d3] => { results := [.lit (.bool true)], args := [d1, d2, d3] }
  | _ => none }
def runStepsRow : OpenClaim := { program := "ytmccimbfkehllaa", sum := "b70cbd4b5c503d52cb4b8191ccd5702c5b85fc3778b23b12261e97139c9ed4e8", func := "replevin/replevinlaw28.RunSteps", spec := "runSteps", unfollowed := true, recurses := true, apart := false }
def RunStepsSaid : Prop := runStepsRow.holds Try.pinned (OpenSpec.ofChange runStepsSpec)

/-- ITS FALSE NEIGHBOUR: 'it returns false'. Refute it at one input. -/
def runStepsWrong : ChangeSpec := { name := "runSteps", fn := fun _ => fun
  | [d1, d2, d3] => { results := [.lit (.bool false)], args := [d1, d2, d3] }
  | _ => none }
def RunStepsWrongFalsely : Prop := runStepsRow.holds Try.pinned (OpenSpec.ofChange runStepsWrong)

/-- 'replevinlaw28.RunJoins': WHATEVER THE INPUT: true; the input reads as it did. -/
def runJoinsSpec : ChangeSpec := { name := "runJoins", fn := fun _ => fun
  | [d1, d2, d3] => { results := [.lit (.bool true)], args := [d1, d2, d3] }
  | _ => none }
def runJoinsRow : OpenClaim := { program := "ytmccimbfkehllaa", sum := "b70cbd4b5c503d52cb4b8191ccd5702c5b85fc3778b23b12261e97139c9ed4e8", func := "replevin/replevinlaw28.RunJoins", spec := "runJoins", unfollowed := true, recurses := true, apart := false }
def RunJoinsSaid : Prop := runJoinsRow.holds Try.pinned (OpenSpec.ofChange runJoinsSpec)

/-- ITS FALSE NEIGHBOUR: 'it returns false'. Refute it at one input. -/
def runJoinsWrong : ChangeSpec := { name := "runJoins", fn := fun _ => fun
  | [d1, d2, d3] => { results := [.lit (.bool false)], args := [d1, d2, d3] }
  | _ => none }
def RunJoinsWrongFalsely : Prop := runJoinsRow.holds Try.pinned (OpenSpec.ofChange runJoinsWrong)

/- THE SECOND FORM. 'bulk': how many values and letters a reading holds, each counted each time it is reached (what is shared counts as often as it is met; a slice's spare places count too). A statement '..UptoSaid' is the law's where the arguments, and the package variables that the reading takes, are together of bulk at most 1048576: NARROWER than '..Said'. Prove '..Said' where nothing that the law and all that it calls make is longer than what came in: it says more and counts as full. Else prove '..UptoSaid'. A law counts once. -/
mutual
def uptoBulk {H : Type} : DataW H → Nat
  | .lit (.string bytes) => bytes.length + 1
  | .lit _ => 1
  | .nil => 1
  | .ptr d => uptoBulk d + 1
  | .slice elems spare => uptoBulkAll elems + uptoBulkAll spare + 1
  | .agg parts => uptoBulkAll parts + 1
  | .iface _ d => uptoBulk d + 1
  | .map entries => uptoBulkEntries entries + 1
  | .held _ => 1
def uptoBulkAll {H : Type} : List (DataW H) → Nat
  | [] => 0
  | d :: r => uptoBulk d + uptoBulkAll r
def uptoBulkEntries {H : Type} : List (Lit × DataW H) → Nat
  | [] => 0
  | x :: r => uptoBulkEntry x + uptoBulkEntries r
def uptoBulkEntry {H : Type} : Lit × DataW H → Nat
  | (.string bytes, d) => bytes.length + uptoBulk d + 1
  | (_, d) => uptoBulk d + 1
 end
def uptoSmall : (H : Type) → List (DataW H) → Bool := fun _ ds => decide (uptoBulkAll ds ≤ 1048576)
def OpenSpec.upto (s : _root_.Go.ChangeSpec) : _root_.Go.OpenSpec := { _root_.Go.OpenSpec.ofChange s with cond := some uptoSmall }

/-- 'replevinlaw28.RunTells', WHERE WHAT IT READS IS OF BULK AT MOST 1048576: true; the input reads as it did. -/
def runTellsUptoRow : OpenClaim := { program := "ytmccimbfkehllaa", sum := "b70cbd4b5c503d52cb4b8191ccd5702c5b85fc3778b23b12261e97139c9ed4e8", func := "replevin/replevinlaw28.RunTells", spec := "runTells", unfollowed := true, recurses := true, apart := false, narrowed := true }
def RunTellsUptoSaid : Prop := runTellsUptoRow.holds Try.pinned (OpenSpec.upto runTellsSpec)

/-- 'replevinlaw28.RunFills', WHERE WHAT IT READS IS OF BULK AT MOST 1048576: true; the input reads as it did. -/
def runFillsUptoRow : OpenClaim := { program := "ytmccimbfkehllaa", sum := "b70cbd4b5c503d52cb4b8191ccd5702c5b85fc3778b23b12261e97139c9ed4e8", func := "replevin/replevinlaw28.RunFills", spec := "runFills", unfollowed := true, recurses := true, apart := false, narrowed := true }
def RunFillsUptoSaid : Prop := runFillsUptoRow.holds Try.pinned (OpenSpec.upto runFillsSpec)

/-- 'replevinlaw28.RunSteps', WHERE WHAT IT READS IS OF BULK AT MOST 1048576: true; the input reads as it did. -/
def runStepsUptoRow : OpenClaim := { program := "ytmccimbfkehllaa", sum := "b70cbd4b5c503d52cb4b8191ccd5702c5b85fc3778b23b12261e97139c9ed4e8", func := "replevin/replevinlaw28.RunSteps", spec := "runSteps", unfollowed := true, recurses := true, apart := false, narrowed := true }
def RunStepsUptoSaid : Prop := runStepsUptoRow.holds Try.pinned (OpenSpec.upto runStepsSpec)

/-- 'replevinlaw28.RunJoins', WHERE WHAT IT READS IS OF BULK AT MOST 1048576: true; the input reads as it did. -/
def runJoinsUptoRow : OpenClaim := { program := "ytmccimbfkehllaa", sum := "b70cbd4b5c503d52cb4b8191ccd5702c5b85fc3778b23b12261e97139c9ed4e8", func := "replevin/replevinlaw28.RunJoins", spec := "runJoins", unfollowed := true, recurses := true, apart := false, narrowed := true }
def RunJoinsUptoSaid : Prop := runJoinsUptoRow.holds Try.pinned (OpenSpec.upto runJoinsSpec)

end Rows
end Go.Proofs.Ytmccimbfkehllaa
