/-
  No cell of these rows narrows 'for every input' (looked for: loops, veiled, ifaces, maps, wideKeys, modest, calm, conditions, laid).
  DERIVED. THE GIVEN ROWS OF THIS SEAT. 12 by the template 'for every input the law returns true; each argument reads behind the call as it read before'; 0 by the template 'total and deterministic' (their statements: YtclopikfnfkmgaaTotals.lean).
  GIVEN WITH THE SEED: the statements are not yours to turn. If you find one false, say at which input.
  Laid BY PROGRAM, IN A SANDBOX (cutbox-rows.mjs): the forced cells as the released guide's own fill.sh prints them over the translation 8f3efa1e8d4e9189… (all of the seat's roots in one cut). By AI agents, Wed Nov 11 2026. No macro, syntax, notation, axiom, sorry.
-/
import Derived.Test.YtclopikfnfkmgaaChecked
import GoSem.Claim
import GoSem.ClaimJoined
import GoSem.ClaimMapViews
import Derived.JoinedTies
import Derived.KernelRfl
namespace Go.Proofs.Ytclopikfnfkmgaa
/- THE CELL 'sum', in the pinned program and in every row, IS THE sha256 OF THE DUMP (.gsa) THAT YtclopikfnfkmgaaProg.lean LOADS. Nothing in Lean hashes anything: it is a label: what it is worth is what the hold of that sum in a sandbox is worth. -/
noncomputable def Try.pinned : Pinned := { name := "ytclopikfnfkmgaa", sum := "8f3efa1e8d4e91893f212455f93aa4d7b7063417f025b4921b4d4c687b7a56f4", checked := Try.checked }
namespace Rows
def none {H : Type} : Left H := { results := [], args := [] }

/-- 'replevinlaw23.ObjectTells': WHATEVER THE INPUT: true; the input reads as it did. -/
def objectTellsSpec : ChangeSpec := { name := "objectTells", fn := fun _ => fun
  | [d1, d2, d3] => { results := [.lit (.bool true)], args := [d1, d2, d3] }
  | _ => none }
def objectTellsRow : OpenClaim := { program := "ytclopikfnfkmgaa", sum := "8f3efa1e8d4e91893f212455f93aa4d7b7063417f025b4921b4d4c687b7a56f4", func := "replevin/replevinlaw23.ObjectTells", spec := "objectTells", unfollowed := true, recurses := true, plainKeys := false, apart := false }
def ObjectTellsSaid : Prop := objectTellsRow.holds Try.pinned (OpenSpec.ofChange objectTellsSpec)

/-- ITS FALSE NEIGHBOUR: 'it returns false'. Refute it at one input. -/
def objectTellsWrong : ChangeSpec := { name := "objectTells", fn := fun _ => fun
  | [d1, d2, d3] => { results := [.lit (.bool false)], args := [d1, d2, d3] }
  | _ => none }
def ObjectTellsWrongFalsely : Prop := objectTellsRow.holds Try.pinned (OpenSpec.ofChange objectTellsWrong)

/-- 'replevinlaw23.ObjectMoves': WHATEVER THE INPUT: true; the input reads as it did. -/
def objectMovesSpec : ChangeSpec := { name := "objectMoves", fn := fun _ => fun
  | [d1, d2] => { results := [.lit (.bool true)], args := [d1, d2] }
  | _ => none }
def objectMovesRow : OpenClaim := { program := "ytclopikfnfkmgaa", sum := "8f3efa1e8d4e91893f212455f93aa4d7b7063417f025b4921b4d4c687b7a56f4", func := "replevin/replevinlaw23.ObjectMoves", spec := "objectMoves", unfollowed := true, recurses := true, plainKeys := false, apart := false }
def ObjectMovesSaid : Prop := objectMovesRow.holds Try.pinned (OpenSpec.ofChange objectMovesSpec)

/-- ITS FALSE NEIGHBOUR: 'it returns false'. Refute it at one input. -/
def objectMovesWrong : ChangeSpec := { name := "objectMoves", fn := fun _ => fun
  | [d1, d2] => { results := [.lit (.bool false)], args := [d1, d2] }
  | _ => none }
def ObjectMovesWrongFalsely : Prop := objectMovesRow.holds Try.pinned (OpenSpec.ofChange objectMovesWrong)

/-- 'replevinlaw23.ObjectReach': WHATEVER THE INPUT: true; the input reads as it did. -/
def objectReachSpec : ChangeSpec := { name := "objectReach", fn := fun _ => fun
  | [d] => { results := [.lit (.bool true)], args := [d] }
  | _ => none }
def objectReachRow : OpenClaim := { program := "ytclopikfnfkmgaa", sum := "8f3efa1e8d4e91893f212455f93aa4d7b7063417f025b4921b4d4c687b7a56f4", func := "replevin/replevinlaw23.ObjectReach", spec := "objectReach", unfollowed := true, recurses := true, plainKeys := false, apart := false }
def ObjectReachSaid : Prop := objectReachRow.holds Try.pinned (OpenSpec.ofChange objectReachSpec)

/-- ITS FALSE NEIGHBOUR: 'it returns false'. Refute it at one input. -/
def objectReachWrong : ChangeSpec := { name := "objectReach", fn := fun _ => fun
  | [d] => { results := [.lit (.bool false)], args := [d] }
  | _ => none }
def ObjectReachWrongFalsely : Prop := objectReachRow.holds Try.pinned (OpenSpec.ofChange objectReachWrong)

/-- 'replevinlaw28.RunTells': WHATEVER THE INPUT: true; the input reads as it did. -/
def runTellsSpec : ChangeSpec := { name := "runTells", fn := fun _ => fun
  | [d1, d2, d3] => { results := [.lit (.bool true)], args := [d1, d2, d3] }
  | _ => none }
def runTellsRow : OpenClaim := { program := "ytclopikfnfkmgaa", sum := "8f3efa1e8d4e91893f212455f93aa4d7b7063417f025b4921b4d4c687b7a56f4", func := "replevin/replevinlaw28.RunTells", spec := "runTells", unfollowed := true, recurses := true, plainKeys := false, apart := false }
def RunTellsSaid : Prop := runTellsRow.holds Try.pinned (OpenSpec.ofChange runTellsSpec)

/-- ITS FALSE NEIGHBOUR: 'it returns false'. Refute it at one input. -/
def runTellsWrong : ChangeSpec := { name := "runTells", fn := fun _ => fun
  | [d1, d2, d3] => { results := [.lit (.bool false)], args := [d1, d2, d3] }
  | _ => none }
def RunTellsWrongFalsely : Prop := runTellsRow.holds Try.pinned (OpenSpec.ofChange runTellsWrong)

/-- 'replevinlaw28.RunFills': WHATEVER THE INPUT: true; the input reads as it did. -/
def runFillsSpec : ChangeSpec := { name := "runFills", fn := fun _ => fun
  | [d1, d2, d3] => { results := [.lit (.bool true)], args := [d1, d2, d3] }
  | _ => none }
def runFillsRow : OpenClaim := { program := "ytclopikfnfkmgaa", sum := "8f3efa1e8d4e91893f212455f93aa4d7b7063417f025b4921b4d4c687b7a56f4", func := "replevin/replevinlaw28.RunFills", spec := "runFills", unfollowed := true, recurses := true, plainKeys := false, apart := false }
def RunFillsSaid : Prop := runFillsRow.holds Try.pinned (OpenSpec.ofChange runFillsSpec)

/-- ITS FALSE NEIGHBOUR: 'it returns false'. Refute it at one input. -/
def runFillsWrong : ChangeSpec := { name := "runFills", fn := fun _ => fun
  | [d1, d2, d3] => { results := [.lit (.bool false)], args := [d1, d2, d3] }
  | _ => none }
def RunFillsWrongFalsely : Prop := runFillsRow.holds Try.pinned (OpenSpec.ofChange runFillsWrong)

/-- 'replevinlaw28.RunSteps': WHATEVER THE INPUT: true; the input reads as it did. -/
def runStepsSpec : ChangeSpec := { name := "runSteps", fn := fun _ => fun
  | [d1, d2, d3] => { results := [.lit (.bool true)], args := [d1, d2, d3] }
  | _ => none }
def runStepsRow : OpenClaim := { program := "ytclopikfnfkmgaa", sum := "8f3efa1e8d4e91893f212455f93aa4d7b7063417f025b4921b4d4c687b7a56f4", func := "replevin/replevinlaw28.RunSteps", spec := "runSteps", unfollowed := true, recurses := true, plainKeys := false, apart := false }
def RunStepsSaid : Prop := runStepsRow.holds Try.pinned (OpenSpec.ofChange runStepsSpec)

/-- ITS FALSE NEIGHBOUR: 'it returns false'. Refute it at one input. -/
def runStepsWrong : ChangeSpec := { name := "runSteps", fn := fun _ => fun
  | [d1, d2, d3] => { results := [.lit (.bool false)], args := [d1, d2, d3] }
  | _ => none }
def RunStepsWrongFalsely : Prop := runStepsRow.holds Try.pinned (OpenSpec.ofChange runStepsWrong)

/-- 'replevinlaw28.RunJoins': WHATEVER THE INPUT: true; the input reads as it did. -/
def runJoinsSpec : ChangeSpec := { name := "runJoins", fn := fun _ => fun
  | [d1, d2, d3] => { results := [.lit (.bool true)], args := [d1, d2, d3] }
  | _ => none }
def runJoinsRow : OpenClaim := { program := "ytclopikfnfkmgaa", sum := "8f3efa1e8d4e91893f212455f93aa4d7b7063417f025b4921b4d4c687b7a56f4", func := "replevin/replevinlaw28.RunJoins", spec := "runJoins", unfollowed := true, recurses := true, plainKeys := false, apart := false }
def RunJoinsSaid : Prop := runJoinsRow.holds Try.pinned (OpenSpec.ofChange runJoinsSpec)

/-- ITS FALSE NEIGHBOUR: 'it returns false'. Refute it at one input. -/
def runJoinsWrong : ChangeSpec := { name := "runJoins", fn := fun _ => fun
  | [d1, d2, d3] => { results := [.lit (.bool false)], args := [d1, d2, d3] }
  | _ => none }
def RunJoinsWrongFalsely : Prop := runJoinsRow.holds Try.pinned (OpenSpec.ofChange runJoinsWrong)

/-- 'replevinlaw29.WitnessOrder': WHATEVER THE INPUT: true; the input reads as it did. -/
def witnessOrderSpec : ChangeSpec := { name := "witnessOrder", fn := fun _ => fun
  | [d1, d2, d3] => { results := [.lit (.bool true)], args := [d1, d2, d3] }
  | _ => none }
def witnessOrderRow : OpenClaim := { program := "ytclopikfnfkmgaa", sum := "8f3efa1e8d4e91893f212455f93aa4d7b7063417f025b4921b4d4c687b7a56f4", func := "replevin/replevinlaw29.WitnessOrder", spec := "witnessOrder", unfollowed := true, recurses := true, plainKeys := false, apart := false }
def WitnessOrderSaid : Prop := witnessOrderRow.holds Try.pinned (OpenSpec.ofChange witnessOrderSpec)

/-- ITS FALSE NEIGHBOUR: 'it returns false'. Refute it at one input. -/
def witnessOrderWrong : ChangeSpec := { name := "witnessOrder", fn := fun _ => fun
  | [d1, d2, d3] => { results := [.lit (.bool false)], args := [d1, d2, d3] }
  | _ => none }
def WitnessOrderWrongFalsely : Prop := witnessOrderRow.holds Try.pinned (OpenSpec.ofChange witnessOrderWrong)

/-- 'replevinlaw29.WitnessDefines': WHATEVER THE INPUT: true; the input reads as it did. -/
def witnessDefinesSpec : ChangeSpec := { name := "witnessDefines", fn := fun _ => fun
  | [d1, d2, d3] => { results := [.lit (.bool true)], args := [d1, d2, d3] }
  | _ => none }
def witnessDefinesRow : OpenClaim := { program := "ytclopikfnfkmgaa", sum := "8f3efa1e8d4e91893f212455f93aa4d7b7063417f025b4921b4d4c687b7a56f4", func := "replevin/replevinlaw29.WitnessDefines", spec := "witnessDefines", unfollowed := true, recurses := true, plainKeys := false, apart := false }
def WitnessDefinesSaid : Prop := witnessDefinesRow.holds Try.pinned (OpenSpec.ofChange witnessDefinesSpec)

/-- ITS FALSE NEIGHBOUR: 'it returns false'. Refute it at one input. -/
def witnessDefinesWrong : ChangeSpec := { name := "witnessDefines", fn := fun _ => fun
  | [d1, d2, d3] => { results := [.lit (.bool false)], args := [d1, d2, d3] }
  | _ => none }
def WitnessDefinesWrongFalsely : Prop := witnessDefinesRow.holds Try.pinned (OpenSpec.ofChange witnessDefinesWrong)

/-- 'replevinlaw30.SearchTells': WHATEVER THE INPUT: true; the input reads as it did. -/
def searchTellsSpec : ChangeSpec := { name := "searchTells", fn := fun _ => fun
  | [d1, d2] => { results := [.lit (.bool true)], args := [d1, d2] }
  | _ => none }
def searchTellsRow : OpenClaim := { program := "ytclopikfnfkmgaa", sum := "8f3efa1e8d4e91893f212455f93aa4d7b7063417f025b4921b4d4c687b7a56f4", func := "replevin/replevinlaw30.SearchTells", spec := "searchTells", unfollowed := true, recurses := true, plainKeys := false, apart := false }
def SearchTellsSaid : Prop := searchTellsRow.holds Try.pinned (OpenSpec.ofChange searchTellsSpec)

/-- ITS FALSE NEIGHBOUR: 'it returns false'. Refute it at one input. -/
def searchTellsWrong : ChangeSpec := { name := "searchTells", fn := fun _ => fun
  | [d1, d2] => { results := [.lit (.bool false)], args := [d1, d2] }
  | _ => none }
def SearchTellsWrongFalsely : Prop := searchTellsRow.holds Try.pinned (OpenSpec.ofChange searchTellsWrong)

/-- 'replevinlaw30.SearchFinds': WHATEVER THE INPUT: true; the input reads as it did. -/
def searchFindsSpec : ChangeSpec := { name := "searchFinds", fn := fun _ => fun
  | [d1, d2, d3] => { results := [.lit (.bool true)], args := [d1, d2, d3] }
  | _ => none }
def searchFindsRow : OpenClaim := { program := "ytclopikfnfkmgaa", sum := "8f3efa1e8d4e91893f212455f93aa4d7b7063417f025b4921b4d4c687b7a56f4", func := "replevin/replevinlaw30.SearchFinds", spec := "searchFinds", unfollowed := true, recurses := true, plainKeys := false, apart := false }
def SearchFindsSaid : Prop := searchFindsRow.holds Try.pinned (OpenSpec.ofChange searchFindsSpec)

/-- ITS FALSE NEIGHBOUR: 'it returns false'. Refute it at one input. -/
def searchFindsWrong : ChangeSpec := { name := "searchFinds", fn := fun _ => fun
  | [d1, d2, d3] => { results := [.lit (.bool false)], args := [d1, d2, d3] }
  | _ => none }
def SearchFindsWrongFalsely : Prop := searchFindsRow.holds Try.pinned (OpenSpec.ofChange searchFindsWrong)

/-- 'replevinlaw30.SearchCounts': WHATEVER THE INPUT: true; the input reads as it did. -/
def searchCountsSpec : ChangeSpec := { name := "searchCounts", fn := fun _ => fun
  | [d1, d2, d3] => { results := [.lit (.bool true)], args := [d1, d2, d3] }
  | _ => none }
def searchCountsRow : OpenClaim := { program := "ytclopikfnfkmgaa", sum := "8f3efa1e8d4e91893f212455f93aa4d7b7063417f025b4921b4d4c687b7a56f4", func := "replevin/replevinlaw30.SearchCounts", spec := "searchCounts", unfollowed := true, recurses := true, plainKeys := false, apart := false }
def SearchCountsSaid : Prop := searchCountsRow.holds Try.pinned (OpenSpec.ofChange searchCountsSpec)

/-- ITS FALSE NEIGHBOUR: 'it returns false'. Refute it at one input. -/
def searchCountsWrong : ChangeSpec := { name := "searchCounts", fn := fun _ => fun
  | [d1, d2, d3] => { results := [.lit (.bool false)], args := [d1, d2, d3] }
  | _ => none }
def SearchCountsWrongFalsely : Prop := searchCountsRow.holds Try.pinned (OpenSpec.ofChange searchCountsWrong)

/- THE SECOND FORM. 'bulk': how many values and letters a reading holds, each counted each time it is reached (what is shared counts as often as it is met; a slice's spare places count too). A statement '..UptoSaid' is the law's where the arguments, and the package variables that the reading takes, are together of bulk at most 1048576: NARROWER than '..Said'. Prove '..Said' where nothing that the law and all that it calls make is longer than what came in: it says more and counts as full. Else prove '..UptoSaid'. A law counts once. -/
mutual
def uptoBulk {H : Type} : DataW H → Nat
  | .lit (.string bytes) => bytes.length + 1
  | .lit _ => 1
  | .nil => 1
  | .ptr d => uptoBulk d + 1
  | .slice elems spare => uptoBulkAll elems + uptoBulkAll spare + 1
  | .agg parts => uptoBulkAll parts + 1
  | .iface _ d => uptoBulk d + 1
  | .map entries => uptoBulkEntries entries + 1
  | .held _ => 1
def uptoBulkAll {H : Type} : List (DataW H) → Nat
  | [] => 0
  | d :: r => uptoBulk d + uptoBulkAll r
def uptoBulkEntries {H : Type} : List (Lit × DataW H) → Nat
  | [] => 0
  | x :: r => uptoBulkEntry x + uptoBulkEntries r
def uptoBulkEntry {H : Type} : Lit × DataW H → Nat
  | (.string bytes, d) => bytes.length + uptoBulk d + 1
  | (_, d) => uptoBulk d + 1
 end
def uptoSmall : (H : Type) → List (DataW H) → Bool := fun _ ds => decide (uptoBulkAll ds ≤ 1048576)
def OpenSpec.upto (s : _root_.Go.ChangeSpec) : _root_.Go.OpenSpec := { _root_.Go.OpenSpec.ofChange s with cond := some uptoSmall }

/-- 'replevinlaw23.ObjectTells', WHERE WHAT IT READS IS OF BULK AT MOST 1048576: true; the input reads as it did. -/
def objectTellsUptoRow : OpenClaim := { program := "ytclopikfnfkmgaa", sum := "8f3efa1e8d4e91893f212455f93aa4d7b7063417f025b4921b4d4c687b7a56f4", func := "replevin/replevinlaw23.ObjectTells", spec := "objectTells", unfollowed := true, recurses := true, plainKeys := false, apart := false, narrowed := true }
def ObjectTellsUptoSaid : Prop := objectTellsUptoRow.holds Try.pinned (OpenSpec.upto objectTellsSpec)

/-- 'replevinlaw23.ObjectMoves', WHERE WHAT IT READS IS OF BULK AT MOST 1048576: true; the input reads as it did. -/
def objectMovesUptoRow : OpenClaim := { program := "ytclopikfnfkmgaa", sum := "8f3efa1e8d4e91893f212455f93aa4d7b7063417f025b4921b4d4c687b7a56f4", func := "replevin/replevinlaw23.ObjectMoves", spec := "objectMoves", unfollowed := true, recurses := true, plainKeys := false, apart := false, narrowed := true }
def ObjectMovesUptoSaid : Prop := objectMovesUptoRow.holds Try.pinned (OpenSpec.upto objectMovesSpec)

/-- 'replevinlaw23.ObjectReach', WHERE WHAT IT READS IS OF BULK AT MOST 1048576: true; the input reads as it did. -/
def objectReachUptoRow : OpenClaim := { program := "ytclopikfnfkmgaa", sum := "8f3efa1e8d4e91893f212455f93aa4d7b7063417f025b4921b4d4c687b7a56f4", func := "replevin/replevinlaw23.ObjectReach", spec := "objectReach", unfollowed := true, recurses := true, plainKeys := false, apart := false, narrowed := true }
def ObjectReachUptoSaid : Prop := objectReachUptoRow.holds Try.pinned (OpenSpec.upto objectReachSpec)

/-- 'replevinlaw28.RunTells', WHERE WHAT IT READS IS OF BULK AT MOST 1048576: true; the input reads as it did. -/
def runTellsUptoRow : OpenClaim := { program := "ytclopikfnfkmgaa", sum := "8f3efa1e8d4e91893f212455f93aa4d7b7063417f025b4921b4d4c687b7a56f4", func := "replevin/replevinlaw28.RunTells", spec := "runTells", unfollowed := true, recurses := true, plainKeys := false, apart := false, narrowed := true }
def RunTellsUptoSaid : Prop := runTellsUptoRow.holds Try.pinned (OpenSpec.upto runTellsSpec)

/-- 'replevinlaw28.RunFills', WHERE WHAT IT READS IS OF BULK AT MOST 1048576: true; the input reads as it did. -/
def runFillsUptoRow : OpenClaim := { program := "ytclopikfnfkmgaa", sum := "8f3efa1e8d4e91893f212455f93aa4d7b7063417f025b4921b4d4c687b7a56f4", func := "replevin/replevinlaw28.RunFills", spec := "runFills", unfollowed := true, recurses := true, plainKeys := false, apart := false, narrowed := true }
def RunFillsUptoSaid : Prop := runFillsUptoRow.holds Try.pinned (OpenSpec.upto runFillsSpec)

/-- 'replevinlaw28.RunSteps', WHERE WHAT IT READS IS OF BULK AT MOST 1048576: true; the input reads as it did. -/
def runStepsUptoRow : OpenClaim := { program := "ytclopikfnfkmgaa", sum := "8f3efa1e8d4e91893f212455f93aa4d7b7063417f025b4921b4d4c687b7a56f4", func := "replevin/replevinlaw28.RunSteps", spec := "runSteps", unfollowed := true, recurses := true, plainKeys := false, apart := false, narrowed := true }
def RunStepsUptoSaid : Prop := runStepsUptoRow.holds Try.pinned (OpenSpec.upto runStepsSpec)

/-- 'replevinlaw28.RunJoins', WHERE WHAT IT READS IS OF BULK AT MOST 1048576: true; the input reads as it did. -/
def runJoinsUptoRow : OpenClaim := { program := "ytclopikfnfkmgaa", sum := "8f3efa1e8d4e91893f212455f93aa4d7b7063417f025b4921b4d4c687b7a56f4", func := "replevin/replevinlaw28.RunJoins", spec := "runJoins", unfollowed := true, recurses := true, plainKeys := false, apart := false, narrowed := true }
def RunJoinsUptoSaid : Prop := runJoinsUptoRow.holds Try.pinned (OpenSpec.upto runJoinsSpec)

/-- 'replevinlaw29.WitnessOrder', WHERE WHAT IT READS IS OF BULK AT MOST 1048576: true; the input reads as it did. -/
def witnessOrderUptoRow : OpenClaim := { program := "ytclopikfnfkmgaa", sum := "8f3efa1e8d4e91893f212455f93aa4d7b7063417f025b4921b4d4c687b7a56f4", func := "replevin/replevinlaw29.WitnessOrder", spec := "witnessOrder", unfollowed := true, recurses := true, plainKeys := false, apart := false, narrowed := true }
def WitnessOrderUptoSaid : Prop := witnessOrderUptoRow.holds Try.pinned (OpenSpec.upto witnessOrderSpec)

/-- 'replevinlaw29.WitnessDefines', WHERE WHAT IT READS IS OF BULK AT MOST 1048576: true; the input reads as it did. -/
def witnessDefinesUptoRow : OpenClaim := { program := "ytclopikfnfkmgaa", sum := "8f3efa1e8d4e91893f212455f93aa4d7b7063417f025b4921b4d4c687b7a56f4", func := "replevin/replevinlaw29.WitnessDefines", spec := "witnessDefines", unfollowed := true, recurses := true, plainKeys := false, apart := false, narrowed := true }
def WitnessDefinesUptoSaid : Prop := witnessDefinesUptoRow.holds Try.pinned (OpenSpec.upto witnessDefinesSpec)

/-- 'replevinlaw30.SearchTells', WHERE WHAT IT READS IS OF BULK AT MOST 1048576: true; the input reads as it did. -/
def searchTellsUptoRow : OpenClaim := { program := "ytclopikfnfkmgaa", sum := "8f3efa1e8d4e91893f212455f93aa4d7b7063417f025b4921b4d4c687b7a56f4", func := "replevin/replevinlaw30.SearchTells", spec := "searchTells", unfollowed := true, recurses := true, plainKeys := false, apart := false, narrowed := true }
def SearchTellsUptoSaid : Prop := searchTellsUptoRow.holds Try.pinned (OpenSpec.upto searchTellsSpec)

/-- 'replevinlaw30.SearchFinds', WHERE WHAT IT READS IS OF BULK AT MOST 1048576: true; the input reads as it did. -/
def searchFindsUptoRow : OpenClaim := { program := "ytclopikfnfkmgaa", sum := "8f3efa1e8d4e91893f212455f93aa4d7b7063417f025b4921b4d4c687b7a56f4", func := "replevin/replevinlaw30.SearchFinds", spec := "searchFinds", unfollowed := true, recurses := true, plainKeys := false, apart := false, narrowed := true }
def SearchFindsUptoSaid : Prop := searchFindsUptoRow.holds Try.pinned (OpenSpec.upto searchFindsSpec)

/-- 'replevinlaw30.SearchCounts', WHERE WHAT IT READS IS OF BULK AT MOST 1048576: true; the input reads as it did. -/
def searchCountsUptoRow : OpenClaim := { program := "ytclopikfnfkmgaa", sum := "8f3efa1e8d4e91893f212455f93aa4d7b7063417f025b4921b4d4c687b7a56f4", func := "replevin/replevinlaw30.SearchCounts", spec := "searchCounts", unfollowed := true, recurses := true, plainKeys := false, apart := false, narrowed := true }
def SearchCountsUptoSaid : Prop := searchCountsUptoRow.holds Try.pinned (OpenSpec.upto searchCountsSpec)

end Rows
end Go.Proofs.Ytclopikfnfkmgaa
