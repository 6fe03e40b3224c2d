/-
  No cell of these rows narrows 'for every input' (looked for: loops, veiled, ifaces, maps, wideKeys, modest, calm, conditions, laid).
  DERIVED. THE GIVEN ROWS OF THIS SEAT. 4 by the template 'for every input the law returns true; each argument reads behind the call as it read before'; 0 by the template 'total and deterministic' (their statements: YtmaaoijlchfdgaaTotals.lean).
  GIVEN WITH THE SEED: the statements are not yours to turn. If you find one false, say at which input.
  Laid BY PROGRAM, IN A SANDBOX (cutbox-rows.mjs): the forced cells as the released guide's own fill.sh prints them over the translation 1c68d837d88982b8… (all of the seat's roots in one cut). By AI agents, Wed Nov 11 2026. No macro, syntax, notation, axiom, sorry.
-/
import Derived.Test.YtmaaoijlchfdgaaChecked
import GoSem.Claim
import GoSem.ClaimJoined
import GoSem.ClaimMapViews
import Derived.JoinedTies
import Derived.KernelRfl
namespace Go.Proofs.Ytmaaoijlchfdgaa
/- THE CELL 'sum', in the pinned program and in every row, IS THE sha256 OF THE DUMP (.gsa) THAT YtmaaoijlchfdgaaProg.lean LOADS. Nothing in Lean hashes anything: it is a label: what it is worth is what the hold of that sum in a sandbox is worth. -/
noncomputable def Try.pinned : Pinned := { name := "ytmaaoijlchfdgaa", sum := "1c68d837d88982b815534f1f880d8857d9995286644c3b0a046b9fcc797d0461", checked := Try.checked }
namespace Rows
def none {H : Type} : Left H := { results := [], args := [] }

/-- 'replevinlaw03.AssignTells': WHATEVER THE INPUT: true; the input reads as it did. -/
def assignTellsSpec : ChangeSpec := { name := "assignTells", fn := fun _ => fun
  | [d1, d2, d3] => { results := [.lit (.bool true)], args := [d1, d2, d3] }
  | _ => none }
def assignTellsRow : OpenClaim := { program := "ytmaaoijlchfdgaa", sum := "1c68d837d88982b815534f1f880d8857d9995286644c3b0a046b9fcc797d0461", func := "replevin/replevinlaw03.AssignTells", spec := "assignTells", unfollowed := true, recurses := true, apart := false }
def AssignTellsSaid : Prop := assignTellsRow.holds Try.pinned (OpenSpec.ofChange assignTellsSpec)

/-- ITS FALSE NEIGHBOUR: 'it returns false'. Refute it at one input. -/
def assignTellsWrong : ChangeSpec := { name := "assignTells", fn := fun _ => fun
  | [d1, d2, d3] => { results := [.lit (.bool false)], args := [d1, d2, d3] }
  | _ => none }
def AssignTellsWrongFalsely : Prop := assignTellsRow.holds Try.pinned (OpenSpec.ofChange assignTellsWrong)

/-- 'replevinlaw03.AssignModels': WHATEVER THE INPUT: true; the input reads as it did. -/
def assignModelsSpec : ChangeSpec := { name := "assignModels", fn := fun _ => fun
  | [d1, d2, d3] => { results := [.lit (.bool true)], args := [d1, d2, d3] }
  | _ => none }
def assignModelsRow : OpenClaim := { program := "ytmaaoijlchfdgaa", sum := "1c68d837d88982b815534f1f880d8857d9995286644c3b0a046b9fcc797d0461", func := "replevin/replevinlaw03.AssignModels", spec := "assignModels", unfollowed := true, recurses := true, apart := false }
def AssignModelsSaid : Prop := assignModelsRow.holds Try.pinned (OpenSpec.ofChange assignModelsSpec)

/-- ITS FALSE NEIGHBOUR: 'it returns false'. Refute it at one input. -/
def assignModelsWrong : ChangeSpec := { name := "assignModels", fn := fun _ => fun
  | [d1, d2, d3] => { results := [.lit (.bool false)], args := [d1, d2, d3] }
  | _ => none }
def AssignModelsWrongFalsely : Prop := assignModelsRow.holds Try.pinned (OpenSpec.ofChange assignModelsWrong)

/-- 'replevinlaw03.AssignFull': WHATEVER THE INPUT: true; the input reads as it did. -/
def assignFullSpec : ChangeSpec := { name := "assignFull", fn := fun _ => fun
  | [d1, d2] => { results := [.lit (.bool true)], args := [d1, d2] }
  | _ => none }
def assignFullRow : OpenClaim := { program := "ytmaaoijlchfdgaa", sum := "1c68d837d88982b815534f1f880d8857d9995286644c3b0a046b9fcc797d0461", func := "replevin/replevinlaw03.AssignFull", spec := "assignFull", unfollowed := true, recurses := true, apart := false }
def AssignFullSaid : Prop := assignFullRow.holds Try.pinned (OpenSpec.ofChange assignFullSpec)

/-- ITS FALSE NEIGHBOUR: 'it returns false'. Refute it at one input. -/
def assignFullWrong : ChangeSpec := { name := "assignFull", fn := fun _ => fun
  | [d1, d2] => { results := [.lit (.bool false)], args := [d1, d2] }
  | _ => none }
def AssignFullWrongFalsely : Prop := assignFullRow.holds Try.pinned (OpenSpec.ofChange assignFullWrong)

/-- 'replevinlaw03.AssignUnits': WHATEVER THE INPUT: true; the input reads as it did. -/
def assignUnitsSpec : ChangeSpec := { name := "assignUnits", fn := fun _ => fun
  | [d1, d2, d3] => { results := [.lit (.bool true)], args := [d1, d2, d3] }
  | _ => none }
def assignUnitsRow : OpenClaim := { program := "ytmaaoijlchfdgaa", sum := "1c68d837d88982b815534f1f880d8857d9995286644c3b0a046b9fcc797d0461", func := "replevin/replevinlaw03.AssignUnits", spec := "assignUnits", unfollowed := true, recurses := true, apart := false }
def AssignUnitsSaid : Prop := assignUnitsRow.holds Try.pinned (OpenSpec.ofChange assignUnitsSpec)

/-- ITS FALSE NEIGHBOUR: 'it returns false'. Refute it at one input. -/
def assignUnitsWrong : ChangeSpec := { name := "assignUnits", fn := fun _ => fun
  | [d1, d2, d3] => { results := [.lit (.bool false)], args := [d1, d2, d3] }
  | _ => none }
def AssignUnitsWrongFalsely : Prop := assignUnitsRow.holds Try.pinned (OpenSpec.ofChange assignUnitsWrong)

/- THE SECOND FORM. 'bulk': how many values and letters a reading holds, each counted each time it is reached (what is shared counts as often as it is met; a slice's spare places count too). A statement '..UptoSaid' is the law's where the arguments, and the package variables that the reading takes, are together of bulk at most 1048576: NARROWER than '..Said'. Prove '..Said' where nothing that the law and all that it calls make is longer than what came in: it says more and counts as full. Else prove '..UptoSaid'. A law counts once. -/
mutual
def uptoBulk {H : Type} : DataW H → Nat
  | .lit (.string bytes) => bytes.length + 1
  | .lit _ => 1
  | .nil => 1
  | .ptr d => uptoBulk d + 1
  | .slice elems spare => uptoBulkAll elems + uptoBulkAll spare + 1
  | .agg parts => uptoBulkAll parts + 1
  | .iface _ d => uptoBulk d + 1
  | .map entries => uptoBulkEntries entries + 1
  | .held _ => 1
def uptoBulkAll {H : Type} : List (DataW H) → Nat
  | [] => 0
  | d :: r => uptoBulk d + uptoBulkAll r
def uptoBulkEntries {H : Type} : List (Lit × DataW H) → Nat
  | [] => 0
  | x :: r => uptoBulkEntry x + uptoBulkEntries r
def uptoBulkEntry {H : Type} : Lit × DataW H → Nat
  | (.string bytes, d) => bytes.length + uptoBulk d + 1
  | (_, d) => uptoBulk d + 1
 end
def uptoSmall : (H : Type) → List (DataW H) → Bool := fun _ ds => decide (uptoBulkAll ds ≤ 1048576)
def OpenSpec.upto (s : _root_.Go.ChangeSpec) : _root_.Go.OpenSpec := { _root_.Go.OpenSpec.ofChange s with cond := some uptoSmall }

/-- 'replevinlaw03.AssignTells', WHERE WHAT IT READS IS OF BULK AT MOST 1048576: true; the input reads as it did. -/
def assignTellsUptoRow : OpenClaim := { program := "ytmaaoijlchfdgaa", sum := "1c68d837d88982b815534f1f880d8857d9995286644c3b0a046b9fcc797d0461", func := "replevin/replevinlaw03.AssignTells", spec := "assignTells", unfollowed := true, recurses := true, apart := false, narrowed := true }
def AssignTellsUptoSaid : Prop := assignTellsUptoRow.holds Try.pinned (OpenSpec.upto assignTellsSpec)

/-- 'replevinlaw03.AssignModels', WHERE WHAT IT READS IS OF BULK AT MOST 1048576: true; the input reads as it did. -/
def assignModelsUptoRow : OpenClaim := { program := "ytmaaoijlchfdgaa", sum := "1c68d837d88982b815534f1f880d8857d9995286644c3b0a046b9fcc797d0461", func := "replevin/replevinlaw03.AssignModels", spec := "assignModels", unfollowed := true, recurses := true, apart := false, narrowed := true }
def AssignModelsUptoSaid : Prop := assignModelsUptoRow.holds Try.pinned (OpenSpec.upto assignModelsSpec)

/-- 'replevinlaw03.AssignFull', WHERE WHAT IT READS IS OF BULK AT MOST 1048576: true; the input reads as it did. -/
def assignFullUptoRow : OpenClaim := { program := "ytmaaoijlchfdgaa", sum := "1c68d837d88982b815534f1f880d8857d9995286644c3b0a046b9fcc797d0461", func := "replevin/replevinlaw03.AssignFull", spec := "assignFull", unfollowed := true, recurses := true, apart := false, narrowed := true }
def AssignFullUptoSaid : Prop := assignFullUptoRow.holds Try.pinned (OpenSpec.upto assignFullSpec)

/-- 'replevinlaw03.AssignUnits', WHERE WHAT IT READS IS OF BULK AT MOST 1048576: true; the input reads as it did. -/
def assignUnitsUptoRow : OpenClaim := { program := "ytmaaoijlchfdgaa", sum := "1c68d837d88982b815534f1f880d8857d9995286644c3b0a046b9fcc797d0461", func := "replevin/replevinlaw03.AssignUnits", spec := "assignUnits", unfollowed := true, recurses := true, apart := false, narrowed := true }
def AssignUnitsUptoSaid : Prop := assignUnitsUptoRow.holds Try.pinned (OpenSpec.upto assignUnitsSpec)

end Rows
end Go.Proofs.Ytmaaoijlchfdgaa
