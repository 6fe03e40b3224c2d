/-
  No cell of these rows narrows 'for every input' (looked for: loops, veiled, ifaces, maps, wideKeys, modest, calm, conditions, laid).
  DERIVED. THE GIVEN ROWS OF THIS SEAT. 4 by the template 'for every input the law returns true; each argument reads behind the call as it read before'; 0 by the template 'total and deterministic' (their statements: YtffoefomhggaiaaTotals.lean).
  GIVEN WITH THE SEED: the statements are not yours to turn. If you find one false, say at which input.
  Laid BY PROGRAM, IN A SANDBOX (cutbox-rows.mjs): the forced cells as the released guide's own fill.sh prints them over the translation 792ad682e49d9070… (all of the seat's roots in one cut). By AI agents, Wed Nov 11 2026. No macro, syntax, notation, axiom, sorry.
-/
import Derived.Test.YtffoefomhggaiaaChecked
import GoSem.Claim
import GoSem.ClaimJoined
import GoSem.ClaimMapViews
import Derived.JoinedTies
import Derived.KernelRfl
namespace Go.Proofs.Ytffoefomhggaiaa
/- THE CELL 'sum', in the pinned program and in every row, IS THE sha256 OF THE DUMP (.gsa) THAT YtffoefomhggaiaaProg.lean LOADS. Nothing in Lean hashes anything: it is a label: what it is worth is what the hold of that sum in a sandbox is worth. -/
noncomputable def Try.pinned : Pinned := { name := "ytffoefomhggaiaa", sum := "792ad682e49d9070b9a9b0b159b299e46194d66af48bcbaeffd777fc72f3ed3d", checked := Try.checked }
namespace Rows
def none {H : Type} : Left H := { results := [], args := [] }

/-- 'replevinlaw36.CountTells': WHATEVER THE INPUT: true; the input reads as it did. -/
def countTellsSpec : ChangeSpec := { name := "countTells", fn := fun _ => fun
  | [d1, d2, d3] => { results := [.lit (.bool true)], args := [d1, d2, d3] }
  | _ => none }
def countTellsRow : OpenClaim := { program := "ytffoefomhggaiaa", sum := "792ad682e49d9070b9a9b0b159b299e46194d66af48bcbaeffd777fc72f3ed3d", func := "replevin/replevinlaw36.CountTells", spec := "countTells", unfollowed := true, recurses := true, apart := false }
def CountTellsSaid : Prop := countTellsRow.holds Try.pinned (OpenSpec.ofChange countTellsSpec)

/-- ITS FALSE NEIGHBOUR: 'it returns false'. Refute it at one input. -/
def countTellsWrong : ChangeSpec := { name := "countTells", fn := fun _ => fun
  | [d1, d2, d3] => { results := [.lit (.bool false)], args := [d1, d2, d3] }
  | _ => none }
def CountTellsWrongFalsely : Prop := countTellsRow.holds Try.pinned (OpenSpec.ofChange countTellsWrong)

/-- 'replevinlaw36.CountAll': WHATEVER THE INPUT: true; the input reads as it did. -/
def countAllSpec : ChangeSpec := { name := "countAll", fn := fun _ => fun
  | [d1, d2] => { results := [.lit (.bool true)], args := [d1, d2] }
  | _ => none }
def countAllRow : OpenClaim := { program := "ytffoefomhggaiaa", sum := "792ad682e49d9070b9a9b0b159b299e46194d66af48bcbaeffd777fc72f3ed3d", func := "replevin/replevinlaw36.CountAll", spec := "countAll", unfollowed := true, recurses := true, apart := false }
def CountAllSaid : Prop := countAllRow.holds Try.pinned (OpenSpec.ofChange countAllSpec)

/-- ITS FALSE NEIGHBOUR: 'it returns false'. Refute it at one input. -/
def countAllWrong : ChangeSpec := { name := "countAll", fn := fun _ => fun
  | [d1, d2] => { results := [.lit (.bool false)], args := [d1, d2] }
  | _ => none }
def CountAllWrongFalsely : Prop := countAllRow.holds Try.pinned (OpenSpec.ofChange countAllWrong)

/-- 'replevinlaw36.CountClauses': WHATEVER THE INPUT: true; the input reads as it did. -/
def countClausesSpec : ChangeSpec := { name := "countClauses", fn := fun _ => fun
  | [d1, d2] => { results := [.lit (.bool true)], args := [d1, d2] }
  | _ => none }
def countClausesRow : OpenClaim := { program := "ytffoefomhggaiaa", sum := "792ad682e49d9070b9a9b0b159b299e46194d66af48bcbaeffd777fc72f3ed3d", func := "replevin/replevinlaw36.CountClauses", spec := "countClauses", unfollowed := true, recurses := true, apart := false }
def CountClausesSaid : Prop := countClausesRow.holds Try.pinned (OpenSpec.ofChange countClausesSpec)

/-- ITS FALSE NEIGHBOUR: 'it returns false'. Refute it at one input. -/
def countClausesWrong : ChangeSpec := { name := "countClauses", fn := fun _ => fun
  | [d1, d2] => { results := [.lit (.bool false)], args := [d1, d2] }
  | _ => none }
def CountClausesWrongFalsely : Prop := countClausesRow.holds Try.pinned (OpenSpec.ofChange countClausesWrong)

/-- 'replevinlaw36.CountFits': WHATEVER THE INPUT: true; the input reads as it did. -/
def countFitsSpec : ChangeSpec := { name := "countFits", fn := fun _ => fun
  | [d1, d2] => { results := [.lit (.bool true)], args := [d1, d2] }
  | _ => none }
def countFitsRow : OpenClaim := { program := "ytffoefomhggaiaa", sum := "792ad682e49d9070b9a9b0b159b299e46194d66af48bcbaeffd777fc72f3ed3d", func := "replevin/replevinlaw36.CountFits", spec := "countFits", unfollowed := true, recurses := true, apart := false }
def CountFitsSaid : Prop := countFitsRow.holds Try.pinned (OpenSpec.ofChange countFitsSpec)

/-- ITS FALSE NEIGHBOUR: 'it returns false'. Refute it at one input. -/
def countFitsWrong : ChangeSpec := { name := "countFits", fn := fun _ => fun
  | [d1, d2] => { results := [.lit (.bool false)], args := [d1, d2] }
  | _ => none }
def CountFitsWrongFalsely : Prop := countFitsRow.holds Try.pinned (OpenSpec.ofChange countFitsWrong)

/- THE SECOND FORM. 'bulk': how many values and letters a reading holds, each counted each time it is reached (what is shared counts as often as it is met; a slice's spare places count too). A statement '..UptoSaid' is the law's where the arguments, and the package variables that the reading takes, are together of bulk at most 1048576: NARROWER than '..Said'. Prove '..Said' where nothing that the law and all that it calls make is longer than what came in: it says more and counts as full. Else prove '..UptoSaid'. A law counts once. -/
mutual
def uptoBulk {H : Type} : DataW H → Nat
  | .lit (.string bytes) => bytes.length + 1
  | .lit _ => 1
  | .nil => 1
  | .ptr d => uptoBulk d + 1
  | .slice elems spare => uptoBulkAll elems + uptoBulkAll spare + 1
  | .agg parts => uptoBulkAll parts + 1
  | .iface _ d => uptoBulk d + 1
  | .map entries => uptoBulkEntries entries + 1
  | .held _ => 1
def uptoBulkAll {H : Type} : List (DataW H) → Nat
  | [] => 0
  | d :: r => uptoBulk d + uptoBulkAll r
def uptoBulkEntries {H : Type} : List (Lit × DataW H) → Nat
  | [] => 0
  | x :: r => uptoBulkEntry x + uptoBulkEntries r
def uptoBulkEntry {H : Type} : Lit × DataW H → Nat
  | (.string bytes, d) => bytes.length + uptoBulk d + 1
  | (_, d) => uptoBulk d + 1
 end
def uptoSmall : (H : Type) → List (DataW H) → Bool := fun _ ds => decide (uptoBulkAll ds ≤ 1048576)
def OpenSpec.upto (s : _root_.Go.ChangeSpec) : _root_.Go.OpenSpec := { _root_.Go.OpenSpec.ofChange s with cond := some uptoSmall }

/-- 'replevinlaw36.CountTells', WHERE WHAT IT READS IS OF BULK AT MOST 1048576: true; the input reads as it did. -/
def countTellsUptoRow : OpenClaim := { program := "ytffoefomhggaiaa", sum := "792ad682e49d9070b9a9b0b159b299e46194d66af48bcbaeffd777fc72f3ed3d", func := "replevin/replevinlaw36.CountTells", spec := "countTells", unfollowed := true, recurses := true, apart := false, narrowed := true }
def CountTellsUptoSaid : Prop := countTellsUptoRow.holds Try.pinned (OpenSpec.upto countTellsSpec)

/-- 'replevinlaw36.CountAll', WHERE WHAT IT READS IS OF BULK AT MOST 1048576: true; the input reads as it did. -/
def countAllUptoRow : OpenClaim := { program := "ytffoefomhggaiaa", sum := "792ad682e49d9070b9a9b0b159b299e46194d66af48bcbaeffd777fc72f3ed3d", func := "replevin/replevinlaw36.CountAll", spec := "countAll", unfollowed := true, recurses := true, apart := false, narrowed := true }
def CountAllUptoSaid : Prop := countAllUptoRow.holds Try.pinned (OpenSpec.upto countAllSpec)

/-- 'replevinlaw36.CountClauses', WHERE WHAT IT READS IS OF BULK AT MOST 1048576: true; the input reads as it did. -/
def countClausesUptoRow : OpenClaim := { program := "ytffoefomhggaiaa", sum := "792ad682e49d9070b9a9b0b159b299e46194d66af48bcbaeffd777fc72f3ed3d", func := "replevin/replevinlaw36.CountClauses", spec := "countClauses", unfollowed := true, recurses := true, apart := false, narrowed := true }
def CountClausesUptoSaid : Prop := countClausesUptoRow.holds Try.pinned (OpenSpec.upto countClausesSpec)

/-- 'replevinlaw36.CountFits', WHERE WHAT IT READS IS OF BULK AT MOST 1048576: true; the input reads as it did. -/
def countFitsUptoRow : OpenClaim := { program := "ytffoefomhggaiaa", sum := "792ad682e49d9070b9a9b0b159b299e46194d66af48bcbaeffd777fc72f3ed3d", func := "replevin/replevinlaw36.CountFits", spec := "countFits", unfollowed := true, recurses := true, apart := false, narrowed := true }
def CountFitsUptoSaid : Prop := countFitsUptoRow.holds Try.pinned (OpenSpec.upto countFitsSpec)

end Rows
end Go.Proofs.Ytffoefomhggaiaa
