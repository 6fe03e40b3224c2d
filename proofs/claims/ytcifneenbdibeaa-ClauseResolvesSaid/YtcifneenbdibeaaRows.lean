/-
  No cell of these rows narrows 'for every input' (looked for: loops, veiled, ifaces, maps, wideKeys, modest, calm, conditions, laid).
  DERIVED. THE GIVEN ROWS OF THIS SEAT. 4 by the template 'for every input the law returns true; each argument reads behind the call as it read before'; 0 by the template 'total and deterministic' (their statements: YtcifneenbdibeaaTotals.lean).
  GIVEN WITH THE SEED: the statements are not yours to turn. If you find one false, say at which input.
  Laid BY PROGRAM, IN A SANDBOX (cutbox-rows.mjs): the forced cells as the released guide's own fill.sh prints them over the translation 252f93be99426a36… (all of the seat's roots in one cut). By AI agents, Wed Nov 11 2026. No macro, syntax, notation, axiom, sorry.
-/
import Derived.Test.YtcifneenbdibeaaChecked
import GoSem.Claim
import GoSem.ClaimJoined
import GoSem.ClaimMapViews
import Derived.JoinedTies
import Derived.KernelRfl
namespace Go.Proofs.Ytcifneenbdibeaa
/- THE CELL 'sum', in the pinned program and in every row, IS THE sha256 OF THE DUMP (.gsa) THAT YtcifneenbdibeaaProg.lean LOADS. Nothing in Lean hashes anything: it is a label: what it is worth is what the hold of that sum in a sandbox is worth. -/
noncomputable def Try.pinned : Pinned := { name := "ytcifneenbdibeaa", sum := "252f93be99426a3608fab454ed1524109e92e1360928365a5aee2c142b6feb51", checked := Try.checked }
namespace Rows
def none {H : Type} : Left H := { results := [], args := [] }

/-- 'replevinlaw02.ClauseTells': WHATEVER THE INPUT: true; the input reads as it did. -/
def clauseTellsSpec : ChangeSpec := { name := "clauseTells", fn := fun _ => fun
  | [d1, d2, d3] => { results := [.lit (.bool true)], args := [d1, d2, d3] }
  | _ => none }
def clauseTellsRow : OpenClaim := { program := "ytcifneenbdibeaa", sum := "252f93be99426a3608fab454ed1524109e92e1360928365a5aee2c142b6feb51", func := "replevin/replevinlaw02.ClauseTells", spec := "clauseTells", unfollowed := true, recurses := true, apart := false }
def ClauseTellsSaid : Prop := clauseTellsRow.holds Try.pinned (OpenSpec.ofChange clauseTellsSpec)

/-- ITS FALSE NEIGHBOUR: 'it returns false'. Refute it at one input. -/
def clauseTellsWrong : ChangeSpec := { name := "clauseTells", fn := fun _ => fun
  | [d1, d2, d3] => { results := [.lit (.bool false)], args := [d1, d2, d3] }
  | _ => none }
def ClauseTellsWrongFalsely : Prop := clauseTellsRow.holds Try.pinned (OpenSpec.ofChange clauseTellsWrong)

/-- 'replevinlaw02.ClauseMeets': WHATEVER THE INPUT: true; the input reads as it did. -/
def clauseMeetsSpec : ChangeSpec := { name := "clauseMeets", fn := fun _ => fun
  | [d1, d2, d3] => { results := [.lit (.bool true)], args := [d1, d2, d3] }
  | _ => none }
def clauseMeetsRow : OpenClaim := { program := "ytcifneenbdibeaa", sum := "252f93be99426a3608fab454ed1524109e92e1360928365a5aee2c142b6feb51", func := "replevin/replevinlaw02.ClauseMeets", spec := "clauseMeets", unfollowed := true, recurses := true, apart := false }
def ClauseMeetsSaid : Prop := clauseMeetsRow.holds Try.pinned (OpenSpec.ofChange clauseMeetsSpec)

/-- ITS FALSE NEIGHBOUR: 'it returns false'. Refute it at one input. -/
def clauseMeetsWrong : ChangeSpec := { name := "clauseMeets", fn := fun _ => fun
  | [d1, d2, d3] => { results := [.lit (.bool false)], args := [d1, d2, d3] }
  | _ => none }
def ClauseMeetsWrongFalsely : Prop := clauseMeetsRow.holds Try.pinned (OpenSpec.ofChange clauseMeetsWrong)

/-- 'replevinlaw02.ClauseNorm': WHATEVER THE INPUT: true; the input reads as it did. -/
def clauseNormSpec : ChangeSpec := { name := "clauseNorm", fn := fun _ => fun
  | [d1, d2, d3] => { results := [.lit (.bool true)], args := [d1, d2, d3] }
  | _ => none }
def clauseNormRow : OpenClaim := { program := "ytcifneenbdibeaa", sum := "252f93be99426a3608fab454ed1524109e92e1360928365a5aee2c142b6feb51", func := "replevin/replevinlaw02.ClauseNorm", spec := "clauseNorm", unfollowed := true, recurses := true, apart := false }
def ClauseNormSaid : Prop := clauseNormRow.holds Try.pinned (OpenSpec.ofChange clauseNormSpec)

/-- ITS FALSE NEIGHBOUR: 'it returns false'. Refute it at one input. -/
def clauseNormWrong : ChangeSpec := { name := "clauseNorm", fn := fun _ => fun
  | [d1, d2, d3] => { results := [.lit (.bool false)], args := [d1, d2, d3] }
  | _ => none }
def ClauseNormWrongFalsely : Prop := clauseNormRow.holds Try.pinned (OpenSpec.ofChange clauseNormWrong)

/-- 'replevinlaw02.ClauseResolves': WHATEVER THE INPUT: true; the input reads as it did. -/
def clauseResolvesSpec : ChangeSpec := { name := "clauseResolves", fn := fun _ => fun
  | [d1, d2, d3] => { results := [.lit (.bool true)], args := [d1, d2, d3] }
  | _ => none }
def clauseResolvesRow : OpenClaim := { program := "ytcifneenbdibeaa", sum := "252f93be99426a3608fab454ed1524109e92e1360928365a5aee2c142b6feb51", func := "replevin/replevinlaw02.ClauseResolves", spec := "clauseResolves", unfollowed := true, recurses := true, apart := false }
def ClauseResolvesSaid : Prop := clauseResolvesRow.holds Try.pinned (OpenSpec.ofChange clauseResolvesSpec)

/-- ITS FALSE NEIGHBOUR: 'it returns false'. Refute it at one input. -/
def clauseResolvesWrong : ChangeSpec := { name := "clauseResolves", fn := fun _ => fun
  | [d1, d2, d3] => { results := [.lit (.bool false)], args := [d1, d2, d3] }
  | _ => none }
def ClauseResolvesWrongFalsely : Prop := clauseResolvesRow.holds Try.pinned (OpenSpec.ofChange clauseResolvesWrong)

/- THE SECOND FORM. 'bulk': how many values and letters a reading holds, each counted each time it is reached (what is shared counts as often as it is met; a slice's spare places count too). A statement '..UptoSaid' is the law's where the arguments, and the package variables that the reading takes, are together of bulk at most 1048576: NARROWER than '..Said'. Prove '..Said' where nothing that the law and all that it calls make is longer than what came in: it says more and counts as full. Else prove '..UptoSaid'. A law counts once. -/
mutual
def uptoBulk {H : Type} : DataW H → Nat
  | .lit (.string bytes) => bytes.length + 1
  | .lit _ => 1
  | .nil => 1
  | .ptr d => uptoBulk d + 1
  | .slice elems spare => uptoBulkAll elems + uptoBulkAll spare + 1
  | .agg parts => uptoBulkAll parts + 1
  | .iface _ d => uptoBulk d + 1
  | .map entries => uptoBulkEntries entries + 1
  | .held _ => 1
def uptoBulkAll {H : Type} : List (DataW H) → Nat
  | [] => 0
  | d :: r => uptoBulk d + uptoBulkAll r
def uptoBulkEntries {H : Type} : List (Lit × DataW H) → Nat
  | [] => 0
  | x :: r => uptoBulkEntry x + uptoBulkEntries r
def uptoBulkEntry {H : Type} : Lit × DataW H → Nat
  | (.string bytes, d) => bytes.length + uptoBulk d + 1
  | (_, d) => uptoBulk d + 1
 end
def uptoSmall : (H : Type) → List (DataW H) → Bool := fun _ ds => decide (uptoBulkAll ds ≤ 1048576)
def OpenSpec.upto (s : _root_.Go.ChangeSpec) : _root_.Go.OpenSpec := { _root_.Go.OpenSpec.ofChange s with cond := some uptoSmall }

/-- 'replevinlaw02.ClauseTells', WHERE WHAT IT READS IS OF BULK AT MOST 1048576: true; the input reads as it did. -/
def clauseTellsUptoRow : OpenClaim := { program := "ytcifneenbdibeaa", sum := "252f93be99426a3608fab454ed1524109e92e1360928365a5aee2c142b6feb51", func := "replevin/replevinlaw02.ClauseTells", spec := "clauseTells", unfollowed := true, recurses := true, apart := false, narrowed := true }
def ClauseTellsUptoSaid : Prop := clauseTellsUptoRow.holds Try.pinned (OpenSpec.upto clauseTellsSpec)

/-- 'replevinlaw02.ClauseMeets', WHERE WHAT IT READS IS OF BULK AT MOST 1048576: true; the input reads as it did. -/
def clauseMeetsUptoRow : OpenClaim := { program := "ytcifneenbdibeaa", sum := "252f93be99426a3608fab454ed1524109e92e1360928365a5aee2c142b6feb51", func := "replevin/replevinlaw02.ClauseMeets", spec := "clauseMeets", unfollowed := true, recurses := true, apart := false, narrowed := true }
def ClauseMeetsUptoSaid : Prop := clauseMeetsUptoRow.holds Try.pinned (OpenSpec.upto clauseMeetsSpec)

/-- 'replevinlaw02.ClauseNorm', WHERE WHAT IT READS IS OF BULK AT MOST 1048576: true; the input reads as it did. -/
def clauseNormUptoRow : OpenClaim := { program := "ytcifneenbdibeaa", sum := "252f93be99426a3608fab454ed1524109e92e1360928365a5aee2c142b6feb51", func := "replevin/replevinlaw02.ClauseNorm", spec := "clauseNorm", unfollowed := true, recurses := true, apart := false, narrowed := true }
def ClauseNormUptoSaid : Prop := clauseNormUptoRow.holds Try.pinned (OpenSpec.upto clauseNormSpec)

/-- 'replevinlaw02.ClauseResolves', WHERE WHAT IT READS IS OF BULK AT MOST 1048576: true; the input reads as it did. -/
def clauseResolvesUptoRow : OpenClaim := { program := "ytcifneenbdibeaa", sum := "252f93be99426a3608fab454ed1524109e92e1360928365a5aee2c142b6feb51", func := "replevin/replevinlaw02.ClauseResolves", spec := "clauseResolves", unfollowed := true, recurses := true, apart := false, narrowed := true }
def ClauseResolvesUptoSaid : Prop := clauseResolvesUptoRow.holds Try.pinned (OpenSpec.upto clauseResolvesSpec)

end Rows
end Go.Proofs.Ytcifneenbdibeaa
