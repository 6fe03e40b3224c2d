/-
  No cell of these rows narrows 'for every input' (looked for: loops, veiled, ifaces, maps, wideKeys, modest, calm, conditions, laid).
  DERIVED. THE GIVEN ROWS OF THIS SEAT. 3 by the template 'for every input the law returns true; each argument reads behind the call as it read before'; 0 by the template 'total and deterministic' (their statements: YtpfbcjlgbdbcpaaTotals.lean).
  GIVEN WITH THE SEED: the statements are not yours to turn. If you find one false, say at which input.
  Laid BY PROGRAM, IN A SANDBOX (cutbox-rows.mjs): the forced cells as the released guide's own fill.sh prints them over the translation 6130718febc29a2e… (all of the seat's roots in one cut). By AI agents, Wed Nov 11 2026. No macro, syntax, notation, axiom, sorry.
-/
import Derived.Test.YtpfbcjlgbdbcpaaChecked
import GoSem.Claim
import GoSem.ClaimJoined
import GoSem.ClaimMapViews
import Derived.JoinedTies
import Derived.KernelRfl
namespace Go.Proofs.Ytpfbcjlgbdbcpaa
/- THE CELL 'sum', in the pinned program and in every row, IS THE sha256 OF THE DUMP (.gsa) THAT YtpfbcjlgbdbcpaaProg.lean LOADS. Nothing in Lean hashes anything: it is a label: what it is worth is what the hold of that sum in a sandbox is worth. -/
noncomputable def Try.pinned : Pinned := { name := "ytpfbcjlgbdbcpaa", sum := "6130718febc29a2eade64e1720b086c2c9ad3d78618b6accbfbb7b3665983db5", checked := Try.checked }
namespace Rows
def none {H : Type} : Left H := { results := [], args := [] }

/-- 'replevinlaw23.ObjectTells': WHATEVER THE INPUT: true; the input reads as it did. -/
def objectTellsSpec : ChangeSpec := { name := "objectTells", fn := fun _ => fun
  | [d1, d2, d3] => { results := [.lit (.bool true)], args := [d1, d2, d3] }
  | _ => none }
def objectTellsRow : OpenClaim := { program := "ytpfbcjlgbdbcpaa", sum := "6130718febc29a2eade64e1720b086c2c9ad3d78618b6accbfbb7b3665983db5", func := "replevin/replevinlaw23.ObjectTells", spec := "objectTells", unfollowed := true, recurses := true, apart := false }
def ObjectTellsSaid : Prop := objectTellsRow.holds Try.pinned (OpenSpec.ofChange objectTellsSpec)

/-- ITS FALSE NEIGHBOUR: 'it returns false'. Refute it at one input. -/
def objectTellsWrong : ChangeSpec := { name := "objectTells", fn := fun _ => fun
  | [d1, d2, d3] => { results := [.lit (.bool false)], args := [d1, d2, d3] }
  | _ => none }
def ObjectTellsWrongFalsely : Prop := objectTellsRow.holds Try.pinned (OpenSpec.ofChange objectTellsWrong)

/-- 'replevinlaw23.ObjectMoves': WHATEVER THE INPUT: true; the input reads as it did. -/
def objectMovesSpec : ChangeSpec := { name := "objectMoves", fn := fun _ => fun
  | [d1, d2] => { results := [.lit (.bool true)], args := [d1, d2] }
  | _ => none }
def objectMovesRow : OpenClaim := { program := "ytpfbcjlgbdbcpaa", sum := "6130718febc29a2eade64e1720b086c2c9ad3d78618b6accbfbb7b3665983db5", func := "replevin/replevinlaw23.ObjectMoves", spec := "objectMoves", unfollowed := true, recurses := true, apart := false }
def ObjectMovesSaid : Prop := objectMovesRow.holds Try.pinned (OpenSpec.ofChange objectMovesSpec)

/-- ITS FALSE NEIGHBOUR: 'it returns false'. Refute it at one input. -/
def objectMovesWrong : ChangeSpec := { name := "objectMoves", fn := fun _ => fun
  | [d1, d2] => { results := [.lit (.bool false)], args := [d1, d2] }
  | _ => none }
def ObjectMovesWrongFalsely : Prop := objectMovesRow.holds Try.pinned (OpenSpec.ofChange objectMovesWrong)

/-- 'replevinlaw23.ObjectReach': WHATEVER THE INPUT: true; the input reads as it did. -/
def objectReachSpec : ChangeSpec := { name := "objectReach", fn := fun _ => fun
  | [d] => { results := [.lit (.bool true)], args := [d] }
  | _ => none }
def objectReachRow : OpenClaim := { program := "ytpfbcjlgbdbcpaa", sum := "6130718febc29a2eade64e1720b086c2c9ad3d78618b6accbfbb7b3665983db5", func := "replevin/replevinlaw23.ObjectReach", spec := "objectReach", unfollowed := true, recurses := true, apart := false }
def ObjectReachSaid : Prop := objectReachRow.holds Try.pinned (OpenSpec.ofChange objectReachSpec)

/-- ITS FALSE NEIGHBOUR: 'it returns false'. Refute it at one input. -/
def objectReachWrong : ChangeSpec := { name := "objectReach", fn := fun _ => fun
  | [d] => { results := [.lit (.bool false)], args := [d] }
  | _ => none }
def ObjectReachWrongFalsely : Prop := objectReachRow.holds Try.pinned (OpenSpec.ofChange objectReachWrong)

/- THE SECOND FORM. 'bulk': how many values and letters a reading holds, each counted each time it is reached (what is shared counts as often as it is met; a slice's spare places count too). A statement '..UptoSaid' is the law's where the arguments, and the package variables that the reading takes, are together of bulk at most 1048576: NARROWER than '..Said'. Prove '..Said' where nothing that the law and all that it calls make is longer than what came in: it says more and counts as full. Else prove '..UptoSaid'. A law counts once. -/
mutual
def uptoBulk {H : Type} : DataW H → Nat
  | .lit (.string bytes) => bytes.length + 1
  | .lit _ => 1
  | .nil => 1
  | .ptr d => uptoBulk d + 1
  | .slice elems spare => uptoBulkAll elems + uptoBulkAll spare + 1
  | .agg parts => uptoBulkAll parts + 1
  | .iface _ d => uptoBulk d + 1
  | .map entries => uptoBulkEntries entries + 1
  | .held _ => 1
def uptoBulkAll {H : Type} : List (DataW H) → Nat
  | [] => 0
  | d :: r => uptoBulk d + uptoBulkAll r
def uptoBulkEntries {H : Type} : List (Lit × DataW H) → Nat
  | [] => 0
  | x :: r => uptoBulkEntry x + uptoBulkEntries r
def uptoBulkEntry {H : Type} : Lit × DataW H → Nat
  | (.string bytes, d) => bytes.length + uptoBulk d + 1
  | (_, d) => uptoBulk d + 1
 end
def uptoSmall : (H : Type) → List (DataW H) → Bool := fun _ ds => decide (uptoBulkAll ds ≤ 1048576)
def OpenSpec.upto (s : _root_.Go.ChangeSpec) : _root_.Go.OpenSpec := { _root_.Go.OpenSpec.ofChange s with cond := some uptoSmall }

/-- 'replevinlaw23.ObjectTells', WHERE WHAT IT READS IS OF BULK AT MOST 1048576: true; the input reads as it did. -/
def objectTellsUptoRow : OpenClaim := { program := "ytpfbcjlgbdbcpaa", sum := "6130718febc29a2eade64e1720b086c2c9ad3d78618b6accbfbb7b3665983db5", func := "replevin/replevinlaw23.ObjectTells", spec := "objectTells", unfollowed := true, recurses := true, apart := false, narrowed := true }
def ObjectTellsUptoSaid : Prop := objectTellsUptoRow.holds Try.pinned (OpenSpec.upto objectTellsSpec)

/-- 'replevinlaw23.ObjectMoves', WHERE WHAT IT READS IS OF BULK AT MOST 1048576: true; the input reads as it did. -/
def objectMovesUptoRow : OpenClaim := { program := "ytpfbcjlgbdbcpaa", sum := "6130718febc29a2eade64e1720b086c2c9ad3d78618b6accbfbb7b3665983db5", func := "replevin/replevinlaw23.ObjectMoves", spec := "objectMoves", unfollowed := true, recurses := true, apart := false, narrowed := true }
def ObjectMovesUptoSaid : Prop := objectMovesUptoRow.holds Try.pinned (OpenSpec.upto objectMovesSpec)

/-- 'replevinlaw23.ObjectReach', WHERE WHAT IT READS IS OF BULK AT MOST 1048576: true; the input reads as it did. -/
def objectReachUptoRow : OpenClaim := { program := "ytpfbcjlgbdbcpaa", sum := "6130718febc29a2eade64e1720b086c2c9ad3d78618b6accbfbb7b3665983db5", func := "replevin/replevinlaw23.ObjectReach", spec := "objectReach", unfollowed := true, recurses := true, apart := false, narrowed := true }
def ObjectReachUptoSaid : Prop := objectReachUptoRow.holds Try.pinned (OpenSpec.upto objectReachSpec)

end Rows
end Go.Proofs.Ytpfbcjlgbdbcpaa
