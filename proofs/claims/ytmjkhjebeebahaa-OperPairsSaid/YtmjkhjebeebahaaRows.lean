/-
  No cell of these rows narrows 'for every input' (looked for: loops, veiled, ifaces, maps, wideKeys, modest, calm, conditions, laid).
  DERIVED. THE GIVEN ROWS OF THIS SEAT. 4 by the template 'for every input the law returns true; each argument reads behind the call as it read before'; 0 by the template 'total and deterministic' (their statements: YtmjkhjebeebahaaTotals.lean).
  GIVEN WITH THE SEED: the statements are not yours to turn. If you find one false, say at which input.
  Laid BY PROGRAM, IN A SANDBOX (cutbox-rows.mjs): the forced cells as the released guide's own fill.sh prints them over the translation 4e9c7b8ee37d21e1… (all of the seat's roots in one cut). By AI agents, Wed Nov 11 2026. No macro, syntax, notation, axiom, sorry.
-/
import Derived.Test.YtmjkhjebeebahaaChecked
import GoSem.Claim
import GoSem.ClaimJoined
import GoSem.ClaimMapViews
import Derived.JoinedTies
import Derived.KernelRfl
namespace Go.Proofs.Ytmjkhjebeebahaa
/- THE CELL 'sum', in the pinned program and in every row, IS THE sha256 OF THE DUMP (.gsa) THAT YtmjkhjebeebahaaProg.lean LOADS. Nothing in Lean hashes anything: it is a label: what it is worth is what the hold of that sum in a sandbox is worth. -/
noncomputable def Try.pinned : Pinned := { name := "ytmjkhjebeebahaa", sum := "4e9c7b8ee37d21e1e31366022a35bdfa5459310dbd3f0f63058d9e910d0a86a8", checked := Try.checked }
namespace Rows
def none {H : Type} : Left H := { results := [], args := [] }

/-- 'replevinlaw27.OperTells': WHATEVER THE INPUT: true; the input reads as it did. -/
def operTellsSpec : ChangeSpec := { name := "operTells", fn := fun _ => fun
  | [d1, d2, d3] => { results := [.lit (.bool true)], args := [d1, d2, d3] }
  | _ => none }
def operTellsRow : OpenClaim := { program := "ytmjkhjebeebahaa", sum := "4e9c7b8ee37d21e1e31366022a35bdfa5459310dbd3f0f63058d9e910d0a86a8", func := "replevin/replevinlaw27.OperTells", spec := "operTells", unfollowed := true, recurses := true, apart := false }
def OperTellsSaid : Prop := operTellsRow.holds Try.pinned (OpenSpec.ofChange operTellsSpec)

/-- ITS FALSE NEIGHBOUR: 'it returns false'. Refute it at one input. -/
def operTellsWrong : ChangeSpec := { name := "operTells", fn := fun _ => fun
  | [d1, d2, d3] => { results := [.lit (.bool false)], args := [d1, d2, d3] }
  | _ => none }
def OperTellsWrongFalsely : Prop := operTellsRow.holds Try.pinned (OpenSpec.ofChange operTellsWrong)

/-- 'replevinlaw27.OperAsks': WHATEVER THE INPUT: true; the input reads as it did. -/
def operAsksSpec : ChangeSpec := { name := "operAsks", fn := fun _ => fun
  | [d1, d2] => { results := [.lit (.bool true)], args := [d1, d2] }
  | _ => none }
def operAsksRow : OpenClaim := { program := "ytmjkhjebeebahaa", sum := "4e9c7b8ee37d21e1e31366022a35bdfa5459310dbd3f0f63058d9e910d0a86a8", func := "replevin/replevinlaw27.OperAsks", spec := "operAsks", unfollowed := true, recurses := true, apart := false }
def OperAsksSaid : Prop := operAsksRow.holds Try.pinned (OpenSpec.ofChange operAsksSpec)

/-- ITS FALSE NEIGHBOUR: 'it returns false'. Refute it at one input. -/
def operAsksWrong : ChangeSpec := { name := "operAsks", fn := fun _ => fun
  | [d1, d2] => { results := [.lit (.bool false)], args := [d1, d2] }
  | _ => none }
def OperAsksWrongFalsely : Prop := operAsksRow.holds Try.pinned (OpenSpec.ofChange operAsksWrong)

/-- 'replevinlaw27.OperPairs': WHATEVER THE INPUT: true; the input reads as it did. -/
def operPairsSpec : ChangeSpec := { name := "operPairs", fn := fun _ => fun
  | [d] => { results := [.lit (.bool true)], args := [d] }
  | _ => none }
def operPairsRow : OpenClaim := { program := "ytmjkhjebeebahaa", sum := "4e9c7b8ee37d21e1e31366022a35bdfa5459310dbd3f0f63058d9e910d0a86a8", func := "replevin/replevinlaw27.OperPairs", spec := "operPairs", unfollowed := true, recurses := true, apart := false }
def OperPairsSaid : Prop := operPairsRow.holds Try.pinned (OpenSpec.ofChange operPairsSpec)

/-- ITS FALSE NEIGHBOUR: 'it returns false'. Refute it at one input. -/
def operPairsWrong : ChangeSpec := { name := "operPairs", fn := fun _ => fun
  | [d] => { results := [.lit (.bool false)], args := [d] }
  | _ => none }
def OperPairsWrongFalsely : Prop := operPairsRow.holds Try.pinned (OpenSpec.ofChange operPairsWrong)

/-- 'replevinlaw27.OperOrder': WHATEVER THE INPUT: true; the input reads as it did. -/
def operOrderSpec : ChangeSpec := { name := "operOrder", fn := fun _ => fun
  | [d1, d2] => { results := [.lit (.bool true)], args := [d1, d2] }
  | _ => none }
def operOrderRow : OpenClaim := { program := "ytmjkhjebeebahaa", sum := "4e9c7b8ee37d21e1e31366022a35bdfa5459310dbd3f0f63058d9e910d0a86a8", func := "replevin/replevinlaw27.OperOrder", spec := "operOrder", unfollowed := true, recurses := true, apart := false }
def OperOrderSaid : Prop := operOrderRow.holds Try.pinned (OpenSpec.ofChange operOrderSpec)

/-- ITS FALSE NEIGHBOUR: 'it returns false'. Refute it at one input. -/
def operOrderWrong : ChangeSpec := { name := "operOrder", fn := fun _ => fun
  | [d1, d2] => { results := [.lit (.bool false)], args := [d1, d2] }
  | _ => none }
def OperOrderWrongFalsely : Prop := operOrderRow.holds Try.pinned (OpenSpec.ofChange operOrderWrong)

/- THE SECOND FORM. 'bulk': how many values and letters a reading holds, each counted each time it is reached (what is shared counts as often as it is met; a slice's spare places count too). A statement '..UptoSaid' is the law's where the arguments, and the package variables that the reading takes, are together of bulk at most 1048576: NARROWER than '..Said'. Prove '..Said' where nothing that the law and all that it calls make is longer than what came in: it says more and counts as full. Else prove '..UptoSaid'. A law counts once. -/
mutual
def uptoBulk {H : Type} : DataW H → Nat
  | .lit (.string bytes) => bytes.length + 1
  | .lit _ => 1
  | .nil => 1
  | .ptr d => uptoBulk d + 1
  | .slice elems spare => uptoBulkAll elems + uptoBulkAll spare + 1
  | .agg parts => uptoBulkAll parts + 1
  | .iface _ d => uptoBulk d + 1
  | .map entries => uptoBulkEntries entries + 1
  | .held _ => 1
def uptoBulkAll {H : Type} : List (DataW H) → Nat
  | [] => 0
  | d :: r => uptoBulk d + uptoBulkAll r
def uptoBulkEntries {H : Type} : List (Lit × DataW H) → Nat
  | [] => 0
  | x :: r => uptoBulkEntry x + uptoBulkEntries r
def uptoBulkEntry {H : Type} : Lit × DataW H → Nat
  | (.string bytes, d) => bytes.length + uptoBulk d + 1
  | (_, d) => uptoBulk d + 1
 end
def uptoSmall : (H : Type) → List (DataW H) → Bool := fun _ ds => decide (uptoBulkAll ds ≤ 1048576)
def OpenSpec.upto (s : _root_.Go.ChangeSpec) : _root_.Go.OpenSpec := { _root_.Go.OpenSpec.ofChange s with cond := some uptoSmall }

/-- 'replevinlaw27.OperTells', WHERE WHAT IT READS IS OF BULK AT MOST 1048576: true; the input reads as it did. -/
def operTellsUptoRow : OpenClaim := { program := "ytmjkhjebeebahaa", sum := "4e9c7b8ee37d21e1e31366022a35bdfa5459310dbd3f0f63058d9e910d0a86a8", func := "replevin/replevinlaw27.OperTells", spec := "operTells", unfollowed := true, recurses := true, apart := false, narrowed := true }
def OperTellsUptoSaid : Prop := operTellsUptoRow.holds Try.pinned (OpenSpec.upto operTellsSpec)

/-- 'replevinlaw27.OperAsks', WHERE WHAT IT READS IS OF BULK AT MOST 1048576: true; the input reads as it did. -/
def operAsksUptoRow : OpenClaim := { program := "ytmjkhjebeebahaa", sum := "4e9c7b8ee37d21e1e31366022a35bdfa5459310dbd3f0f63058d9e910d0a86a8", func := "replevin/replevinlaw27.OperAsks", spec := "operAsks", unfollowed := true, recurses := true, apart := false, narrowed := true }
def OperAsksUptoSaid : Prop := operAsksUptoRow.holds Try.pinned (OpenSpec.upto operAsksSpec)

/-- 'replevinlaw27.OperPairs', WHERE WHAT IT READS IS OF BULK AT MOST 1048576: true; the input reads as it did. -/
def operPairsUptoRow : OpenClaim := { program := "ytmjkhjebeebahaa", sum := "4e9c7b8ee37d21e1e31366022a35bdfa5459310dbd3f0f63058d9e910d0a86a8", func := "replevin/replevinlaw27.OperPairs", spec := "operPairs", unfollowed := true, recurses := true, apart := false, narrowed := true }
def OperPairsUptoSaid : Prop := operPairsUptoRow.holds Try.pinned (OpenSpec.upto operPairsSpec)

/-- 'replevinlaw27.OperOrder', WHERE WHAT IT READS IS OF BULK AT MOST 1048576: true; the input reads as it did. -/
def operOrderUptoRow : OpenClaim := { program := "ytmjkhjebeebahaa", sum := "4e9c7b8ee37d21e1e31366022a35bdfa5459310dbd3f0f63058d9e910d0a86a8", func := "replevin/replevinlaw27.OperOrder", spec := "operOrder", unfollowed := true, recurses := true, apart := false, narrowed := true }
def OperOrderUptoSaid : Prop := operOrderUptoRow.holds Try.pinned (OpenSpec.upto operOrderSpec)

end Rows
end Go.Proofs.Ytmjkhjebeebahaa
