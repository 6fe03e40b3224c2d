/-
  No cell of these rows narrows 'for every input' (looked for: loops, veiled, ifaces, maps, wideKeys, modest, calm, conditions, laid).
  DERIVED. THE GIVEN ROWS OF THIS SEAT. 18 by the template 'for every input the law returns true; each argument reads behind the call as it read before'; 0 by the template 'total and deterministic' (their statements: YthfcbjfeepindaaTotals.lean).
  GIVEN WITH THE SEED: the statements are not yours to turn. If you find one false, say at which input.
  Laid BY PROGRAM, IN A SANDBOX (cutbox-rows.mjs): the forced cells as the released guide's own fill.sh prints them over the translation 9546d17a9bc1dd8c… (all of the seat's roots in one cut). By AI agents, Wed Nov 11 2026. No macro, syntax, notation, axiom, sorry.
-/
import Derived.Test.YthfcbjfeepindaaChecked
import GoSem.Claim
import GoSem.ClaimJoined
import GoSem.ClaimMapViews
import Derived.JoinedTies
import Derived.KernelRfl
namespace Go.Proofs.Ythfcbjfeepindaa
/- THE CELL 'sum', in the pinned program and in every row, IS THE sha256 OF THE DUMP (.gsa) THAT YthfcbjfeepindaaProg.lean LOADS. Nothing in Lean hashes anything: it is a label: what it is worth is what the hold of that sum in a sandbox is worth. -/
noncomputable def Try.pinned : Pinned := { name := "ythfcbjfeepindaa", sum := "9546d17a9bc1dd8cecd8fb01c52516f741360b522dfcdb89191c6d30cb1d2eb2", checked := Try.checked }
namespace Rows
def none {H : Type} : Left H := { results := [], args := [] }

/-- 'replevinlaw31.NumberingTells': WHATEVER THE INPUT: true; the input reads as it did. -/
def numberingTellsSpec : ChangeSpec := { name := "numberingTells", fn := fun _ => fun
  | [d1, d2, d3] => { results := [.lit (.bool true)], args := [d1, d2, d3] }
  | _ => none }
def numberingTellsRow : OpenClaim := { program := "ythfcbjfeepindaa", sum := "9546d17a9bc1dd8cecd8fb01c52516f741360b522dfcdb89191c6d30cb1d2eb2", func := "replevin/replevinlaw31.NumberingTells", spec := "numberingTells", unfollowed := true, recurses := true, apart := false }
def NumberingTellsSaid : Prop := numberingTellsRow.holds Try.pinned (OpenSpec.ofChange numberingTellsSpec)

/-- ITS FALSE NEIGHBOUR: 'it returns false'. Refute it at one input. -/
def numberingTellsWrong : ChangeSpec := { name := "numberingTells", fn := fun _ => fun
  | [d1, d2, d3] => { results := [.lit (.bool false)], args := [d1, d2, d3] }
  | _ => none }
def NumberingTellsWrongFalsely : Prop := numberingTellsRow.holds Try.pinned (OpenSpec.ofChange numberingTellsWrong)

/-- 'replevinlaw31.NumberingBack': WHATEVER THE INPUT: true; the input reads as it did. -/
def numberingBackSpec : ChangeSpec := { name := "numberingBack", fn := fun _ => fun
  | [d1, d2, d3] => { results := [.lit (.bool true)], args := [d1, d2, d3] }
  | _ => none }
def numberingBackRow : OpenClaim := { program := "ythfcbjfeepindaa", sum := "9546d17a9bc1dd8cecd8fb01c52516f741360b522dfcdb89191c6d30cb1d2eb2", func := "replevin/replevinlaw31.NumberingBack", spec := "numberingBack", unfollowed := true, recurses := true, apart := false }
def NumberingBackSaid : Prop := numberingBackRow.holds Try.pinned (OpenSpec.ofChange numberingBackSpec)

/-- ITS FALSE NEIGHBOUR: 'it returns false'. Refute it at one input. -/
def numberingBackWrong : ChangeSpec := { name := "numberingBack", fn := fun _ => fun
  | [d1, d2, d3] => { results := [.lit (.bool false)], args := [d1, d2, d3] }
  | _ => none }
def NumberingBackWrongFalsely : Prop := numberingBackRow.holds Try.pinned (OpenSpec.ofChange numberingBackWrong)

/-- 'replevinlaw31.NumberingAll': WHATEVER THE INPUT: true; the input reads as it did. -/
def numberingAllSpec : ChangeSpec := { name := "numberingAll", fn := fun _ => fun
  | [d1, d2, d3] => { results := [.lit (.bool true)], args := [d1, d2, d3] }
  | _ => none }
def numberingAllRow : OpenClaim := { program := "ythfcbjfeepindaa", sum := "9546d17a9bc1dd8cecd8fb01c52516f741360b522dfcdb89191c6d30cb1d2eb2", func := "replevin/replevinlaw31.NumberingAll", spec := "numberingAll", unfollowed := true, recurses := true, apart := false }
def NumberingAllSaid : Prop := numberingAllRow.holds Try.pinned (OpenSpec.ofChange numberingAllSpec)

/-- ITS FALSE NEIGHBOUR: 'it returns false'. Refute it at one input. -/
def numberingAllWrong : ChangeSpec := { name := "numberingAll", fn := fun _ => fun
  | [d1, d2, d3] => { results := [.lit (.bool false)], args := [d1, d2, d3] }
  | _ => none }
def NumberingAllWrongFalsely : Prop := numberingAllRow.holds Try.pinned (OpenSpec.ofChange numberingAllWrong)

/-- 'replevinlaw32.PlacesTells': WHATEVER THE INPUT: true; the input reads as it did. -/
def placesTellsSpec : ChangeSpec := { name := "placesTells", fn := fun _ => fun
  | [d1, d2] => { results := [.lit (.bool true)], args := [d1, d2] }
  | _ => none }
def placesTellsRow : OpenClaim := { program := "ythfcbjfeepindaa", sum := "9546d17a9bc1dd8cecd8fb01c52516f741360b522dfcdb89191c6d30cb1d2eb2", func := "replevin/replevinlaw32.PlacesTells", spec := "placesTells", unfollowed := true, recurses := true, apart := false }
def PlacesTellsSaid : Prop := placesTellsRow.holds Try.pinned (OpenSpec.ofChange placesTellsSpec)

/-- ITS FALSE NEIGHBOUR: 'it returns false'. Refute it at one input. -/
def placesTellsWrong : ChangeSpec := { name := "placesTells", fn := fun _ => fun
  | [d1, d2] => { results := [.lit (.bool false)], args := [d1, d2] }
  | _ => none }
def PlacesTellsWrongFalsely : Prop := placesTellsRow.holds Try.pinned (OpenSpec.ofChange placesTellsWrong)

/-- 'replevinlaw32.PlacesReads': WHATEVER THE INPUT: true; the input reads as it did. -/
def placesReadsSpec : ChangeSpec := { name := "placesReads", fn := fun _ => fun
  | [d1, d2, d3] => { results := [.lit (.bool true)], args := [d1, d2, d3] }
  | _ => none }
def placesReadsRow : OpenClaim := { program := "ythfcbjfeepindaa", sum := "9546d17a9bc1dd8cecd8fb01c52516f741360b522dfcdb89191c6d30cb1d2eb2", func := "replevin/replevinlaw32.PlacesReads", spec := "placesReads", unfollowed := true, recurses := true, apart := false }
def PlacesReadsSaid : Prop := placesReadsRow.holds Try.pinned (OpenSpec.ofChange placesReadsSpec)

/-- ITS FALSE NEIGHBOUR: 'it returns false'. Refute it at one input. -/
def placesReadsWrong : ChangeSpec := { name := "placesReads", fn := fun _ => fun
  | [d1, d2, d3] => { results := [.lit (.bool false)], args := [d1, d2, d3] }
  | _ => none }
def PlacesReadsWrongFalsely : Prop := placesReadsRow.holds Try.pinned (OpenSpec.ofChange placesReadsWrong)

/-- 'replevinlaw32.PlacesOrders': WHATEVER THE INPUT: true; the input reads as it did. -/
def placesOrdersSpec : ChangeSpec := { name := "placesOrders", fn := fun _ => fun
  | [d1, d2] => { results := [.lit (.bool true)], args := [d1, d2] }
  | _ => none }
def placesOrdersRow : OpenClaim := { program := "ythfcbjfeepindaa", sum := "9546d17a9bc1dd8cecd8fb01c52516f741360b522dfcdb89191c6d30cb1d2eb2", func := "replevin/replevinlaw32.PlacesOrders", spec := "placesOrders", unfollowed := true, recurses := true, apart := false }
def PlacesOrdersSaid : Prop := placesOrdersRow.holds Try.pinned (OpenSpec.ofChange placesOrdersSpec)

/-- ITS FALSE NEIGHBOUR: 'it returns false'. Refute it at one input. -/
def placesOrdersWrong : ChangeSpec := { name := "placesOrders", fn := fun _ => fun
  | [d1, d2] => { results := [.lit (.bool false)], args := [d1, d2] }
  | _ => none }
def PlacesOrdersWrongFalsely : Prop := placesOrdersRow.holds Try.pinned (OpenSpec.ofChange placesOrdersWrong)

/-- 'replevinlaw32.PlacesForm': WHATEVER THE INPUT: true; the input reads as it did. -/
def placesFormSpec : ChangeSpec := { name := "placesForm", fn := fun _ => fun
  | [d1, d2] => { results := [.lit (.bool true)], args := [d1, d2] }
  | _ => none }
def placesFormRow : OpenClaim := { program := "ythfcbjfeepindaa", sum := "9546d17a9bc1dd8cecd8fb01c52516f741360b522dfcdb89191c6d30cb1d2eb2", func := "replevin/replevinlaw32.PlacesForm", spec := "placesForm", unfollowed := true, recurses := true, apart := false }
def PlacesFormSaid : Prop := placesFormRow.holds Try.pinned (OpenSpec.ofChange placesFormSpec)

/-- ITS FALSE NEIGHBOUR: 'it returns false'. Refute it at one input. -/
def placesFormWrong : ChangeSpec := { name := "placesForm", fn := fun _ => fun
  | [d1, d2] => { results := [.lit (.bool false)], args := [d1, d2] }
  | _ => none }
def PlacesFormWrongFalsely : Prop := placesFormRow.holds Try.pinned (OpenSpec.ofChange placesFormWrong)

/-- 'replevinlaw33.TimesTells': WHATEVER THE INPUT: true; the input reads as it did. -/
def timesTellsSpec : ChangeSpec := { name := "timesTells", fn := fun _ => fun
  | [d1, d2, d3] => { results := [.lit (.bool true)], args := [d1, d2, d3] }
  | _ => none }
def timesTellsRow : OpenClaim := { program := "ythfcbjfeepindaa", sum := "9546d17a9bc1dd8cecd8fb01c52516f741360b522dfcdb89191c6d30cb1d2eb2", func := "replevin/replevinlaw33.TimesTells", spec := "timesTells", unfollowed := true, recurses := true, apart := false }
def TimesTellsSaid : Prop := timesTellsRow.holds Try.pinned (OpenSpec.ofChange timesTellsSpec)

/-- ITS FALSE NEIGHBOUR: 'it returns false'. Refute it at one input. -/
def timesTellsWrong : ChangeSpec := { name := "timesTells", fn := fun _ => fun
  | [d1, d2, d3] => { results := [.lit (.bool false)], args := [d1, d2, d3] }
  | _ => none }
def TimesTellsWrongFalsely : Prop := timesTellsRow.holds Try.pinned (OpenSpec.ofChange timesTellsWrong)

/-- 'replevinlaw33.TimesOrders': WHATEVER THE INPUT: true; the input reads as it did. -/
def timesOrdersSpec : ChangeSpec := { name := "timesOrders", fn := fun _ => fun
  | [d1, d2, d3] => { results := [.lit (.bool true)], args := [d1, d2, d3] }
  | _ => none }
def timesOrdersRow : OpenClaim := { program := "ythfcbjfeepindaa", sum := "9546d17a9bc1dd8cecd8fb01c52516f741360b522dfcdb89191c6d30cb1d2eb2", func := "replevin/replevinlaw33.TimesOrders", spec := "timesOrders", unfollowed := true, recurses := true, apart := false }
def TimesOrdersSaid : Prop := timesOrdersRow.holds Try.pinned (OpenSpec.ofChange timesOrdersSpec)

/-- ITS FALSE NEIGHBOUR: 'it returns false'. Refute it at one input. -/
def timesOrdersWrong : ChangeSpec := { name := "timesOrders", fn := fun _ => fun
  | [d1, d2, d3] => { results := [.lit (.bool false)], args := [d1, d2, d3] }
  | _ => none }
def TimesOrdersWrongFalsely : Prop := timesOrdersRow.holds Try.pinned (OpenSpec.ofChange timesOrdersWrong)

/-- 'replevinlaw33.TimesCounts': WHATEVER THE INPUT: true; the input reads as it did. -/
def timesCountsSpec : ChangeSpec := { name := "timesCounts", fn := fun _ => fun
  | [d1, d2] => { results := [.lit (.bool true)], args := [d1, d2] }
  | _ => none }
def timesCountsRow : OpenClaim := { program := "ythfcbjfeepindaa", sum := "9546d17a9bc1dd8cecd8fb01c52516f741360b522dfcdb89191c6d30cb1d2eb2", func := "replevin/replevinlaw33.TimesCounts", spec := "timesCounts", unfollowed := true, recurses := true, apart := false }
def TimesCountsSaid : Prop := timesCountsRow.holds Try.pinned (OpenSpec.ofChange timesCountsSpec)

/-- ITS FALSE NEIGHBOUR: 'it returns false'. Refute it at one input. -/
def timesCountsWrong : ChangeSpec := { name := "timesCounts", fn := fun _ => fun
  | [d1, d2] => { results := [.lit (.bool false)], args := [d1, d2] }
  | _ => none }
def TimesCountsWrongFalsely : Prop := timesCountsRow.holds Try.pinned (OpenSpec.ofChange timesCountsWrong)

/-- 'replevinlaw33.TimesSorts': WHATEVER THE INPUT: true; the input reads as it did. -/
def timesSortsSpec : ChangeSpec := { name := "timesSorts", fn := fun _ => fun
  | [d] => { results := [.lit (.bool true)], args := [d] }
  | _ => none }
def timesSortsRow : OpenClaim := { program := "ythfcbjfeepindaa", sum := "9546d17a9bc1dd8cecd8fb01c52516f741360b522dfcdb89191c6d30cb1d2eb2", func := "replevin/replevinlaw33.TimesSorts", spec := "timesSorts", unfollowed := true, recurses := true, apart := false }
def TimesSortsSaid : Prop := timesSortsRow.holds Try.pinned (OpenSpec.ofChange timesSortsSpec)

/-- ITS FALSE NEIGHBOUR: 'it returns false'. Refute it at one input. -/
def timesSortsWrong : ChangeSpec := { name := "timesSorts", fn := fun _ => fun
  | [d] => { results := [.lit (.bool false)], args := [d] }
  | _ => none }
def TimesSortsWrongFalsely : Prop := timesSortsRow.holds Try.pinned (OpenSpec.ofChange timesSortsWrong)

/-- 'replevinlaw34.StatesTells': WHATEVER THE INPUT: true; the input reads as it did. -/
def statesTellsSpec : ChangeSpec := { name := "statesTells", fn := fun _ => fun
  | [d1, d2, d3] => { results := [.lit (.bool true)], args := [d1, d2, d3] }
  | _ => none }
def statesTellsRow : OpenClaim := { program := "ythfcbjfeepindaa", sum := "9546d17a9bc1dd8cecd8fb01c52516f741360b522dfcdb89191c6d30cb1d2eb2", func := "replevin/replevinlaw34.StatesTells", spec := "statesTells", unfollowed := true, recurses := true, apart := false }
def StatesTellsSaid : Prop := statesTellsRow.holds Try.pinned (OpenSpec.ofChange statesTellsSpec)

/-- ITS FALSE NEIGHBOUR: 'it returns false'. Refute it at one input. -/
def statesTellsWrong : ChangeSpec := { name := "statesTells", fn := fun _ => fun
  | [d1, d2, d3] => { results := [.lit (.bool false)], args := [d1, d2, d3] }
  | _ => none }
def StatesTellsWrongFalsely : Prop := statesTellsRow.holds Try.pinned (OpenSpec.ofChange statesTellsWrong)

/-- 'replevinlaw34.StatesOne': WHATEVER THE INPUT: true; the input reads as it did. -/
def statesOneSpec : ChangeSpec := { name := "statesOne", fn := fun _ => fun
  | [d1, d2, d3] => { results := [.lit (.bool true)], args := [d1, d2, d3] }
  | _ => none }
def statesOneRow : OpenClaim := { program := "ythfcbjfeepindaa", sum := "9546d17a9bc1dd8cecd8fb01c52516f741360b522dfcdb89191c6d30cb1d2eb2", func := "replevin/replevinlaw34.StatesOne", spec := "statesOne", unfollowed := true, recurses := true, apart := false }
def StatesOneSaid : Prop := statesOneRow.holds Try.pinned (OpenSpec.ofChange statesOneSpec)

/-- ITS FALSE NEIGHBOUR: 'it returns false'. Refute it at one input. -/
def statesOneWrong : ChangeSpec := { name := "statesOne", fn := fun _ => fun
  | [d1, d2, d3] => { results := [.lit (.bool false)], args := [d1, d2, d3] }
  | _ => none }
def StatesOneWrongFalsely : Prop := statesOneRow.holds Try.pinned (OpenSpec.ofChange statesOneWrong)

/-- 'replevinlaw34.StatesCounts': WHATEVER THE INPUT: true; the input reads as it did. -/
def statesCountsSpec : ChangeSpec := { name := "statesCounts", fn := fun _ => fun
  | [d1, d2] => { results := [.lit (.bool true)], args := [d1, d2] }
  | _ => none }
def statesCountsRow : OpenClaim := { program := "ythfcbjfeepindaa", sum := "9546d17a9bc1dd8cecd8fb01c52516f741360b522dfcdb89191c6d30cb1d2eb2", func := "replevin/replevinlaw34.StatesCounts", spec := "statesCounts", unfollowed := true, recurses := true, apart := false }
def StatesCountsSaid : Prop := statesCountsRow.holds Try.pinned (OpenSpec.ofChange statesCountsSpec)

/-- ITS FALSE NEIGHBOUR: 'it returns false'. Refute it at one input. -/
def statesCountsWrong : ChangeSpec := { name := "statesCounts", fn := fun _ => fun
  | [d1, d2] => { results := [.lit (.bool false)], args := [d1, d2] }
  | _ => none }
def StatesCountsWrongFalsely : Prop := statesCountsRow.holds Try.pinned (OpenSpec.ofChange statesCountsWrong)

/-- 'replevinlaw36.CountTells': WHATEVER THE INPUT: true; the input reads as it did. -/
def countTellsSpec : ChangeSpec := { name := "countTells", fn := fun _ => fun
  | [d1, d2, d3] => { results := [.lit (.bool true)], args := [d1, d2, d3] }
  | _ => none }
def countTellsRow : OpenClaim := { program := "ythfcbjfeepindaa", sum := "9546d17a9bc1dd8cecd8fb01c52516f741360b522dfcdb89191c6d30cb1d2eb2", func := "replevin/replevinlaw36.CountTells", spec := "countTells", unfollowed := true, recurses := true, apart := false }
def CountTellsSaid : Prop := countTellsRow.holds Try.pinned (OpenSpec.ofChange countTellsSpec)

/-- ITS FALSE NEIGHBOUR: 'it returns false'. Refute it at one input. -/
def countTellsWrong : ChangeSpec := { name := "countTells", fn := fun _ => fun
  | [d1, d2, d3] => { results := [.lit (.bool false)], args := [d1, d2, d3] }
  | _ => none }
def CountTellsWrongFalsely : Prop := countTellsRow.holds Try.pinned (OpenSpec.ofChange countTellsWrong)

/-- 'replevinlaw36.CountAll': WHATEVER THE INPUT: true; the input reads as it did. -/
def countAllSpec : ChangeSpec := { name := "countAll", fn := fun _ => fun
  | [d1, d2] => { results := [.lit (.bool true)], args := [d1, d2] }
  | _ => none }
def countAllRow : OpenClaim := { program := "ythfcbjfeepindaa", sum := "9546d17a9bc1dd8cecd8fb01c52516f741360b522dfcdb89191c6d30cb1d2eb2", func := "replevin/replevinlaw36.CountAll", spec := "countAll", unfollowed := true, recurses := true, apart := false }
def CountAllSaid : Prop := countAllRow.holds Try.pinned (OpenSpec.ofChange countAllSpec)

/-- ITS FALSE NEIGHBOUR: 'it returns false'. Refute it at one input. -/
def countAllWrong : ChangeSpec := { name := "countAll", fn := fun _ => fun
  | [d1, d2] => { results := [.lit (.bool false)], args := [d1, d2] }
  | _ => none }
def CountAllWrongFalsely : Prop := countAllRow.holds Try.pinned (OpenSpec.ofChange countAllWrong)

/-- 'replevinlaw36.CountClauses': WHATEVER THE INPUT: true; the input reads as it did. -/
def countClausesSpec : ChangeSpec := { name := "countClauses", fn := fun _ => fun
  | [d1, d2] => { results := [.lit (.bool true)], args := [d1, d2] }
  | _ => none }
def countClausesRow : OpenClaim := { program := "ythfcbjfeepindaa", sum := "9546d17a9bc1dd8cecd8fb01c52516f741360b522dfcdb89191c6d30cb1d2eb2", func := "replevin/replevinlaw36.CountClauses", spec := "countClauses", unfollowed := true, recurses := true, apart := false }
def CountClausesSaid : Prop := countClausesRow.holds Try.pinned (OpenSpec.ofChange countClausesSpec)

/-- ITS FALSE NEIGHBOUR: 'it returns false'. Refute it at one input. -/
def countClausesWrong : ChangeSpec := { name := "countClauses", fn := fun _ => fun
  | [d1, d2] => { results := [.lit (.bool false)], args := [d1, d2] }
  | _ => none }
def CountClausesWrongFalsely : Prop := countClausesRow.holds Try.pinned (OpenSpec.ofChange countClausesWrong)

/-- 'replevinlaw36.CountFits': WHATEVER THE INPUT: true; the input reads as it did. -/
def countFitsSpec : ChangeSpec := { name := "countFits", fn := fun _ => fun
  | [d1, d2] => { results := [.lit (.bool true)], args := [d1, d2] }
  | _ => none }
def countFitsRow : OpenClaim := { program := "ythfcbjfeepindaa", sum := "9546d17a9bc1dd8cecd8fb01c52516f741360b522dfcdb89191c6d30cb1d2eb2", func := "replevin/replevinlaw36.CountFits", spec := "countFits", unfollowed := true, recurses := true, apart := false }
def CountFitsSaid : Prop := countFitsRow.holds Try.pinned (OpenSpec.ofChange countFitsSpec)

/-- ITS FALSE NEIGHBOUR: 'it returns false'. Refute it at one input. -/
def countFitsWrong : ChangeSpec := { name := "countFits", fn := fun _ => fun
  | [d1, d2] => { results := [.lit (.bool false)], args := [d1, d2] }
  | _ => none }
def CountFitsWrongFalsely : Prop := countFitsRow.holds Try.pinned (OpenSpec.ofChange countFitsWrong)

/- THE SECOND FORM. 'bulk': how many values and letters a reading holds, each counted each time it is reached (what is shared counts as often as it is met; a slice's spare places count too). A statement '..UptoSaid' is the law's where the arguments, and the package variables that the reading takes, are together of bulk at most 1048576: NARROWER than '..Said'. Prove '..Said' where nothing that the law and all that it calls make is longer than what came in: it says more and counts as full. Else prove '..UptoSaid'. A law counts once. -/
mutual
def uptoBulk {H : Type} : DataW H → Nat
  | .lit (.string bytes) => bytes.length + 1
  | .lit _ => 1
  | .nil => 1
  | .ptr d => uptoBulk d + 1
  | .slice elems spare => uptoBulkAll elems + uptoBulkAll spare + 1
  | .agg parts => uptoBulkAll parts + 1
  | .iface _ d => uptoBulk d + 1
  | .map entries => uptoBulkEntries entries + 1
  | .held _ => 1
def uptoBulkAll {H : Type} : List (DataW H) → Nat
  | [] => 0
  | d :: r => uptoBulk d + uptoBulkAll r
def uptoBulkEntries {H : Type} : List (Lit × DataW H) → Nat
  | [] => 0
  | x :: r => uptoBulkEntry x + uptoBulkEntries r
def uptoBulkEntry {H : Type} : Lit × DataW H → Nat
  | (.string bytes, d) => bytes.length + uptoBulk d + 1
  | (_, d) => uptoBulk d + 1
 end
def uptoSmall : (H : Type) → List (DataW H) → Bool := fun _ ds => decide (uptoBulkAll ds ≤ 1048576)
def OpenSpec.upto (s : _root_.Go.ChangeSpec) : _root_.Go.OpenSpec := { _root_.Go.OpenSpec.ofChange s with cond := some uptoSmall }

/-- 'replevinlaw31.NumberingTells', WHERE WHAT IT READS IS OF BULK AT MOST 1048576: true; the input reads as it did. -/
def numberingTellsUptoRow : OpenClaim := { program := "ythfcbjfeepindaa", sum := "9546d17a9bc1dd8cecd8fb01c52516f741360b522dfcdb89191c6d30cb1d2eb2", func := "replevin/replevinlaw31.NumberingTells", spec := "numberingTells", unfollowed := true, recurses := true, apart := false, narrowed := true }
def NumberingTellsUptoSaid : Prop := numberingTellsUptoRow.holds Try.pinned (OpenSpec.upto numberingTellsSpec)

/-- 'replevinlaw31.NumberingBack', WHERE WHAT IT READS IS OF BULK AT MOST 1048576: true; the input reads as it did. -/
def numberingBackUptoRow : OpenClaim := { program := "ythfcbjfeepindaa", sum := "9546d17a9bc1dd8cecd8fb01c52516f741360b522dfcdb89191c6d30cb1d2eb2", func := "replevin/replevinlaw31.NumberingBack", spec := "numberingBack", unfollowed := true, recurses := true, apart := false, narrowed := true }
def NumberingBackUptoSaid : Prop := numberingBackUptoRow.holds Try.pinned (OpenSpec.upto numberingBackSpec)

/-- 'replevinlaw31.NumberingAll', WHERE WHAT IT READS IS OF BULK AT MOST 1048576: true; the input reads as it did. -/
def numberingAllUptoRow : OpenClaim := { program := "ythfcbjfeepindaa", sum := "9546d17a9bc1dd8cecd8fb01c52516f741360b522dfcdb89191c6d30cb1d2eb2", func := "replevin/replevinlaw31.NumberingAll", spec := "numberingAll", unfollowed := true, recurses := true, apart := false, narrowed := true }
def NumberingAllUptoSaid : Prop := numberingAllUptoRow.holds Try.pinned (OpenSpec.upto numberingAllSpec)

/-- 'replevinlaw32.PlacesTells', WHERE WHAT IT READS IS OF BULK AT MOST 1048576: true; the input reads as it did. -/
def placesTellsUptoRow : OpenClaim := { program := "ythfcbjfeepindaa", sum := "9546d17a9bc1dd8cecd8fb01c52516f741360b522dfcdb89191c6d30cb1d2eb2", func := "replevin/replevinlaw32.PlacesTells", spec := "placesTells", unfollowed := true, recurses := true, apart := false, narrowed := true }
def PlacesTellsUptoSaid : Prop := placesTellsUptoRow.holds Try.pinned (OpenSpec.upto placesTellsSpec)

/-- 'replevinlaw32.PlacesReads', WHERE WHAT IT READS IS OF BULK AT MOST 1048576: true; the input reads as it did. -/
def placesReadsUptoRow : OpenClaim := { program := "ythfcbjfeepindaa", sum := "9546d17a9bc1dd8cecd8fb01c52516f741360b522dfcdb89191c6d30cb1d2eb2", func := "replevin/replevinlaw32.PlacesReads", spec := "placesReads", unfollowed := true, recurses := true, apart := false, narrowed := true }
def PlacesReadsUptoSaid : Prop := placesReadsUptoRow.holds Try.pinned (OpenSpec.upto placesReadsSpec)

/-- 'replevinlaw32.PlacesOrders', WHERE WHAT IT READS IS OF BULK AT MOST 1048576: true; the input reads as it did. -/
def placesOrdersUptoRow : OpenClaim := { program := "ythfcbjfeepindaa", sum := "9546d17a9bc1dd8cecd8fb01c52516f741360b522dfcdb89191c6d30cb1d2eb2", func := "replevin/replevinlaw32.PlacesOrders", spec := "placesOrders", unfollowed := true, recurses := true, apart := false, narrowed := true }
def PlacesOrdersUptoSaid : Prop := placesOrdersUptoRow.holds Try.pinned (OpenSpec.upto placesOrdersSpec)

/-- 'replevinlaw32.PlacesForm', WHERE WHAT IT READS IS OF BULK AT MOST 1048576: true; the input reads as it did. -/
def placesFormUptoRow : OpenClaim := { program := "ythfcbjfeepindaa", sum := "9546d17a9bc1dd8cecd8fb01c52516f741360b522dfcdb89191c6d30cb1d2eb2", func := "replevin/replevinlaw32.PlacesForm", spec := "placesForm", unfollowed := true, recurses := true, apart := false, narrowed := true }
def PlacesFormUptoSaid : Prop := placesFormUptoRow.holds Try.pinned (OpenSpec.upto placesFormSpec)

/-- 'replevinlaw33.TimesTells', WHERE WHAT IT READS IS OF BULK AT MOST 1048576: true; the input reads as it did. -/
def timesTellsUptoRow : OpenClaim := { program := "ythfcbjfeepindaa", sum := "9546d17a9bc1dd8cecd8fb01c52516f741360b522dfcdb89191c6d30cb1d2eb2", func := "replevin/replevinlaw33.TimesTells", spec := "timesTells", unfollowed := true, recurses := true, apart := false, narrowed := true }
def TimesTellsUptoSaid : Prop := timesTellsUptoRow.holds Try.pinned (OpenSpec.upto timesTellsSpec)

/-- 'replevinlaw33.TimesOrders', WHERE WHAT IT READS IS OF BULK AT MOST 1048576: true; the input reads as it did. -/
def timesOrdersUptoRow : OpenClaim := { program := "ythfcbjfeepindaa", sum := "9546d17a9bc1dd8cecd8fb01c52516f741360b522dfcdb89191c6d30cb1d2eb2", func := "replevin/replevinlaw33.TimesOrders", spec := "timesOrders", unfollowed := true, recurses := true, apart := false, narrowed := true }
def TimesOrdersUptoSaid : Prop := timesOrdersUptoRow.holds Try.pinned (OpenSpec.upto timesOrdersSpec)

/-- 'replevinlaw33.TimesCounts', WHERE WHAT IT READS IS OF BULK AT MOST 1048576: true; the input reads as it did. -/
def timesCountsUptoRow : OpenClaim := { program := "ythfcbjfeepindaa", sum := "9546d17a9bc1dd8cecd8fb01c52516f741360b522dfcdb89191c6d30cb1d2eb2", func := "replevin/replevinlaw33.TimesCounts", spec := "timesCounts", unfollowed := true, recurses := true, apart := false, narrowed := true }
def TimesCountsUptoSaid : Prop := timesCountsUptoRow.holds Try.pinned (OpenSpec.upto timesCountsSpec)

/-- 'replevinlaw33.TimesSorts', WHERE WHAT IT READS IS OF BULK AT MOST 1048576: true; the input reads as it did. -/
def timesSortsUptoRow : OpenClaim := { program := "ythfcbjfeepindaa", sum := "9546d17a9bc1dd8cecd8fb01c52516f741360b522dfcdb89191c6d30cb1d2eb2", func := "replevin/replevinlaw33.TimesSorts", spec := "timesSorts", unfollowed := true, recurses := true, apart := false, narrowed := true }
def TimesSortsUptoSaid : Prop := timesSortsUptoRow.holds Try.pinned (OpenSpec.upto timesSortsSpec)

/-- 'replevinlaw34.StatesTells', WHERE WHAT IT READS IS OF BULK AT MOST 1048576: true; the input reads as it did. -/
def statesTellsUptoRow : OpenClaim := { program := "ythfcbjfeepindaa", sum := "9546d17a9bc1dd8cecd8fb01c52516f741360b522dfcdb89191c6d30cb1d2eb2", func := "replevin/replevinlaw34.StatesTells", spec := "statesTells", unfollowed := true, recurses := true, apart := false, narrowed := true }
def StatesTellsUptoSaid : Prop := statesTellsUptoRow.holds Try.pinned (OpenSpec.upto statesTellsSpec)

/-- 'replevinlaw34.StatesOne', WHERE WHAT IT READS IS OF BULK AT MOST 1048576: true; the input reads as it did. -/
def statesOneUptoRow : OpenClaim := { program := "ythfcbjfeepindaa", sum := "9546d17a9bc1dd8cecd8fb01c52516f741360b522dfcdb89191c6d30cb1d2eb2", func := "replevin/replevinlaw34.StatesOne", spec := "statesOne", unfollowed := true, recurses := true, apart := false, narrowed := true }
def StatesOneUptoSaid : Prop := statesOneUptoRow.holds Try.pinned (OpenSpec.upto statesOneSpec)

/-- 'replevinlaw34.StatesCounts', WHERE WHAT IT READS IS OF BULK AT MOST 1048576: true; the input reads as it did. -/
def statesCountsUptoRow : OpenClaim := { program := "ythfcbjfeepindaa", sum := "9546d17a9bc1dd8cecd8fb01c52516f741360b522dfcdb89191c6d30cb1d2eb2", func := "replevin/replevinlaw34.StatesCounts", spec := "statesCounts", unfollowed := true, recurses := true, apart := false, narrowed := true }
def StatesCountsUptoSaid : Prop := statesCountsUptoRow.holds Try.pinned (OpenSpec.upto statesCountsSpec)

/-- 'replevinlaw36.CountTells', WHERE WHAT IT READS IS OF BULK AT MOST 1048576: true; the input reads as it did. -/
def countTellsUptoRow : OpenClaim := { program := "ythfcbjfeepindaa", sum := "9546d17a9bc1dd8cecd8fb01c52516f741360b522dfcdb89191c6d30cb1d2eb2", func := "replevin/replevinlaw36.CountTells", spec := "countTells", unfollowed := true, recurses := true, apart := false, narrowed := true }
def CountTellsUptoSaid : Prop := countTellsUptoRow.holds Try.pinned (OpenSpec.upto countTellsSpec)

/-- 'replevinlaw36.CountAll', WHERE WHAT IT READS IS OF BULK AT MOST 1048576: true; the input reads as it did. -/
def countAllUptoRow : OpenClaim := { program := "ythfcbjfeepindaa", sum := "9546d17a9bc1dd8cecd8fb01c52516f741360b522dfcdb89191c6d30cb1d2eb2", func := "replevin/replevinlaw36.CountAll", spec := "countAll", unfollowed := true, recurses := true, apart := false, narrowed := true }
def CountAllUptoSaid : Prop := countAllUptoRow.holds Try.pinned (OpenSpec.upto countAllSpec)

/-- 'replevinlaw36.CountClauses', WHERE WHAT IT READS IS OF BULK AT MOST 1048576: true; the input reads as it did. -/
def countClausesUptoRow : OpenClaim := { program := "ythfcbjfeepindaa", sum := "9546d17a9bc1dd8cecd8fb01c52516f741360b522dfcdb89191c6d30cb1d2eb2", func := "replevin/replevinlaw36.CountClauses", spec := "countClauses", unfollowed := true, recurses := true, apart := false, narrowed := true }
def CountClausesUptoSaid : Prop := countClausesUptoRow.holds Try.pinned (OpenSpec.upto countClausesSpec)

/-- 'replevinlaw36.CountFits', WHERE WHAT IT READS IS OF BULK AT MOST 1048576: true; the input reads as it did. -/
def countFitsUptoRow : OpenClaim := { program := "ythfcbjfeepindaa", sum := "9546d17a9bc1dd8cecd8fb01c52516f741360b522dfcdb89191c6d30cb1d2eb2", func := "replevin/replevinlaw36.CountFits", spec := "countFits", unfollowed := true, recurses := true, apart := false, narrowed := true }
def CountFitsUptoSaid : Prop := countFitsUptoRow.holds Try.pinned (OpenSpec.upto countFitsSpec)

end Rows
end Go.Proofs.Ythfcbjfeepindaa
