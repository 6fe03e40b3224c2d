/-
  No cell of these rows narrows 'for every input' (looked for: loops, veiled, ifaces, maps, wideKeys, modest, calm, conditions, laid).
  DERIVED. THE GIVEN ROWS OF THIS SEAT. 8 by the template 'for every input the law returns true; each argument reads behind the call as it read before'; 0 by the template 'total and deterministic' (their statements: YtcanlckenjndbaaTotals.lean).
  GIVEN WITH THE SEED: the statements are not yours to turn. If you find one false, say at which input.
  Laid BY PROGRAM, IN A SANDBOX (cutbox-rows.mjs): the forced cells as the released guide's own fill.sh prints them over the translation 63c502f935eb8ef8… (all of the seat's roots in one cut). By AI agents, Wed Nov 11 2026. No macro, syntax, notation, axiom, sorry.
-/
import Derived.Test.YtcanlckenjndbaaChecked
import GoSem.Claim
import GoSem.ClaimJoined
import GoSem.ClaimMapViews
import Derived.JoinedTies
import Derived.KernelRfl
namespace Go.Proofs.Ytcanlckenjndbaa
/- THE CELL 'sum', in the pinned program and in every row, IS THE sha256 OF THE DUMP (.gsa) THAT YtcanlckenjndbaaProg.lean LOADS. Nothing in Lean hashes anything: it is a label: what it is worth is what the hold of that sum in a sandbox is worth. -/
noncomputable def Try.pinned : Pinned := { name := "ytcanlckenjndbaa", sum := "63c502f935eb8ef83cf40036a11e55c6c0d585c77ef9ecf876a176562e96c67d", checked := Try.checked }
namespace Rows
def none {H : Type} : Left H := { results := [], args := [] }

/-- 'replevinlaw08.RupTells': WHATEVER THE INPUT: true; the input reads as it did. -/
def rupTellsSpec : ChangeSpec := { name := "rupTells", fn := fun _ => fun
  | [d1, d2, d3] => { results := [.lit (.bool true)], args := [d1, d2, d3] }
  | _ => none }
def rupTellsRow : OpenClaim := { program := "ytcanlckenjndbaa", sum := "63c502f935eb8ef83cf40036a11e55c6c0d585c77ef9ecf876a176562e96c67d", func := "replevin/replevinlaw08.RupTells", spec := "rupTells", unfollowed := true, recurses := true, apart := false }
def RupTellsSaid : Prop := rupTellsRow.holds Try.pinned (OpenSpec.ofChange rupTellsSpec)

/-- ITS FALSE NEIGHBOUR: 'it returns false'. Refute it at one input. -/
def rupTellsWrong : ChangeSpec := { name := "rupTells", fn := fun _ => fun
  | [d1, d2, d3] => { results := [.lit (.bool false)], args := [d1, d2, d3] }
  | _ => none }
def RupTellsWrongFalsely : Prop := rupTellsRow.holds Try.pinned (OpenSpec.ofChange rupTellsWrong)

/-- 'replevinlaw08.RupFollows': WHATEVER THE INPUT: true; the input reads as it did. -/
def rupFollowsSpec : ChangeSpec := { name := "rupFollows", fn := fun _ => fun
  | [d1, d2, d3] => { results := [.lit (.bool true)], args := [d1, d2, d3] }
  | _ => none }
def rupFollowsRow : OpenClaim := { program := "ytcanlckenjndbaa", sum := "63c502f935eb8ef83cf40036a11e55c6c0d585c77ef9ecf876a176562e96c67d", func := "replevin/replevinlaw08.RupFollows", spec := "rupFollows", unfollowed := true, recurses := true, apart := false }
def RupFollowsSaid : Prop := rupFollowsRow.holds Try.pinned (OpenSpec.ofChange rupFollowsSpec)

/-- ITS FALSE NEIGHBOUR: 'it returns false'. Refute it at one input. -/
def rupFollowsWrong : ChangeSpec := { name := "rupFollows", fn := fun _ => fun
  | [d1, d2, d3] => { results := [.lit (.bool false)], args := [d1, d2, d3] }
  | _ => none }
def RupFollowsWrongFalsely : Prop := rupFollowsRow.holds Try.pinned (OpenSpec.ofChange rupFollowsWrong)

/-- 'replevinlaw08.RupUnits': WHATEVER THE INPUT: true; the input reads as it did. -/
def rupUnitsSpec : ChangeSpec := { name := "rupUnits", fn := fun _ => fun
  | [d1, d2] => { results := [.lit (.bool true)], args := [d1, d2] }
  | _ => none }
def rupUnitsRow : OpenClaim := { program := "ytcanlckenjndbaa", sum := "63c502f935eb8ef83cf40036a11e55c6c0d585c77ef9ecf876a176562e96c67d", func := "replevin/replevinlaw08.RupUnits", spec := "rupUnits", unfollowed := true, recurses := true, apart := false }
def RupUnitsSaid : Prop := rupUnitsRow.holds Try.pinned (OpenSpec.ofChange rupUnitsSpec)

/-- ITS FALSE NEIGHBOUR: 'it returns false'. Refute it at one input. -/
def rupUnitsWrong : ChangeSpec := { name := "rupUnits", fn := fun _ => fun
  | [d1, d2] => { results := [.lit (.bool false)], args := [d1, d2] }
  | _ => none }
def RupUnitsWrongFalsely : Prop := rupUnitsRow.holds Try.pinned (OpenSpec.ofChange rupUnitsWrong)

/-- 'replevinlaw09.RatAdds': WHATEVER THE INPUT: true; the input reads as it did. -/
def ratAddsSpec : ChangeSpec := { name := "ratAdds", fn := fun _ => fun
  | [d1, d2] => { results := [.lit (.bool true)], args := [d1, d2] }
  | _ => none }
def ratAddsRow : OpenClaim := { program := "ytcanlckenjndbaa", sum := "63c502f935eb8ef83cf40036a11e55c6c0d585c77ef9ecf876a176562e96c67d", func := "replevin/replevinlaw09.RatAdds", spec := "ratAdds", unfollowed := true, recurses := true, apart := false }
def RatAddsSaid : Prop := ratAddsRow.holds Try.pinned (OpenSpec.ofChange ratAddsSpec)

/-- ITS FALSE NEIGHBOUR: 'it returns false'. Refute it at one input. -/
def ratAddsWrong : ChangeSpec := { name := "ratAdds", fn := fun _ => fun
  | [d1, d2] => { results := [.lit (.bool false)], args := [d1, d2] }
  | _ => none }
def RatAddsWrongFalsely : Prop := ratAddsRow.holds Try.pinned (OpenSpec.ofChange ratAddsWrong)

/-- 'replevinlaw09.RatCandidates': WHATEVER THE INPUT: true; the input reads as it did. -/
def ratCandidatesSpec : ChangeSpec := { name := "ratCandidates", fn := fun _ => fun
  | [d1, d2, d3] => { results := [.lit (.bool true)], args := [d1, d2, d3] }
  | _ => none }
def ratCandidatesRow : OpenClaim := { program := "ytcanlckenjndbaa", sum := "63c502f935eb8ef83cf40036a11e55c6c0d585c77ef9ecf876a176562e96c67d", func := "replevin/replevinlaw09.RatCandidates", spec := "ratCandidates", unfollowed := true, recurses := true, apart := false }
def RatCandidatesSaid : Prop := ratCandidatesRow.holds Try.pinned (OpenSpec.ofChange ratCandidatesSpec)

/-- ITS FALSE NEIGHBOUR: 'it returns false'. Refute it at one input. -/
def ratCandidatesWrong : ChangeSpec := { name := "ratCandidates", fn := fun _ => fun
  | [d1, d2, d3] => { results := [.lit (.bool false)], args := [d1, d2, d3] }
  | _ => none }
def RatCandidatesWrongFalsely : Prop := ratCandidatesRow.holds Try.pinned (OpenSpec.ofChange ratCandidatesWrong)

/-- 'replevinlaw11.LratChecks': WHATEVER THE INPUT: true; the input reads as it did. -/
def lratChecksSpec : ChangeSpec := { name := "lratChecks", fn := fun _ => fun
  | [d1, d2] => { results := [.lit (.bool true)], args := [d1, d2] }
  | _ => none }
def lratChecksRow : OpenClaim := { program := "ytcanlckenjndbaa", sum := "63c502f935eb8ef83cf40036a11e55c6c0d585c77ef9ecf876a176562e96c67d", func := "replevin/replevinlaw11.LratChecks", spec := "lratChecks", unfollowed := true, recurses := true, apart := false }
def LratChecksSaid : Prop := lratChecksRow.holds Try.pinned (OpenSpec.ofChange lratChecksSpec)

/-- ITS FALSE NEIGHBOUR: 'it returns false'. Refute it at one input. -/
def lratChecksWrong : ChangeSpec := { name := "lratChecks", fn := fun _ => fun
  | [d1, d2] => { results := [.lit (.bool false)], args := [d1, d2] }
  | _ => none }
def LratChecksWrongFalsely : Prop := lratChecksRow.holds Try.pinned (OpenSpec.ofChange lratChecksWrong)

/-- 'replevinlaw11.LratSound': WHATEVER THE INPUT: true; the input reads as it did. -/
def lratSoundSpec : ChangeSpec := { name := "lratSound", fn := fun _ => fun
  | [d1, d2, d3] => { results := [.lit (.bool true)], args := [d1, d2, d3] }
  | _ => none }
def lratSoundRow : OpenClaim := { program := "ytcanlckenjndbaa", sum := "63c502f935eb8ef83cf40036a11e55c6c0d585c77ef9ecf876a176562e96c67d", func := "replevin/replevinlaw11.LratSound", spec := "lratSound", unfollowed := true, recurses := true, apart := false }
def LratSoundSaid : Prop := lratSoundRow.holds Try.pinned (OpenSpec.ofChange lratSoundSpec)

/-- ITS FALSE NEIGHBOUR: 'it returns false'. Refute it at one input. -/
def lratSoundWrong : ChangeSpec := { name := "lratSound", fn := fun _ => fun
  | [d1, d2, d3] => { results := [.lit (.bool false)], args := [d1, d2, d3] }
  | _ => none }
def LratSoundWrongFalsely : Prop := lratSoundRow.holds Try.pinned (OpenSpec.ofChange lratSoundWrong)

/-- 'replevinlaw11.LratRuns': WHATEVER THE INPUT: true; the input reads as it did. -/
def lratRunsSpec : ChangeSpec := { name := "lratRuns", fn := fun _ => fun
  | [d1, d2] => { results := [.lit (.bool true)], args := [d1, d2] }
  | _ => none }
def lratRunsRow : OpenClaim := { program := "ytcanlckenjndbaa", sum := "63c502f935eb8ef83cf40036a11e55c6c0d585c77ef9ecf876a176562e96c67d", func := "replevin/replevinlaw11.LratRuns", spec := "lratRuns", unfollowed := true, recurses := true, apart := false }
def LratRunsSaid : Prop := lratRunsRow.holds Try.pinned (OpenSpec.ofChange lratRunsSpec)

/-- ITS FALSE NEIGHBOUR: 'it returns false'. Refute it at one input. -/
def lratRunsWrong : ChangeSpec := { name := "lratRuns", fn := fun _ => fun
  | [d1, d2] => { results := [.lit (.bool false)], args := [d1, d2] }
  | _ => none }
def LratRunsWrongFalsely : Prop := lratRunsRow.holds Try.pinned (OpenSpec.ofChange lratRunsWrong)

/- THE SECOND FORM. 'bulk': how many values and letters a reading holds, each counted each time it is reached (what is shared counts as often as it is met; a slice's spare places count too). A statement '..UptoSaid' is the law's where the arguments, and the package variables that the reading takes, are together of bulk at most 1048576: NARROWER than '..Said'. Prove '..Said' where nothing that the law and all that it calls make is longer than what came in: it says more and counts as full. Else prove '..UptoSaid'. A law counts once. -/
mutual
def uptoBulk {H : Type} : DataW H → Nat
  | .lit (.string bytes) => bytes.length + 1
  | .lit _ => 1
  | .nil => 1
  | .ptr d => uptoBulk d + 1
  | .slice elems spare => uptoBulkAll elems + uptoBulkAll spare + 1
  | .agg parts => uptoBulkAll parts + 1
  | .iface _ d => uptoBulk d + 1
  | .map entries => uptoBulkEntries entries + 1
  | .held _ => 1
def uptoBulkAll {H : Type} : List (DataW H) → Nat
  | [] => 0
  | d :: r => uptoBulk d + uptoBulkAll r
def uptoBulkEntries {H : Type} : List (Lit × DataW H) → Nat
  | [] => 0
  | x :: r => uptoBulkEntry x + uptoBulkEntries r
def uptoBulkEntry {H : Type} : Lit × DataW H → Nat
  | (.string bytes, d) => bytes.length + uptoBulk d + 1
  | (_, d) => uptoBulk d + 1
 end
def uptoSmall : (H : Type) → List (DataW H) → Bool := fun _ ds => decide (uptoBulkAll ds ≤ 1048576)
def OpenSpec.upto (s : _root_.Go.ChangeSpec) : _root_.Go.OpenSpec := { _root_.Go.OpenSpec.ofChange s with cond := some uptoSmall }

/-- 'replevinlaw08.RupTells', WHERE WHAT IT READS IS OF BULK AT MOST 1048576: true; the input reads as it did. -/
def rupTellsUptoRow : OpenClaim := { program := "ytcanlckenjndbaa", sum := "63c502f935eb8ef83cf40036a11e55c6c0d585c77ef9ecf876a176562e96c67d", func := "replevin/replevinlaw08.RupTells", spec := "rupTells", unfollowed := true, recurses := true, apart := false, narrowed := true }
def RupTellsUptoSaid : Prop := rupTellsUptoRow.holds Try.pinned (OpenSpec.upto rupTellsSpec)

/-- 'replevinlaw08.RupFollows', WHERE WHAT IT READS IS OF BULK AT MOST 1048576: true; the input reads as it did. -/
def rupFollowsUptoRow : OpenClaim := { program := "ytcanlckenjndbaa", sum := "63c502f935eb8ef83cf40036a11e55c6c0d585c77ef9ecf876a176562e96c67d", func := "replevin/replevinlaw08.RupFollows", spec := "rupFollows", unfollowed := true, recurses := true, apart := false, narrowed := true }
def RupFollowsUptoSaid : Prop := rupFollowsUptoRow.holds Try.pinned (OpenSpec.upto rupFollowsSpec)

/-- 'replevinlaw08.RupUnits', WHERE WHAT IT READS IS OF BULK AT MOST 1048576: true; the input reads as it did. -/
def rupUnitsUptoRow : OpenClaim := { program := "ytcanlckenjndbaa", sum := "63c502f935eb8ef83cf40036a11e55c6c0d585c77ef9ecf876a176562e96c67d", func := "replevin/replevinlaw08.RupUnits", spec := "rupUnits", unfollowed := true, recurses := true, apart := false, narrowed := true }
def RupUnitsUptoSaid : Prop := rupUnitsUptoRow.holds Try.pinned (OpenSpec.upto rupUnitsSpec)

/-- 'replevinlaw09.RatAdds', WHERE WHAT IT READS IS OF BULK AT MOST 1048576: true; the input reads as it did. -/
def ratAddsUptoRow : OpenClaim := { program := "ytcanlckenjndbaa", sum := "63c502f935eb8ef83cf40036a11e55c6c0d585c77ef9ecf876a176562e96c67d", func := "replevin/replevinlaw09.RatAdds", spec := "ratAdds", unfollowed := true, recurses := true, apart := false, narrowed := true }
def RatAddsUptoSaid : Prop := ratAddsUptoRow.holds Try.pinned (OpenSpec.upto ratAddsSpec)

/-- 'replevinlaw09.RatCandidates', WHERE WHAT IT READS IS OF BULK AT MOST 1048576: true; the input reads as it did. -/
def ratCandidatesUptoRow : OpenClaim := { program := "ytcanlckenjndbaa", sum := "63c502f935eb8ef83cf40036a11e55c6c0d585c77ef9ecf876a176562e96c67d", func := "replevin/replevinlaw09.RatCandidates", spec := "ratCandidates", unfollowed := true, recurses := true, apart := false, narrowed := true }
def RatCandidatesUptoSaid : Prop := ratCandidatesUptoRow.holds Try.pinned (OpenSpec.upto ratCandidatesSpec)

/-- 'replevinlaw11.LratChecks', WHERE WHAT IT READS IS OF BULK AT MOST 1048576: true; the input reads as it did. -/
def lratChecksUptoRow : OpenClaim := { program := "ytcanlckenjndbaa", sum := "63c502f935eb8ef83cf40036a11e55c6c0d585c77ef9ecf876a176562e96c67d", func := "replevin/replevinlaw11.LratChecks", spec := "lratChecks", unfollowed := true, recurses := true, apart := false, narrowed := true }
def LratChecksUptoSaid : Prop := lratChecksUptoRow.holds Try.pinned (OpenSpec.upto lratChecksSpec)

/-- 'replevinlaw11.LratSound', WHERE WHAT IT READS IS OF BULK AT MOST 1048576: true; the input reads as it did. -/
def lratSoundUptoRow : OpenClaim := { program := "ytcanlckenjndbaa", sum := "63c502f935eb8ef83cf40036a11e55c6c0d585c77ef9ecf876a176562e96c67d", func := "replevin/replevinlaw11.LratSound", spec := "lratSound", unfollowed := true, recurses := true, apart := false, narrowed := true }
def LratSoundUptoSaid : Prop := lratSoundUptoRow.holds Try.pinned (OpenSpec.upto lratSoundSpec)

/-- 'replevinlaw11.LratRuns', WHERE WHAT IT READS IS OF BULK AT MOST 1048576: true; the input reads as it did. -/
def lratRunsUptoRow : OpenClaim := { program := "ytcanlckenjndbaa", sum := "63c502f935eb8ef83cf40036a11e55c6c0d585c77ef9ecf876a176562e96c67d", func := "replevin/replevinlaw11.LratRuns", spec := "lratRuns", unfollowed := true, recurses := true, apart := false, narrowed := true }
def LratRunsUptoSaid : Prop := lratRunsUptoRow.holds Try.pinned (OpenSpec.upto lratRunsSpec)

end Rows
end Go.Proofs.Ytcanlckenjndbaa
