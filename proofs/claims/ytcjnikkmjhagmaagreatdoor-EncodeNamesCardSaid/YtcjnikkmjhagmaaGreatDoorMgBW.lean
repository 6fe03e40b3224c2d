import Derived.Test.YtcjnikkmjhagmaaGreatDoorMgBL
import Derived.Test.YtcjnikkmjhagmaaGreatDoorMgBP
import Derived.Test.YtcjnikkmjhagmaaGreatDoorMgBM
namespace Go.Proofs.YtcjnikkmjhagmaaGreatDoor
open Go.RowKit
set_option linter.unusedVariables false
set_option linter.unusedSimpArgs false
section
variable {n : Nat} {m : Int} {M : List Bool}
def rcW (n : Nat) (m : Int) (M : List Bool) (k : Nat) : Nat := lastT (fun a => ptF n m M a k) n
def rcU (n : Nat) (m : Int) (M : List Bool) (k : Nat) : List Int := (List.range k).map fun i => (rcW n m M i : Int)
def rcG (n : Nat) (m : Int) (M : List Bool) (k : Nat) : Prop := cntT (fun a => ptF n m M a k) n = 1 ∧ ∀ j, j < k → rcW n m M j ≠ rcW n m M k
end
end Go.Proofs.YtcjnikkmjhagmaaGreatDoor
namespace Go.Proofs.YtcjnikkmjhagmaaGreatDoor
open Go.RowKit
set_option linter.unusedVariables false
set_option linter.unusedSimpArgs false
end Go.Proofs.YtcjnikkmjhagmaaGreatDoor
namespace Go.Proofs.YtcjnikkmjhagmaaGreatDoor
open Go.RowKit
set_option linter.unusedVariables false
set_option linter.unusedSimpArgs false
end Go.Proofs.YtcjnikkmjhagmaaGreatDoor
