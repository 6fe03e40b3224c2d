import Derived.Test.YtcjnikkmjhagmaaGreatDoorMgBG
import Derived.Test.YtcjnikkmjhagmaaGreatDoorMgBF
import Derived.Test.YtcjnikkmjhagmaaGreatDoorMgAN
import Derived.Test.YtcjnikkmjhagmaaGreatDoorMgBJ
import Derived.Test.YtcjnikkmjhagmaaGreatDoorMgBI
namespace Go.Proofs.YtcjnikkmjhagmaaGreatDoor
open Go.RowKit
set_option linter.unusedVariables false
set_option linter.unusedSimpArgs false
def srOk (n m : Int) (row : List Int) : Prop := nOk n m ∧ (row.length : Int) = n + 1 ∧ gOk (fun i => srV n m row i != 0) row.length
instance (n m : Int) (row : List Int) : Decidable (srOk n m row) := by unfold srOk; infer_instance
def srU (n m : Int) (row : List Int) : Nat → List Bool
  | 0 => List.replicate (nVars n m).toNat false
  | k + 1 => (srU n m row k).set (srV n m row k - 1).toNat true
def srM (n m : Int) (row : List Int) : List Bool := if srOk n m row then srU n m row row.length else []
def srB (n m : Int) (row : List Int) : Bool := decide (srOk n m row)
end Go.Proofs.YtcjnikkmjhagmaaGreatDoor
namespace Go.Proofs.YtcjnikkmjhagmaaGreatDoor
open Go.RowKit
set_option linter.unusedVariables false
set_option linter.unusedSimpArgs false
def spV (x : Int) : Int := if 0 < x ∧ x ≤ 100000 then x else if x < 0 ∧ -100000 ≤ x then -x else 0
def spB (x : Int) : Bool := decide (0 < x ∧ x ≤ 100000)
def litT (m : List Bool) (x : Int) : Bool := decide (spV x ≠ 0) && ((decide (spV x ≤ m.length) && m.getD (spV x - 1).toNat false) == spB x)
def hoB (c : List Int) (m : List Bool) : Bool := c.any (litT m)
def fiE (xss : List (List Int)) (m : List Bool) (i : Nat) : Int := if hoB (xss.getD i []) m = true then 0 else 1
def fiR (xss : List (List Int)) (m : List Bool) : Int := if fb (fiE xss m) xss.length < xss.length then (fb (fiE xss m) xss.length : Int) else -1
end Go.Proofs.YtcjnikkmjhagmaaGreatDoor
namespace Go.Proofs.YtcjnikkmjhagmaaGreatDoor
open Go.RowKit
section
variable {n : Nat} {m : Int} {ord row : List Int}
def inU (n m : Int) (inn : List Bool) (M0 : List Bool) : Nat → List Bool
  | 0 => M0
  | k + 1 => (inU n m inn M0 k).set (nVar n m 2 k 0 - 1).toNat (inn.getD k false)
theorem nName_2 {n m a : Int} (h : nOk n m) (h1 : 0 ≤ a) (h2 : a < n) : nName n m 2 a 0 := ⟨h, by decide, by decide, h1, h2, by decide, by simp [nB]⟩
theorem nName_3 {n m a b : Int} (h : nOk n m) (h1 : 0 ≤ a) (h2 : a ≤ n) (h3 : 0 ≤ b) (h4 : b < m) : nName n m 3 a b := ⟨h, by decide, by decide, h1, (by show a < n + 1; omega), h3, h4⟩
end
end Go.Proofs.YtcjnikkmjhagmaaGreatDoor
