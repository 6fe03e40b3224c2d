import Derived.Test.YtcjnikkmjhagmaaGreatDoorMgBF
import Derived.Test.YtcjnikkmjhagmaaGreatDoorMgAN
import Derived.Test.YtcjnikkmjhagmaaGreatDoorMgBK
import Derived.Test.YtcjnikkmjhagmaaGreatDoorMgBJ
namespace Go.Proofs.YtcjnikkmjhagmaaGreatDoor
open Go.RowKit
set_option linter.unusedVariables false
set_option linter.unusedSimpArgs false
def spV (x : Int) : Int := if 0 < x ∧ x ≤ 100000 then x else if x < 0 ∧ -100000 ≤ x then -x else 0
def spB (x : Int) : Bool := decide (0 < x ∧ x ≤ 100000)
def litT (m : List Bool) (x : Int) : Bool := decide (spV x ≠ 0) && ((decide (spV x ≤ m.length) && m.getD (spV x - 1).toNat false) == spB x)
def hoB (c : List Int) (m : List Bool) : Bool := c.any (litT m)
def fiE (xss : List (List Int)) (m : List Bool) (i : Nat) : Int := if hoB (xss.getD i []) m = true then 0 else 1
def fiR (xss : List (List Int)) (m : List Bool) : Int := if fb (fiE xss m) xss.length < xss.length then (fb (fiE xss m) xss.length : Int) else -1
end Go.Proofs.YtcjnikkmjhagmaaGreatDoor
namespace Go.Proofs.YtcjnikkmjhagmaaGreatDoor
open Go.RowKit
section
variable {n : Nat} {m : Int} {ord row : List Int}
def inU (n m : Int) (inn : List Bool) (M0 : List Bool) : Nat → List Bool
  | 0 => M0
  | k + 1 => (inU n m inn M0 k).set (nVar n m 2 k 0 - 1).toNat (inn.getD k false)
theorem nName_2 {n m a : Int} (h : nOk n m) (h1 : 0 ≤ a) (h2 : a < n) : nName n m 2 a 0 := ⟨h, by decide, by decide, h1, h2, by decide, by simp [nB]⟩
theorem nName_3 {n m a b : Int} (h : nOk n m) (h1 : 0 ≤ a) (h2 : a ≤ n) (h3 : 0 ≤ b) (h4 : b < m) : nName n m 3 a b := ⟨h, by decide, by decide, h1, (by show a < n + 1; omega), h3, h4⟩
end
end Go.Proofs.YtcjnikkmjhagmaaGreatDoor
namespace Go.Proofs.YtcjnikkmjhagmaaGreatDoor
open Go.RowKit
def orU (a b : List Bool) (k : Nat) : List Bool := (List.range k).map fun i => a.getD i false || b.getD i false
def mpM (n : Nat) (m : Int) (ord row : List Int) (inn : List Bool) : List Bool := inU n m inn (orU (ptU n m ord n) (srU n m row (n + 1)) (nVars n m).toNat) n
section
variable {n : Nat} {m : Int} {ord row : List Int} {inn : List Bool}
end
end Go.Proofs.YtcjnikkmjhagmaaGreatDoor
