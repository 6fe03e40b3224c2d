/- Plain facts on the clauses of places: no Go, no program. -/
import Derived.Test.YthfcbjfeepindaaNumP
namespace Go.Proofs.Ythfcbjfeepindaa

/-- No two of x_k and a later one. -/
def mostRow (neg : Int → Int) (xs : List Int) (k : Nat) : List (List Int) := (xs.drop (k + 1)).map fun y => [neg (xs.getD k 0), neg y]
def mostUp (neg : Int → Int) (xs : List Int) (k : Nat) : List (List Int) := (List.range k).flatMap (mostRow neg xs)
def most (neg : Int → Int) (xs : List Int) : List (List Int) := mostUp neg xs xs.length
theorem mostUp_succ (neg : Int → Int) (xs : List Int) (k : Nat) : mostUp neg xs (k + 1) = mostUp neg xs k ++ mostRow neg xs k := by unfold mostUp; rw [List.range_succ, List.flatMap_append]; simp
theorem mostRow_length (neg : Int → Int) (xs : List Int) (k : Nat) : (mostRow neg xs k).length = xs.length - (k + 1) := by simp [mostRow]
theorem mostUp_length (neg : Int → Int) (xs : List Int) (k : Nat) : (mostUp neg xs k).length ≤ k * xs.length := by
  induction k with
  | zero => simp [mostUp]
  | succ k ih => rw [mostUp_succ, List.length_append, mostRow_length, Nat.add_mul, Nat.one_mul]; omega
theorem mostRow_take (neg : Int → Int) (xs : List Int) (k j : Nat) (h : k + 1 + j < xs.length) : (mostRow neg xs k).take (j + 1) = (mostRow neg xs k).take j ++ [[neg (xs.getD k 0), neg (xs.getD (k + 1 + j) 0)]] := by
  rw [List.take_succ_eq_append_getElem (by rw [mostRow_length]; omega)]
  simp [mostRow, List.getD, h]
theorem mostRow_end (neg : Int → Int) (xs : List Int) (k : Nat) (h : xs.length = k + 1) : mostRow neg xs k = [] := by
  apply List.eq_nil_of_length_eq_zero; rw [mostRow_length]; omega
end Go.Proofs.Ythfcbjfeepindaa
