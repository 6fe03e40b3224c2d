/- Plain facts on the clauses of places: no Go, no program. -/
import Derived.Test.YthfcbjfeepindaaNumP
namespace Go.Proofs.Ythfcbjfeepindaa

/-- Behind k rounds of storing f into n places. -/
def upTo {α : Type} (f : Nat → α) (z : α) (n k : Nat) : List α := (List.range n).map fun i => if i < k then f i else z
theorem upTo_length {α : Type} (f : Nat → α) (z : α) (n k : Nat) : (upTo f z n k).length = n := by simp [upTo]
theorem upTo_set {α : Type} (f : Nat → α) (z : α) (n k : Nat) : (upTo f z n k).set k (f k) = upTo f z n (k + 1) := by
  apply List.ext_getElem?
  intro i
  by_cases hi : i < n
  · by_cases hk : i = k
    · subst hk; simp [upTo, hi]
    · have h1 : i < k + 1 ↔ i < k := by omega
      rw [List.getElem?_set_ne (by omega)]; simp [upTo, hi, h1]
  · rw [List.getElem?_eq_none (by simp [upTo]; omega), List.getElem?_eq_none (by simp [upTo]; omega)]
theorem upTo_zero {α : Type} (f : Nat → α) (z : α) (n : Nat) : upTo f z n 0 = List.replicate n z := by
  apply List.ext_getElem?; intro i
  by_cases hi : i < n <;> simp [upTo, hi]
theorem upTo_full {α : Type} (f : Nat → α) (z : α) (n : Nat) : upTo f z n n = (List.range n).map f := by
  apply List.map_congr_left; intro i hi; rw [if_pos (List.mem_range.1 hi)]

/-- No two of x_k and a later one. -/
def mostRow (neg : Int → Int) (xs : List Int) (k : Nat) : List (List Int) := (xs.drop (k + 1)).map fun y => [neg (xs.getD k 0), neg y]
def mostUp (neg : Int → Int) (xs : List Int) (k : Nat) : List (List Int) := (List.range k).flatMap (mostRow neg xs)
def most (neg : Int → Int) (xs : List Int) : List (List Int) := mostUp neg xs xs.length
theorem mostUp_succ (neg : Int → Int) (xs : List Int) (k : Nat) : mostUp neg xs (k + 1) = mostUp neg xs k ++ mostRow neg xs k := by unfold mostUp; rw [List.range_succ, List.flatMap_append]; simp
theorem mostRow_length (neg : Int → Int) (xs : List Int) (k : Nat) : (mostRow neg xs k).length = xs.length - (k + 1) := by simp [mostRow]
theorem mostUp_length (neg : Int → Int) (xs : List Int) (k : Nat) : (mostUp neg xs k).length ≤ k * xs.length := by
  induction k with
  | zero => simp [mostUp]
  | succ k ih => rw [mostUp_succ, List.length_append, mostRow_length, Nat.add_mul, Nat.one_mul]; omega
theorem mostRow_take (neg : Int → Int) (xs : List Int) (k j : Nat) (h : k + 1 + j < xs.length) : (mostRow neg xs k).take (j + 1) = (mostRow neg xs k).take j ++ [[neg (xs.getD k 0), neg (xs.getD (k + 1 + j) 0)]] := by
  rw [List.take_succ_eq_append_getElem (by rw [mostRow_length]; omega)]
  simp [mostRow, List.getD, h]
theorem mostRow_end (neg : Int → Int) (xs : List Int) (k : Nat) (h : xs.length = k + 1) : mostRow neg xs k = [] := by
  apply List.eq_nil_of_length_eq_zero; rw [mostRow_length]; omega
end Go.Proofs.Ythfcbjfeepindaa
