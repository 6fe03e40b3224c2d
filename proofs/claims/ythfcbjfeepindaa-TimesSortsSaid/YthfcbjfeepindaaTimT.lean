/- Of times.Sort, plainly: sets of numbers below 64 as bits. -/
import Derived.Test.YthfcbjfeepindaaTimR
namespace Go.Proofs.Ythfcbjfeepindaa
open Go.RowKit
set_option linter.unusedVariables false

/-- The numbers of a list, as bits. -/
def sBits : List Nat → Nat
  | [] => 0
  | x :: t => 2 ^ x ||| sBits t
theorem sBits_test (l : List Nat) (i : Nat) : (sBits l).testBit i = l.contains i := by
  induction l with
  | nil => simp [sBits]
  | cons x t ih =>
    rw [sBits, Nat.testBit_or, ih, Nat.testBit_two_pow]
    rw [Bool.eq_iff_iff]
    simp only [Bool.or_eq_true, decide_eq_true_eq, List.contains_iff_mem, List.mem_cons]
    constructor
    · rintro (h | h)
      · exact Or.inl h.symm
      · exact Or.inr h
    · rintro (h | h)
      · exact Or.inl h.symm
      · exact Or.inr h
theorem sBits_lt (l : List Nat) (m : Nat) (h : ∀ x ∈ l, x < m) : sBits l < 2 ^ m := by
  induction l with
  | nil => exact Nat.two_pow_pos m
  | cons x t ih =>
    rw [sBits]
    exact Nat.or_lt_two_pow (Nat.pow_lt_pow_right (by decide) (h x (by simp))) (ih fun y hy => h y (by simp [hy]))
theorem sBits_push (l : List Nat) (x : Nat) : sBits (l ++ [x]) = sBits l ||| 2 ^ x := by
  apply Nat.eq_of_testBit_eq
  intro i
  rw [sBits_test, Nat.testBit_or, sBits_test, Nat.testBit_two_pow, Bool.eq_iff_iff]
  simp only [List.contains_iff_mem, List.mem_append, List.mem_singleton, Bool.or_eq_true, decide_eq_true_eq]
  constructor
  · rintro (h | h)
    · exact Or.inl h
    · exact Or.inr h.symm
  · rintro (h | h)
    · exact Or.inl h
    · exact Or.inr h.symm

/-- Those that must stand ahead of x, by the first k pairs. -/
def tA (n : Nat) (ps : List (Int × Int)) (x : Nat) : Nat → Nat
  | 0 => 0
  | k + 1 => if tCounts n (prAt ps k).1 (prAt ps k).2 ∧ (prAt ps k).2 = (x : Int) then tA n ps x k ||| 2 ^ (prAt ps k).1.toNat else tA n ps x k
theorem tA_test (n : Nat) (ps : List (Int × Int)) (x k i : Nat) : (tA n ps x k).testBit i = (List.range k).any fun j => tCounts n (prAt ps j).1 (prAt ps j).2 && (prAt ps j).2 == (x : Int) && (prAt ps j).1 == (i : Int) := by
  induction k with
  | zero => simp [tA]
  | succ k ih =>
    rw [tA, List.range_succ, List.any_append, List.any_cons, List.any_nil, Bool.or_false, ← ih]
    by_cases h : tCounts n (prAt ps k).1 (prAt ps k).2 ∧ (prAt ps k).2 = (x : Int)
    · rw [if_pos h, Nat.testBit_or, Nat.testBit_two_pow]
      obtain ⟨h1, h2⟩ := h
      have h3 : 0 ≤ (prAt ps k).1 := by unfold tCounts at h1; simp at h1; omega
      rw [h1, h2]
      congr 1
      rw [Bool.eq_iff_iff]
      simp
      omega
    · rw [if_neg h]
      have : (tCounts n (prAt ps k).1 (prAt ps k).2 && (prAt ps k).2 == (x : Int)) = false := by
        cases hc : tCounts n (prAt ps k).1 (prAt ps k).2
        · simp
        · simp only [Bool.true_and, beq_eq_false_iff_ne]
          exact fun e => h ⟨hc, e⟩
      rw [this, Bool.false_and, Bool.or_false]
theorem tA_lt (n : Nat) (ps : List (Int × Int)) (x k : Nat) : tA n ps x k < 2 ^ n := by
  induction k with
  | zero => exact Nat.two_pow_pos n
  | succ k ih =>
    rw [tA]
    split
    · rename_i h
      have h3 : 0 ≤ (prAt ps k).1 ∧ (prAt ps k).1 < n := by have h1 := h.1; unfold tCounts at h1; simp at h1; omega
      exact Nat.or_lt_two_pow ih (Nat.pow_lt_pow_right (by decide) (by omega))
    · exact ih
/-- What may() tells. -/
theorem tFree_bits (n m : Nat) (ps : List (Int × Int)) (out : List Nat) (x : Nat) (hm : m = ps.length) : tFree n ps out x = true ↔ ((sBits out).testBit x = false ∧ ∀ i, (tA n ps x m).testBit i = true → (sBits out).testBit i = true) := by
  subst hm
  unfold tFree
  rw [Bool.and_eq_true, ← sBits_test, Bool.not_eq_true']
  refine and_congr_right fun _ => ?_
  rw [List.all_eq_true]
  have hg : ∀ i (hi : i < ps.length), prAt ps i = ps[i] := fun i hi => by unfold prAt; rw [List.getD_eq_getElem?_getD, List.getElem?_eq_getElem hi]; rfl
  constructor
  · intro h i hi
    rw [tA_test, List.any_eq_true] at hi
    obtain ⟨j, hj, hb⟩ := hi
    rw [List.mem_range] at hj
    have h1 := h _ (List.getElem_mem hj)
    rw [← hg j hj] at h1
    simp only [Bool.and_eq_true, beq_iff_eq] at hb
    obtain ⟨⟨b1, b2⟩, b3⟩ := hb
    rw [b1, b2] at h1
    rw [sBits_test]
    simp only [beq_self_eq_true, Bool.and_true, Bool.not_true, Bool.false_or] at h1
    rw [b3] at h1
    simpa using h1
  · intro h p hp
    obtain ⟨j, hj, rfl⟩ := List.mem_iff_getElem.1 hp
    rw [← hg j hj]
    cases hc : tCounts n (prAt ps j).1 (prAt ps j).2 && (prAt ps j).2 == (x : Int)
    · rfl
    · have h3 : 0 ≤ (prAt ps j).1 := by
        have h1 := (Bool.and_eq_true _ _ ▸ hc).1
        unfold tCounts at h1; simp at h1; omega
      have h4 := h (prAt ps j).1.toNat (by
        rw [tA_test, List.any_eq_true]
        exact ⟨j, by simpa using hj, by rw [hc, Bool.true_and, beq_iff_eq]; omega⟩)
      rw [sBits_test] at h4
      rw [h4]; rfl
theorem bits_sub (a d : Nat) (N : Nat) (ha : a < 2 ^ N) : (a &&& (2 ^ N - 1 - d) = 0 ∧ d < 2 ^ N) → ∀ i, a.testBit i = true → d.testBit i = true := by
  rintro ⟨h, hd⟩ i hi
  have h1 : (a &&& (2 ^ N - 1 - d)).testBit i = false := by rw [h]; simp
  rw [Nat.testBit_and, hi, Bool.true_and, show 2 ^ N - 1 - d = 2 ^ N - (d + 1) by omega, Nat.testBit_two_pow_sub_succ hd] at h1
  have h2 : i < N := by
    rcases Nat.lt_or_ge i N with h | h
    · exact h
    · rw [Nat.testBit_lt_two_pow (Nat.lt_of_lt_of_le ha (Nat.pow_le_pow_right (by decide) h))] at hi; cases hi
  simpa [h2] using h1
theorem bits_sub' (a d : Nat) (N : Nat) (hd : d < 2 ^ N) (h : ∀ i, a.testBit i = true → d.testBit i = true) : a &&& (2 ^ N - 1 - d) = 0 := by
  apply Nat.eq_of_testBit_eq
  intro i
  rw [Nat.testBit_and, show 2 ^ N - 1 - d = 2 ^ N - (d + 1) by omega, Nat.testBit_two_pow_sub_succ hd]
  cases hi : a.testBit i
  · simp
  · rw [h i hi]; simp
theorem tFree_code (n m : Nat) (ps : List (Int × Int)) (out : List Nat) (x : Nat) (hm : m = ps.length) (hn : n ≤ 64) (ho : ∀ y ∈ out, y < n) : tFree n ps out x = (!(sBits out).testBit x && decide (tA n ps x m &&& (18446744073709551615 - sBits out) = 0)) := by
  have h1 : sBits out < 2 ^ 64 := Nat.lt_of_lt_of_le (sBits_lt out n ho) (Nat.pow_le_pow_right (by decide) hn)
  have h2 : tA n ps x m < 2 ^ 64 := Nat.lt_of_lt_of_le (tA_lt n ps x m) (Nat.pow_le_pow_right (by decide) hn)
  rw [Bool.eq_iff_iff, tFree_bits n m ps out x hm, Bool.and_eq_true, Bool.not_eq_true', decide_eq_true_eq]
  exact and_congr_right fun _ => ⟨fun h => bits_sub' _ _ 64 h1 h, fun h => bits_sub _ _ 64 h2 ⟨h, h1⟩⟩
end Go.Proofs.Ythfcbjfeepindaa
